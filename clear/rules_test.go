package clear_test

import (
	"cmp"
	"math/rand"
	"slices"
	"testing"

	"gavel/api"
	"gavel/clear"
	"gavel/offers"
)

// The rules of another kind: all numbers that a choice could have are counted through, and good by good it is told whether it is one.

// slowWorth is what a choice is worth, or -1 of what is none.
func slowWorth(x api.Instance, choice []int) int64 {
	var worth int64
	var times [api.MaxGoods]int
	for buyer, n := range choice {
		if n < 0 {
			continue
		}
		offer := x.Buyers[buyer][n]
		worth += offer.Coins
		for good := range times {
			times[good] += int(offer.Goods >> good & 1)
			if times[good] > 1 {
				return -1
			}
		}
	}
	return worth
}

// slowChoices counts through all choices, whatever their order: the first buyer's number changes first.
func slowChoices(x api.Instance, tell func(choice []int, worth int64)) {
	choice := none(len(x.Buyers))
	for {
		if worth := slowWorth(x, choice); worth >= 0 {
			tell(choice, worth)
		}
		buyer := 0
		for buyer < len(choice) && choice[buyer] == len(x.Buyers[buyer])-1 {
			choice[buyer] = -1
			buyer++
		}
		if buyer == len(choice) {
			return
		}
		choice[buyer]++
	}
}

// slowCompare holds choices of one length against each other by what each number is written as: nothing as the last letter.
func slowCompare(a, b []int) int {
	written := func(choice []int) string {
		var text []byte
		for _, n := range choice {
			if n < 0 {
				text = append(text, 'z')
				continue
			}
			text = append(text, 'a'+byte(n))
		}
		return string(text)
	}
	return cmp.Compare(written(a), written(b))
}

// slowAll is all choices that are worth the most, in order, and that worth.
func slowAll(x api.Instance) ([][]int, int64) {
	var all [][]int
	most := int64(-1)
	slowChoices(x, func(choice []int, worth int64) {
		if worth > most {
			most, all = worth, nil
		}
		if worth == most {
			all = append(all, slices.Clone(choice))
		}
	})
	slices.SortFunc(all, slowCompare)
	return all, most
}

// slowPart is the best one, and its worth, of those choices in which nobody has an offer that the part has not.
func slowPart(x api.Instance, k int, free api.Goods) ([]int, int64) {
	var best []int
	most := int64(-1)
	slowChoices(x, func(choice []int, worth int64) {
		for buyer, n := range choice {
			if n >= 0 && (buyer < k || x.Buyers[buyer][n].Goods|free != free) {
				return
			}
		}
		if worth > most || worth == most && slowCompare(choice, best) < 0 {
			best, most = slices.Clone(choice), worth
		}
	})
	return best, most
}

// changed is an instance with one buyer's list another one.
func changed(x api.Instance, buyer int, l []api.Offer) api.Instance {
	x.Buyers = slices.Clone(x.Buyers)
	x.Buyers[buyer] = l
	return x
}

// mustW is W of an instance that may be.
func mustW(t *testing.T, x api.Instance) int64 {
	t.Helper()
	w, err := clear.W(x)
	if err != api.OK {
		t.Fatalf("W(%v): %v", x, err)
	}
	return w
}

// checkBest: Best, W, All and Without are what the words say (P15.1, P15.3, P15.4).
func checkBest(t *testing.T, x api.Instance) {
	t.Helper()
	all, w := slowAll(x)
	wantBest(t, x, all[0], w)
	wantAll(t, x, all...)
	for buyer, l := range x.Buyers {
		others, less := slowAll(changed(x, buyer, nil))
		wantWithout(t, x, buyer, others[0], less, api.OK)
		if greatest, _ := offers.Greatest(l...); w > less+greatest || w < less {
			t.Errorf("W of %v is %d, without the buyer %d %d", x, w, buyer, less)
		}
	}
}

// checkRanks: no choice is worth more than W, each one's rank is what it lacks, and the best one is the first of those that lack nothing (P15.4 to P15.6).
func checkRanks(t *testing.T, x api.Instance) {
	t.Helper()
	best, _ := clear.Best(x)
	slowChoices(x, func(choice []int, worth int64) {
		rank, err := clear.Rank(x, choice...)
		if err != api.OK || rank < 0 || rank != best.Worth-worth {
			t.Errorf("Rank(%v, %v): %d, %v, though W is %d", x, choice, rank, err, best.Worth)
		}
		order := clear.Compare(best.Choice, choice)
		if order != slowCompare(best.Choice, choice) || rank == 0 && order > 0 {
			t.Errorf("%v: %v lacks %d, and is %d to the best one, %v", x, choice, rank, order, best.Choice)
		}
	})
}

// checkParts: each part's best choice is what the words say, and a good more, or a buyer more, makes its W no less (P15.2, P15.6).
func checkParts(t *testing.T, x api.Instance) {
	t.Helper()
	for k := range len(x.Buyers) + 1 {
		for free := range api.Goods(1) << x.Goods {
			choice, worth := slowPart(x, k, free)
			wantPart(t, x, k, free, choice, worth)
			for good := range x.Goods {
				if more, _ := clear.From(x, k, free|1<<good); more < worth {
					t.Errorf("From(%v, %d, %b): %d, with the good %d: %d", x, k, free, worth, good, more)
				}
			}
			if more, _ := clear.From(x, max(k-1, 0), free); more < worth {
				t.Errorf("From(%v, %d, %b): %d, from the buyer ahead on: %d", x, k, free, worth, more)
			}
		}
	}
}

// shuffled is an instance with its buyers, and their offers, in another order.
func shuffled(r *rand.Rand, x api.Instance) api.Instance {
	swap := func(l [][]api.Offer) func(i, j int) { return func(i, j int) { l[i], l[j] = l[j], l[i] } }
	x.Buyers = slices.Clone(x.Buyers)
	r.Shuffle(len(x.Buyers), swap(x.Buyers))
	for buyer, l := range x.Buyers {
		l = slices.Clone(l)
		r.Shuffle(len(l), func(i, j int) { l[i], l[j] = l[j], l[i] })
		x.Buyers[buyer] = l
	}
	return x
}

// checkFollows: W hangs neither on the order of buyers and offers, nor on idle offers; an offer more, or a buyer more, makes it no less, and a buyer less takes its greatest coins away at most (P15.6).
func checkFollows(t *testing.T, r *rand.Rand, x api.Instance) {
	t.Helper()
	w := mustW(t, x)
	if other := mustW(t, shuffled(r, x)); other != w {
		t.Errorf("W of %v: %d, in another order %d", x, w, other)
	}
	normal := x
	for buyer, l := range x.Buyers {
		normal = changed(normal, buyer, offers.Normal(l...))
	}
	if other := mustW(t, normal); other != w {
		t.Errorf("W of %v: %d, without idle offers %d", x, w, other)
	}
	for buyer, l := range x.Buyers {
		if len(l) > 0 {
			n := r.Intn(len(l))
			if less := mustW(t, changed(x, buyer, slices.Delete(slices.Clone(l), n, n+1))); less > w || less < w-l[n].Coins {
				t.Errorf("W of %v: %d, without the offer %d of the buyer %d: %d", x, w, n, buyer, less)
			}
		}
		greatest, _ := offers.Greatest(l...)
		without, err := clear.Without(x, buyer)
		if err != api.OK || without.Worth > w || w > without.Worth+greatest {
			t.Errorf("W of %v: %d, without the buyer %d: %v", x, w, buyer, without)
		}
		fewer := x
		fewer.Buyers = slices.Delete(slices.Clone(x.Buyers), buyer, buyer+1)
		if less := mustW(t, fewer); less != without.Worth {
			t.Errorf("W of %v without the buyer %d: %d, and %d if it is not there", x, buyer, without.Worth, less)
		}
	}
}

// everyList is all lists of up to so many offers of so many goods and coins.
func everyList(length, goods int, coins int64) [][]api.Offer {
	all := [][]api.Offer{nil}
	for from := 0; length > 0; length-- {
		end := len(all)
		for _, l := range all[from:end] {
			for set := int64(1); set < 1<<goods; set++ {
				for c := int64(1); c <= coins; c++ {
					all = append(all, append(slices.Clone(l), list(set, c)...))
				}
			}
		}
		from = end
	}
	return all
}

// TestEverySmallInstance: all that is promised, of every two and three buyers with few offers.
func TestEverySmallInstance(t *testing.T) {
	r := rand.New(rand.NewSource(15))
	for _, each := range []struct {
		goods, length, buyers int
		coins                 int64
	}{{1, 2, 2, 3}, {2, 1, 2, 3}, {2, 2, 2, 2}, {2, 1, 3, 3}, {3, 1, 3, 1}} {
		lists := everyList(each.length, each.goods, each.coins)
		place := make([]int, each.buyers)
		for more := true; more; {
			x := instance(each.goods)
			for _, n := range place {
				x.Buyers = append(x.Buyers, lists[n])
			}
			checkBest(t, x)
			checkRanks(t, x)
			checkParts(t, x)
			checkFollows(t, r, x)
			if t.Failed() {
				t.FailNow()
			}
			at := 0
			for at < len(place) && place[at] == len(lists)-1 {
				place[at] = 0
				at++
			}
			if more = at < len(place); more {
				place[at]++
			}
		}
	}
}

// anyCoins draws coins of any size, and the bounds themselves often.
func anyCoins(r *rand.Rand) int64 {
	switch r.Intn(8) {
	case 0:
		return 1
	case 1:
		return most
	case 2:
		return most - 1 - r.Int63n(3)
	case 3, 4:
		return 1 + r.Int63n(6)
	}
	return 1 + r.Int63n(int64(1)<<r.Intn(41))
}

// kinds are ways to draw coins: of any size, a few that are often the same, by how many goods are wanted, and so that a set is worth more, or less, than its goods one by one.
func kinds(r *rand.Rand) []func(g api.Goods) int64 {
	count := func(g api.Goods) int64 {
		var n int64
		for ; g != 0; g &= g - 1 {
			n++
		}
		return n
	}
	return []func(g api.Goods) int64{
		func(api.Goods) int64 { return anyCoins(r) },
		func(api.Goods) int64 { return 1 + r.Int63n(3) },
		func(g api.Goods) int64 { return count(g) },
		func(g api.Goods) int64 { return 1000*count(g) + r.Int63n(200) },
		func(g api.Goods) int64 { return 10*count(g)*count(g) + r.Int63n(20) },
		func(g api.Goods) int64 { return 100 + 10*count(g) - count(g)*count(g)/2 + r.Int63n(5) },
	}
}

// anyList draws so many offers, of small sets more often than of great ones.
func anyList(r *rand.Rand, goods, length int, coins func(api.Goods) int64) []api.Offer {
	var l []api.Offer
	small := r.Intn(3)
	for len(l) < length {
		set := api.Goods(r.Intn(1 << goods))
		for range small {
			set &= api.Goods(r.Intn(1 << goods))
		}
		if set != 0 {
			l = append(l, api.Offer{Goods: set, Coins: coins(set)})
		}
	}
	return l
}

// TestAnyInstances: instances that are small enough to count all choices through.
func TestAnyInstances(t *testing.T) {
	r := rand.New(rand.NewSource(16))
	for _, coins := range kinds(r) {
		for range 60 {
			x := api.Instance{Goods: 1 + r.Intn(5)}
			for range r.Intn(5) {
				x.Buyers = append(x.Buyers, anyList(r, x.Goods, r.Intn(5), coins))
			}
			checkBest(t, x)
			checkRanks(t, x)
			checkParts(t, x)
			checkFollows(t, r, x)
		}
		for range 10 {
			x := api.Instance{Goods: 1 + r.Intn(api.MaxGoods)}
			for range 5 {
				x.Buyers = append(x.Buyers, anyList(r, x.Goods, 4, coins))
			}
			checkBest(t, x)
			checkFollows(t, r, x)
		}
		if t.Failed() {
			t.FailNow()
		}
	}
}

// table has W of all parts of an instance, by buyers and free goods, from the last buyer on.
type table [api.MaxBuyers + 1][1 << api.MaxGoods]int64

func tableOf(x api.Instance) *table {
	var w table
	for buyer := len(x.Buyers) - 1; buyer >= 0; buyer-- {
		for free := range api.Goods(1) << x.Goods {
			w[buyer][free] = w[buyer+1][free]
			for _, offer := range x.Buyers[buyer] {
				if offer.Goods|free == free {
					w[buyer][free] = max(w[buyer][free], offer.Coins+w[buyer+1][free&^offer.Goods])
				}
			}
		}
	}
	return &w
}

// best goes down the table: of each buyer the first offer by which W can be had still.
func (w *table) best(x api.Instance, k int, free api.Goods) []int {
	choice := none(len(x.Buyers))
	for buyer := k; buyer < len(x.Buyers); buyer++ {
		choice[buyer] = slices.IndexFunc(x.Buyers[buyer], func(offer api.Offer) bool {
			return offer.Goods|free == free && offer.Coins+w[buyer+1][free&^offer.Goods] == w[buyer][free]
		})
		if n := choice[buyer]; n >= 0 {
			free &^= x.Buyers[buyer][n].Goods
		}
	}
	return choice
}

// TestFullInstances: as many goods, buyers and offers as may be, of all kinds, held against a table of all parts; a few parts of each, and the first ones of All.
func TestFullInstances(t *testing.T) {
	r := rand.New(rand.NewSource(17))
	for _, coins := range kinds(r) {
		for range 6 {
			x := api.Instance{Goods: api.MaxGoods}
			for range api.MaxBuyers {
				x.Buyers = append(x.Buyers, anyList(r, x.Goods, api.MaxOffers, coins))
			}
			w := tableOf(x)
			wantBest(t, x, w.best(x, 0, 1023), w[0][1023])
			for range 6 {
				k, free := r.Intn(api.MaxBuyers+1), api.Goods(r.Intn(1024))
				wantPart(t, x, k, free, w.best(x, k, free), w[k][free])
			}
			buyer := r.Intn(api.MaxBuyers)
			without := changed(x, buyer, nil)
			v := tableOf(without)
			wantWithout(t, x, buyer, v.best(without, 0, 1023), v[0][1023], api.OK)
			if other := mustW(t, shuffled(r, x)); other != w[0][1023] {
				t.Errorf("W of %v: %d, in another order %d", x, w[0][1023], other)
			}
			checkMany(t, x, w)
		}
	}
}

// bests counts the choices of a part that are worth W, as a real number, since there may be very many.
func (w *table) bests(x api.Instance) float64 {
	var n [api.MaxBuyers + 1][1 << api.MaxGoods]float64
	for free := range n[0] {
		n[len(x.Buyers)][free] = 1
	}
	for buyer := len(x.Buyers) - 1; buyer >= 0; buyer-- {
		for free := range api.Goods(1) << x.Goods {
			if w[buyer+1][free] == w[buyer][free] {
				n[buyer][free] = n[buyer+1][free]
			}
			for _, offer := range x.Buyers[buyer] {
				if offer.Goods|free == free && offer.Coins+w[buyer+1][free&^offer.Goods] == w[buyer][free] {
					n[buyer][free] += n[buyer+1][free&^offer.Goods]
				}
			}
		}
	}
	return n[0][1<<x.Goods-1]
}

// checkMany: the first ones of All rise, the best one ahead, and each is worth W; and it tells as many as there are, unless it is left.
func checkMany(t *testing.T, x api.Instance, w *table) {
	t.Helper()
	const enough = 500
	var last []int
	n := 0
	for choice := range clear.All(x) {
		if worth := slowWorth(x, choice); worth != w[0][1023] {
			t.Errorf("All(%v): %v is worth %d, not %d", x, choice, worth, w[0][1023])
		}
		if n == 0 && !slices.Equal(choice, w.best(x, 0, 1023)) || n > 0 && slowCompare(last, choice) >= 0 {
			t.Errorf("All(%v): the choice %d is %v, behind %v", x, n, choice, last)
		}
		last = choice
		if n++; n == enough {
			break
		}
	}
	if want := min(w.bests(x), enough); float64(n) != want {
		t.Errorf("All(%v): %d choices, not %v", x, n, want)
	}
}
