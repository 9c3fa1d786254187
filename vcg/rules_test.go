package vcg_test

import (
	"cmp"
	"math/rand"
	"slices"
	"testing"

	"gavel/api"
	"gavel/offers"
	"gavel/sealed"
	"gavel/vcg"
)

// The rules of another kind: all numbers that a choice could have are counted through, and good by good it is told whether it is one; or, of great instances, a table of all parts is filled.

// slowWorth is what a choice is worth, or -1 of what is none.
func slowWorth(x api.Instance, choice []int) int64 {
	var worth int64
	var times [api.MaxGoods]int
	for buyer, n := range choice {
		if n < 0 {
			continue
		}
		offer := x.Buyers[buyer][n]
		worth += offer.Coins
		for good := range times {
			times[good] += int(offer.Goods >> good & 1)
			if times[good] > 1 {
				return -1
			}
		}
	}
	return worth
}

// slowCompare holds choices of one length against each other by what each number is written as: nothing as the last letter.
func slowCompare(a, b []int) int {
	written := func(choice []int) string {
		var text []byte
		for _, n := range choice {
			if n < 0 {
				text = append(text, 'z')
				continue
			}
			text = append(text, 'a'+byte(n))
		}
		return string(text)
	}
	return cmp.Compare(written(a), written(b))
}

// slowBest is the best choice, and its worth. All are counted through: the first buyer's number changes first.
func slowBest(x api.Instance) ([]int, int64) {
	var best []int
	w := int64(-1)
	choice := none(len(x.Buyers))
	for {
		worth := slowWorth(x, choice)
		if worth > w || worth >= 0 && worth == w && slowCompare(choice, best) < 0 {
			best, w = slices.Clone(choice), worth
		}
		buyer := 0
		for buyer < len(choice) && choice[buyer] == len(x.Buyers[buyer])-1 {
			choice[buyer] = -1
			buyer++
		}
		if buyer == len(choice) {
			return best, w
		}
		choice[buyer]++
	}
}

// table has W of all parts of an instance, by buyers and free goods, from the last buyer on.
type table [api.MaxBuyers + 1][1 << api.MaxGoods]int64

// tableBest is the best choice, and its worth, by the table: of each buyer the first offer by which W can be had still.
func tableBest(x api.Instance) ([]int, int64) {
	var w table
	all := api.Goods(1)<<x.Goods - 1
	for buyer := len(x.Buyers) - 1; buyer >= 0; buyer-- {
		for free := range all + 1 {
			w[buyer][free] = w[buyer+1][free]
			for _, offer := range x.Buyers[buyer] {
				if offer.Goods|free == free {
					w[buyer][free] = max(w[buyer][free], offer.Coins+w[buyer+1][free&^offer.Goods])
				}
			}
		}
	}
	choice, free := none(len(x.Buyers)), all
	for buyer, l := range x.Buyers {
		choice[buyer] = slices.IndexFunc(l, func(offer api.Offer) bool {
			return offer.Goods|free == free && offer.Coins+w[buyer+1][free&^offer.Goods] == w[buyer][free]
		})
		if n := choice[buyer]; n >= 0 {
			free &^= l[n].Goods
		}
	}
	return choice, w[0][all]
}

// changed is an instance with one buyer's list another one.
func changed(x api.Instance, buyer int, l []api.Offer) api.Instance {
	x.Buyers = slices.Clone(x.Buyers)
	x.Buyers[buyer] = l
	return x
}

// had is what the winners' offers are in coins, 0 of who wins nothing.
func had(x api.Instance, choice []int) []int64 {
	l := make([]int64, len(choice))
	for buyer, n := range choice {
		if n >= 0 {
			l[buyer] = x.Buyers[buyer][n].Coins
		}
	}
	return l
}

// checkWords: all calls tell what the words say of W, and of W without each (P17.1 to P17.3).
func checkWords(t *testing.T, x api.Instance, best func(x api.Instance) ([]int, int64)) {
	t.Helper()
	choice, w := best(x)
	pays := make([]int64, len(x.Buyers))
	var pivotal []int
	for buyer, own := range had(x, choice) {
		_, without := best(changed(x, buyer, nil))
		wantWithout(t, x, buyer, without, api.OK)
		pays[buyer] = without - (w - own)
		if without < w {
			pivotal = append(pivotal, buyer)
		}
	}
	wantPaid(t, x, choice, w, pays)
	wantPivotal(t, x, pivotal...)
	wantWithout(t, x, len(x.Buyers), 0, api.ErrArg)
	wantWithout(t, x, -1, 0, api.ErrArg)
}

// mustPay is what is paid for an instance that may be, and what is gained.
func mustPay(t *testing.T, x api.Instance) (api.Paid, []int64) {
	t.Helper()
	paid, err := vcg.Costs(x)
	gains, other := vcg.Gains(x)
	if err != api.OK || other != api.OK || len(paid.Pays) != len(x.Buyers) || len(gains) != len(x.Buyers) {
		t.Fatalf("%v: %v, %v; %v, %v", x, paid, err, gains, other)
	}
	return paid, gains
}

// checkBounds: a winner pays from 0 to its offer's coins, who wins nothing nothing; a gain is W less W without the buyer (P17.4, P0.2).
func checkBounds(t *testing.T, x api.Instance) {
	t.Helper()
	paid, gains := mustPay(t, x)
	if worth, err := offers.Choice(x, paid.Choice...); worth != paid.Worth || err != api.OK {
		t.Errorf("%v: %v is worth %d, %v", x, paid, worth, err)
	}
	pivotal, _ := vcg.Pivotal(x)
	for buyer, own := range had(x, paid.Choice) {
		without, _ := vcg.Without(x, buyer)
		if paid.Pays[buyer] < 0 || paid.Pays[buyer] > own || gains[buyer] != paid.Worth-without {
			t.Errorf("%v: the buyer %d has %d, pays %d, gains %d; W is %d, without it %d", x, buyer, own, paid.Pays[buyer], gains[buyer], paid.Worth, without)
		}
		if !slices.Contains(pivotal, buyer) && gains[buyer] != 0 {
			t.Errorf("%v: the buyer %d gains %d, and is not pivotal", x, buyer, gains[buyer])
		}
	}
}

// checkTies: in another order of buyers and offers others may win, but each gains the same (P17.4).
func checkTies(t *testing.T, r *rand.Rand, x api.Instance) {
	t.Helper()
	_, gains := mustPay(t, x)
	order := r.Perm(len(x.Buyers))
	y := instance(x.Goods)
	for _, buyer := range order {
		l := slices.Clone(x.Buyers[buyer])
		r.Shuffle(len(l), func(i, j int) { l[i], l[j] = l[j], l[i] })
		y.Buyers = append(y.Buyers, l)
	}
	_, other := mustPay(t, y)
	for place, buyer := range order {
		if other[place] != gains[buyer] {
			t.Errorf("%v: the buyer %d gains %d, in the order %v %d", x, buyer, gains[buyer], order, other[place])
		}
	}
}

// checkMore: a winner that offers more for what it wins, and nothing else, pays the same, and all win what they won (P17.4).
func checkMore(t *testing.T, r *rand.Rand, x api.Instance) {
	t.Helper()
	paid, _ := mustPay(t, x)
	for buyer, n := range paid.Choice {
		if n < 0 {
			continue
		}
		own := x.Buyers[buyer][n].Coins
		for _, c := range []int64{own, min(own+1, most), own + r.Int63n(most-own+1), most} {
			l := slices.Clone(x.Buyers[buyer])
			l[n].Coins = c
			other, _ := mustPay(t, changed(x, buyer, l))
			if !slices.Equal(other.Choice, paid.Choice) || other.Worth != paid.Worth+c-own || other.Pays[buyer] != paid.Pays[buyer] {
				t.Errorf("%v: %v; with %d coins of the buyer %d for what it wins: %v", x, paid, c, buyer, other)
			}
		}
	}
}

// checkSealed: where each buyer has one offer of the one good at most, who wins pays what a sealed lot costs (P17.4).
func checkSealed(t *testing.T, x api.Instance) {
	t.Helper()
	var bids []api.Secret
	for buyer, l := range x.Buyers {
		for _, offer := range l {
			bids = append(bids, api.Secret{Bidder: buyer, Coins: offer.Coins})
		}
	}
	sold, err := sealed.Sell(0, bids...)
	if err != api.OK {
		t.Fatalf("Sell(%v): %v", bids, err)
	}
	choice, pays := none(len(x.Buyers)), make([]int64, len(x.Buyers))
	if sold.Sold {
		choice[sold.Winner], pays[sold.Winner] = 0, sold.Price
	}
	wantPaid(t, x, choice, sold.Coins, pays)
}

// checkFollows: all that follows (P17.4).
func checkFollows(t *testing.T, r *rand.Rand, x api.Instance) {
	t.Helper()
	checkBounds(t, x)
	checkTies(t, r, x)
	checkMore(t, r, x)
}

// everyList is all lists of up to so many offers of so many goods and coins.
func everyList(length, goods int, coins int64) [][]api.Offer {
	all := [][]api.Offer{nil}
	for from := 0; length > 0; length-- {
		end := len(all)
		for _, l := range all[from:end] {
			for set := int64(1); set < 1<<goods; set++ {
				for c := int64(1); c <= coins; c++ {
					all = append(all, append(slices.Clone(l), list(set, c)...))
				}
			}
		}
		from = end
	}
	return all
}

// everyInstance tells all instances of so many buyers, each with one of these lists.
func everyInstance(goods, buyers int, lists [][]api.Offer, tell func(x api.Instance)) {
	x := instance(goods)
	var next func()
	next = func() {
		if len(x.Buyers) == buyers {
			tell(instance(goods, slices.Clone(x.Buyers)...))
			return
		}
		for _, l := range lists {
			x.Buyers = append(x.Buyers, l)
			next()
			x.Buyers = x.Buyers[:len(x.Buyers)-1]
		}
	}
	next()
}

// TestEverySmallInstance: all that is promised, of every two and three buyers with few offers.
func TestEverySmallInstance(t *testing.T) {
	r := rand.New(rand.NewSource(17))
	for _, each := range []struct {
		goods, length, buyers int
		coins                 int64
	}{{1, 1, 4, 3}, {1, 2, 2, 3}, {2, 1, 2, 3}, {2, 2, 2, 2}, {2, 1, 3, 2}, {3, 1, 3, 1}} {
		everyInstance(each.goods, each.buyers, everyList(each.length, each.goods, each.coins), func(x api.Instance) {
			checkWords(t, x, slowBest)
			checkFollows(t, r, x)
			if each.goods == 1 && each.length == 1 {
				checkSealed(t, x)
			}
			if t.Failed() {
				t.FailNow()
			}
		})
	}
}

// anyCoins draws coins of any size, and the bounds themselves often.
func anyCoins(r *rand.Rand) int64 {
	switch r.Intn(8) {
	case 0:
		return 1
	case 1:
		return most
	case 2:
		return most - 1 - r.Int63n(3)
	case 3, 4:
		return 1 + r.Int63n(6)
	}
	return 1 + r.Int63n(int64(1)<<r.Intn(41))
}

// kinds are ways to draw coins: of any size, a few that are often the same, by how many goods are wanted, and so that a set is worth more, or less, than its goods one by one.
func kinds(r *rand.Rand) []func(g api.Goods) int64 {
	count := func(g api.Goods) int64 {
		var n int64
		for ; g != 0; g &= g - 1 {
			n++
		}
		return n
	}
	return []func(g api.Goods) int64{
		func(api.Goods) int64 { return anyCoins(r) },
		func(api.Goods) int64 { return 1 + r.Int63n(3) },
		func(g api.Goods) int64 { return count(g) },
		func(g api.Goods) int64 { return 1000*count(g) + r.Int63n(200) },
		func(g api.Goods) int64 { return 10*count(g)*count(g) + r.Int63n(20) },
		func(g api.Goods) int64 { return 100 + 10*count(g) - count(g)*count(g)/2 + r.Int63n(5) },
	}
}

// anyInstance draws one, with small sets more often than great ones.
func anyInstance(r *rand.Rand, goods, buyers, length int, coins func(api.Goods) int64) api.Instance {
	x := instance(goods)
	for range buyers {
		var l []api.Offer
		small := r.Intn(3)
		for many := r.Intn(length + 1); len(l) < many; {
			set := api.Goods(r.Intn(1 << goods))
			for range small {
				set &= api.Goods(r.Intn(1 << goods))
			}
			if set != 0 {
				l = append(l, api.Offer{Goods: set, Coins: coins(set)})
			}
		}
		x.Buyers = append(x.Buyers, l)
	}
	return x
}

// TestAnyInstances: instances that are small enough to count all choices through.
func TestAnyInstances(t *testing.T) {
	r := rand.New(rand.NewSource(18))
	for _, coins := range kinds(r) {
		for range 150 {
			x := anyInstance(r, 1+r.Intn(api.MaxGoods), r.Intn(6), 4, coins)
			checkWords(t, x, slowBest)
			checkFollows(t, r, x)
		}
		if t.Failed() {
			t.FailNow()
		}
	}
}

// TestFullInstances: as many goods and buyers as may be, of all kinds, held against a table of all parts.
func TestFullInstances(t *testing.T) {
	r := rand.New(rand.NewSource(19))
	for _, coins := range kinds(r) {
		x := anyInstance(r, api.MaxGoods, api.MaxBuyers, api.MaxOffers, coins)
		for buyer, l := range x.Buyers[:5] {
			x.Buyers[buyer] = append(l, slices.Repeat(list(1023, 1), api.MaxOffers-len(l))...)
		}
		checkWords(t, x, tableBest)
		checkBounds(t, x)
	}
	// What follows is asked many times over: of fewer buyers.
	for _, coins := range kinds(r) {
		checkFollows(t, r, anyInstance(r, api.MaxGoods, 10, api.MaxOffers, coins))
	}
}

// TestOneGood: it is layer 11's price, with any number of buyers, some of which offer nothing.
func TestOneGood(t *testing.T) {
	r := rand.New(rand.NewSource(20))
	for _, coins := range kinds(r)[:2] {
		for buyers := range api.MaxBuyers + 1 {
			for range 10 {
				checkSealed(t, anyInstance(r, 1, buyers, 1, coins))
			}
		}
	}
}
