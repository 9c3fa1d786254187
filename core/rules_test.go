package core_test

import (
	"cmp"
	"math/rand"
	"slices"
	"testing"

	"gavel/api"
	"gavel/core"
	"gavel/vcg"
)

// The rules of another kind: all choices are counted through, once, and each set of buyers is told what it can have together at most; sets are held against payments one by one. Of great instances a table of all parts is filled.

// slowWorth is what a choice is worth, or -1 of what is none.
func slowWorth(x api.Instance, choice []int) int64 {
	var worth int64
	var times [api.MaxGoods]int
	for buyer, n := range choice {
		if n < 0 {
			continue
		}
		offer := x.Buyers[buyer][n]
		worth += offer.Coins
		for good := range times {
			times[good] += int(offer.Goods >> good & 1)
			if times[good] > 1 {
				return -1
			}
		}
	}
	return worth
}

// slowCompare holds choices of one length against each other by what each number is written as: nothing as the last letter.
func slowCompare(a, b []int) int {
	written := func(choice []int) string {
		var text []byte
		for _, n := range choice {
			if n < 0 {
				text = append(text, 'z')
				continue
			}
			text = append(text, 'a'+byte(n))
		}
		return string(text)
	}
	return cmp.Compare(written(a), written(b))
}

// everyChoice tells all choices: the first buyer's number changes first.
func everyChoice(x api.Instance, tell func(choice []int, worth int64)) {
	choice := none(len(x.Buyers))
	for {
		if worth := slowWorth(x, choice); worth >= 0 {
			tell(choice, worth)
		}
		buyer := 0
		for buyer < len(choice) && choice[buyer] == len(x.Buyers[buyer])-1 {
			choice[buyer] = -1
			buyer++
		}
		if buyer == len(choice) {
			return
		}
		choice[buyer]++
	}
}

// slowBest is the best choice, and its worth.
func slowBest(x api.Instance) ([]int, int64) {
	var best []int
	w := int64(-1)
	everyChoice(x, func(choice []int, worth int64) {
		if worth > w || worth == w && slowCompare(choice, best) < 0 {
			best, w = slices.Clone(choice), worth
		}
	})
	return best, w
}

// table has W of all parts of an instance, by buyers and free goods, from the last buyer on.
type table [api.MaxBuyers + 1][1 << api.MaxGoods]int64

// tableBest is the best choice, and its worth, by the table: of each buyer the first offer by which W can be had still.
func tableBest(x api.Instance) ([]int, int64) {
	var w table
	all := api.Goods(1)<<x.Goods - 1
	for buyer := len(x.Buyers) - 1; buyer >= 0; buyer-- {
		for free := range all + 1 {
			w[buyer][free] = w[buyer+1][free]
			for _, offer := range x.Buyers[buyer] {
				if offer.Goods|free == free {
					w[buyer][free] = max(w[buyer][free], offer.Coins+w[buyer+1][free&^offer.Goods])
				}
			}
		}
	}
	choice, free := none(len(x.Buyers)), all
	for buyer, l := range x.Buyers {
		choice[buyer] = slices.IndexFunc(l, func(offer api.Offer) bool {
			return offer.Goods|free == free && offer.Coins+w[buyer+1][free&^offer.Goods] == w[buyer][free]
		})
		if n := choice[buyer]; n >= 0 {
			free &^= l[n].Goods
		}
	}
	return choice, w[0][all]
}

// together is what the buyers of each set, as bits of a number, can have together at most, each of them getting something; -1, if they cannot.
func together(x api.Instance) []int64 {
	most := slices.Repeat(coins(-1), 1<<len(x.Buyers))
	everyChoice(x, func(choice []int, worth int64) {
		set := 0
		for buyer, n := range choice {
			if n >= 0 {
				set |= 1 << buyer
			}
		}
		most[set] = max(most[set], worth)
	})
	return most
}

// had is what the winners' offers are in coins, 0 of who wins nothing.
func had(x api.Instance, choice []int) []int64 {
	l := make([]int64, len(choice))
	for buyer, n := range choice {
		if n >= 0 {
			l[buyer] = x.Buyers[buyer][n].Coins
		}
	}
	return l
}

// total is what all payments are together.
func total(pay []int64) int64 {
	var all int64
	for _, c := range pay {
		all += c
	}
	return all
}

// wouldGive is the most that a set would give, its members gaining no less than now: of the sets without one buyer, or of all, if that is -1.
func wouldGive(sets, own, pay []int64, without int) int64 {
	var would int64
	for set, worth := range sets {
		if worth < 0 || without >= 0 && set>>without&1 == 1 {
			continue
		}
		for buyer := range pay {
			if set>>buyer&1 == 1 {
				worth -= own[buyer] - pay[buyer]
			}
		}
		would = max(would, worth)
	}
	return would
}

// slowLowered is the lowered instance, offer by offer.
func slowLowered(x api.Instance, own, pay []int64) api.Instance {
	y := instance(x.Goods)
	for buyer, l := range x.Buyers {
		var lowered []api.Offer
		for _, offer := range l {
			if c := offer.Coins - own[buyer] + pay[buyer]; c >= 1 {
				lowered = append(lowered, api.Offer{Goods: offer.Goods, Coins: c})
			}
		}
		y.Buyers = append(y.Buyers, lowered)
	}
	return y
}

// facts are what is known of an instance by counting.
type facts struct {
	choice    []int
	own, sets []int64
}

func factsOf(x api.Instance) facts {
	choice, _ := slowBest(x)
	return facts{choice, had(x, choice), together(x)}
}

// checkPayments: of payments all calls tell what the sets say (P18.2 to P18.4). Tight is asked by another rule: one coin less of any winner, and some set would block.
func checkPayments(t *testing.T, x api.Instance, f facts, pay []int64) {
	t.Helper()
	more := wouldGive(f.sets, f.own, pay, -1) - total(pay)
	var buyers []int
	if more > 0 {
		choice, _ := slowBest(slowLowered(x, f.own, pay))
		for buyer, n := range choice {
			if n >= 0 {
				buyers = append(buyers, buyer)
			}
		}
	}
	wantBlocks(t, x, pay, more, buyers...)
	wantLowered(t, x, pay, slowLowered(x, f.own, pay).Buyers...)
	tight := more == 0
	for buyer, n := range f.choice {
		if n < 0 {
			wantNoLeast(t, x, buyer, pay, api.ErrArg)
			continue
		}
		others := total(pay) - pay[buyer]
		wantLeast(t, x, buyer, pay, max(wouldGive(f.sets, f.own, pay, buyer)-others, 0))
		if pay[buyer] > 0 {
			less := slices.Clone(pay)
			less[buyer]--
			tight = tight && wouldGive(f.sets, f.own, less, -1) > total(less)
		}
	}
	wantTight(t, x, pay, tight)
}

// checkSteps: the winners are lowered one by one, as far as no set blocks (P18.1).
func checkSteps(t *testing.T, x api.Instance, f facts) {
	t.Helper()
	pay := slices.Clone(f.own)
	var want []step
	for buyer, n := range f.choice {
		if n >= 0 {
			pay[buyer] = max(0, wouldGive(f.sets, f.own, pay, buyer)-total(pay)+pay[buyer])
			want = append(want, step{buyer, slices.Clone(pay)})
		}
	}
	wantSteps(t, x, want...)
}

// blocked says whether some set blocks payments that may be.
func blocked(t *testing.T, x api.Instance, pay []int64) bool {
	t.Helper()
	_, is, err := core.Blocks(x, pay...)
	if err != api.OK {
		t.Fatalf("Blocks(%v, %v): %v", x, pay, err)
	}
	return is
}

// checkFollows: what follows of the core's payments (P18.5), held against what layer 17 tells.
func checkFollows(t *testing.T, x api.Instance) {
	t.Helper()
	pay, err := core.Pay(x)
	paid, other := vcg.Costs(x)
	if err != api.OK || other != api.OK || len(pay) != len(x.Buyers) {
		t.Fatalf("%v: %v, %v; %v, %v", x, pay, err, paid, other)
	}
	if blocked(t, x, pay) {
		t.Errorf("%v: %v is blocked", x, pay)
	}
	for buyer, lower := range core.Steps(x) {
		if blocked(t, x, lower) {
			t.Errorf("%v: the step of %d, %v, is blocked", x, buyer, lower)
		}
	}
	wantTight(t, x, pay, true)
	for buyer, own := range had(x, paid.Choice) {
		if pay[buyer] < paid.Pays[buyer] || pay[buyer] > own {
			t.Errorf("%v: the buyer %d offers %d, costs the others %d, and pays %d", x, buyer, own, paid.Pays[buyer], pay[buyer])
		}
	}
	if !blocked(t, x, paid.Pays) && !slices.Equal(pay, paid.Pays) {
		t.Errorf("%v: %v is not blocked, but %v is paid", x, paid.Pays, pay)
	}
}

// everyPayment tells all payments up to the winners' offers.
func everyPayment(own []int64, tell func(pay []int64)) {
	pay := make([]int64, len(own))
	for {
		tell(slices.Clone(pay))
		buyer := 0
		for buyer < len(pay) && pay[buyer] == own[buyer] {
			pay[buyer] = 0
			buyer++
		}
		if buyer == len(pay) {
			return
		}
		pay[buyer]++
	}
}

// checkLess: of payments that are not blocked, if one pays less than in the core's, another one pays more (P18.6).
func checkLess(t *testing.T, x api.Instance, paid, pay []int64) {
	t.Helper()
	less, more := false, false
	for buyer := range pay {
		less = less || pay[buyer] < paid[buyer]
		more = more || pay[buyer] > paid[buyer]
	}
	if less && !more && !blocked(t, x, pay) {
		t.Errorf("%v: %v is paid, but %v is not blocked", x, paid, pay)
	}
}

// everyList is all lists of up to so many offers of so many goods and coins.
func everyList(length, goods int, coins int64) [][]api.Offer {
	all := [][]api.Offer{nil}
	for from := 0; length > 0; length-- {
		end := len(all)
		for _, l := range all[from:end] {
			for set := int64(1); set < 1<<goods; set++ {
				for c := int64(1); c <= coins; c++ {
					all = append(all, append(slices.Clone(l), list(set, c)...))
				}
			}
		}
		from = end
	}
	return all
}

// everyInstance tells all instances of so many buyers, each with one of these lists.
func everyInstance(goods, buyers int, lists [][]api.Offer, tell func(x api.Instance)) {
	x := instance(goods)
	var next func()
	next = func() {
		if len(x.Buyers) == buyers {
			tell(instance(goods, slices.Clone(x.Buyers)...))
			return
		}
		for _, l := range lists {
			x.Buyers = append(x.Buyers, l)
			next()
			x.Buyers = x.Buyers[:len(x.Buyers)-1]
		}
	}
	next()
}

// TestEverySmallInstance: all that is promised, of every two and three buyers with few offers, and of every payment.
func TestEverySmallInstance(t *testing.T) {
	for _, each := range []struct {
		goods, length, buyers int
		coins                 int64
	}{{1, 1, 4, 2}, {1, 2, 2, 3}, {2, 1, 2, 3}, {2, 2, 2, 2}, {2, 1, 3, 2}, {3, 1, 3, 1}} {
		everyInstance(each.goods, each.buyers, everyList(each.length, each.goods, each.coins), func(x api.Instance) {
			f := factsOf(x)
			checkSteps(t, x, f)
			checkFollows(t, x)
			paid, _ := core.Pay(x)
			everyPayment(f.own, func(pay []int64) {
				checkPayments(t, x, f, pay)
				checkLess(t, x, paid, pay)
			})
			if t.Failed() {
				t.FailNow()
			}
		})
	}
}

// anyCoins draws coins of any size, and the bounds themselves often.
func anyCoins(r *rand.Rand) int64 {
	switch r.Intn(8) {
	case 0:
		return 1
	case 1:
		return most
	case 2:
		return most - 1 - r.Int63n(3)
	case 3, 4:
		return 1 + r.Int63n(6)
	}
	return 1 + r.Int63n(int64(1)<<r.Intn(41))
}

// kinds are ways to draw coins: of any size, a few that are often the same, by how many goods are wanted, and so that a set is worth more, or less, than its goods one by one.
func kinds(r *rand.Rand) []func(g api.Goods) int64 {
	count := func(g api.Goods) int64 {
		var n int64
		for ; g != 0; g &= g - 1 {
			n++
		}
		return n
	}
	return []func(g api.Goods) int64{
		func(api.Goods) int64 { return anyCoins(r) },
		func(api.Goods) int64 { return 1 + r.Int63n(3) },
		func(g api.Goods) int64 { return count(g) },
		func(g api.Goods) int64 { return 1000*count(g) + r.Int63n(200) },
		func(g api.Goods) int64 { return 10*count(g)*count(g) + r.Int63n(20) },
		func(g api.Goods) int64 { return 100 + 10*count(g) - count(g)*count(g)/2 + r.Int63n(5) },
	}
}

// anyInstance draws one, with small sets more often than great ones.
func anyInstance(r *rand.Rand, goods, buyers, length int, coins func(api.Goods) int64) api.Instance {
	x := instance(goods)
	for range buyers {
		var l []api.Offer
		small := r.Intn(3)
		for many := r.Intn(length + 1); len(l) < many; {
			set := api.Goods(r.Intn(1 << goods))
			for range small {
				set &= api.Goods(r.Intn(1 << goods))
			}
			if set != 0 {
				l = append(l, api.Offer{Goods: set, Coins: coins(set)})
			}
		}
		x.Buyers = append(x.Buyers, l)
	}
	return x
}

// anyPayment draws one: of each winner nothing, all of it, something between, or a bit off what is given.
func anyPayment(r *rand.Rand, own, near []int64) []int64 {
	pay := make([]int64, len(own))
	for buyer, c := range own {
		switch r.Intn(5) {
		case 0:
		case 1:
			pay[buyer] = c
		case 2:
			pay[buyer] = r.Int63n(c + 1)
		default:
			pay[buyer] = min(max(near[buyer]+r.Int63n(5)-2, 0), c)
		}
	}
	return pay
}

// anyLess draws payments of which none is above those that are given.
func anyLess(r *rand.Rand, paid []int64) []int64 {
	pay := slices.Clone(paid)
	for buyer, c := range pay {
		if r.Intn(2) == 0 {
			pay[buyer] = r.Int63n(c + 1)
		}
	}
	return pay
}

// TestAnyInstances: instances that are small enough to count all choices through.
func TestAnyInstances(t *testing.T) {
	r := rand.New(rand.NewSource(21))
	for _, coins := range kinds(r) {
		for range 100 {
			x := anyInstance(r, 1+r.Intn(api.MaxGoods), r.Intn(6), 4, coins)
			f := factsOf(x)
			checkSteps(t, x, f)
			checkFollows(t, x)
			paid, _ := core.Pay(x)
			for range 4 {
				checkPayments(t, x, f, anyPayment(r, f.own, paid))
				checkLess(t, x, paid, anyLess(r, paid))
			}
		}
		if t.Failed() {
			t.FailNow()
		}
	}
}

// rivals draws an instance in which many small offers win against a few great ones that hold them together.
func rivals(r *rand.Rand) api.Instance {
	x := instance(api.MaxGoods)
	for good := range api.MaxGoods {
		x.Buyers = append(x.Buyers, list(1<<good, 50+r.Int63n(51)))
	}
	for len(x.Buyers) < api.MaxBuyers {
		set := 1 + r.Int63n(1<<api.MaxGoods-1)
		x.Buyers = append(x.Buyers, list(set, 1+r.Int63n(200)))
	}
	r.Shuffle(len(x.Buyers), func(i, j int) { x.Buyers[i], x.Buyers[j] = x.Buyers[j], x.Buyers[i] })
	return x
}

// checkByTable: the steps of a great instance, by the table of each lowered one (P18.1 to P18.4).
func checkByTable(t *testing.T, x api.Instance) {
	t.Helper()
	choice, _ := tableBest(x)
	own := had(x, choice)
	pay := slices.Clone(own)
	var want []step
	for buyer, n := range choice {
		if n < 0 {
			continue
		}
		lowered := slowLowered(x, own, pay)
		lowered.Buyers[buyer] = nil
		_, w := tableBest(lowered)
		others := total(pay) - pay[buyer]
		wantLeast(t, x, buyer, pay, w-others)
		pay[buyer] = w - others
		want = append(want, step{buyer, slices.Clone(pay)})
	}
	wantSteps(t, x, want...)
	zero := make([]int64, len(pay))
	best, worth := tableBest(slowLowered(x, own, zero))
	var buyers []int
	for buyer, n := range best {
		if n >= 0 {
			buyers = append(buyers, buyer)
		}
	}
	wantBlocks(t, x, zero, worth, buyers...)
}

// TestFullInstances: as many goods and buyers as may be, of all kinds, held against a table of all parts.
func TestFullInstances(t *testing.T) {
	r := rand.New(rand.NewSource(22))
	for _, coins := range kinds(r) {
		x := anyInstance(r, api.MaxGoods, api.MaxBuyers, api.MaxOffers, coins)
		for buyer, l := range x.Buyers[:5] {
			x.Buyers[buyer] = append(l, slices.Repeat(list(1023, 1), api.MaxOffers-len(l))...)
		}
		checkByTable(t, x)
		checkFollows(t, x)
	}
	for range 10 {
		x := rivals(r)
		checkByTable(t, x)
		checkFollows(t, x)
		paid, _ := core.Pay(x)
		for range 5 {
			checkLess(t, x, paid, anyLess(r, paid))
		}
	}
}
