package prices_test

import (
	"math/big"
	"math/rand"
	"slices"
	"testing"

	"gavel/api"
	"gavel/prices"
)

// The rules of another kind: good by good, in numbers that never go round, by the chapter's words.

// round brings a number into 64 bits, as often as it goes round.
func round(x *big.Int) int64 {
	turn := new(big.Int).Lsh(big.NewInt(1), 64)
	x = new(big.Int).Mod(x, turn)
	return int64(x.Uint64())
}

// slowCost sums the prices of the goods that have one.
func slowCost(p []int64, g api.Goods) *big.Int {
	sum := new(big.Int)
	for good := range p {
		if good < 32 && uint64(g)>>good%2 == 1 {
			sum.Add(sum, big.NewInt(p[good]))
		}
	}
	return sum
}

// slowGain is the first offer within the free goods of which no other one gains more, if it gains anything.
func slowGain(l []api.Offer, p []int64, free api.Goods) (int64, int) {
	gain, place := int64(0), -1
	for i := len(l) - 1; i >= 0; i-- {
		if l[i].Goods|free != free {
			continue
		}
		gains := round(new(big.Int).Sub(big.NewInt(l[i].Coins), slowCost(p, l[i].Goods)))
		if gains >= 1 && gains >= gain {
			gain, place = gains, i
		}
	}
	return gain, place
}

// slowRest is the bound of a part.
func slowRest(x api.Instance, k int, free api.Goods, p []int64) int64 {
	sum := slowCost(p, free)
	for buyer := k; buyer < len(x.Buyers); buyer++ {
		gain, _ := slowGain(x.Buyers[buyer], p, free)
		sum.Add(sum, big.NewInt(gain))
	}
	return sum.Int64()
}

// allOf is all goods of an instance.
func allOf(x api.Instance) api.Goods {
	var all api.Goods
	for good := range x.Goods {
		all |= 1 << good
	}
	return all
}

func slowBound(x api.Instance, p []int64) int64 { return slowRest(x, 0, allOf(x), p) }

// slowDescent goes down by lists of prices that are held against each other: the next ones are one of two lists, or the same.
type slowDescent struct {
	prices []int64
	bound  int64
	steps  []told
	cut    bool // the last step was left though a try had stayed in its last pass
}

// turn tries one price, and tells whether one of both stayed.
func (d *slowDescent) turn(x api.Instance, good int, step int64) bool {
	for _, change := range []int64{step, -step} {
		next := slices.Clone(d.prices)
		next[good] += change
		if next[good] < 0 || next[good] > most {
			continue
		}
		if bound := slowBound(x, next); bound < d.bound {
			d.prices, d.bound = next, bound
			d.steps = append(d.steps, told{good, bound})
			return true
		}
	}
	return false
}

func slowDescend(x api.Instance) slowDescent {
	d := slowDescent{prices: make([]int64, x.Goods)}
	d.bound = slowBound(x, d.prices)
	for power := 40; power >= 0; power-- {
		stayed := true
		for pass := 1; pass <= 16 && stayed; pass++ {
			stayed = false
			for good := range x.Goods {
				if d.turn(x, good, int64(1)<<power) {
					stayed = true
				}
			}
		}
		d.cut = stayed
	}
	return d
}

// slowChoices tells each choice of an instance, and its worth.
func slowChoices(x api.Instance, tell func(choice []int, worth int64)) {
	choice := make([]int, len(x.Buyers))
	var from func(buyer int, free api.Goods, worth int64)
	from = func(buyer int, free api.Goods, worth int64) {
		if buyer == len(x.Buyers) {
			tell(choice, worth)
			return
		}
		choice[buyer] = -1
		from(buyer+1, free, worth)
		for n, offer := range x.Buyers[buyer] {
			if offer.Goods|free == free {
				choice[buyer] = n
				from(buyer+1, free&^offer.Goods, worth+offer.Coins)
			}
		}
	}
	from(0, allOf(x), 0)
}

// mustBound is a bound that is there.
func mustBound(t *testing.T, x api.Instance, p []int64) int64 {
	t.Helper()
	bound, err := prices.Bound(x, p)
	if err != api.OK {
		t.Fatalf("Bound(%v, %v): %v", x, p, err)
	}
	return bound
}

// checkBounds: each part's bound is what the words say, and not greater with one good fewer, or the next k (P14.2, P14.5).
func checkBounds(t *testing.T, x api.Instance, p []int64) {
	t.Helper()
	wantBound(t, x, p, slowBound(x, p), api.OK)
	all := allOf(x)
	for k := range len(x.Buyers) + 1 {
		for free := range all + 1 {
			bound := slowRest(x, k, free, p)
			wantRest(t, x, k, free, p, bound, api.OK)
			if k < len(x.Buyers) {
				if next, _ := prices.Rest(x, k+1, free, p); next > bound {
					t.Errorf("Rest(%v, %d, %b, %v): %d, and %d of the next buyer", x, k, free, p, bound, next)
				}
			}
			for good := range x.Goods {
				if fewer, _ := prices.Rest(x, k, free&^(1<<good), p); fewer > bound {
					t.Errorf("Rest(%v, %d, %b, %v): %d, and %d without the good %d", x, k, free, p, bound, fewer, good)
				}
			}
		}
	}
}

// checkChoices: no choice is worth more than the bound; prices support those that are worth just so much, and then no other one is worth more (P14.4, P14.5).
func checkChoices(t *testing.T, x api.Instance, p []int64) {
	t.Helper()
	bound := mustBound(t, x, p)
	var best int64
	supported := false
	slowChoices(x, func(choice []int, worth int64) {
		best = max(best, worth)
		ok, err := prices.Supports(x, choice, p)
		if ok != (worth == bound) || err != api.OK || worth > bound {
			t.Errorf("Supports(%v, %v, %v): %v, %v, though it is worth %d, and the bound is %d", x, choice, p, ok, err, worth, bound)
		}
		supported = supported || ok
	})
	if supported && best != bound {
		t.Errorf("%v: %v support a choice, but W is %d", x, p, best)
	}
}

// checkDescent: the descent is what the words say, from what each buyer offers most on, down to where no single price is better by 1 more or less (P14.3, P14.5).
func checkDescent(t *testing.T, x api.Instance) {
	t.Helper()
	slow := slowDescend(x)
	wantDescent(t, x, slow.prices, slow.bound, slow.steps...)

	var offered int64
	for _, l := range x.Buyers {
		var greatest int64
		for _, offer := range l {
			greatest = max(greatest, offer.Coins)
		}
		offered += greatest
	}
	wantBound(t, x, make([]int64, x.Goods), offered, api.OK)

	p, bound, _ := prices.Descend(x)
	wantBound(t, x, p, bound, api.OK)
	if bound > offered {
		t.Errorf("Descend(%v): %d, though %d are offered", x, bound, offered)
	}
	for good := range p {
		for _, change := range []int64{1, -1} {
			near := slices.Clone(p)
			near[good] += change
			if near[good] < 0 || near[good] > most || slow.cut {
				continue
			}
			if other := mustBound(t, x, near); other < bound {
				t.Errorf("Descend(%v): %v, %d, though by %v it is %d", x, p, bound, near, other)
			}
		}
	}
}

// everyList is all lists of up to so many offers of so many goods and coins.
func everyList(length, goods int, coins int64) [][]api.Offer {
	all := [][]api.Offer{nil}
	for from := 0; length > 0; length-- {
		end := len(all)
		for _, l := range all[from:end] {
			for set := int64(1); set < 1<<goods; set++ {
				for c := int64(1); c <= coins; c++ {
					all = append(all, append(slices.Clone(l), list(set, c)...))
				}
			}
		}
		from = end
	}
	return all
}

// TestEverySmallInstance: all that is promised, of every two buyers with few offers, by all small prices.
func TestEverySmallInstance(t *testing.T) {
	for _, each := range []struct {
		goods, length int
		coins         int64
	}{{1, 2, 3}, {2, 1, 3}, {2, 2, 2}} {
		lists := everyList(each.length, each.goods, each.coins)
		for _, a := range lists {
			for _, b := range lists {
				x := instance(each.goods, a, b)
				checkDescent(t, x)
				p := make([]int64, each.goods)
				for i := range int64(1) << (2 * each.goods) {
					for good := range p {
						p[good] = i >> (2 * good) % 4
					}
					checkBounds(t, x, p)
					checkChoices(t, x, p)
				}
			}
		}
		if t.Failed() {
			t.FailNow()
		}
	}
}

// anyCoins draws coins of any size, and the bounds themselves often.
func anyCoins(r *rand.Rand) int64 {
	switch r.Intn(8) {
	case 0:
		return 0
	case 1:
		return most
	case 2:
		return most - 1 - r.Int63n(3)
	case 3, 4:
		return r.Int63n(6)
	}
	return min(r.Int63n(int64(2)<<r.Intn(41)), most)
}

// anyInstance draws one of up to so many goods, buyers and offers.
func anyInstance(r *rand.Rand, goods, buyers, offers int, coins func() int64) api.Instance {
	x := api.Instance{Goods: 1 + r.Intn(goods)}
	for range r.Intn(buyers + 1) {
		var l []api.Offer
		for range r.Intn(offers + 1) {
			l = append(l, api.Offer{Goods: api.Goods(1 + r.Intn(1<<x.Goods-1)), Coins: max(coins(), 1)})
		}
		x.Buyers = append(x.Buyers, l)
	}
	return x
}

// TestAnyInstances: instances of a few goods, with any coins, or with some that lie near each other, by any prices and by the descent's.
func TestAnyInstances(t *testing.T) {
	r := rand.New(rand.NewSource(14))
	for range 400 {
		coins := func() int64 { return anyCoins(r) }
		if about := 1 + r.Int63n(500); r.Intn(2) == 0 {
			coins = func() int64 { return about + r.Int63n(5) }
		}
		x := anyInstance(r, 4, 4, 3, coins)
		checkDescent(t, x)
		p := make([]int64, x.Goods)
		for good := range p {
			p[good] = min(coins(), most)
		}
		checkBounds(t, x, p)
		checkChoices(t, x, p)
		p, _, _ = prices.Descend(x)
		checkBounds(t, x, p)
		checkChoices(t, x, p)
		if t.Failed() {
			t.FailNow()
		}
	}
}

// alike draws buyers who want one good each, any of them for nearly the same coins, and are more than there are goods: their prices rise by turns, a step each, so that many passes are made.
func alike(r *rand.Rand) api.Instance {
	x := api.Instance{Goods: 2 + r.Intn(4)}
	about, apart := 300+r.Int63n(700), 1+r.Int63n(12)
	for range x.Goods + 1 + r.Intn(3) {
		var l []api.Offer
		for good := range x.Goods {
			l = append(l, api.Offer{Goods: 1 << good, Coins: about + r.Int63n(apart)})
		}
		x.Buyers = append(x.Buyers, l)
	}
	return x
}

// TestLongDescents: descents that are left at the most passes, some of them with the last step, too.
func TestLongDescents(t *testing.T) {
	r := rand.New(rand.NewSource(17))
	cut := 0
	for range 150 {
		x := alike(r)
		checkDescent(t, x)
		if slowDescend(x).cut {
			cut++
		}
	}
	if cut == 0 || cut == 150 {
		t.Errorf("%d of 150 were left with the last step", cut)
	}
}

// TestGreatDescents: descents of great instances, one of them as great as may be.
func TestGreatDescents(t *testing.T) {
	r := rand.New(rand.NewSource(15))
	for _, goods := range []int{2, 5, 10} {
		for range 4 {
			checkDescent(t, anyInstance(r, goods, 12, 8, func() int64 { return anyCoins(r) }))
			checkDescent(t, anyInstance(r, goods, 12, 8, func() int64 { return 1000 + r.Int63n(9) }))
		}
	}
	full := instance(api.MaxGoods)
	for range api.MaxBuyers {
		var l []api.Offer
		for range api.MaxOffers {
			l = append(l, api.Offer{Goods: api.Goods(1 + r.Intn(1023)), Coins: max(anyCoins(r), 1)})
		}
		full.Buyers = append(full.Buyers, l)
	}
	checkDescent(t, full)
}

// anyNumber draws any number of 64 bits, small ones and those at the bounds often.
func anyNumber(r *rand.Rand) int64 {
	x := int64(r.Uint64())
	return x >> r.Intn(64)
}

// TestAnyNumbers: Cost and Gain of numbers that are no coins, and of sets of any goods (P14.1).
func TestAnyNumbers(t *testing.T) {
	r := rand.New(rand.NewSource(16))
	for range 20000 {
		p := make([]int64, r.Intn(4)*r.Intn(13))
		for good := range p {
			p[good] = anyNumber(r)
		}
		g := api.Goods(r.Uint32() >> r.Intn(32))
		wantCost(t, p, g, round(slowCost(p, g)))

		l := make([]api.Offer, r.Intn(7))
		for i := range l {
			l[i] = api.Offer{Goods: api.Goods(r.Uint32()) & g, Coins: anyNumber(r)}
			if r.Intn(4) == 0 {
				l[i].Goods = api.Goods(r.Uint32() >> r.Intn(32))
			}
			if i > 0 && r.Intn(4) == 0 {
				l[i] = l[i-1]
			}
		}
		gain, place := slowGain(l, p, g)
		wantGain(t, l, p, g, gain, place)
		if t.Failed() {
			t.FailNow()
		}
	}
}
