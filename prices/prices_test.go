package prices_test

import (
	"iter"
	"math"
	"slices"
	"testing"

	"gavel/api"
	"gavel/prices"
)

// most is the most coins that there are.
const most = api.MaxCoins

// list makes offers of pairs: a set of goods, coins.
func list(pairs ...int64) []api.Offer {
	l := make([]api.Offer, 0, len(pairs)/2)
	for i := 0; i < len(pairs); i += 2 {
		l = append(l, api.Offer{Goods: api.Goods(pairs[i]), Coins: pairs[i+1]})
	}
	return l
}

// instance is one of so many goods.
func instance(n int, lists ...[]api.Offer) api.Instance {
	return api.Instance{Goods: n, Buyers: lists}
}

// example is the chapter's.
func example() api.Instance { return instance(2, list(1, 6, 3, 9), list(2, 5)) }

// at makes prices.
func at(p ...int64) []int64 { return p }

// told is a try that stays.
type told struct {
	good  int
	bound int64
}

// collected goes over all that is told.
func collected(seq iter.Seq2[int, int64]) []told {
	var all []told
	for good, bound := range seq {
		all = append(all, told{good, bound})
	}
	return all
}

func wantCost(t *testing.T, p []int64, g api.Goods, want int64) {
	t.Helper()
	if got := prices.Cost(p, g); got != want {
		t.Errorf("Cost(%v, %b): %d, not %d", p, g, got, want)
	}
}

func wantGain(t *testing.T, l []api.Offer, p []int64, free api.Goods, want int64, place int) {
	t.Helper()
	if got, i := prices.Gain(l, p, free); got != want || i != place {
		t.Errorf("Gain(%v, %v, %b): %d, %d, not %d, %d", l, p, free, got, i, want, place)
	}
}

func wantBound(t *testing.T, x api.Instance, p []int64, want int64, wantErr api.Errno) {
	t.Helper()
	if got, err := prices.Bound(x, p); got != want || err != wantErr {
		t.Errorf("Bound(%v, %v): %d, %v, not %d, %v", x, p, got, err, want, wantErr)
	}
}

func wantRest(t *testing.T, x api.Instance, k int, free api.Goods, p []int64, want int64, wantErr api.Errno) {
	t.Helper()
	if got, err := prices.Rest(x, k, free, p); got != want || err != wantErr {
		t.Errorf("Rest(%v, %d, %b, %v): %d, %v, not %d, %v", x, k, free, p, got, err, want, wantErr)
	}
}

func wantSupports(t *testing.T, x api.Instance, choice []int, p []int64, want bool, wantErr api.Errno) {
	t.Helper()
	if got, err := prices.Supports(x, choice, p); got != want || err != wantErr {
		t.Errorf("Supports(%v, %v, %v): %v, %v, not %v, %v", x, choice, p, got, err, want, wantErr)
	}
}

// wantDescent asks Descend, and Steps, which is gone over twice.
func wantDescent(t *testing.T, x api.Instance, p []int64, bound int64, steps ...told) {
	t.Helper()
	if got, b, err := prices.Descend(x); !slices.Equal(got, p) || b != bound || err != api.OK {
		t.Errorf("Descend(%v): %v, %d, %v, not %v, %d", x, got, b, err, p, bound)
	}
	seq, err := prices.Steps(x)
	if err != api.OK || seq == nil {
		t.Fatalf("Steps(%v): %v", x, err)
	}
	for range 2 {
		if got := collected(seq); !slices.Equal(got, steps) {
			t.Errorf("Steps(%v): %v, not %v", x, got, steps)
		}
	}
}

// wantRefused asks each call of an instance that may not be, with all else right, and wrong.
func wantRefused(t *testing.T, x api.Instance, want api.Errno) {
	t.Helper()
	right := make([]int64, min(max(x.Goods, 0), 99))
	for _, p := range [][]int64{right, nil, at(-1), at(most + 1), make([]int64, 40)} {
		wantBound(t, x, p, 0, want)
		wantRest(t, x, 0, 0, p, 0, want)
		wantRest(t, x, -1, 1<<31, p, 0, want)
		wantSupports(t, x, make([]int, len(x.Buyers)), p, false, want)
		wantSupports(t, x, []int{-7}, p, false, want)
	}
	if p, bound, err := prices.Descend(x); p != nil || bound != 0 || err != want {
		t.Errorf("Descend(%v): %v, %d, %v, not %v", x, p, bound, err, want)
	}
	if seq, err := prices.Steps(x); seq != nil || err != want {
		t.Errorf("Steps(%v): a function: %v, %v, not %v", x, seq != nil, err, want)
	}
}

// TestExamples: the rows of the chapter's table, in their order.
func TestExamples(t *testing.T) {
	x := example()
	wantCost(t, at(4, 5), 3, 9)
	wantCost(t, at(4, 5), 6, 5)

	l := x.Buyers[0]
	wantGain(t, l, at(4, 2), 3, 3, 1)
	wantGain(t, l, at(4, 2), 1, 2, 0)
	wantGain(t, l, at(7, 7), 3, 0, -1)

	wantBound(t, x, at(0, 0), 14, api.OK)
	wantBound(t, x, at(5, 4), 11, api.OK)
	wantBound(t, x, at(5), 0, api.ErrArg)

	wantRest(t, x, 1, 2, at(5, 4), 5, api.OK)
	wantRest(t, x, 2, 3, at(5, 4), 9, api.OK)
	wantRest(t, x, 3, 3, at(5, 4), 0, api.ErrArg)

	wantSupports(t, x, []int{0, 0}, at(5, 4), true, api.OK)
	wantSupports(t, x, []int{1, -1}, at(5, 4), false, api.OK)

	wantDescent(t, x, at(0, 4), 11, told{1, 11})
}

// TestCost: sets and prices of any length, goods without a price, and sums that go round.
func TestCost(t *testing.T) {
	for _, p := range [][]int64{nil, {}} {
		wantCost(t, p, 0, 0)
		wantCost(t, p, 1, 0)
		wantCost(t, p, math.MaxUint32, 0)
	}
	p := at(1, 20, 300, 4000)
	wantCost(t, p, 0, 0)
	wantCost(t, p, 1, 1)
	wantCost(t, p, 8, 4000)
	wantCost(t, p, 15, 4321)
	wantCost(t, p, 16, 0)
	wantCost(t, p, 1<<31|10, 4020)
	wantCost(t, p[:2], 15, 21)
	wantCost(t, at(-5, 3, 0, -1), 11, -3)

	long := make([]int64, 40)
	for i := range long {
		long[i] = int64(i) * 1000
	}
	wantCost(t, long, 1<<31, 31_000)
	wantCost(t, long, math.MaxUint32, 496_000)
	wantCost(t, long[:31], math.MaxUint32, 465_000)

	wantCost(t, at(math.MaxInt64, 1), 3, math.MinInt64)
	wantCost(t, at(math.MinInt64, -1), 3, math.MaxInt64)
	wantCost(t, at(math.MinInt64, math.MinInt64, 7), 7, 7)
	wantCost(t, at(math.MaxInt64, math.MaxInt64, 2), 7, 0)
	wantCost(t, slices.Repeat(at(most), api.MaxGoods), 1023, 10*most)
}

// TestGain: the greatest gain, of several the first offer, none below 1; only offers within the free goods.
func TestGain(t *testing.T) {
	for _, l := range [][]api.Offer{nil, {}} {
		wantGain(t, l, at(1, 2), 3, 0, -1)
		wantGain(t, l, nil, 0, 0, -1)
	}
	l := list(1, 5, 2, 9, 2, 9, 3, 9)
	wantGain(t, l, at(0, 0), 3, 9, 1)
	wantGain(t, l, at(0, 0), math.MaxUint32, 9, 1)
	wantGain(t, l, at(0, 0), 2, 9, 1)
	wantGain(t, l, at(0, 0), 1, 5, 0)
	wantGain(t, l, at(0, 0), 0, 0, -1)
	wantGain(t, l, at(0, 0), 4, 0, -1)
	wantGain(t, l, at(0, 4), 3, 5, 0)
	wantGain(t, l, at(0, 4), 2, 5, 1)
	wantGain(t, l, at(1, 4), 3, 5, 1)
	wantGain(t, l, at(4, 9), 3, 1, 0)
	wantGain(t, l, at(5, 9), 3, 0, -1)
	wantGain(t, l, at(5, 8), 3, 1, 1)
	wantGain(t, l, at(6, 10), 3, 0, -1)
	wantGain(t, l, at(0), 3, 9, 1)
	wantGain(t, l, nil, 3, 9, 1)
	wantGain(t, l, at(5), 3, 9, 1)
	wantGain(t, list(3, 9, 1, 9), at(0, 0), 3, 9, 0)
	wantGain(t, list(1, most), at(0), 1, most, 0)
	wantGain(t, list(1, most), at(most-1), 1, 1, 0)
	wantGain(t, list(1, most), at(most), 1, 0, -1)
}

// TestGainOfAnyOffers: offers and prices that may not be, too: all is reckoned alike, and goes round.
func TestGainOfAnyOffers(t *testing.T) {
	wantGain(t, list(0, 7), at(3), 0, 7, 0)
	wantGain(t, list(0, 0), at(3), 1, 0, -1)
	wantGain(t, list(1, 0), at(-3), 1, 3, 0)
	wantGain(t, list(1, -5), at(-3), 1, 0, -1)
	wantGain(t, list(1, -5), at(-9), 1, 4, 0)
	wantGain(t, list(1<<31, 5), at(9), math.MaxUint32, 5, 0)
	wantGain(t, list(1, math.MaxInt64), at(-1), 1, 0, -1)
	wantGain(t, list(1, math.MinInt64), at(1), 1, math.MaxInt64, 0)
	wantGain(t, list(1, 1, 1, math.MinInt64), at(1), 1, math.MaxInt64, 1)
	wantGain(t, list(3, 5), at(math.MaxInt64, math.MaxInt64), 3, 7, 0)
	wantGain(t, slices.Repeat(list(1, 1, 2, 2), 50), at(0, 0), 3, 2, 1)
	wantGain(t, append(slices.Repeat(list(1, 1), 99), list(1, 2)...), at(0), 1, 2, 99)
}

// TestBound: as many prices as goods, each from 0 to the most coins.
func TestBound(t *testing.T) {
	x := example()
	for _, p := range [][]int64{nil, {}, {0}, {0, 0, 0}, make([]int64, 10), {-1, 0}, {0, -1}, {most + 1, 0}, {0, most + 1}, {math.MinInt64, 0}, {0, math.MaxInt64}} {
		wantBound(t, x, p, 0, api.ErrArg)
		wantRest(t, x, 0, 3, p, 0, api.ErrArg)
		wantRest(t, x, 2, 0, p, 0, api.ErrArg)
	}
	wantBound(t, x, at(most, most), 2*most, api.OK)
	wantBound(t, x, at(most, 0), most+5, api.OK)
	wantBound(t, x, at(0, most), most+6, api.OK)
	wantBound(t, x, at(6, 5), 11, api.OK)
	wantBound(t, x, at(1, 1), 2+7+4, api.OK)

	wantBound(t, instance(1), at(0), 0, api.OK)
	wantBound(t, instance(1), at(most), most, api.OK)
	wantBound(t, instance(1, nil, []api.Offer{}), at(7), 7, api.OK)
	for n := 1; n <= api.MaxGoods; n++ {
		p := slices.Repeat(at(3), n)
		wantBound(t, instance(n, nil, list(1<<n-1, most)), p, most, api.OK)
		wantBound(t, instance(n, list(1, 5)), p, int64(3*n)+2, api.OK)
	}
}

// TestGreatestBound: as many buyers, offers and goods as may be, with the most coins.
func TestGreatestBound(t *testing.T) {
	x := instance(api.MaxGoods)
	for range api.MaxBuyers {
		x.Buyers = append(x.Buyers, slices.Repeat(list(1023, most), api.MaxOffers))
	}
	zero, full := make([]int64, api.MaxGoods), slices.Repeat(at(most), api.MaxGoods)
	wantBound(t, x, zero, 32*most, api.OK)
	wantBound(t, x, full, 10*most, api.OK)
	wantRest(t, x, 31, 1023, zero, most, api.OK)
	wantRest(t, x, 32, 1023, zero, 0, api.OK)
	wantRest(t, x, 0, 1022, zero, 0, api.OK)
	wantDescent(t, x, append(at(most), zero[1:]...), most, told{0, most})

	one := at(most, 0, 0, 0, 0, 0, 0, 0, 0, 0)
	choice := slices.Repeat([]int{-1}, api.MaxBuyers)
	wantSupports(t, x, choice, one, false, api.OK)
	choice[31] = 7
	wantSupports(t, x, choice, one, true, api.OK)
}

// TestRest: k at its bounds and one past them, goods of the instance and others.
func TestRest(t *testing.T) {
	x, p := example(), at(5, 4)
	for _, c := range []struct {
		k    int
		free api.Goods
		want int64
	}{
		{0, 3, 11}, {0, 2, 5}, {0, 1, 6}, {0, 0, 0},
		{1, 3, 10}, {1, 2, 5}, {1, 1, 5}, {1, 0, 0},
		{2, 3, 9}, {2, 2, 4}, {2, 1, 5}, {2, 0, 0},
	} {
		wantRest(t, x, c.k, c.free, p, c.want, api.OK)
	}
	for _, k := range []int{math.MinInt, -2, -1, 3, 4, math.MaxInt} {
		for free := range api.Goods(4) {
			wantRest(t, x, k, free, p, 0, api.ErrArg)
		}
	}
	for _, free := range []api.Goods{4, 5, 7, 1 << 9, 1 << 10, 1 << 31, math.MaxUint32} {
		for k := range 3 {
			wantRest(t, x, k, free, p, 0, api.ErrArg)
		}
	}
	wantRest(t, instance(1), 0, 1, at(3), 3, api.OK)
	wantRest(t, instance(1), 1, 1, at(3), 0, api.ErrArg)
	ten := make([]int64, 10)
	wantRest(t, instance(10, list(512, 4)), 0, 512, ten, 4, api.OK)
	wantRest(t, instance(10, list(512, 4)), 0, 511, ten, 0, api.OK)
	wantRest(t, instance(10, list(512, 4)), 0, 1024, ten, 0, api.ErrArg)
}

// TestInstances: each bound of an instance, one past it; what offers says of it goes ahead of all else.
func TestInstances(t *testing.T) {
	nine := slices.Repeat(list(1, 1), api.MaxOffers+1)
	wrong := list(1, 1, 0, 1)
	for _, n := range []int{math.MinInt, -1, 0, 11, 32, 33, math.MaxInt} {
		wantRefused(t, instance(n), api.ErrArg)
		wantRefused(t, instance(n, nine, wrong), api.ErrArg)
	}
	wantRefused(t, instance(1, make([][]api.Offer, api.MaxBuyers+1)...), api.ErrLong)
	wantRefused(t, instance(1, list(1, 1), nine), api.ErrLong)
	wantRefused(t, instance(1, wrong, nine), api.ErrLong)
	for _, l := range [][]api.Offer{wrong, list(1, 0), list(1, -1), list(1, most+1), list(2, 1), list(3, 1), list(1<<31, 1), list(1, math.MinInt64)} {
		wantRefused(t, instance(1, l), api.ErrOffer)
		wantRefused(t, instance(1, list(1, 1), nil, l), api.ErrOffer)
	}
	full := instance(1)
	for range api.MaxBuyers {
		full.Buyers = append(full.Buyers, nine[:api.MaxOffers])
	}
	wantBound(t, full, at(0), api.MaxBuyers, api.OK)
	wantDescent(t, full, at(1), 1, told{0, 16}, told{0, 8}, told{0, 4}, told{0, 2}, told{0, 1})
}

// TestDescent: descents that were reckoned by hand, by the chapter's words.
func TestDescent(t *testing.T) {
	for _, n := range []int{1, 3, 10} {
		wantDescent(t, instance(n), make([]int64, n), 0)
		wantDescent(t, instance(n, nil, []api.Offer{}), make([]int64, n), 0)
	}
	// One buyer alone: more never brings the bound down, and less cannot be.
	wantDescent(t, instance(1, list(1, 7)), at(0), 7)
	// Up to 4 by one step; 5 and 3, too, say 5.
	wantDescent(t, instance(1, list(1, 5), list(1, 3)), at(4), 5, told{0, 5})
	// 8 is too much, 4 too little: down, and up again.
	wantDescent(t, instance(1, list(1, 5), list(1, 5)), at(5), 5, told{0, 8}, told{0, 6}, told{0, 5})
	// The first step is the greatest one, and goes to the most coins at once.
	wantDescent(t, instance(1, list(1, most), list(1, most)), at(most), most, told{0, most})
	// From there a step more may not be, but one less.
	wantDescent(t, instance(1, list(1, most), list(1, most-1), list(1, 1)), at(most), most, told{0, most})
	wantDescent(t, instance(1, list(1, most-1), list(1, most-1)), at(most-1), most-1, told{0, most}, told{0, most - 1})
	// The goods' order: the first one's price has both to itself.
	wantDescent(t, instance(2, list(3, 4), list(3, 4)), at(4, 0), 4, told{0, 4})
	wantDescent(t, instance(2, list(3, 4, 2, 4), list(3, 4, 2, 4)), at(0, 4), 4, told{1, 4})
}

// TestPasses: three buyers who take one of two goods each, so that steps of 2 bring the bound down by 1 each, the goods by turns, as long as one likes; greater steps don't. It is left behind sixteen passes.
func TestPasses(t *testing.T) {
	x := instance(2, list(1, 1000, 2, 1001), list(1, 1000, 2, 999), list(1, 1000, 2, 998))
	var steps []told
	bound := int64(3001)
	for range 16 {
		steps = append(steps, told{0, bound - 1}, told{1, bound - 2})
		bound -= 2
	}
	steps = append(steps, told{0, bound - 1})
	wantDescent(t, x, at(33, 32), 2968, steps...)
}

// TestSupports: the prices' errors ahead of the choice's, and choices of all kinds.
func TestSupports(t *testing.T) {
	x := example()
	none := [][]int{nil, {}, {0}, {0, 0, 0}, {1, 0}, {2, 0}, {0, 1}, {-2, 0}, {0, -2}, {math.MinInt, 0}, {math.MaxInt, 0}}
	for _, choice := range none {
		wantSupports(t, x, choice, at(5, 4), false, api.ErrChoice)
		for _, p := range [][]int64{nil, {5}, {5, 4, 0}, {-1, 4}, {5, most + 1}} {
			wantSupports(t, x, choice, p, false, api.ErrArg)
			wantSupports(t, x, []int{0, 0}, p, false, api.ErrArg)
		}
	}
	for _, c := range []struct {
		choice []int
		p      []int64
		want   bool
	}{
		{[]int{0, 0}, at(0, 4), true},
		{[]int{0, 0}, at(6, 5), true},
		{[]int{0, 0}, at(6, 6), false},
		{[]int{0, 0}, at(0, 0), false},
		{[]int{0, 0}, at(0, 3), true},
		{[]int{0, 0}, at(0, 2), false},
		{[]int{0, -1}, at(5, 4), false},
		{[]int{-1, 0}, at(5, 4), false},
		{[]int{-1, -1}, at(0, 0), false},
	} {
		wantSupports(t, x, c.choice, c.p, c.want, api.OK)
	}
	wantSupports(t, instance(1), nil, at(0), true, api.OK)
	wantSupports(t, instance(1), []int{}, at(1), false, api.OK)
	wantSupports(t, instance(1, nil), []int{-1}, at(0), true, api.OK)
	wantSupports(t, instance(1), []int{-1}, at(0), false, api.ErrChoice)
	wantSupports(t, instance(1, nil), []int{0}, at(0), false, api.ErrChoice)
}

// crowded is an instance whose descent has many steps.
func crowded() api.Instance {
	return instance(3, list(1, 90, 2, 80, 7, 200), list(3, 150, 4, 60), list(6, 130, 1, 95), list(5, 99, 2, 71))
}

// TestStepsLeft: they may be left anywhere, gone over again, and within one another.
func TestStepsLeft(t *testing.T) {
	seq, _ := prices.Steps(crowded())
	all := collected(seq)
	if len(all) < 5 {
		t.Fatalf("just %v", all)
	}
	for n := 1; n <= len(all); n++ {
		var got []told
		for good, bound := range seq {
			got = append(got, told{good, bound})
			if len(got) == n {
				break
			}
		}
		if !slices.Equal(got, all[:n]) {
			t.Errorf("left behind %d steps: %v", n, got)
		}
	}
	next, stop := iter.Pull2(seq)
	defer stop()
	for _, want := range all {
		good, bound, more := next()
		if (told{good, bound}) != want || !more || !slices.Equal(collected(seq), all) {
			t.Errorf("step by step: %d, %d, not %v", good, bound, want)
		}
	}
	if good, bound, more := next(); more {
		t.Errorf("behind the last one: %d, %d", good, bound)
	}
}

// TestStepsWhenCalled: the steps are those of the instance when Steps is called, whatever becomes of it then.
func TestStepsWhenCalled(t *testing.T) {
	x := crowded()
	seq, _ := prices.Steps(x)
	want := collected(seq)

	next, stop := iter.Pull2(seq)
	defer stop()
	next()
	x.Buyers[0][0] = api.Offer{Goods: 1 << 31, Coins: -5}
	x.Buyers[1][1].Coins = most
	x.Buyers[2] = nil
	x.Buyers[3] = list(7, most)
	if good, bound, _ := next(); (told{good, bound}) != want[1] {
		t.Errorf("with changes in between: %d, %d, not %v", good, bound, want[1])
	}
	if got := collected(seq); !slices.Equal(got, want) {
		t.Errorf("behind changes: %v, not %v", got, want)
	}
}

// TestHandedIn: what is handed in is as it was, the room behind it too.
func TestHandedIn(t *testing.T) {
	l, m := list(1, 6, 3, 9, 77, 77), list(2, 5, 78, 78)
	lists := [][]api.Offer{l[:2], m[:1], m}
	p, choice := at(5, 4, 79), []int{0, 0, 80}
	x := instance(2, lists[:2]...)

	wantCost(t, p[:2], 7, 9)
	wantGain(t, l[:2], p[:2], 3, 1, 0)
	wantBound(t, x, p[:2], 11, api.OK)
	wantRest(t, x, 1, 2, p[:2], 5, api.OK)
	wantSupports(t, x, choice[:2], p[:2], true, api.OK)
	wantDescent(t, x, at(0, 4), 11, told{1, 11})

	if !slices.Equal(l, list(1, 6, 3, 9, 77, 77)) || !slices.Equal(m, list(2, 5, 78, 78)) {
		t.Errorf("the offers are %v, %v then", l, m)
	}
	if !slices.Equal(p, at(5, 4, 79)) || !slices.Equal(choice, []int{0, 0, 80}) {
		t.Errorf("prices and choice are %v, %v then", p, choice)
	}
	if len(lists[0]) != 2 || len(lists[1]) != 1 || len(lists[2]) != 2 {
		t.Errorf("the lists are %v then", lists)
	}
}

// TestDescendIsNew: what is answered shares nothing with the next answer, in its room neither.
func TestDescendIsNew(t *testing.T) {
	first, _, _ := prices.Descend(example())
	second, _, _ := prices.Descend(example())
	whole := first[:cap(first)]
	for i := range whole {
		whole[i] = 77
	}
	if !slices.Equal(second, at(0, 4)) {
		t.Errorf("the other answer is %v then", second)
	}
	wantDescent(t, example(), at(0, 4), 11, told{1, 11})
}
