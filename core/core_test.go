package core_test

import (
	"iter"
	"math"
	"slices"
	"sync"
	"testing"

	"gavel/api"
	"gavel/core"
)

// most is the most coins that there are.
const most = api.MaxCoins

// list makes offers of pairs: a set of goods, coins.
func list(pairs ...int64) []api.Offer {
	l := make([]api.Offer, 0, len(pairs)/2)
	for i := 0; i < len(pairs); i += 2 {
		l = append(l, api.Offer{Goods: api.Goods(pairs[i]), Coins: pairs[i+1]})
	}
	return l
}

// instance is one of so many goods.
func instance(n int, lists ...[]api.Offer) api.Instance {
	return api.Instance{Goods: n, Buyers: lists}
}

// full is an instance of as many goods and buyers as may be, each with these offers.
func full(l []api.Offer) api.Instance {
	x := instance(api.MaxGoods)
	for range api.MaxBuyers {
		x.Buyers = append(x.Buyers, slices.Clone(l))
	}
	return x
}

// example is the chapter's.
func example() api.Instance {
	return instance(2, list(1, 10), list(2, 10), list(3, 10))
}

// of makes buyers, or a choice.
func of(numbers ...int) []int { return numbers }

// coins makes payments.
func coins(numbers ...int64) []int64 { return numbers }

// none is a choice in which nobody gets anything.
func none(buyers int) []int { return slices.Repeat(of(-1), buyers) }

// step is what Steps tells at a time.
type step struct {
	buyer int
	pay   []int64
}

func sameStep(a, b step) bool { return a.buyer == b.buyer && slices.Equal(a.pay, b.pay) }

func sameSteps(a, b []step) bool { return slices.EqualFunc(a, b, sameStep) }

// steps are what a function of Steps tells.
func steps(seq iter.Seq2[int, []int64]) []step {
	var l []step
	for buyer, pay := range seq {
		l = append(l, step{buyer, pay})
	}
	return l
}

func sameInstance(a, b api.Instance) bool {
	return a.Goods == b.Goods && slices.EqualFunc(a.Buyers, b.Buyers, slices.Equal[[]api.Offer])
}

func wantPay(t *testing.T, x api.Instance, want ...int64) {
	t.Helper()
	if got, err := core.Pay(x); !slices.Equal(got, want) || err != api.OK {
		t.Errorf("Pay(%v): %v, %v, not %v", x, got, err, want)
	}
}

// wantSteps goes over Steps twice, by one function; and Pay is what the last step tells.
func wantSteps(t *testing.T, x api.Instance, want ...step) {
	t.Helper()
	seq := core.Steps(x)
	for range 2 {
		if got := steps(seq); !sameSteps(got, want) {
			t.Errorf("Steps(%v): %v, not %v", x, got, want)
		}
	}
	last := make([]int64, len(x.Buyers))
	if len(want) > 0 {
		last = want[len(want)-1].pay
	}
	wantPay(t, x, last...)
}

// wantBlocks: just these buyers block; none, if they would give 0 more.
func wantBlocks(t *testing.T, x api.Instance, pay []int64, more int64, buyers ...int) {
	t.Helper()
	got, blocked, err := core.Blocks(x, pay...)
	if !slices.Equal(got.Buyers, buyers) || got.More != more || blocked != (more > 0) || err != api.OK {
		t.Errorf("Blocks(%v, %v): %v, %v, %v, not %v, %d", x, pay, got, blocked, err, buyers, more)
	}
}

func wantLeast(t *testing.T, x api.Instance, buyer int, pay []int64, want int64) {
	t.Helper()
	if got, err := core.Least(x, buyer, pay...); got != want || err != api.OK {
		t.Errorf("Least(%v, %d, %v): %d, %v, not %d", x, buyer, pay, got, err, want)
	}
}

func wantLowered(t *testing.T, x api.Instance, pay []int64, lists ...[]api.Offer) {
	t.Helper()
	if got, err := core.Lowered(x, pay...); !sameInstance(got, instance(x.Goods, lists...)) || err != api.OK {
		t.Errorf("Lowered(%v, %v): %v, %v, not %v", x, pay, got, err, lists)
	}
}

func wantTight(t *testing.T, x api.Instance, pay []int64, want bool) {
	t.Helper()
	if got, err := core.Tight(x, pay...); got != want || err != api.OK {
		t.Errorf("Tight(%v, %v): %v, %v, not %v", x, pay, got, err, want)
	}
}

// wantNoLeast: a buyer who is refused.
func wantNoLeast(t *testing.T, x api.Instance, buyer int, pay []int64, want api.Errno) {
	t.Helper()
	if got, err := core.Least(x, buyer, pay...); got != 0 || err != want {
		t.Errorf("Least(%v, %d, %v): %d, %v, not %v", x, buyer, pay, got, err, want)
	}
}

// wantWrong asks each call that takes payments; whatever the buyer is, they are refused.
func wantWrong(t *testing.T, x api.Instance, pay []int64, want api.Errno) {
	t.Helper()
	if got, blocked, err := core.Blocks(x, pay...); got.Buyers != nil || got.More != 0 || blocked || err != want {
		t.Errorf("Blocks(%v, %v): %v, %v, %v, not %v", x, pay, got, blocked, err, want)
	}
	if got, err := core.Lowered(x, pay...); got.Goods != 0 || got.Buyers != nil || err != want {
		t.Errorf("Lowered(%v, %v): %v, %v, not %v", x, pay, got, err, want)
	}
	if got, err := core.Tight(x, pay...); got || err != want {
		t.Errorf("Tight(%v, %v): %v, %v, not %v", x, pay, got, err, want)
	}
	for _, buyer := range []int{0, len(x.Buyers) - 1, len(x.Buyers), -1, math.MinInt, math.MaxInt} {
		wantNoLeast(t, x, buyer, pay, want)
	}
}

// wantRefused asks each call of an instance that may not be; whatever the payments are, the instance goes ahead.
func wantRefused(t *testing.T, x api.Instance, want api.Errno) {
	t.Helper()
	if got, err := core.Pay(x); got != nil || err != want {
		t.Errorf("Pay(%v): %v, %v, not %v", x, got, err, want)
	}
	if got := steps(core.Steps(x)); got != nil {
		t.Errorf("Steps(%v): %v", x, got)
	}
	for _, pay := range [][]int64{nil, {-1}, make([]int64, len(x.Buyers)), make([]int64, len(x.Buyers)+1)} {
		wantWrong(t, x, pay, want)
	}
}

// TestExamples: the rows of the chapter's table, in their order.
func TestExamples(t *testing.T) {
	x := example()
	wantPay(t, x, 0, 10, 0)

	wantSteps(t, x, step{0, coins(0, 10, 0)}, step{1, coins(0, 10, 0)})

	wantBlocks(t, x, coins(0, 0, 0), 10, 2)
	wantBlocks(t, x, coins(4, 6, 0), 0)
	wantWrong(t, x, coins(11, 0, 0), api.ErrArg)
	wantWrong(t, x, coins(5, 5, 1), api.ErrArg)

	wantLeast(t, x, 0, coins(9, 6, 0), 4)
	wantNoLeast(t, x, 2, coins(5, 5, 0), api.ErrArg)

	wantTight(t, x, coins(4, 6, 0), true)
	wantTight(t, x, coins(5, 6, 0), false)
	wantTight(t, x, coins(3, 6, 0), false)

	wantLowered(t, x, coins(4, 6, 0), list(1, 4), list(2, 6), list(3, 10))
}

// TestNobody: without buyers, and with buyers who offer nothing, nobody wins, pays or blocks; what nobody could lower is tight.
func TestNobody(t *testing.T) {
	for n := 1; n <= api.MaxGoods; n++ {
		for _, x := range []api.Instance{instance(n), {Goods: n, Buyers: [][]api.Offer{}}, instance(n, nil, []api.Offer{})} {
			pay := make([]int64, len(x.Buyers))
			wantSteps(t, x)
			wantBlocks(t, x, pay, 0)
			wantTight(t, x, pay, true)
			wantLowered(t, x, pay, x.Buyers...)
			wantWrong(t, x, append(pay, 0), api.ErrArg)
			for buyer := -1; buyer <= len(x.Buyers); buyer++ {
				wantNoLeast(t, x, buyer, pay, api.ErrArg)
			}
		}
		wantWrong(t, instance(n, nil), coins(1), api.ErrArg)
		wantWrong(t, instance(n, nil), nil, api.ErrArg)
	}
	wantSteps(t, full(nil))
	wantTight(t, full(nil), make([]int64, api.MaxBuyers), true)
}

// TestOneBuyer: who is alone pays nothing, whatever it offers; it may pay up to its winning offer.
func TestOneBuyer(t *testing.T) {
	for _, c := range []int64{1, 2, most - 1, most} {
		x := instance(1, list(1, c))
		wantSteps(t, x, step{0, coins(0)})
		for _, p := range []int64{0, 1, c - 1, c} {
			wantBlocks(t, x, coins(p), 0)
			wantLeast(t, x, 0, coins(p), 0)
			wantTight(t, x, coins(p), p == 0)
		}
		wantLowered(t, x, coins(0), nil)
		wantLowered(t, x, coins(1), list(1, 1))
		wantLowered(t, x, coins(c), list(1, c))
		wantWrong(t, x, coins(c+1), api.ErrArg)
		wantWrong(t, x, coins(-1), api.ErrArg)
	}
	// Its other offers are lowered by the same gain; what is left of none is left out.
	x := instance(3, list(1, 5, 2, 7, 4, 6, 3, 7))
	wantSteps(t, x, step{0, coins(0)})
	wantLowered(t, x, coins(0), nil)
	wantLowered(t, x, coins(1), list(2, 1, 3, 1))
	wantLowered(t, x, coins(2), list(2, 2, 4, 1, 3, 2))
	wantLowered(t, x, coins(7), list(1, 5, 2, 7, 4, 6, 3, 7))
}

// TestTwoForOne: a winner pays what the other one offers; at less the other one blocks, by as much as it is less.
func TestTwoForOne(t *testing.T) {
	for _, c := range []struct{ first, second int64 }{{1, 1}, {2, 1}, {most, 1}, {most, most}, {most, most - 1}} {
		x := instance(1, list(1, c.first), list(1, c.second))
		wantSteps(t, x, step{0, coins(c.second, 0)})
		wantTight(t, x, coins(c.second, 0), true)
		wantBlocks(t, x, coins(c.second, 0), 0)
		wantBlocks(t, x, coins(c.first, 0), 0)
		wantTight(t, x, coins(c.first, 0), c.first == c.second)
		wantBlocks(t, x, coins(0, 0), c.second, 1)
		wantTight(t, x, coins(0, 0), false)
		wantBlocks(t, x, coins(c.second-1, 0), 1, 1)
		wantTight(t, x, coins(c.second-1, 0), false)
		for _, p := range []int64{0, c.second, c.first} {
			wantLeast(t, x, 0, coins(p, 0), c.second)
			wantNoLeast(t, x, 1, coins(p, 0), api.ErrArg)
			wantWrong(t, x, coins(p, 1), api.ErrArg)
		}
		if c.first == c.second {
			continue
		}
		x = instance(1, list(1, c.second), list(1, c.first))
		wantSteps(t, x, step{1, coins(0, c.second)})
		wantBlocks(t, x, coins(0, c.second-1), 1, 0)
		wantNoLeast(t, x, 0, coins(0, c.second), api.ErrArg)
	}
}

// TestOrder: who is lowered first is lowered the most: the first of the buyers.
func TestOrder(t *testing.T) {
	wantSteps(t, instance(2, list(3, 10), list(1, 7), list(2, 9)), step{1, coins(0, 1, 9)}, step{2, coins(0, 1, 9)})
	wantSteps(t, instance(2, list(3, 10), list(2, 9), list(1, 7)), step{1, coins(0, 3, 7)}, step{2, coins(0, 3, 7)})

	// By Costs each of the three would pay 0; two of them must pay what the last one would, but the first one goes down as far as it can, then the second one.
	x := instance(3, list(1, 10), list(2, 10), list(4, 10), list(7, 12))
	wantSteps(t, x, step{0, coins(0, 10, 10, 0)}, step{1, coins(0, 2, 10, 0)}, step{2, coins(0, 2, 10, 0)})
	wantTight(t, x, coins(0, 2, 10, 0), true)
	wantTight(t, x, coins(4, 4, 4, 0), true)
	wantTight(t, x, coins(0, 10, 10, 0), false)
	wantTight(t, x, coins(0, 10, 2, 0), true)
	wantBlocks(t, x, coins(4, 4, 3, 0), 1, 3)

	// Each pair of winners is held by one who would have both goods.
	x = instance(3, list(1, 10), list(2, 10), list(4, 10), list(3, 8), list(6, 8), list(5, 8))
	wantSteps(t, x, step{0, coins(0, 10, 10, 0, 0, 0)}, step{1, coins(0, 8, 10, 0, 0, 0)}, step{2, coins(0, 8, 8, 0, 0, 0)})
	wantBlocks(t, x, coins(4, 4, 4, 0, 0, 0), 0)
	wantTight(t, x, coins(4, 4, 4, 0, 0, 0), true)
	wantBlocks(t, x, coins(4, 4, 3, 0, 0, 0), 1, 0, 4)
}

// TestLeast: it is from 0 on, and may be above the winner's own offer; the winner's own payment is not in it.
func TestLeast(t *testing.T) {
	x := instance(2, list(1, 6), list(2, 6), list(3, 10))
	for own := range int64(7) {
		wantLeast(t, x, 0, coins(own, 0, 0), 10)
		wantLeast(t, x, 0, coins(own, 3, 0), 7)
		wantLeast(t, x, 0, coins(own, 6, 0), 4)
		wantLeast(t, x, 1, coins(0, own, 0), 10)
		wantLeast(t, x, 1, coins(6, own, 0), 4)
	}
	// Of who stands alone at its good nothing is wanted, also where the others pay more than they must.
	x = instance(2, list(1, 6), list(2, 6))
	for own := range int64(7) {
		wantLeast(t, x, 0, coins(own, 6), 0)
		wantLeast(t, x, 1, coins(6, own), 0)
		wantLeast(t, x, 0, coins(own, 0), 0)
	}
	wantSteps(t, x, step{0, coins(0, 6)}, step{1, coins(0, 0)})
	// Of who has a rival at its good the rival's coins are wanted, whatever the winner of the other good pays; of the latter what the rival would give more than the former pays.
	x = instance(2, list(1, 6), list(2, 9), list(2, 5))
	wantLeast(t, x, 1, coins(6, 9, 0), 5)
	wantLeast(t, x, 1, coins(2, 0, 0), 5)
	wantLeast(t, x, 0, coins(6, 9, 0), 0)
	wantLeast(t, x, 0, coins(6, 0, 0), 5)
	wantSteps(t, x, step{0, coins(0, 9, 0)}, step{1, coins(0, 5, 0)})

	for _, buyer := range []int{math.MinInt, -1, 2, 3, 4, 31, 32, 33, math.MaxInt} {
		wantNoLeast(t, x, buyer, coins(6, 9, 0), api.ErrArg)
	}
}

// TestWhoBlocks: the buyers of the best choice of the lowered instance: of several sets the first one; winners may be in it, by an offer that they did not win.
func TestWhoBlocks(t *testing.T) {
	// Two would give as much: the first one in the order of choices.
	wantBlocks(t, instance(1, list(1, 9), list(1, 5), list(1, 5)), coins(3, 0, 0), 2, 1)
	wantBlocks(t, instance(2, list(3, 9), list(3, 6), list(1, 3), list(2, 3)), coins(2, 0, 0, 0), 4, 1)
	wantBlocks(t, instance(2, list(3, 9), list(1, 3), list(3, 6), list(2, 3)), coins(2, 0, 0, 0), 4, 1, 3)

	// A winner stands in it by what it wins already: it would pay the same, and the other one's good goes to who gives more.
	x := instance(2, list(1, 8), list(2, 7), list(2, 5))
	wantBlocks(t, x, coins(4, 2, 0), 3, 0, 2)
	wantBlocks(t, x, coins(0, 2, 0), 3, 2)
	wantBlocks(t, x, coins(0, 5, 0), 0)

	// A winner that would rather have both goods: it would give 9 less the 3 that it gains.
	x = instance(2, list(1, 6, 3, 9), list(2, 5))
	wantLowered(t, x, coins(3, 1), list(1, 3, 3, 6), list(2, 1))
	wantBlocks(t, x, coins(3, 1), 2, 0)
	wantBlocks(t, x, coins(3, 3), 0)
	wantSteps(t, x, step{0, coins(0, 5)}, step{1, coins(0, 3)})

	// An offer of which nothing is left is left out, ahead of the one that blocks.
	x = instance(2, list(1, 2, 2, 6, 3, 7), list(1, 5))
	wantLowered(t, x, coins(2, 0), list(2, 2, 3, 3), nil)
	wantBlocks(t, x, coins(2, 0), 1, 0)
	wantSteps(t, x, step{0, coins(0, 5)}, step{1, coins(0, 1)})
}

// TestCosts: where what all cost the others is not blocked, they pay just that.
func TestCosts(t *testing.T) {
	wantPay(t, instance(1, list(1, 7), list(1, 9), list(1, 9)), 0, 9, 0)
	wantPay(t, instance(2, list(1, 6), list(2, 5), list(1, 4), list(2, 3)), 4, 3, 0, 0)
	wantPay(t, instance(2, list(1, 6, 3, 9), list(2, 5)), 0, 3)
	// And where it is: 5 and 4 would do for the third one's 10 by 1 too little.
	x := instance(2, list(1, 6, 3, 9), list(2, 5), list(3, 10))
	wantBlocks(t, x, coins(5, 4, 0), 1, 2)
	wantSteps(t, x, step{0, coins(5, 5, 0)}, step{1, coins(5, 5, 0)})
}

// TestTies: who wins by being first pays all that it offers.
func TestTies(t *testing.T) {
	wantSteps(t, instance(1, list(1, 4), list(1, 4), list(1, 4)), step{0, coins(4, 0, 0)})
	wantSteps(t, instance(2, list(3, 6), list(1, 3), list(2, 3)), step{0, coins(6, 0, 0)})
	wantSteps(t, instance(2, list(1, 3), list(2, 3), list(3, 6)), step{0, coins(3, 3, 0)}, step{1, coins(3, 3, 0)})
	wantSteps(t, instance(1, list(1, 4, 1, 4), list(1, 3)), step{0, coins(3, 0)})
}

// TestPayments: what are no payments: too few, too many, below 0, above the winning offer, of one who wins nothing.
func TestPayments(t *testing.T) {
	x := instance(2, list(1, 6, 3, 9), list(2, 5), nil, list(3, 10))
	wantBlocks(t, x, coins(6, 5, 0, 0), 0)
	wantBlocks(t, x, coins(0, 0, 0, 0), 10, 3)
	for _, pay := range [][]int64{
		nil, {}, {6}, {6, 5}, {6, 5, 0}, {6, 5, 0, 0, 0}, {0, 0, 0, 0, 0}, make([]int64, 32), make([]int64, 33), make([]int64, 1000),
		{-1, 5, 0, 0}, {6, -1, 0, 0}, {6, 5, -1, 0}, {6, 5, 0, -1}, {math.MinInt64, 5, 0, 0}, {6, 5, 0, math.MinInt64},
		{7, 5, 0, 0}, {9, 0, 0, 0}, {6, 6, 0, 0}, {math.MaxInt64, 5, 0, 0}, {6, math.MaxInt64, 0, 0},
		{6, 5, 1, 0}, {6, 5, 0, 1}, {6, 5, 0, 10}, {0, 0, 0, math.MaxInt64}, {math.MaxInt64, math.MaxInt64, 2, 0},
	} {
		wantWrong(t, x, pay, api.ErrArg)
	}
}

// TestInstances: each bound of an instance, one past it, in the order of the errors.
func TestInstances(t *testing.T) {
	nine := slices.Repeat(list(1, 1), api.MaxOffers+1)
	wrong := list(1, 1, 0, 1)
	for _, n := range []int{math.MinInt, -1, 0, 11, 32, 33, math.MaxInt} {
		wantRefused(t, instance(n), api.ErrArg)
		wantRefused(t, instance(n, list(1, 1)), api.ErrArg)
		wantRefused(t, instance(n, nine, wrong), api.ErrArg)
	}
	wantRefused(t, api.Instance{}, api.ErrArg)
	wantRefused(t, instance(1, make([][]api.Offer, api.MaxBuyers+1)...), api.ErrLong)
	wantRefused(t, instance(1, list(1, 1), nine), api.ErrLong)
	wantRefused(t, instance(1, wrong, nine), api.ErrLong)
	for _, l := range [][]api.Offer{wrong, list(1, 0), list(1, -1), list(1, most+1), list(2, 1), list(3, 1), list(1<<31, 1), list(1, math.MinInt64), list(1, math.MaxInt64)} {
		wantRefused(t, instance(1, l), api.ErrOffer)
		wantRefused(t, instance(1, list(1, 1), nil, l), api.ErrOffer)
	}
	wantRefused(t, instance(10, list(1024, 1)), api.ErrOffer)
}

// paysOnly are the payments of as many buyers as may be, of which those from one on pay as given.
func paysOnly(from int, pay ...int64) []int64 {
	l := make([]int64, api.MaxBuyers)
	copy(l[from:], pay)
	return l
}

// TestGreatest: as many goods, buyers and offers as may be, with the most coins.
func TestGreatest(t *testing.T) {
	x := full(slices.Repeat(list(1023, most), api.MaxOffers))
	wantSteps(t, x, step{0, paysOnly(0, most)})
	wantBlocks(t, x, paysOnly(0, most-1), 1, 1)
	wantBlocks(t, x, paysOnly(0), most, 1)

	// The last one alone offers more: it is the last one that there may be.
	x = full(list(1023, most-1))
	x.Buyers[31] = list(1023, most)
	wantSteps(t, x, step{31, paysOnly(31, most-1)})
	wantTight(t, x, paysOnly(31, most-1), true)
	wantTight(t, x, paysOnly(31, most), false)
	wantLeast(t, x, 31, paysOnly(31, 0), most-1)
	wantBlocks(t, x, paysOnly(31, most-2), 1, 0)
	wantWrong(t, x, paysOnly(31, most+1), api.ErrArg)

	// Ten winners, the last ten buyers; one ahead of them would have all goods for as much as one of them has.
	x = full(nil)
	x.Buyers[0] = list(1023, most)
	all := paysOnly(22, slices.Repeat(coins(most), 10)...)
	var want []step
	for good := range api.MaxGoods {
		x.Buyers[22+good] = list(1<<good, most)
		if good < 9 {
			all[22+good] = 0
		}
		want = append(want, step{22 + good, slices.Clone(all)})
	}
	wantSteps(t, x, want...)
	wantTight(t, x, all, true)
	wantBlocks(t, x, paysOnly(31, most-1), 1, 0)

	// Each of them has a rival that offers as much, and stands ahead: none of the ten that win then can be lowered.
	for good := range api.MaxGoods {
		x.Buyers[good] = list(1<<good, most)
	}
	want = nil
	top := paysOnly(0, slices.Repeat(coins(most), 10)...)
	for good := range api.MaxGoods {
		want = append(want, step{good, top})
	}
	wantSteps(t, x, want...)
	wantBlocks(t, x, paysOnly(0), 10*most, 22, 23, 24, 25, 26, 27, 28, 29, 30, 31)
}

// several is an instance with many winners, not one behind the other, and the steps to what they pay.
func several() (api.Instance, []step) {
	x := instance(6, list(1, 9), nil, list(2, 7), list(3, 8), list(4, 5, 8, 6), list(32, 1), list(16, 4), list(16, 4), list(12, 5))
	return x, []step{
		{0, coins(1, 0, 7, 0, 6, 1, 4, 0, 0)},
		{2, coins(1, 0, 7, 0, 6, 1, 4, 0, 0)},
		{4, coins(1, 0, 7, 0, 5, 1, 4, 0, 0)},
		{5, coins(1, 0, 7, 0, 5, 0, 4, 0, 0)},
		{6, coins(1, 0, 7, 0, 5, 0, 4, 0, 0)},
	}
}

// TestSeveral: winners and others in turn.
func TestSeveral(t *testing.T) {
	x, want := several()
	wantSteps(t, x, want...)
}

// TestStepsLeft: it may be left anywhere, gone over again, and within itself.
func TestStepsLeft(t *testing.T) {
	x, all := several()
	seq := core.Steps(x)
	for n := 1; n <= len(all); n++ {
		var got []step
		for buyer, pay := range seq {
			got = append(got, step{buyer, pay})
			if len(got) == n {
				break
			}
		}
		if !sameSteps(got, all[:n]) {
			t.Errorf("left behind %d: %v, not %v", n, got, all[:n])
		}
	}
	n := 0
	for buyer, pay := range seq {
		if !sameStep(all[n], step{buyer, pay}) || !sameSteps(steps(seq), all) {
			t.Errorf("the step %d, within: %d, %v, not %v", n, buyer, pay, all[n])
		}
		n++
	}
	if n != len(all) {
		t.Errorf("%d steps, not %d", n, len(all))
	}
}

// TestStepsAtATime: several may go over one function at a time.
func TestStepsAtATime(t *testing.T) {
	x, all := several()
	seq := core.Steps(x)
	var crew sync.WaitGroup
	for range 8 {
		crew.Go(func() {
			for range 10 {
				if got := steps(seq); !sameSteps(got, all) {
					t.Errorf("%v, not %v", got, all)
				}
			}
		})
	}
	crew.Wait()
}

// TestStepsAsCalled: it tells of the instance as it was when it was called: that is not kept.
func TestStepsAsCalled(t *testing.T) {
	x, all := several()
	seq := core.Steps(x)
	next, stop := iter.Pull2(seq)
	defer stop()
	next()
	for buyer, l := range x.Buyers {
		for i := range l {
			l[i] = api.Offer{Goods: 1 << 31, Coins: -5}
		}
		x.Buyers[buyer] = nil
	}
	for _, want := range all[1:] {
		if buyer, pay, ok := next(); !ok || !sameStep(want, step{buyer, pay}) {
			t.Errorf("with changes in between: %d, %v, %v, not %v", buyer, pay, ok, want)
		}
	}
	if got := steps(seq); !sameSteps(got, all) {
		t.Errorf("behind changes: %v, not %v", got, all)
	}

	// One that may not be when it is called has no steps, whatever it is made into.
	y := instance(1, list(1, 0))
	seq = core.Steps(y)
	y.Buyers[0][0].Coins = 1
	if got := steps(seq); got != nil {
		t.Errorf("of an instance that could not be: %v", got)
	}
}

// spoil writes over a list, and over its spare room.
func spoil[T any](l []T, with T) {
	l = l[:cap(l)]
	for i := range l {
		l[i] = with
	}
}

// TestAnswersAreNew: an answer shares nothing with the next one, in its room neither.
func TestAnswersAreNew(t *testing.T) {
	x, all := several()
	seq := core.Steps(x)
	for range 2 {
		n := 0
		for buyer, pay := range seq {
			if !sameStep(all[n], step{buyer, pay}) {
				t.Errorf("the step %d, behind payments that are written over: %d, %v, not %v", n, buyer, pay, all[n])
			}
			spoil(pay, -77)
			n++
		}
		pay, _ := core.Pay(x)
		spoil(pay, -77)
		block, _, _ := core.Blocks(x, make([]int64, 9)...)
		spoil(block.Buyers, -77)
		wantSteps(t, x, all...)
		wantBlocks(t, x, make([]int64, 9), 17, 3, 7, 8)
	}
	nobody := instance(1, nil, nil)
	pay, _ := core.Pay(nobody)
	spoil(pay, -77)
	wantPay(t, nobody, 0, 0)
}

// TestLoweredIsNew: of the lowered instance each list is memory of its own, also where nothing is lowered.
func TestLoweredIsNew(t *testing.T) {
	lists := func() [][]api.Offer { return [][]api.Offer{list(1, 6, 3, 9), list(2, 5), list(3, 10), nil} }
	x := instance(2, lists()...)
	pay := coins(6, 5, 0, 0)
	for buyer := range x.Buyers {
		y, _ := core.Lowered(x, pay...)
		if !sameInstance(y, x) {
			t.Fatalf("Lowered(%v, %v): %v", x, pay, y)
		}
		spoil(y.Buyers[buyer], api.Offer{Goods: 77, Coins: 77})
		for other, l := range y.Buyers {
			if other != buyer && !slices.Equal(l, x.Buyers[other]) {
				t.Errorf("the list %d is %v, once the list %d is written over", other, l, buyer)
			}
		}
		spoil(y.Buyers, nil)
		wantLowered(t, x, pay, lists()...)
	}
	if !slices.Equal(pay, coins(6, 5, 0, 0)) {
		t.Errorf("the payments are %v then", pay)
	}
}

// TestHandedIn: what is handed in is as it was, the room behind it too.
func TestHandedIn(t *testing.T) {
	l, m := list(1, 6, 3, 9, 77, 77), list(2, 5, 78, 78)
	lists := [][]api.Offer{l[:2], m[:1], list(3, 10), m}
	x := instance(2, lists[:3]...)
	pay := coins(6, 4, 0, 88)
	wantSteps(t, x, step{0, coins(5, 5, 0)}, step{1, coins(5, 5, 0)})
	wantBlocks(t, x, pay[:3], 0)
	wantLeast(t, x, 0, pay[:3], 6)
	wantLeast(t, x, 1, pay[:3], 4)
	wantTight(t, x, pay[:3], true)
	wantLowered(t, x, pay[:3], list(1, 6, 3, 9), list(2, 4), list(3, 10))
	wantWrong(t, x, pay, api.ErrArg)
	wantNoLeast(t, x, 2, pay[:3], api.ErrArg)
	if !slices.Equal(pay, coins(6, 4, 0, 88)) {
		t.Errorf("the payments are %v then", pay)
	}
	if !slices.Equal(l, list(1, 6, 3, 9, 77, 77)) || !slices.Equal(m, list(2, 5, 78, 78)) || !slices.Equal(lists[2], list(3, 10)) {
		t.Errorf("the offers are %v, %v, %v then", l, m, lists[2])
	}
	if len(lists[0]) != 2 || len(lists[1]) != 1 || len(lists[2]) != 1 || len(lists[3]) != 2 {
		t.Errorf("the lists are %v then", lists)
	}
}

// TestAtATime: several may ask of one instance, by one list of payments, at a time.
func TestAtATime(t *testing.T) {
	x, pay := example(), coins(4, 6, 0)
	var crew sync.WaitGroup
	for range 8 {
		crew.Go(func() {
			for range 20 {
				wantPay(t, x, 0, 10, 0)
				wantBlocks(t, x, pay, 0)
				wantLeast(t, x, 0, pay, 4)
				wantTight(t, x, pay, true)
				wantLowered(t, x, pay, list(1, 4), list(2, 6), list(3, 10))
			}
		})
	}
	crew.Wait()
}
