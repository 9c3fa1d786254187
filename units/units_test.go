package units_test

import (
	"iter"
	"math"
	"slices"
	"testing"

	"gavel/api"
	"gavel/units"
)

func bid(coins ...int64) []int64 { return coins }

func bids(list ...[]int64) [][]int64 { return list }

// alike is a bid of that many units, each for the same coins.
func alike(count int, coins int64) []int64 { return slices.Repeat([]int64{coins}, count) }

func sale(price int64, next int, won ...int) api.UnitSale {
	return api.UnitSale{Price: price, Won: won, Next: next}
}

func wantCheck(t *testing.T, count int, floor int64, bid []int64, want api.Errno) {
	t.Helper()
	if got := units.Check(count, floor, bid...); got != want {
		t.Errorf("Check(%d, %d, %v): %v, not %v", count, floor, bid, got, want)
	}
}

func wantSell(t *testing.T, count int, floor int64, bids [][]int64, want api.UnitSale) {
	t.Helper()
	got, err := units.Sell(count, floor, bids...)
	if got.Price != want.Price || got.Next != want.Next || !slices.Equal(got.Won, want.Won) || err != api.OK {
		t.Errorf("Sell(%d, %d, %v): %+v, %v, not %+v", count, floor, bids, got, err, want)
	}
}

// wantRefused asks each call that tells of a sale of bids that may not be. Better is asked for a bid that is there, and for one that is not, which may be told ahead of what is too low.
func wantRefused(t *testing.T, count int, floor int64, bids [][]int64, want api.Errno) {
	t.Helper()
	got, err := units.Sell(count, floor, bids...)
	if got.Price != 0 || got.Next != 0 || len(got.Won) != 0 || err != want {
		t.Errorf("Sell(%d, %d, %v): %+v, %v, not %v", count, floor, bids, got, err, want)
	}
	for unit := range units.Order(count, floor, bids...) {
		t.Errorf("Order(%d, %d, %v): %+v", count, floor, bids, unit)
	}
	if len(bids) > 0 {
		wantNotBetter(t, count, floor, bids, 0, bids[0], want)
	}
	if want != api.ErrArg {
		want = api.ErrNone
	}
	wantNotBetter(t, count, floor, bids, len(bids), bid(floor), want)
}

func wantOrder(t *testing.T, count int, floor int64, bids [][]int64, want ...api.Unit) {
	t.Helper()
	order := units.Order(count, floor, bids...)
	for range 2 {
		if got := slices.Collect(order); !slices.Equal(got, want) {
			t.Errorf("Order(%d, %d, %v): %v, not %v", count, floor, bids, got, want)
		}
	}
}

func wantWanted(t *testing.T, price int64, bids [][]int64, want int) {
	t.Helper()
	if got := units.Wanted(price, bids...); got != want {
		t.Errorf("Wanted(%d, %v): %d, not %d", price, bids, got, want)
	}
}

func wantSpent(t *testing.T, s api.UnitSale, bid int, want int64, wantErr api.Errno) {
	t.Helper()
	if got, err := units.Spent(s, bid); got != want || err != wantErr {
		t.Errorf("Spent(%+v, %d): %d, %v, not %d, %v", s, bid, got, err, want, wantErr)
	}
}

func wantBetter(t *testing.T, count int, floor int64, bids [][]int64, who int, other []int64, want, wantOther int64) {
	t.Helper()
	got, gotOther, err := units.Better(count, floor, bids, who, other)
	if got != want || gotOther != wantOther || err != api.OK {
		t.Errorf("Better(%d, %d, %v, %d, %v): %d, %d, %v, not %d, %d", count, floor, bids, who, other, got, gotOther, err, want, wantOther)
	}
}

func wantNotBetter(t *testing.T, count int, floor int64, bids [][]int64, who int, other []int64, want api.Errno) {
	t.Helper()
	got, gotOther, err := units.Better(count, floor, bids, who, other)
	if got != 0 || gotOther != 0 || err != want {
		t.Errorf("Better(%d, %d, %v, %d, %v): %d, %d, %v, not %v", count, floor, bids, who, other, got, gotOther, err, want)
	}
}

// TestExamples: the rows of the chapter's table, in their order.
func TestExamples(t *testing.T) {
	wantSell(t, 3, 1, bids(bid(9, 5, 2), bid(7, 7)), sale(5, 0, 1, 2))
	wantSell(t, 3, 6, bids(bid(9), bid(7, 7)), sale(6, -1, 1, 2))
	wantSell(t, 2, 0, bids(bid(5, 5), bid(5)), sale(5, 1, 2, 0))

	wantRefused(t, 0, 0, nil, api.ErrArg)
	wantRefused(t, 2, 0, bids(bid(1, 2)), api.ErrArg)
	wantRefused(t, 2, 0, bids(bid(3, 2, 1)), api.ErrArg)
	wantRefused(t, 2, 5, bids(bid(6, 4)), api.ErrLow)
	wantRefused(t, 2, 5, bids(bid(4), bid(1, 2)), api.ErrArg)

	wantWanted(t, 5, bids(bid(9, 5, 2), bid(7, 7)), 4)
	wantSpent(t, sale(5, 0, 1, 2), 1, 10, api.OK)
	wantSpent(t, sale(5, 0, 1, 2), 2, 0, api.ErrNone)

	wantBetter(t, 2, 0, bids(bid(9, 8), bid(7)), 0, bid(9), 3, 9)
}

// TestHouseExample is the house's example 5: ann's bid stands first, bob's behind it.
func TestHouseExample(t *testing.T) {
	both := bids(bid(20, 15, 4), bid(18, 10))
	wantSell(t, 3, 2, both, sale(10, 1, 2, 1))
	s, _ := units.Sell(3, 2, both...)
	wantSpent(t, s, 0, 20, api.OK)
	wantSpent(t, s, 1, 10, api.OK)
}

// TestCheck: each number at its bounds, and one past them, and which error is told of several. What is told of one bid is told of it in a sale, too.
func TestCheck(t *testing.T) {
	for _, c := range []struct {
		count int
		floor int64
		bid   []int64
		want  api.Errno
	}{
		{1, 0, bid(0), api.OK},
		{1, 0, bid(api.MaxCoins), api.OK},
		{1, api.MaxCoins, bid(api.MaxCoins), api.OK},
		{1, 5, bid(5), api.OK},
		{3, 5, bid(5, 5, 5), api.OK},
		{3, 5, bid(9, 9, 5), api.OK},
		{3, 5, bid(9), api.OK},
		{api.MaxCount, 2, alike(api.MaxCount, 2), api.OK},
		{api.MaxCount, 2, bid(2), api.OK},

		{0, 0, bid(1), api.ErrArg},
		{-1, 0, bid(1), api.ErrArg},
		{math.MinInt64, 0, bid(1), api.ErrArg},
		{api.MaxCount + 1, 0, bid(1), api.ErrArg},
		{math.MaxInt64, 0, bid(1), api.ErrArg},
		{1, -1, bid(1), api.ErrArg},
		{1, math.MinInt64, bid(1), api.ErrArg},
		{1, api.MaxCoins + 1, bid(1), api.ErrArg},
		{1, api.MaxCoins + 1, bid(api.MaxCoins), api.ErrArg},
		{1, math.MaxInt64, bid(1), api.ErrArg},
		{1, 0, nil, api.ErrArg},
		{1, 0, bid(), api.ErrArg},
		{0, 0, nil, api.ErrArg},
		{1, 0, bid(1, 1), api.ErrArg},
		{3, 0, bid(4, 3, 2, 1), api.ErrArg},
		{api.MaxCount, 2, alike(api.MaxCount+1, 2), api.ErrArg},
		{3, 0, bid(-1), api.ErrArg},
		{3, 0, bid(math.MinInt64), api.ErrArg},
		{3, 0, bid(1, -1), api.ErrArg},
		{3, 0, bid(1, 1, -1), api.ErrArg},
		{3, 0, bid(api.MaxCoins + 1), api.ErrArg},
		{3, 0, bid(math.MaxInt64), api.ErrArg},
		{3, 0, bid(api.MaxCoins+1, 1), api.ErrArg},
		{3, 0, bid(1, 2), api.ErrArg},
		{3, 0, bid(1, 1, 2), api.ErrArg},
		{3, 0, bid(2, 1, 2), api.ErrArg},
		{3, 0, bid(9, 1, 2), api.ErrArg},
		{3, 0, bid(0, api.MaxCoins), api.ErrArg},

		{3, 5, bid(4), api.ErrLow},
		{3, 5, bid(0), api.ErrLow},
		{3, 5, bid(5, 4), api.ErrLow},
		{3, 5, bid(9, 9, 4), api.ErrLow},
		{3, 5, bid(4, 3, 2), api.ErrLow},
		{1, 1, bid(0), api.ErrLow},
		{1, api.MaxCoins, bid(api.MaxCoins - 1), api.ErrLow},
		{api.MaxCount, 2, append(alike(api.MaxCount-1, 2), 1), api.ErrLow},

		{3, 5, bid(4, -1), api.ErrArg},
		{3, 5, bid(3, 4), api.ErrArg},
		{3, 5, bid(4, 5), api.ErrArg},
		{3, 5, bid(4, 3, 2, 1), api.ErrArg},
		{3, 5, bid(api.MaxCoins+1, 4), api.ErrArg},
		{3, -1, bid(-2), api.ErrArg},
		{0, 5, bid(4), api.ErrArg},
	} {
		wantCheck(t, c.count, c.floor, c.bid, c.want)
		if c.want != api.OK {
			wantRefused(t, c.count, c.floor, bids(c.bid), c.want)
			continue
		}
		wantSell(t, c.count, c.floor, bids(c.bid), sale(c.floor, -1, len(c.bid)))
	}
}

// TestSell: more units than are wanted, as many, and fewer; ties; numbers at their bounds.
func TestSell(t *testing.T) {
	for _, c := range []struct {
		count int
		floor int64
		bids  [][]int64
		want  api.UnitSale
	}{
		{1, 0, nil, sale(0, -1)},
		{2, 3, bids(), sale(3, -1)},
		{api.MaxCount, api.MaxCoins, nil, sale(api.MaxCoins, -1)},
		{1, 0, bids(bid(0)), sale(0, -1, 1)},
		{2, 3, bids(bid(7)), sale(3, -1, 1)},
		{2, 3, bids(bid(7, 6)), sale(3, -1, 2)},
		{2, 3, bids(bid(7), bid(6)), sale(3, -1, 1, 1)},
		{2, 3, bids(bid(7, 6), bid(3)), sale(3, 1, 2, 0)},
		{2, 3, bids(bid(3), bid(7, 6)), sale(3, 0, 0, 2)},
		{2, 3, bids(bid(7, 6), bid(4)), sale(4, 1, 2, 0)},
		{1, 0, bids(bid(4), bid(4), bid(4)), sale(4, 1, 1, 0, 0)},
		{1, 0, bids(bid(3), bid(4), bid(4)), sale(4, 2, 0, 1, 0)},
		{2, 0, bids(bid(4), bid(4), bid(4)), sale(4, 2, 1, 1, 0)},
		{3, 0, bids(bid(4), bid(4), bid(4)), sale(0, -1, 1, 1, 1)},
		{2, 0, bids(bid(5), bid(5, 5)), sale(5, 1, 1, 1)},
		{2, 0, bids(bid(5, 5), bid(5, 5)), sale(5, 1, 2, 0)},
		{3, 0, bids(bid(5, 5), bid(5, 5)), sale(5, 1, 2, 1)},
		{3, 0, bids(bid(6, 5), bid(6, 5), bid(6)), sale(5, 0, 1, 1, 1)},
		{4, 0, bids(bid(6, 5), bid(6, 5), bid(6)), sale(5, 1, 2, 1, 1)},
		{2, 0, bids(bid(9, 8), bid(1), bid(2)), sale(2, 2, 2, 0, 0)},
		{2, 0, bids(bid(0, 0), bid(0)), sale(0, 1, 2, 0)},
		{2, 0, bids(bid(api.MaxCoins, 0), bid(api.MaxCoins)), sale(0, 0, 1, 1)},
		{1, 0, bids(bid(api.MaxCoins-1), bid(api.MaxCoins)), sale(api.MaxCoins-1, 0, 0, 1)},
		{1, api.MaxCoins, bids(bid(api.MaxCoins), bid(api.MaxCoins)), sale(api.MaxCoins, 1, 1, 0)},
		{api.MaxCount, 0, bids(alike(api.MaxCount, 2), bid(3)), sale(2, 0, api.MaxCount-1, 1)},
		{api.MaxCount, 0, bids(alike(api.MaxCount, 2)), sale(0, -1, api.MaxCount)},
		{api.MaxCount, 1, bids(alike(40, 2), alike(40, 2)), sale(2, 1, 40, 24)},
	} {
		wantSell(t, c.count, c.floor, c.bids, c.want)
	}
}

// TestSellErrors: a bid that may not be, at each place among others, and what is told of several.
func TestSellErrors(t *testing.T) {
	good := bids(bid(9, 5), bid(7, 7, 7), bid(5))
	for place := range len(good) + 1 {
		for _, wrong := range bids(nil, bid(), bid(9, 9, 9, 9), bid(-1), bid(8, -1), bid(api.MaxCoins+1), bid(8, 9), bid(4, 5), bid(8, 7, 8)) {
			wantRefused(t, 3, 5, slices.Insert(slices.Clone(good), place, wrong), api.ErrArg)
			wantRefused(t, 3, 5, slices.Insert(slices.Clone(good), place, wrong, bid(4)), api.ErrArg)
			wantRefused(t, 3, 5, slices.Insert(slices.Clone(good), place, bid(8, 4), wrong), api.ErrArg)
			wantRefused(t, 3, 5, append(bids(bid(4), bid(4)), slices.Insert(slices.Clone(good), place, wrong)...), api.ErrArg)
		}
		for _, low := range bids(bid(4), bid(9, 4), bid(9, 9, 0)) {
			wantRefused(t, 3, 5, slices.Insert(slices.Clone(good), place, low), api.ErrLow)
			wantRefused(t, 3, 5, slices.Insert(slices.Clone(good), place, low, low), api.ErrLow)
		}
	}
	for _, count := range []int{math.MinInt64, -1, 0, api.MaxCount + 1, math.MaxInt64} {
		wantRefused(t, count, 5, nil, api.ErrArg)
		wantRefused(t, count, 5, bids(bid(4)), api.ErrArg)
	}
	for _, floor := range []int64{math.MinInt64, -1, api.MaxCoins + 1, math.MaxInt64} {
		wantRefused(t, 3, floor, nil, api.ErrArg)
		wantRefused(t, 3, floor, bids(bid(4)), api.ErrArg)
	}
}

// TestManyBids: as many bids as may stand, and one more; the greatest bids there are.
func TestManyBids(t *testing.T) {
	const most = 4096
	many := make([][]int64, most)
	for i := range many {
		many[i] = alike(api.MaxCount, int64(i))
	}
	won := make([]int, most)
	won[most-1] = api.MaxCount
	wantSell(t, api.MaxCount, 0, many, sale(most-2, most-2, won...))
	wantRefused(t, api.MaxCount, 0, append(slices.Clone(many), bid(5)), api.ErrArg)
	wantRefused(t, api.MaxCount, 1, many, api.ErrLow)
	wantRefused(t, api.MaxCount, 1, append(slices.Clone(many), bid(5)), api.ErrArg)
	wantBetter(t, api.MaxCount, 0, many, most-1, bid(0), api.MaxCount, 0)

	told := 0
	for unit := range units.Order(api.MaxCount, 0, many...) {
		want := api.Unit{Bid: most - 1 - told/api.MaxCount, Place: told % api.MaxCount, Coins: int64(most - 1 - told/api.MaxCount)}
		if unit != want {
			t.Fatalf("the unit %d is %+v, not %+v", told, unit, want)
		}
		told++
	}
	if told != most*api.MaxCount {
		t.Errorf("%d units", told)
	}
	wantWanted(t, 0, many, most*api.MaxCount)
	wantWanted(t, most-1, many, api.MaxCount)
}

// TestOrder: the most first, of one number by bids, of one bid by places; units that win and those that don't.
func TestOrder(t *testing.T) {
	wantOrder(t, 3, 1, nil)
	wantOrder(t, 3, 1, bids())
	wantOrder(t, 3, 1, bids(bid(1)), api.Unit{Bid: 0, Place: 0, Coins: 1})
	wantOrder(t, 3, 1, bids(bid(9, 5, 2), bid(7, 5)),
		api.Unit{Bid: 0, Place: 0, Coins: 9}, api.Unit{Bid: 1, Place: 0, Coins: 7},
		api.Unit{Bid: 0, Place: 1, Coins: 5}, api.Unit{Bid: 1, Place: 1, Coins: 5}, api.Unit{Bid: 0, Place: 2, Coins: 2})
	wantOrder(t, 2, 0, bids(bid(4, 4), bid(4), bid(4, 4)),
		api.Unit{Bid: 0, Place: 0, Coins: 4}, api.Unit{Bid: 0, Place: 1, Coins: 4}, api.Unit{Bid: 1, Place: 0, Coins: 4},
		api.Unit{Bid: 2, Place: 0, Coins: 4}, api.Unit{Bid: 2, Place: 1, Coins: 4})
	wantOrder(t, 2, 0, bids(bid(0), bid(1), bid(api.MaxCoins, 0), bid(1, 1)),
		api.Unit{Bid: 2, Place: 0, Coins: api.MaxCoins}, api.Unit{Bid: 1, Place: 0, Coins: 1},
		api.Unit{Bid: 3, Place: 0, Coins: 1}, api.Unit{Bid: 3, Place: 1, Coins: 1},
		api.Unit{Bid: 0, Place: 0, Coins: 0}, api.Unit{Bid: 2, Place: 1, Coins: 0})
}

// TestOrderLeft: it may be left anywhere, gone over again, and within one another.
func TestOrderLeft(t *testing.T) {
	order := units.Order(3, 1, bid(9, 5, 2), bid(7, 5))
	all := slices.Collect(order)
	for n := 1; n <= 5; n++ {
		var got []api.Unit
		for unit := range order {
			got = append(got, unit)
			if len(got) == n {
				break
			}
		}
		if !slices.Equal(got, all[:n]) {
			t.Errorf("left behind %d units: %v", n, got)
		}
	}
	pairs := 0
	for a := range order {
		for b := range order {
			if a == b {
				break
			}
			pairs++
		}
	}
	if pairs != 10 {
		t.Errorf("%d pairs of units, one ahead of the other", pairs)
	}

	next, stop := iter.Pull(order)
	defer stop()
	for _, want := range all {
		unit, more := next()
		if unit != want || !more || !slices.Equal(slices.Collect(order), all) {
			t.Errorf("step by step: %+v, not %+v", unit, want)
		}
	}
	if unit, more := next(); more {
		t.Errorf("behind the last one: %+v", unit)
	}
}

// TestOrderWhenCalled: the units are those of the bids when Order is called, whatever becomes of the lists then; bids that could not be then are never told.
func TestOrderWhenCalled(t *testing.T) {
	first, second := bid(9, 5, 2), bid(7, 5)
	list := bids(first, second)
	order := units.Order(3, 1, list...)
	want := slices.Collect(order)
	refused := units.Order(1, 1, list...)

	next, stop := iter.Pull(order)
	defer stop()
	next()
	first[0], first[1], first[2], second[0], second[1] = 1, 8, -3, 90, 91
	list[0], list[1] = nil, bid(3)
	if unit, _ := next(); unit != want[1] {
		t.Errorf("with changes in between: %+v, not %+v", unit, want[1])
	}
	if got := slices.Collect(order); !slices.Equal(got, want) {
		t.Errorf("behind changes: %v, not %v", got, want)
	}
	list[0] = bid(3)
	for unit := range refused {
		t.Errorf("of bids that could not be: %+v", unit)
	}
}

// TestWanted: any numbers, in any order, those that are no coins too.
func TestWanted(t *testing.T) {
	wantWanted(t, 0, nil, 0)
	wantWanted(t, math.MinInt64, bids(), 0)
	wantWanted(t, math.MinInt64, bids(nil, bid()), 0)
	wantWanted(t, 5, bids(bid(4), bid(5), bid(6)), 2)
	wantWanted(t, 5, bids(bid(1, 5, 2, 6, 4), nil, bid(9)), 3)
	wantWanted(t, -2, bids(bid(-3, -2, -1)), 2)
	wantWanted(t, math.MinInt64, bids(bid(math.MinInt64, 0), bid(math.MaxInt64)), 3)
	wantWanted(t, math.MaxInt64, bids(bid(math.MinInt64, 0), bid(math.MaxInt64, math.MaxInt64-1)), 1)
	wantWanted(t, math.MinInt64+1, bids(bid(math.MinInt64)), 0)
	wantWanted(t, 3, bids(alike(api.MaxCount+5, 3)), api.MaxCount+5)
	wantWanted(t, 3, slices.Repeat(bids(bid(3, 2)), 5000), 5000)
}

// TestSpent: bids that are there and that are not, and sales by hand, whose product goes round.
func TestSpent(t *testing.T) {
	s := sale(5, 0, 1, 2, 0)
	for place, want := range []int64{5, 10, 0} {
		wantSpent(t, s, place, want, api.OK)
	}
	for _, place := range []int{math.MinInt64, -1, 3, 4, math.MaxInt64} {
		wantSpent(t, s, place, 0, api.ErrNone)
	}
	for _, place := range []int{-1, 0, 1} {
		wantSpent(t, api.UnitSale{}, place, 0, api.ErrNone)
		wantSpent(t, sale(5, -1), place, 0, api.ErrNone)
	}
	wantSpent(t, sale(api.MaxCoins, -1, api.MaxCount), 0, api.MaxCoins*api.MaxCount, api.OK)
	wantSpent(t, sale(-5, -7, 3, -2), 0, -15, api.OK)
	wantSpent(t, sale(-5, -7, 3, -2), 1, 10, api.OK)
	wantSpent(t, sale(math.MaxInt64, 9, 2), 0, -2, api.OK)
	wantSpent(t, sale(1<<62, 9, 4), 0, 0, api.OK)
	wantSpent(t, sale(math.MinInt64, 9, -1), 0, math.MinInt64, api.OK)
}

// TestBetter: fewer units, more, others' prices changed by it; what is beyond its own list is worth nothing to it.
func TestBetter(t *testing.T) {
	wantBetter(t, 2, 0, bids(bid(9), bid(5), bid(7)), 1, bid(8), 0, -2)
	wantBetter(t, 2, 0, bids(bid(9), bid(5), bid(7)), 0, bid(6), 4, 4)
	wantBetter(t, 2, 0, bids(bid(9), bid(5), bid(7)), 0, bid(5), 4, 4)
	wantBetter(t, 2, 0, bids(bid(9), bid(5), bid(7)), 0, bid(4), 4, 0)
	wantBetter(t, 2, 0, bids(bid(9)), 0, bid(9), 9, 9)
	wantBetter(t, 3, 4, bids(bid(9)), 0, bid(9, 9), 5, 1)
	wantBetter(t, 3, 4, bids(bid(9)), 0, bid(4, 4, 4), 5, -3)
	wantBetter(t, 3, 0, bids(bid(9, 8, 1), bid(6, 5)), 0, bid(9, 8), 7, 7)
	wantBetter(t, 3, 0, bids(bid(9, 8, 1), bid(6, 5)), 0, bid(9), 7, 9)
	wantBetter(t, 3, 0, bids(bid(9, 8, 1), bid(6, 5)), 0, bid(9, 9, 9), 7, 0)
	wantBetter(t, 3, 0, bids(bid(6, 5), bid(9, 8, 1)), 1, bid(9, 9, 9), 7, 0)
	wantBetter(t, api.MaxCount, 0, bids(alike(api.MaxCount, api.MaxCoins)), 0, bid(0), api.MaxCount*api.MaxCoins, api.MaxCoins)
	wantBetter(t, api.MaxCount, 0, bids(bid(0), alike(api.MaxCount, api.MaxCoins)), 0, alike(api.MaxCount, api.MaxCoins), 0, -api.MaxCount*api.MaxCoins)
}

// TestBetterErrors: what is told of the bids, of the other bid, and of who, where several are wrong.
func TestBetterErrors(t *testing.T) {
	good, low, wrong := bids(bid(9, 8), bid(7)), bids(bid(9, 4), bid(7)), bids(bid(9, 8), bid(7, 8))
	for _, c := range []struct {
		bids  [][]int64
		who   int
		other []int64
		want  api.Errno
	}{
		{good, 0, nil, api.ErrArg},
		{good, 1, bid(), api.ErrArg},
		{good, 0, bid(6, 7), api.ErrArg},
		{good, 0, bid(9, 9, 9), api.ErrArg},
		{good, 0, bid(-1), api.ErrArg},
		{good, 0, bid(api.MaxCoins + 1), api.ErrArg},
		{good, 0, bid(4), api.ErrLow},
		{good, 1, bid(6, 4), api.ErrLow},
		{good, -1, bid(6), api.ErrNone},
		{good, 2, bid(6), api.ErrNone},
		{good, math.MinInt64, bid(6), api.ErrNone},
		{good, math.MaxInt64, bid(6), api.ErrNone},
		{good, 2, nil, api.ErrNone},
		{good, -1, bid(6, 7), api.ErrNone},
		{good, 2, bid(4), api.ErrNone},
		{low, 0, bid(6), api.ErrLow},
		{low, 1, bid(6), api.ErrLow},
		{low, 0, bid(4), api.ErrLow},
		{low, 0, bid(6, 7), api.ErrArg},
		{low, 1, nil, api.ErrArg},
		{low, 2, bid(6), api.ErrNone},
		{low, -1, nil, api.ErrNone},
		{wrong, 0, bid(6), api.ErrArg},
		{wrong, 1, bid(6), api.ErrArg},
		{wrong, 1, bid(4), api.ErrArg},
		{wrong, 2, bid(6), api.ErrArg},
		{wrong, -1, bid(4), api.ErrArg},
		{nil, 0, nil, api.ErrNone},
		{nil, -1, bid(6), api.ErrNone},
	} {
		wantNotBetter(t, 2, 5, c.bids, c.who, c.other, c.want)
	}
	for _, count := range []int{-1, 0, api.MaxCount + 1} {
		wantNotBetter(t, count, 5, good, 0, bid(6), api.ErrArg)
		wantNotBetter(t, count, 5, nil, 0, nil, api.ErrArg)
	}
	for _, floor := range []int64{-1, api.MaxCoins + 1} {
		wantNotBetter(t, 2, floor, good, 0, bid(6), api.ErrArg)
		wantNotBetter(t, 2, floor, nil, -1, nil, api.ErrArg)
	}
}

// TestHandedIn: the lists that are handed in are as they were, the room behind them too.
func TestHandedIn(t *testing.T) {
	room := [][]int64{{9, 5, 2, 77, 78}, {7, 7, 79}, {6, 80}, {81}}
	before := make([][]int64, len(room))
	for i, list := range room {
		before[i] = slices.Clone(list)
	}
	list := [][]int64{room[0][:3], room[1][:2], room[2][:1], room[3]}
	other := room[1][:1]

	wantCheck(t, 3, 1, list[0], api.OK)
	wantSell(t, 3, 1, list[:2], sale(5, 0, 1, 2))
	for range units.Order(3, 1, list[:2]...) {
	}
	wantWanted(t, 5, list[:2], 4)
	wantBetter(t, 3, 1, list[:2], 0, other, 4, 8)
	for i := range room {
		if !slices.Equal(room[i], before[i]) {
			t.Errorf("the list %d is %v then", i, room[i])
		}
	}
	if len(list[0]) != 3 || len(list[1]) != 2 || &list[0][0] != &room[0][0] || &list[1][0] != &room[1][0] || &list[2][0] != &room[2][0] {
		t.Error("other lists are handed in then")
	}
}

// TestSellIsNew: what is answered shares nothing with the next answer, in its room neither.
func TestSellIsNew(t *testing.T) {
	list := bids(bid(9, 5, 2), bid(7, 7))
	first, _ := units.Sell(3, 1, list...)
	for i := range first.Won[:cap(first.Won)] {
		first.Won[:cap(first.Won)][i] = 77
	}
	wantSell(t, 3, 1, list, sale(5, 0, 1, 2))
}
