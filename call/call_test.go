package call_test

import (
	"iter"
	"math"
	"slices"
	"testing"

	"gavel/api"
	"gavel/call"
)

// wants makes wants of pairs: coins, how many units.
func wants(pairs ...int64) []api.Want {
	list := make([]api.Want, 0, len(pairs)/2)
	for i := 0; i < len(pairs); i += 2 {
		list = append(list, api.Want{Coins: pairs[i], Count: int(pairs[i+1])})
	}
	return list
}

// fills makes fills of triples: buyer, seller, how many units.
func fills(triples ...int) []api.Fill {
	list := make([]api.Fill, 0, len(triples)/3)
	for i := 0; i < len(triples); i += 3 {
		list = append(list, api.Fill{Buyer: triples[i], Seller: triples[i+1], Count: triples[i+2]})
	}
	return list
}

func called(traded, low, high, price int64, buys, sells []int) api.Called {
	return api.Called{Price: price, Traded: traded, Low: low, High: high, Buys: buys, Sells: sells}
}

func isSame(a, b api.Called) bool {
	return a.Price == b.Price && a.Traded == b.Traded && a.Low == b.Low && a.High == b.High && slices.Equal(a.Buys, b.Buys) && slices.Equal(a.Sells, b.Sells)
}

func wantCheck(t *testing.T, buys, sells []api.Want, want api.Errno) {
	t.Helper()
	if got := call.Check(buys, sells); got != want {
		t.Errorf("Check(%v, %v): %v, not %v", buys, sells, got, want)
	}
}

func wantClear(t *testing.T, buys, sells []api.Want, want api.Called) {
	t.Helper()
	if got, err := call.Clear(buys, sells); !isSame(got, want) || err != api.OK {
		t.Errorf("Clear(%v, %v): %+v, %v, not %+v", buys, sells, got, err, want)
	}
}

func wantFills(t *testing.T, buys, sells []api.Want, want ...api.Fill) {
	t.Helper()
	seq := call.Fills(buys, sells)
	for range 2 {
		if got := slices.Collect(seq); !slices.Equal(got, want) {
			t.Errorf("Fills(%v, %v): %v, not %v", buys, sells, got, want)
		}
	}
}

func wantGains(t *testing.T, buys, sells []api.Want, want int64) {
	t.Helper()
	if got, err := call.Gains(buys, sells); got != want || err != api.OK {
		t.Errorf("Gains(%v, %v): %d, %v, not %d", buys, sells, got, err, want)
	}
}

func wantAt(t *testing.T, buys, sells []api.Want, price, wanted, given int64, want api.Errno) {
	t.Helper()
	if gotWanted, gotGiven, err := call.At(buys, sells, price); gotWanted != wanted || gotGiven != given || err != want {
		t.Errorf("At(%v, %v, %d): %d, %d, %v, not %d, %d, %v", buys, sells, price, gotWanted, gotGiven, err, wanted, given, want)
	}
}

func wantSplit(t *testing.T, c api.Called, want int64) {
	t.Helper()
	if pays, gets := call.Split(c); pays != want || gets != want {
		t.Errorf("Split(%+v): %d, %d, not %d", c, pays, gets, want)
	}
}

// wantRefused asks each call of wants that may not be.
func wantRefused(t *testing.T, buys, sells []api.Want, want api.Errno) {
	t.Helper()
	wantCheck(t, buys, sells, want)
	if got, err := call.Clear(buys, sells); !isSame(got, api.Called{}) || err != want {
		t.Errorf("Clear(%v, %v): %+v, %v, not %v", buys, sells, got, err, want)
	}
	wantFills(t, buys, sells)
	if got, err := call.Gains(buys, sells); got != 0 || err != want {
		t.Errorf("Gains(%v, %v): %d, %v, not %v", buys, sells, got, err, want)
	}
	for _, price := range []int64{0, 9, -1, api.MaxCoins + 1} {
		wantAt(t, buys, sells, price, 0, 0, want)
	}
}

// TestExamples: the rows of the chapter's table, in their order.
func TestExamples(t *testing.T) {
	buys, sells := wants(10, 2, 8, 1), wants(5, 1, 9, 3)
	wantClear(t, buys, sells, called(2, 9, 9, 9, []int{2, 0}, []int{1, 1}))

	wantClear(t, wants(10, 1), wants(4, 1), called(1, 4, 10, 7, []int{1}, []int{1}))
	wantClear(t, wants(5, 1), wants(5, 1), called(1, 5, 5, 5, []int{1}, []int{1}))

	wantClear(t, wants(3, 1), wants(4, 1), called(0, 0, 0, 0, []int{0}, []int{0}))
	wantClear(t, nil, wants(4, 1), called(0, 0, 0, 0, nil, []int{0}))

	wantClear(t, wants(9, 1, 9, 1), wants(2, 1), called(1, 9, 9, 9, []int{1, 0}, []int{1}))

	wantFills(t, buys, sells, fills(0, 0, 1, 0, 1, 1)...)

	wantGains(t, buys, sells, 6)
	wantAt(t, buys, sells, 9, 2, 4, api.OK)
	wantAt(t, buys, sells, -1, 0, 0, api.ErrArg)

	wantCheck(t, wants(5, 0), nil, api.ErrArg)
	wantCheck(t, wants(-1, 1), nil, api.ErrArg)
}

// TestCheck: coins and counts at their bounds, and one past them, on either side and at each place among others.
func TestCheck(t *testing.T) {
	wantCheck(t, nil, nil, api.OK)
	wantCheck(t, wants(), wants(), api.OK)
	wantRefused(t, make([]api.Want, 1), nil, api.ErrArg)
	good := wants(7, 2, 9, 1, 8, 3)
	for _, c := range []struct {
		coins int64
		count int
		want  api.Errno
	}{
		{0, 1, api.OK},
		{1, 1, api.OK},
		{api.MaxCoins, 1, api.OK},
		{0, api.MaxCount, api.OK},
		{api.MaxCoins, api.MaxCount, api.OK},
		{-1, 1, api.ErrArg},
		{math.MinInt64, 1, api.ErrArg},
		{api.MaxCoins + 1, 1, api.ErrArg},
		{math.MaxInt64, 1, api.ErrArg},
		{5, 0, api.ErrArg},
		{5, -1, api.ErrArg},
		{5, math.MinInt64, api.ErrArg},
		{5, api.MaxCount + 1, api.ErrArg},
		{5, math.MaxInt64, api.ErrArg},
	} {
		for place := range len(good) + 1 {
			list := slices.Insert(slices.Clone(good), place, api.Want{Coins: c.coins, Count: c.count})
			for _, other := range [][]api.Want{nil, good} {
				wantCheck(t, list, other, c.want)
				wantCheck(t, other, list, c.want)
				if c.want != api.OK {
					wantRefused(t, list, other, c.want)
					wantRefused(t, other, list, c.want)
				}
			}
		}
	}
}

// alike is so many wants that are the same.
func alike(length int, coins int64, count int) []api.Want {
	return slices.Repeat([]api.Want{{Coins: coins, Count: count}}, length)
}

// TestLong: as many on either side as may be, and one more, which is told ahead of what may not be.
func TestLong(t *testing.T) {
	most, more := alike(api.MaxSide, 5, 1), alike(api.MaxSide+1, 5, 1)
	wrong, few := alike(api.MaxSide+1, -1, 0), wants(6, 1)
	for _, list := range [][]api.Want{nil, few, most} {
		wantCheck(t, most, list, api.OK)
		wantCheck(t, list, most, api.OK)
		wantRefused(t, more, list, api.ErrLong)
		wantRefused(t, list, more, api.ErrLong)
	}
	wantRefused(t, more, more, api.ErrLong)
	wantRefused(t, wrong, few, api.ErrLong)
	wantRefused(t, few, wrong, api.ErrLong)
	wantRefused(t, more, wants(-1, 1), api.ErrLong)
	wantRefused(t, wants(5, 0), more, api.ErrLong)
	wantRefused(t, alike(api.MaxSide, 5, 0), nil, api.ErrArg)
}

// TestGreatest: the most units there are, for the most coins: the gains are the greatest that can be.
func TestGreatest(t *testing.T) {
	const units = api.MaxSide * api.MaxCount
	buys, sells := alike(api.MaxSide, api.MaxCoins, api.MaxCount), alike(api.MaxSide, 0, api.MaxCount)
	all := slices.Repeat([]int{api.MaxCount}, api.MaxSide)
	c := called(units, 0, api.MaxCoins, api.MaxCoins/2, all, all)
	wantClear(t, buys, sells, c)
	wantGains(t, buys, sells, units*api.MaxCoins)
	wantAt(t, buys, sells, api.MaxCoins, units, units, api.OK)
	wantAt(t, buys, sells, 0, units, units, api.OK)
	wantSplit(t, c, units*api.MaxCoins/2)

	next := 0
	for fill := range call.Fills(buys, sells) {
		if want := (api.Fill{Buyer: next, Seller: next, Count: api.MaxCount}); fill != want {
			t.Fatalf("the fill %d is %+v", next, fill)
		}
		next++
	}
	if next != api.MaxSide {
		t.Errorf("%d fills", next)
	}
	wantClear(t, sells, alike(api.MaxSide, api.MaxCoins, api.MaxCount), called(0, 0, 0, 0, make([]int, api.MaxSide), make([]int, api.MaxSide)))
}

// TestClear: which of four coins Low and High are, rounding, ties, wants that trade in part, numbers at their bounds.
func TestClear(t *testing.T) {
	for _, c := range []struct {
		buys, sells []api.Want
		want        api.Called
	}{
		{nil, nil, called(0, 0, 0, 0, nil, nil)},
		{wants(4, 1), nil, called(0, 0, 0, 0, []int{0}, nil)},
		{wants(api.MaxCoins-1, 3), wants(api.MaxCoins, 3), called(0, 0, 0, 0, []int{0}, []int{0})},
		// Low: the sellers' last traded unit, the buyers' next one, of the same buyer too; likewise High.
		{wants(20, 1, 3, 1), wants(5, 1, 30, 1), called(1, 5, 20, 12, []int{1, 0}, []int{1, 0})},
		{wants(20, 1, 8, 1), wants(5, 1, 30, 1), called(1, 8, 20, 14, []int{1, 0}, []int{1, 0})},
		{wants(20, 2), wants(5, 1, 30, 1), called(1, 20, 20, 20, []int{1}, []int{1, 0})},
		{wants(20, 1, 8, 1), wants(5, 1, 13, 1), called(1, 8, 13, 10, []int{1, 0}, []int{1, 0})},
		{wants(20, 1, 3, 1), wants(5, 1, 13, 1), called(1, 5, 13, 9, []int{1, 0}, []int{1, 0})},
		{wants(20, 1), wants(5, 2), called(1, 5, 5, 5, []int{1}, []int{1})},
		{wants(20, 1, 8, 1), wants(13, 1, 5, 1), called(1, 8, 13, 10, []int{1, 0}, []int{0, 1})},
		{wants(8, 1, 20, 1), wants(5, 1, 13, 1), called(1, 8, 13, 10, []int{0, 1}, []int{1, 0})},
		// The next unit is not the last one that there is.
		{wants(20, 1, 8, 1, 6, 1), wants(5, 1, 30, 1), called(1, 8, 20, 14, []int{1, 0, 0}, []int{1, 0})},
		{wants(20, 1, 6, 1, 8, 1), wants(5, 1, 40, 1, 12, 1), called(1, 8, 12, 10, []int{1, 0, 0}, []int{1, 0, 0})},
		// Half is rounded down.
		{wants(10, 1), wants(5, 1), called(1, 5, 10, 7, []int{1}, []int{1})},
		{wants(11, 1), wants(5, 1), called(1, 5, 11, 8, []int{1}, []int{1})},
		{wants(6, 1), wants(5, 1), called(1, 5, 6, 5, []int{1}, []int{1})},
		{wants(1, 1), wants(0, 1), called(1, 0, 1, 0, []int{1}, []int{1})},
		{wants(0, 1), wants(0, 1), called(1, 0, 0, 0, []int{1}, []int{1})},
		{wants(api.MaxCoins, 1), wants(api.MaxCoins, 1), called(1, api.MaxCoins, api.MaxCoins, api.MaxCoins, []int{1}, []int{1})},
		{wants(api.MaxCoins, 1), wants(api.MaxCoins-1, 1), called(1, api.MaxCoins-1, api.MaxCoins, api.MaxCoins-1, []int{1}, []int{1})},
		{wants(api.MaxCoins, 2), wants(0, 2), called(2, 0, api.MaxCoins, api.MaxCoins/2, []int{2}, []int{2})},
		// Of the same coins who came earlier.
		{wants(9, 2, 9, 2, 9, 2), wants(4, 3), called(3, 9, 9, 9, []int{2, 1, 0}, []int{3})},
		{wants(9, 3), wants(4, 2, 4, 2, 4, 2), called(3, 4, 4, 4, []int{3}, []int{2, 1, 0})},
		{wants(8, 2, 9, 2, 9, 2), wants(4, 3), called(3, 9, 9, 9, []int{0, 2, 1}, []int{3})},
		{wants(9, 3), wants(5, 2, 4, 2, 4, 2), called(3, 4, 4, 4, []int{3}, []int{0, 2, 1})},
		// One is traded in part, both are, or neither is.
		{wants(9, 5), wants(4, 2, 6, 2), called(4, 9, 9, 9, []int{4}, []int{2, 2})},
		{wants(9, 2, 7, 2), wants(4, 5), called(4, 4, 4, 4, []int{2, 2}, []int{4})},
		{wants(9, 2, 7, 5), wants(4, 4, 7, 5), called(7, 7, 7, 7, []int{2, 5}, []int{4, 3})},
		{wants(9, 2, 7, 2), wants(4, 3, 8, 2), called(3, 7, 7, 7, []int{2, 1}, []int{3, 0})},
		{wants(9, 3, 7, 2), wants(4, 2, 8, 2), called(3, 8, 8, 8, []int{3, 0}, []int{2, 1})},
		{wants(9, 2, 6, 2), wants(4, 2, 8, 2), called(2, 6, 8, 7, []int{2, 0}, []int{2, 0})},
		{wants(9, api.MaxCount), wants(4, api.MaxCount), called(api.MaxCount, 4, 9, 6, []int{api.MaxCount}, []int{api.MaxCount})},
	} {
		wantClear(t, c.buys, c.sells, c.want)
		wantSplit(t, c.want, c.want.Price*c.want.Traded)
	}
}

// TestFills: each with each who trade units of the same place, in the order of the units.
func TestFills(t *testing.T) {
	wantFills(t, nil, nil)
	wantFills(t, wants(5, 1), nil)
	wantFills(t, nil, wants(5, 1))
	wantFills(t, wants(5, 3), wants(6, 3))
	wantFills(t, wants(5, 1), wants(5, 1), fills(0, 0, 1)...)
	wantFills(t, wants(5, 3), wants(5, 2), fills(0, 0, 2)...)
	wantFills(t, wants(5, 2), wants(5, 3), fills(0, 0, 2)...)
	wantFills(t, wants(5, 3, 9, 2), wants(6, 2, 3, 1, 4, 3), fills(1, 1, 1, 1, 2, 1, 0, 2, 2)...)
	wantFills(t, wants(9, 4), wants(1, 1, 1, 1, 1, 1), fills(0, 0, 1, 0, 1, 1, 0, 2, 1)...)
	wantFills(t, wants(9, 1, 9, 1, 9, 1), wants(1, 4), fills(0, 0, 1, 1, 0, 1, 2, 0, 1)...)
	wantFills(t, wants(9, 2, 9, 2, 9, 2), wants(1, 3, 1, 3), fills(0, 0, 2, 1, 0, 1, 1, 1, 1, 2, 1, 2)...)
	wantFills(t, wants(9, 2, 4, 2), wants(3, 3, 5, 2), fills(0, 0, 2, 1, 0, 1)...)
	wantFills(t, wants(0, 1, api.MaxCoins, api.MaxCount), wants(api.MaxCoins, 1, 0, api.MaxCount), fills(1, 1, api.MaxCount)...)
}

// TestFillsLeft: it may be left anywhere, gone over again, and within one another.
func TestFillsLeft(t *testing.T) {
	seq := call.Fills(wants(9, 2, 9, 2, 9, 2), wants(1, 3, 1, 3))
	all := slices.Collect(seq)
	for n := 1; n <= 4; n++ {
		var got []api.Fill
		for fill := range seq {
			got = append(got, fill)
			if len(got) == n {
				break
			}
		}
		if !slices.Equal(got, all[:n]) {
			t.Errorf("left behind %d fills: %v", n, got)
		}
	}
	pairs := 0
	for a := range seq {
		for b := range seq {
			if a == b {
				break
			}
			pairs++
		}
	}
	if pairs != 6 {
		t.Errorf("%d pairs of fills, one ahead of the other", pairs)
	}

	next, stop := iter.Pull(seq)
	defer stop()
	for _, want := range all {
		fill, more := next()
		if fill != want || !more || !slices.Equal(slices.Collect(seq), all) {
			t.Errorf("step by step: %+v, not %+v", fill, want)
		}
	}
	if fill, more := next(); more {
		t.Errorf("behind the last one: %+v", fill)
	}
}

// TestFillsWhenCalled: the fills are those of the wants when Fills is called, whatever becomes of the lists then; of wants that could not be then nothing is ever told.
func TestFillsWhenCalled(t *testing.T) {
	buys, sells := wants(9, 2, 9, 2, 9, 2), wants(1, 3, 1, 3)
	wrong := wants(9, 0)
	seq, refused := call.Fills(buys, sells), call.Fills(wrong, sells)
	want := slices.Collect(call.Fills(buys, sells))

	next, stop := iter.Pull(seq)
	defer stop()
	next()
	buys[0], buys[1], buys[2] = api.Want{Coins: 3, Count: 1}, api.Want{Coins: -1, Count: 99}, api.Want{}
	sells[0], sells[1] = api.Want{Coins: 8, Count: -2}, api.Want{Coins: 0, Count: 1}
	wrong[0].Count = 1
	if fill, _ := next(); fill != want[1] {
		t.Errorf("with changes in between: %+v, not %+v", fill, want[1])
	}
	for range 2 {
		if got := slices.Collect(seq); !slices.Equal(got, want) {
			t.Errorf("behind changes: %v, not %v", got, want)
		}
	}
	for fill := range refused {
		t.Errorf("of wants that could not be: %+v", fill)
	}
}

// TestGains: what is traded alone counts, by each one's own coins.
func TestGains(t *testing.T) {
	wantGains(t, nil, nil, 0)
	wantGains(t, wants(9, 1), nil, 0)
	wantGains(t, nil, wants(0, 1), 0)
	wantGains(t, wants(3, 9), wants(4, 9), 0)
	wantGains(t, wants(4, 9), wants(4, 9), 0)
	wantGains(t, wants(5, 9), wants(4, 7), 7)
	wantGains(t, wants(9, 2, 7, 2), wants(8, 2, 4, 3), 13)
	wantGains(t, wants(api.MaxCoins, api.MaxCount), wants(0, api.MaxCount), api.MaxCount*api.MaxCoins)
}

// TestAt: prices at their bounds and one past them, and just at the coins of wants, above and below.
func TestAt(t *testing.T) {
	buys, sells := wants(10, 2, 8, 1, 10, 4), wants(5, 1, 9, 3, 9, 7)
	for _, c := range []struct{ price, wanted, given int64 }{
		{0, 7, 0}, {4, 7, 0}, {5, 7, 1}, {6, 7, 1}, {7, 7, 1}, {8, 7, 1}, {9, 6, 11}, {10, 6, 11}, {11, 0, 11}, {api.MaxCoins, 0, 11},
	} {
		wantAt(t, buys, sells, c.price, c.wanted, c.given, api.OK)
	}
	ends := wants(0, 2, api.MaxCoins, 3)
	wantAt(t, ends, ends, 0, 5, 2, api.OK)
	wantAt(t, ends, ends, 1, 3, 2, api.OK)
	wantAt(t, ends, ends, api.MaxCoins-1, 3, 2, api.OK)
	wantAt(t, ends, ends, api.MaxCoins, 3, 5, api.OK)
	for _, list := range [][]api.Want{nil, wants(), ends} {
		for _, price := range []int64{math.MinInt64, -1, api.MaxCoins + 1, math.MaxInt64} {
			wantAt(t, list, list, price, 0, 0, api.ErrArg)
		}
	}
	wantAt(t, nil, nil, 0, 0, 0, api.OK)
	wantAt(t, nil, nil, api.MaxCoins, 0, 0, api.OK)
}

// TestSplit: calls by hand, whose products go round; what else stands there does not count.
func TestSplit(t *testing.T) {
	wantSplit(t, api.Called{}, 0)
	for _, c := range []struct{ price, traded, want int64 }{
		{9, 2, 18},
		{0, 5, 0},
		{5, 0, 0},
		{-3, 5, -15},
		{-3, -5, 15},
		{1 << 40, 1 << 23, math.MinInt64},
		{1 << 40, 1 << 24, 0},
		{math.MaxInt64, 2, -2},
		{math.MinInt64, -1, math.MinInt64},
		{math.MinInt64, math.MinInt64, 0},
		{math.MaxInt64, math.MaxInt64, 1},
	} {
		wantSplit(t, api.Called{Price: c.price, Traded: c.traded}, c.want)
		wantSplit(t, called(c.traded, 1, 2, c.price, []int{7}, []int{8, 9}), c.want)
	}
}

// TestHandedIn: the lists that are handed in are as they were, the room behind them too.
func TestHandedIn(t *testing.T) {
	buys, sells := wants(8, 1, 10, 2, 10, 1, 77, 7), wants(9, 3, 5, 1, 78, 8)
	buysBefore, sellsBefore := slices.Clone(buys), slices.Clone(sells)
	b, s := buys[:3], sells[:2]
	wantCheck(t, b, s, api.OK)
	wantClear(t, b, s, called(3, 9, 9, 9, []int{0, 2, 1}, []int{2, 1}))
	wantFills(t, b, s, fills(1, 1, 1, 1, 0, 1, 2, 0, 1)...)
	wantGains(t, b, s, 7)
	wantAt(t, b, s, 9, 3, 4, api.OK)
	if !slices.Equal(buys, buysBefore) || !slices.Equal(sells, sellsBefore) {
		t.Errorf("the lists are %v, %v then", buys, sells)
	}

	c := called(3, 9, 9, 9, []int{0, 2, 1}, []int{2, 1})
	wantSplit(t, c, 27)
	if !isSame(c, called(3, 9, 9, 9, []int{0, 2, 1}, []int{2, 1})) {
		t.Errorf("the call is %+v then", c)
	}
}

// TestClearIsNew: what is answered shares nothing with the next answer, nor its two lists with each other, in their room neither; and one list that is handed in for both sides is as two.
func TestClearIsNew(t *testing.T) {
	both := wants(5, 2, 5, 1)
	want := called(3, 5, 5, 5, []int{2, 1}, []int{2, 1})
	first, _ := call.Clear(both, both)
	buys, sells := first.Buys[:cap(first.Buys)], first.Sells[:cap(first.Sells)]
	for i := range buys {
		buys[i] = 77
	}
	if !slices.Equal(first.Sells, want.Sells) {
		t.Errorf("the sells are %v then", first.Sells)
	}
	for i := range sells {
		sells[i] = 78
	}
	if buys[0] != 77 {
		t.Errorf("the buys are %v then", buys)
	}
	wantClear(t, both, both, want)
	wantFills(t, both, both, fills(0, 0, 2, 1, 1, 1)...)
}
