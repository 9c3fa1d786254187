package ladder_test

import (
	"math"
	"testing"

	"gavel/api"
	"gavel/ladder"
)

// lot is the one of the chapter's examples.
func lot() api.Lot {
	return api.Lot{Kind: api.Rising, Closes: 100, Start: 10, Step: 5, Extend: 10, Last: 200}
}

// changed is a lot with one change.
func changed(l api.Lot, change func(*api.Lot)) api.Lot {
	change(&l)
	return l
}

func rise(leader int, limit, price, closes int64) api.Rise {
	return api.Rise{Leader: leader, Limit: limit, Price: price, Closes: closes}
}

func bid(bidder int, limit, free, now int64) api.RiseBid {
	return api.RiseBid{Bidder: bidder, Limit: limit, Free: free, Now: now}
}

// wantLot asks whether a lot may be, by each call that tells it of the lot alone.
func wantLot(t *testing.T, l api.Lot, want api.Errno) {
	t.Helper()
	if got := ladder.Check(l); got != want {
		t.Errorf("Check(%+v): %v, not %v", l, got, want)
	}
	var begin api.Rise
	if want == api.OK {
		begin = rise(-1, 0, 0, l.Closes)
	}
	if r, err := ladder.Begin(l); r != begin || err != want {
		t.Errorf("Begin(%+v): %+v, %v, not %+v, %v", l, r, err, begin, want)
	}
	if got := ladder.Right(l, rise(-1, 0, 0, l.Closes)); got != (want == api.OK) {
		t.Errorf("Right(%+v), nobody having bid: %v", l, got)
	}
	if r, n, err := ladder.Run(l); r != begin || n != 0 || err != want {
		t.Errorf("Run(%+v): %+v, %d, %v, not %+v, 0, %v", l, r, n, err, begin, want)
	}
}

func wantRight(t *testing.T, l api.Lot, r api.Rise, want bool) {
	t.Helper()
	if got := ladder.Right(l, r); got != want {
		t.Errorf("Right(%+v, %+v): %v, not %v", l, r, got, want)
	}
}

func wantLeast(t *testing.T, l api.Lot, r api.Rise, bidder int, want int64, wantErr api.Errno) {
	t.Helper()
	if got, err := ladder.Least(l, r, bidder); got != want || err != wantErr {
		t.Errorf("Least(%+v, %+v, %d): %d, %v, not %d, %v", l, r, bidder, got, err, want, wantErr)
	}
}

func wantBid(t *testing.T, l api.Lot, r api.Rise, b api.RiseBid, want api.Rise) {
	t.Helper()
	if got, err := ladder.Bid(l, r, b); got != want || err != api.OK {
		t.Errorf("Bid(%+v, %+v, %+v): %+v, %v, not %+v", l, r, b, got, err, want)
	}
}

// wantRefused asks for an error, and for nothing beside it.
func wantRefused(t *testing.T, l api.Lot, r api.Rise, b api.RiseBid, want api.Errno) {
	t.Helper()
	if got, err := ladder.Bid(l, r, b); got != (api.Rise{}) || err != want {
		t.Errorf("Bid(%+v, %+v, %+v): %+v, %v, not %v", l, r, b, got, err, want)
	}
}

func wantEnd(t *testing.T, l api.Lot, r api.Rise, want int, wantPays int64, wantOK bool) {
	t.Helper()
	if got, pays, ok := ladder.End(l, r); got != want || pays != wantPays || ok != wantOK {
		t.Errorf("End(%+v, %+v): %d, %d, %v, not %d, %d, %v", l, r, got, pays, ok, want, wantPays, wantOK)
	}
}

func TestExamples(t *testing.T) {
	l := lot()
	r, err := ladder.Begin(l)
	if r != rise(-1, 0, 0, 100) || err != api.OK {
		t.Fatalf("Begin: %+v, %v", r, err)
	}
	wantBid(t, l, r, bid(1, 30, 30, 0), rise(1, 30, 10, 100))

	r = rise(1, 30, 10, 100)
	wantRefused(t, l, r, bid(2, 14, 99, 5), api.ErrLow)
	wantRefused(t, l, r, bid(2, 20, 19, 5), api.ErrBudget)
	wantBid(t, l, r, bid(2, 20, 99, 5), rise(1, 30, 25, 100))
	wantBid(t, l, rise(1, 30, 25, 100), bid(2, 30, 99, 95), rise(1, 30, 30, 105))
	wantBid(t, l, rise(1, 30, 30, 105), bid(2, 40, 99, 104), rise(2, 40, 35, 114))

	r = rise(2, 40, 35, 114)
	wantRefused(t, l, r, bid(2, 40, 99, 105), api.ErrLow)
	wantBid(t, l, r, bid(2, 41, 1, 105), rise(2, 41, 35, 115))
	wantRefused(t, l, rise(2, 41, 35, 115), bid(1, 39, 99, 105), api.ErrLow)
	wantRefused(t, l, rise(2, 41, 35, 115), bid(1, 50, 50, 115), api.ErrTime)
	wantEnd(t, l, rise(2, 41, 35, 115), 2, 35, true)
}

// The examples 2 and 3 of the whole.
func TestExamplesOfTheHouse(t *testing.T) {
	l := api.Lot{Kind: api.Rising, Closes: 100, Start: 10, Step: 5, Last: 100}
	r, _ := ladder.Begin(l)
	for _, step := range []struct {
		b    api.RiseBid
		want api.Rise
	}{
		{bid(0, 60, 100, 0), rise(0, 60, 10, 100)},
		{bid(1, 30, 100, 0), rise(0, 60, 35, 100)},
		{bid(1, 60, 100, 0), rise(0, 60, 60, 100)},
		{bid(1, 65, 100, 0), rise(1, 65, 65, 100)},
	} {
		wantBid(t, l, r, step.b, step.want)
		r = step.want
	}

	l.Extend, l.Last = 10, 115
	wantBid(t, l, rise(-1, 0, 0, 100), bid(0, 10, 10, 95), rise(0, 10, 10, 105))
	wantBid(t, l, rise(0, 10, 10, 105), bid(1, 15, 15, 104), rise(1, 15, 15, 114))
	wantBid(t, l, rise(1, 15, 15, 114), bid(0, 20, 20, 113), rise(0, 20, 20, 115))
}

// P9.1: each number of a lot, at its bounds and one past them.
func TestLotsAtTheirBounds(t *testing.T) {
	least := api.Lot{Kind: api.Rising, Closes: 1, Step: 1, Last: 1}
	most := api.Lot{Kind: api.Rising, Opens: api.MaxTick - 1, Closes: api.MaxTick, Start: api.MaxCoins, Step: api.MaxCoins, Extend: api.MaxTick, Last: api.MaxTick}
	wantLot(t, lot(), api.OK)
	wantLot(t, least, api.OK)
	wantLot(t, most, api.OK)
	wantLot(t, api.Lot{}, api.ErrArg)
	wantLot(t, api.Lot{Kind: api.Rising}, api.ErrArg)

	for name, set := range map[string]func(*api.Lot, int64){
		"Opens":  func(l *api.Lot, x int64) { l.Opens = x },
		"Closes": func(l *api.Lot, x int64) { l.Closes = x },
		"Start":  func(l *api.Lot, x int64) { l.Start = x },
		"Step":   func(l *api.Lot, x int64) { l.Step = x },
		"Extend": func(l *api.Lot, x int64) { l.Extend = x },
		"Last":   func(l *api.Lot, x int64) { l.Last = x },
	} {
		for _, x := range []int64{math.MinInt64, -1 << 40, -1, api.MaxCoins + 1, 1 << 41, math.MaxInt64} {
			for _, l := range []api.Lot{lot(), least, most} {
				set(&l, x)
				if ladder.Check(l) != api.ErrArg {
					t.Errorf("%s %d goes", name, x)
				}
				wantLot(t, l, api.ErrArg)
			}
		}
	}
	for _, x := range []struct {
		change func(*api.Lot)
		want   api.Errno
	}{
		{func(l *api.Lot) { l.Opens = 99 }, api.OK},
		{func(l *api.Lot) { l.Opens = 100 }, api.ErrArg},
		{func(l *api.Lot) { l.Opens = 101 }, api.ErrArg},
		{func(l *api.Lot) { l.Closes = 0 }, api.ErrArg},
		{func(l *api.Lot) { l.Closes = 1 }, api.OK},
		{func(l *api.Lot) { l.Closes = 200 }, api.OK},
		{func(l *api.Lot) { l.Closes = 201 }, api.ErrArg},
		{func(l *api.Lot) { l.Last = 100 }, api.OK},
		{func(l *api.Lot) { l.Last = 99 }, api.ErrArg},
		{func(l *api.Lot) { l.Last = 0 }, api.ErrArg},
		{func(l *api.Lot) { l.Last = api.MaxTick }, api.OK},
		{func(l *api.Lot) { l.Start = 0 }, api.OK},
		{func(l *api.Lot) { l.Start = api.MaxCoins }, api.OK},
		{func(l *api.Lot) { l.Step = 0 }, api.ErrArg},
		{func(l *api.Lot) { l.Step = 1 }, api.OK},
		{func(l *api.Lot) { l.Step = api.MaxCoins }, api.OK},
		{func(l *api.Lot) { l.Extend = 0 }, api.OK},
		{func(l *api.Lot) { l.Extend = api.MaxTick }, api.OK},
	} {
		wantLot(t, changed(lot(), x.change), x.want)
	}
}

// P9.1: another kind, and fields that the kind does not name.
func TestLotsOfOtherKinds(t *testing.T) {
	for _, kind := range []api.LotKind{math.MinInt, -1, 0, api.Falling, api.Sealed, api.Units, api.Package, 6, math.MaxInt} {
		wantLot(t, changed(lot(), func(l *api.Lot) { l.Kind = kind }), api.ErrArg)
	}
	for _, change := range []func(*api.Lot){
		func(l *api.Lot) { l.Floor = 1 },
		func(l *api.Lot) { l.Floor = -1 },
		func(l *api.Lot) { l.Floor = math.MinInt64 },
		func(l *api.Lot) { l.Fall = 1 },
		func(l *api.Lot) { l.Fall = -1 },
		func(l *api.Lot) { l.Count = 1 },
		func(l *api.Lot) { l.Count = -1 },
		func(l *api.Lot) { l.Rule = api.Costs },
		func(l *api.Lot) { l.Rule = api.Core },
		func(l *api.Lot) { l.Rule = -1 },
	} {
		wantLot(t, changed(lot(), change), api.ErrArg)
	}
}

// P9.1: each number of a rise, at its bounds and one past them.
func TestRightAtItsBounds(t *testing.T) {
	for _, x := range []struct {
		r    api.Rise
		want bool
	}{
		{rise(-1, 0, 0, 100), true},
		{rise(-1, 0, 0, 99), false},
		{rise(-1, 0, 0, 101), false},
		{rise(-1, 0, 0, 200), false},
		{rise(-1, 1, 0, 100), false},
		{rise(-1, 0, 1, 100), false},
		{rise(-1, 10, 10, 100), false},
		{rise(-1, -1, 0, 100), false},
		{rise(-1, 0, -1, 100), false},
		{rise(-2, 0, 0, 100), false},
		{rise(-2, 30, 20, 100), false},
		{rise(math.MinInt, 30, 20, 100), false},
		{rise(0, 0, 0, 100), false},
		{rise(0, 30, 20, 100), true},
		{rise(math.MaxInt, 30, 20, 100), true},
		{rise(1, 30, 10, 100), true},
		{rise(1, 30, 9, 100), false},
		{rise(1, 30, 30, 100), true},
		{rise(1, 30, 31, 100), false},
		{rise(1, 10, 10, 100), true},
		{rise(1, 9, 9, 100), false},
		{rise(1, 9, 10, 100), false},
		{rise(1, -1, 10, 100), false},
		{rise(1, 30, -10, 100), false},
		{rise(1, 30, math.MinInt64, 100), false},
		{rise(1, math.MinInt64, 10, 100), false},
		{rise(1, api.MaxCoins, 10, 100), true},
		{rise(1, api.MaxCoins, api.MaxCoins, 100), true},
		{rise(1, api.MaxCoins+1, 10, 100), false},
		{rise(1, api.MaxCoins+1, api.MaxCoins+1, 100), false},
		{rise(1, math.MaxInt64, math.MaxInt64, 100), false},
		{rise(1, 30, 20, 99), false},
		{rise(1, 30, 20, 101), true},
		{rise(1, 30, 20, 200), true},
		{rise(1, 30, 20, 201), false},
		{rise(1, 30, 20, -100), false},
		{rise(1, 30, 20, math.MinInt64), false},
		{rise(1, 30, 20, math.MaxInt64), false},
		{api.Rise{}, false},
	} {
		wantRight(t, lot(), x.r, x.want)
		wantRight(t, changed(lot(), func(l *api.Lot) { l.Step = 0 }), x.r, false)
	}
	free := changed(lot(), func(l *api.Lot) { l.Start = 0 })
	wantRight(t, free, rise(0, 0, 0, 100), true)
	wantRight(t, free, rise(0, 0, -1, 100), false)
	wantRight(t, free, rise(0, -1, -1, 100), false)
	wantRight(t, changed(lot(), func(l *api.Lot) { l.Last = 100 }), rise(1, 30, 20, 101), false)
	wantRight(t, api.Lot{}, api.Rise{}, false)
	wantRight(t, api.Lot{}, rise(-1, 0, 0, 0), false)
}

// P9.2.
func TestLeast(t *testing.T) {
	l := lot()
	for _, bidder := range []int{0, 1, 2, math.MaxInt} {
		wantLeast(t, l, rise(-1, 0, 0, 100), bidder, 10, api.OK)
	}
	wantLeast(t, l, rise(1, 30, 10, 100), 1, 31, api.OK)
	wantLeast(t, l, rise(1, 30, 10, 100), 0, 15, api.OK)
	wantLeast(t, l, rise(1, 30, 10, 100), 2, 15, api.OK)
	wantLeast(t, l, rise(1, 30, 30, 100), 2, 35, api.OK)
	wantLeast(t, l, rise(0, 30, 25, 100), 0, 31, api.OK)
	wantLeast(t, l, rise(0, 30, 25, 100), 1, 30, api.OK)
	wantLeast(t, l, rise(math.MaxInt, 30, 25, 100), math.MaxInt, 31, api.OK)
	wantLeast(t, l, rise(math.MaxInt, 30, 25, 100), math.MaxInt-1, 30, api.OK)

	wantLeast(t, changed(l, func(l *api.Lot) { l.Start = 0 }), rise(-1, 0, 0, 100), 0, 0, api.OK)
	wantLeast(t, changed(l, func(l *api.Lot) { l.Start = 0 }), rise(1, 0, 0, 100), 1, 1, api.OK)
	wantLeast(t, changed(l, func(l *api.Lot) { l.Start = api.MaxCoins }), rise(-1, 0, 0, 100), 0, api.MaxCoins, api.OK)
}

func TestLeastMayBeAboveAllCoins(t *testing.T) {
	l := changed(lot(), func(l *api.Lot) { l.Step = api.MaxCoins })
	r := rise(1, api.MaxCoins, api.MaxCoins, 100)
	wantLeast(t, l, r, 1, api.MaxCoins+1, api.OK)
	wantLeast(t, l, r, 2, 2*api.MaxCoins, api.OK)
	wantRefused(t, l, r, bid(1, api.MaxCoins, math.MaxInt64, 0), api.ErrLow)
	wantRefused(t, l, r, bid(2, api.MaxCoins, math.MaxInt64, 0), api.ErrLow)
	wantRefused(t, l, r, bid(1, api.MaxCoins+1, math.MaxInt64, 0), api.ErrArg)
	wantRefused(t, l, r, bid(2, 2*api.MaxCoins, math.MaxInt64, 0), api.ErrArg)
}

func TestLeastOfWhatMayNotBe(t *testing.T) {
	wrong := changed(lot(), func(l *api.Lot) { l.Last = 99 })
	wantLeast(t, wrong, rise(-1, 0, 0, 100), 0, 0, api.ErrArg)
	wantLeast(t, lot(), rise(-1, 0, 0, 101), 0, 0, api.ErrArg)
	wantLeast(t, lot(), rise(-1, 7, 7, 100), 0, 0, api.ErrArg)
	wantLeast(t, lot(), rise(1, 30, 31, 100), 1, 0, api.ErrArg)
	wantLeast(t, lot(), rise(1, 30, 31, 100), 2, 0, api.ErrArg)
	wantLeast(t, lot(), rise(-2, 30, 20, 100), 1, 0, api.ErrArg)
	wantLeast(t, api.Lot{}, api.Rise{}, 0, 0, api.ErrArg)
	for _, bidder := range []int{-1, -2, math.MinInt} {
		wantLeast(t, lot(), rise(-1, 0, 0, 100), bidder, 0, api.ErrArg)
		wantLeast(t, lot(), rise(1, 30, 10, 100), bidder, 0, api.ErrArg)
		wantLeast(t, lot(), rise(bidder, 30, 10, 100), bidder, 0, api.ErrArg)
	}
}

// P9.3: each of DOC.md's ways of a bid, at the limits that part them.
func TestBidRaises(t *testing.T) {
	l := lot()
	begin := rise(-1, 0, 0, 100)
	for _, x := range []struct {
		r    api.Rise
		b    api.RiseBid
		want api.Rise
	}{
		{begin, bid(0, 10, 10, 0), rise(0, 10, 10, 100)},
		{begin, bid(7, 11, 99, 0), rise(7, 11, 10, 100)},
		{begin, bid(math.MaxInt, api.MaxCoins, api.MaxCoins, 0), rise(math.MaxInt, api.MaxCoins, 10, 100)},
		{rise(1, 30, 20, 100), bid(1, 31, 1, 0), rise(1, 31, 20, 100)},
		{rise(1, 30, 20, 100), bid(1, api.MaxCoins, api.MaxCoins, 0), rise(1, api.MaxCoins, 20, 100)},
		{rise(1, 30, 20, 100), bid(2, 25, 25, 0), rise(1, 30, 30, 100)},
		{rise(1, 30, 12, 100), bid(2, 17, 17, 0), rise(1, 30, 22, 100)},
		{rise(1, 30, 12, 100), bid(2, 24, 24, 0), rise(1, 30, 29, 100)},
		{rise(1, 30, 12, 100), bid(2, 25, 25, 0), rise(1, 30, 30, 100)},
		{rise(1, 30, 12, 100), bid(2, 26, 26, 0), rise(1, 30, 30, 100)},
		{rise(1, 30, 12, 100), bid(2, 30, 30, 0), rise(1, 30, 30, 100)},
		{rise(1, 30, 12, 100), bid(2, 31, 31, 0), rise(2, 31, 31, 100)},
		{rise(1, 30, 12, 100), bid(2, 34, 34, 0), rise(2, 34, 34, 100)},
		{rise(1, 30, 12, 100), bid(2, 35, 35, 0), rise(2, 35, 35, 100)},
		{rise(1, 30, 12, 100), bid(2, 36, 36, 0), rise(2, 36, 35, 100)},
		{rise(1, 30, 12, 100), bid(0, api.MaxCoins, api.MaxCoins, 0), rise(0, api.MaxCoins, 35, 100)},
		{rise(1, 30, 30, 100), bid(2, 35, 35, 0), rise(2, 35, 35, 100)},
		{rise(1, api.MaxCoins, 10, 100), bid(2, api.MaxCoins, api.MaxCoins, 0), rise(1, api.MaxCoins, api.MaxCoins, 100)},
		{rise(1, api.MaxCoins-1, 10, 100), bid(2, api.MaxCoins, api.MaxCoins, 0), rise(2, api.MaxCoins, api.MaxCoins, 100)},
	} {
		wantBid(t, l, x.r, x.b, x.want)
	}

	given := changed(l, func(l *api.Lot) { l.Start = 0 })
	wantBid(t, given, begin, bid(0, 0, 0, 0), rise(0, 0, 0, 100))
	wantBid(t, given, rise(0, 0, 0, 100), bid(0, 1, 1, 0), rise(0, 1, 0, 100))
	wantBid(t, given, rise(0, 0, 0, 100), bid(1, 5, 5, 0), rise(1, 5, 5, 100))
	steep := changed(l, func(l *api.Lot) { l.Start, l.Step = 0, api.MaxCoins })
	wantBid(t, steep, rise(0, 3, 0, 100), bid(1, api.MaxCoins, api.MaxCoins, 0), rise(1, api.MaxCoins, api.MaxCoins, 100))
}

// P9.3: Closes, behind each of the ways of a bid.
func TestBidExtends(t *testing.T) {
	l := changed(lot(), func(l *api.Lot) { l.Last = 115 })
	for _, x := range []struct{ closes, now, want int64 }{
		{100, 0, 100},
		{100, 89, 100},
		{100, 90, 100},
		{100, 91, 101},
		{100, 99, 109},
		{105, 95, 105},
		{105, 96, 106},
		{105, 100, 110},
		{114, 104, 114},
		{114, 105, 115},
		{114, 106, 115},
		{114, 113, 115},
		{115, 105, 115},
		{115, 114, 115},
	} {
		wantBid(t, l, rise(1, 30, 12, x.closes), bid(1, 40, 40, x.now), rise(1, 40, 12, x.want))
		wantBid(t, l, rise(1, 30, 12, x.closes), bid(2, 17, 40, x.now), rise(1, 30, 22, x.want))
		wantBid(t, l, rise(1, 30, 12, x.closes), bid(2, 40, 40, x.now), rise(2, 40, 35, x.want))
		if x.closes == l.Closes {
			wantBid(t, l, rise(-1, 0, 0, x.closes), bid(2, 40, 40, x.now), rise(2, 40, 10, x.want))
		}
	}
}

func TestBidExtendsAtItsBounds(t *testing.T) {
	begin := rise(-1, 0, 0, 100)
	still := changed(lot(), func(l *api.Lot) { l.Extend = 0 })
	wantBid(t, still, begin, bid(0, 10, 10, 99), rise(0, 10, 10, 100))
	one := changed(lot(), func(l *api.Lot) { l.Extend = 1 })
	wantBid(t, one, begin, bid(0, 10, 10, 99), rise(0, 10, 10, 100))
	two := changed(lot(), func(l *api.Lot) { l.Extend = 2 })
	wantBid(t, two, begin, bid(0, 10, 10, 98), rise(0, 10, 10, 100))
	wantBid(t, two, begin, bid(0, 10, 10, 99), rise(0, 10, 10, 101))
	firm := changed(lot(), func(l *api.Lot) { l.Last = 100 })
	wantBid(t, firm, begin, bid(0, 10, 10, 99), rise(0, 10, 10, 100))
	long := changed(lot(), func(l *api.Lot) { l.Extend, l.Last = api.MaxTick, api.MaxTick })
	wantBid(t, long, begin, bid(0, 10, 10, 0), rise(0, 10, 10, api.MaxTick))
	wantBid(t, long, rise(1, 10, 10, api.MaxTick), bid(0, 15, 15, api.MaxTick-1), rise(0, 15, 15, api.MaxTick))
	wantRefused(t, long, rise(1, 10, 10, api.MaxTick), bid(0, 15, 15, api.MaxTick), api.ErrTime)
	at := changed(lot(), func(l *api.Lot) { l.Extend = api.MaxTick })
	wantBid(t, at, begin, bid(0, 10, 10, 0), rise(0, 10, 10, 200))
}

// P9.3: what may not be.
func TestBidOfWhatMayNotBe(t *testing.T) {
	r, b := rise(1, 30, 20, 100), bid(2, 40, 40, 50)
	wantBid(t, lot(), r, b, rise(2, 40, 35, 100))
	wantRefused(t, changed(lot(), func(l *api.Lot) { l.Step = 0 }), r, b, api.ErrArg)
	wantRefused(t, changed(lot(), func(l *api.Lot) { l.Fall = 1 }), r, b, api.ErrArg)
	wantRefused(t, api.Lot{}, api.Rise{}, api.RiseBid{}, api.ErrArg)
	wantRefused(t, lot(), rise(1, 30, 9, 100), b, api.ErrArg)
	wantRefused(t, lot(), rise(1, 30, 20, 201), b, api.ErrArg)
	wantRefused(t, lot(), rise(-1, 0, 0, 101), b, api.ErrArg)
	wantRefused(t, lot(), api.Rise{}, b, api.ErrArg)
	for _, bidder := range []int{-1, -2, math.MinInt} {
		wantRefused(t, lot(), r, bid(bidder, 40, 40, 50), api.ErrArg)
		wantRefused(t, lot(), rise(-1, 0, 0, 100), bid(bidder, 40, 40, 50), api.ErrArg)
	}
	for _, x := range []int64{math.MinInt64, -api.MaxCoins, -1, api.MaxCoins + 1, 1 << 41, math.MaxInt64} {
		wantRefused(t, lot(), r, bid(2, x, math.MaxInt64, 50), api.ErrArg)
		wantRefused(t, lot(), r, bid(1, x, math.MaxInt64, 50), api.ErrArg)
		wantRefused(t, lot(), rise(-1, 0, 0, 100), bid(1, x, math.MaxInt64, 50), api.ErrArg)
		wantRefused(t, lot(), r, bid(2, 40, 40, x), api.ErrArg)
	}
	for _, free := range []int64{math.MinInt64, -40, -1} {
		wantRefused(t, lot(), r, bid(2, 40, free, 50), api.ErrArg)
		wantRefused(t, lot(), r, bid(1, 40, free, 50), api.ErrArg)
	}
}

// P9.3: from Opens on, up to below the rise's own Closes.
func TestBidInTime(t *testing.T) {
	l := changed(lot(), func(l *api.Lot) { l.Opens, l.Extend = 20, 0 })
	for _, x := range []struct {
		closes, now int64
		want        api.Errno
	}{
		{100, 0, api.ErrTime},
		{100, 19, api.ErrTime},
		{100, 20, api.OK},
		{100, 21, api.OK},
		{100, 99, api.OK},
		{100, 100, api.ErrTime},
		{100, 101, api.ErrTime},
		{100, api.MaxTick, api.ErrTime},
		{150, 19, api.ErrTime},
		{150, 100, api.OK},
		{150, 149, api.OK},
		{150, 150, api.ErrTime},
		{200, 199, api.OK},
		{200, 200, api.ErrTime},
	} {
		r, b := rise(1, 30, 20, x.closes), bid(2, 40, 40, x.now)
		if x.want == api.OK {
			wantBid(t, l, r, b, rise(2, 40, 35, x.closes))
		} else {
			wantRefused(t, l, r, b, x.want)
		}
	}
	wantRefused(t, l, rise(-1, 0, 0, 100), bid(2, 40, 40, 19), api.ErrTime)
	wantRefused(t, l, rise(-1, 0, 0, 100), bid(2, 40, 40, 100), api.ErrTime)
}

// P9.3: a limit below the least, at it and one below it.
func TestBidTooLow(t *testing.T) {
	l := lot()
	for _, x := range []struct {
		r      api.Rise
		bidder int
	}{
		{rise(-1, 0, 0, 100), 0},
		{rise(1, 30, 10, 100), 1},
		{rise(1, 30, 10, 100), 0},
		{rise(1, 30, 28, 100), 2},
		{rise(1, 30, 30, 100), 2},
	} {
		least, err := ladder.Least(l, x.r, x.bidder)
		if err != api.OK {
			t.Fatalf("Least(%+v, %d): %v", x.r, x.bidder, err)
		}
		for _, limit := range []int64{0, 1, least - 1} {
			wantRefused(t, l, x.r, bid(x.bidder, limit, 99, 0), api.ErrLow)
		}
		if _, err := ladder.Bid(l, x.r, bid(x.bidder, least, 99, 0)); err != api.OK {
			t.Errorf("Bid of the least %d at %+v: %v", least, x.r, err)
		}
	}
}

// P9.3: a limit above what is free, and, of the leader alone, what is held for it.
func TestBidAboveWhatIsFree(t *testing.T) {
	l := lot()
	begin, r := rise(-1, 0, 0, 100), rise(1, 30, 20, 100)
	wantRefused(t, l, begin, bid(1, 10, 9, 0), api.ErrBudget)
	wantRefused(t, l, begin, bid(1, 10, 0, 0), api.ErrBudget)
	wantBid(t, l, begin, bid(1, 10, 10, 0), rise(1, 10, 10, 100))
	wantRefused(t, l, r, bid(2, 40, 39, 0), api.ErrBudget)
	wantRefused(t, l, r, bid(2, 40, 10, 0), api.ErrBudget)
	wantRefused(t, l, r, bid(2, 25, 24, 0), api.ErrBudget)
	wantBid(t, l, r, bid(2, 40, 40, 0), rise(2, 40, 35, 100))
	wantRefused(t, l, r, bid(1, 31, 0, 0), api.ErrBudget)
	wantRefused(t, l, r, bid(1, 40, 9, 0), api.ErrBudget)
	wantBid(t, l, r, bid(1, 40, 10, 0), rise(1, 40, 20, 100))
	wantBid(t, l, r, bid(1, 31, 1, 0), rise(1, 31, 20, 100))

	top := rise(1, api.MaxCoins-1, 20, 100)
	wantRefused(t, l, top, bid(1, api.MaxCoins, 0, 0), api.ErrBudget)
	wantBid(t, l, top, bid(1, api.MaxCoins, 1, 0), rise(1, api.MaxCoins, 20, 100))
	wantRefused(t, l, top, bid(2, api.MaxCoins, api.MaxCoins-1, 0), api.ErrBudget)
	for _, free := range []int64{api.MaxCoins, api.MaxCoins + 1, math.MaxInt64 - 29, math.MaxInt64 - 1, math.MaxInt64} {
		wantBid(t, l, r, bid(1, 40, free, 0), rise(1, 40, 20, 100))
		wantBid(t, l, r, bid(2, 40, free, 0), rise(2, 40, 35, 100))
		wantBid(t, l, begin, bid(2, 40, free, 0), rise(2, 40, 10, 100))
	}
}

// P9.3: each error ahead of all that stand behind it.
func TestBidTellsErrorsInTheirOrder(t *testing.T) {
	l := changed(lot(), func(l *api.Lot) { l.Opens = 20 })
	wrong := changed(l, func(l *api.Lot) { l.Count = 1 })
	r := rise(1, 30, 20, 100)
	wantRefused(t, l, r, bid(2, 24, 23, 50), api.ErrLow)
	wantRefused(t, l, r, bid(1, 30, 0, 50), api.ErrLow)
	for _, now := range []int64{0, 19, 100, 200} {
		wantRefused(t, l, r, bid(2, 40, 40, now), api.ErrTime)
		wantRefused(t, l, r, bid(2, 40, 39, now), api.ErrTime)
		wantRefused(t, l, r, bid(2, 24, 23, now), api.ErrTime)
		wantRefused(t, l, r, bid(1, 30, 0, now), api.ErrTime)
		wantRefused(t, l, r, bid(-1, 24, 23, now), api.ErrArg)
		wantRefused(t, l, r, bid(2, -1, 23, now), api.ErrArg)
		wantRefused(t, l, r, bid(2, api.MaxCoins+1, 23, now), api.ErrArg)
		wantRefused(t, l, r, bid(2, 24, -1, now), api.ErrArg)
		wantRefused(t, wrong, r, bid(2, 24, 23, now), api.ErrArg)
		wantRefused(t, l, rise(1, 30, 31, 100), bid(2, 24, 23, now), api.ErrArg)
	}
	for _, now := range []int64{-1, api.MaxTick + 1} {
		wantRefused(t, l, r, bid(2, 24, 23, now), api.ErrArg)
	}
	wantRefused(t, l, r, bid(2, 24, -1, 50), api.ErrArg)
	wantRefused(t, l, r, bid(2, api.MaxCoins+1, 0, 50), api.ErrArg)
	wantRefused(t, l, r, bid(2, -1, 0, 50), api.ErrArg)
}

// P9.4.
func TestEnd(t *testing.T) {
	l := lot()
	wantEnd(t, l, rise(0, 10, 10, 100), 0, 10, true)
	wantEnd(t, l, rise(7, 30, 12, 150), 7, 12, true)
	wantEnd(t, l, rise(math.MaxInt, api.MaxCoins, api.MaxCoins, 200), math.MaxInt, api.MaxCoins, true)
	wantEnd(t, changed(l, func(l *api.Lot) { l.Start = 0 }), rise(0, 0, 0, 100), 0, 0, true)

	wantEnd(t, l, rise(-1, 0, 0, 100), 0, 0, false)
	wantEnd(t, l, rise(-1, 30, 20, 100), 0, 0, false)
	wantEnd(t, l, rise(-2, 30, 20, 100), 0, 0, false)
	wantEnd(t, l, rise(7, 30, 9, 100), 0, 0, false)
	wantEnd(t, l, rise(7, 30, 31, 100), 0, 0, false)
	wantEnd(t, l, rise(7, 30, 20, 99), 0, 0, false)
	wantEnd(t, l, rise(7, 30, 20, 201), 0, 0, false)
	wantEnd(t, l, rise(7, api.MaxCoins+1, 20, 100), 0, 0, false)
	wantEnd(t, changed(l, func(l *api.Lot) { l.Rule = api.Core }), rise(7, 30, 12, 100), 0, 0, false)
	wantEnd(t, changed(l, func(l *api.Lot) { l.Opens = 100 }), rise(7, 30, 12, 100), 0, 0, false)
	wantEnd(t, api.Lot{}, api.Rise{}, 0, 0, false)
}
