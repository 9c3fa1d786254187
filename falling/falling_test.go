package falling_test

import (
	"iter"
	"math"
	"slices"
	"testing"

	"gavel/api"
	"gavel/falling"
)

// lot is the one of the chapter's examples.
func lot() api.Lot {
	return api.Lot{Kind: api.Falling, Opens: 10, Closes: 20, Start: 100, Floor: 30, Fall: 25}
}

func made(opens, closes, start, floor, fall int64) api.Lot {
	return api.Lot{Kind: api.Falling, Opens: opens, Closes: closes, Start: start, Floor: floor, Fall: fall}
}

// changed is a lot with one change.
func changed(l api.Lot, change func(*api.Lot)) api.Lot {
	change(&l)
	return l
}

func begun(t *testing.T, l api.Lot) *falling.Falling {
	t.Helper()
	f, err := falling.New(l)
	if f == nil || err != api.OK {
		t.Fatalf("New(%+v): %v, %v", l, f, err)
	}
	return f
}

// step is a tick, and the price from it on.
type step struct{ tick, price int64 }

func collect(s iter.Seq2[int64, int64]) []step {
	var all []step
	for tick, price := range s {
		all = append(all, step{tick, price})
	}
	return all
}

func wantPrice(t *testing.T, l api.Lot, tick, want int64, wantErr api.Errno) {
	t.Helper()
	if got, err := falling.Price(l, tick); got != want || err != wantErr {
		t.Errorf("Price(%+v, %d): %d, %v, not %d, %v", l, tick, got, err, want, wantErr)
	}
}

func wantFirst(t *testing.T, l api.Lot, coins, want int64, wantOK bool) {
	t.Helper()
	if got, ok := falling.First(l, coins); got != want || ok != wantOK {
		t.Errorf("First(%+v, %d): %d, %v, not %d, %v", l, coins, got, ok, want, wantOK)
	}
}

func wantSteps(t *testing.T, l api.Lot, want ...step) {
	t.Helper()
	s := falling.Steps(l)
	if s == nil {
		t.Fatalf("Steps(%+v): no iterator", l)
	}
	for range 2 {
		if got := collect(s); !slices.Equal(got, want) {
			t.Errorf("Steps(%+v): %v, not %v", l, got, want)
		}
	}
}

func wantTakes(t *testing.T, l api.Lot, coins []int64, who int, paid int64, wantOK bool) {
	t.Helper()
	before := slices.Clone(coins)
	if gotWho, gotPaid, ok := falling.Takes(l, coins...); gotWho != who || gotPaid != paid || ok != wantOK {
		t.Errorf("Takes(%+v, %v): %d, %d, %v, not %d, %d, %v", l, before, gotWho, gotPaid, ok, who, paid, wantOK)
	}
	if !slices.Equal(coins, before) {
		t.Errorf("Takes(%+v, %v): the coins are %v then", l, before, coins)
	}
}

func wantBid(t *testing.T, f *falling.Falling, bidder int, tick, coins, free, want int64, wantErr api.Errno) {
	t.Helper()
	if got, err := f.Bid(bidder, tick, coins, free); got != want || err != wantErr {
		t.Errorf("Bid(%d, %d, %d, %d): %d, %v, not %d, %v", bidder, tick, coins, free, got, err, want, wantErr)
	}
}

func wantSold(t *testing.T, f *falling.Falling, bidder int, price, tick int64) {
	t.Helper()
	if b, p, at, ok := f.Sold(); b != bidder || p != price || at != tick || !ok {
		t.Errorf("Sold: %d, %d, %d, %v, not %d, %d, %d, true", b, p, at, ok, bidder, price, tick)
	}
}

func wantUnsold(t *testing.T, f *falling.Falling) {
	t.Helper()
	if b, p, at, ok := f.Sold(); b != 0 || p != 0 || at != 0 || ok {
		t.Errorf("Sold: %d, %d, %d, %v, though it is not", b, p, at, ok)
	}
}

func wantAt(t *testing.T, f *falling.Falling, tick, want int64, wantOK bool) {
	t.Helper()
	if got, ok := f.At(tick); got != want || ok != wantOK {
		t.Errorf("At(%d): %d, %v, not %d, %v", tick, got, ok, want, wantOK)
	}
}

// wantLot asks whether a lot may be, by each call that is handed one.
func wantLot(t *testing.T, l api.Lot, want api.Errno) {
	t.Helper()
	may := want == api.OK
	if got := falling.Check(l); got != want {
		t.Errorf("Check(%+v): %v, not %v", l, got, want)
	}
	if f, err := falling.New(l); (f != nil) != may || err != want {
		t.Errorf("New(%+v): %v, %v, not %v", l, f, err, want)
	}
	if !may {
		wantPrice(t, l, l.Opens, 0, want)
		wantFirst(t, l, api.MaxCoins, 0, false)
		wantSteps(t, l)
		wantTakes(t, l, []int64{api.MaxCoins}, 0, 0, false)
		return
	}
	wantPrice(t, l, l.Opens, l.Start, api.OK)
	wantFirst(t, l, api.MaxCoins, l.Opens, true)
	wantTakes(t, l, []int64{api.MaxCoins}, 0, l.Start, true)
	for tick, price := range falling.Steps(l) {
		if tick != l.Opens || price != l.Start {
			t.Errorf("Steps(%+v) begin with %d %d", l, tick, price)
		}
		return
	}
	t.Errorf("Steps(%+v): none", l)
}

// TestExamples: the rows of the chapter's table, in their order.
func TestExamples(t *testing.T) {
	l := lot()
	wantPrice(t, l, 10, 100, api.OK)
	wantPrice(t, l, 12, 50, api.OK)
	wantPrice(t, l, 13, 30, api.OK)
	wantPrice(t, l, 19, 30, api.OK)
	wantPrice(t, l, 9, 0, api.ErrTime)
	wantPrice(t, l, 20, 0, api.ErrTime)

	wantFirst(t, l, 100, 10, true)
	wantFirst(t, l, 60, 12, true)
	wantFirst(t, l, 30, 13, true)
	wantFirst(t, l, 29, 0, false)

	wantSteps(t, l, step{10, 100}, step{11, 75}, step{12, 50}, step{13, 30})

	f := begun(t, l)
	wantBid(t, f, 1, 11, 74, 99, 0, api.ErrLow)
	wantBid(t, f, 1, 11, 75, 74, 0, api.ErrBudget)
	wantBid(t, f, 1, 11, 80, 75, 75, api.OK)
	wantBid(t, f, 2, 11, 99, 99, 0, api.ErrTime)
	wantSold(t, f, 1, 75, 11)

	wantTakes(t, l, []int64{50, 80, 60}, 1, 75, true)
	wantTakes(t, l, []int64{50, 74, 60}, 0, 50, true)
	wantTakes(t, l, []int64{10}, 0, 0, false)
	wantTakes(t, l, []int64{100, 100}, 0, 100, true)

	wantPrice(t, made(0, 1<<40, 1<<40, 0, 1<<40), 1<<40-1, 0, api.OK)

	wantLot(t, changed(l, func(l *api.Lot) { l.Count = 1 }), api.ErrArg)
	wantLot(t, changed(l, func(l *api.Lot) { l.Floor = 101 }), api.ErrArg)
}

// TestHouseExample is the house's example 4: cid, the bidder 2, has 50 coins.
func TestHouseExample(t *testing.T) {
	f := begun(t, made(10, 1000, 50, 20, 3))
	wantAt(t, f, 14, 38, true)
	wantBid(t, f, 2, 14, 37, 50, 0, api.ErrLow)
	wantBid(t, f, 2, 14, 45, 50, 38, api.OK)
	wantSold(t, f, 2, 38, 14)
}

// TestCheckBounds: each of a lot's numbers at its bounds, and one past them.
func TestCheckBounds(t *testing.T) {
	for _, c := range []struct {
		l    api.Lot
		want api.Errno
	}{
		{lot(), api.OK},
		{made(0, 1, 0, 0, 0), api.OK},
		{made(api.MaxTick-1, api.MaxTick, api.MaxCoins, api.MaxCoins, api.MaxCoins), api.OK},
		{made(0, api.MaxTick, api.MaxCoins, 0, 1), api.OK},
		{made(0, api.MaxTick, api.MaxCoins, 0, 0), api.OK},
		{made(-1, 20, 100, 30, 25), api.ErrArg},
		{made(math.MinInt64, 20, 100, 30, 25), api.ErrArg},
		{made(-2, -1, 100, 30, 25), api.ErrArg},
		{made(10, 10, 100, 30, 25), api.ErrArg},
		{made(10, 9, 100, 30, 25), api.ErrArg},
		{made(10, 11, 100, 30, 25), api.OK},
		{made(0, 0, 100, 30, 25), api.ErrArg},
		{made(10, api.MaxTick, 100, 30, 25), api.OK},
		{made(10, api.MaxTick+1, 100, 30, 25), api.ErrArg},
		{made(10, math.MaxInt64, 100, 30, 25), api.ErrArg},
		{made(api.MaxTick, api.MaxTick+1, 100, 30, 25), api.ErrArg},
		{made(10, 20, -1, -1, 25), api.ErrArg},
		{made(10, 20, 0, -1, 25), api.ErrArg},
		{made(10, 20, -1, 0, 25), api.ErrArg},
		{made(10, 20, api.MaxCoins, 30, 25), api.OK},
		{made(10, 20, api.MaxCoins+1, 30, 25), api.ErrArg},
		{made(10, 20, api.MaxCoins+1, api.MaxCoins+1, 25), api.ErrArg},
		{made(10, 20, math.MaxInt64, 30, 25), api.ErrArg},
		{made(10, 20, 100, 0, 25), api.OK},
		{made(10, 20, 100, -1, 25), api.ErrArg},
		{made(10, 20, 100, math.MinInt64, 25), api.ErrArg},
		{made(10, 20, 100, 100, 25), api.OK},
		{made(10, 20, 100, 101, 25), api.ErrArg},
		{made(10, 20, 100, 30, 0), api.OK},
		{made(10, 20, 100, 30, -1), api.ErrArg},
		{made(10, 20, 100, 30, math.MinInt64), api.ErrArg},
		{made(10, 20, 100, 30, api.MaxCoins), api.OK},
		{made(10, 20, 100, 30, api.MaxCoins+1), api.ErrArg},
		{made(10, 20, 100, 30, math.MaxInt64), api.ErrArg},
		{api.Lot{}, api.ErrArg},
	} {
		wantLot(t, c.l, c.want)
	}
}

// TestCheckOthers: no other kind is taken, and nothing that this kind does not name.
func TestCheckOthers(t *testing.T) {
	for _, kind := range []api.LotKind{math.MinInt64, -1, 0, api.Rising, api.Sealed, api.Units, api.Package, 6, math.MaxInt64} {
		wantLot(t, changed(lot(), func(l *api.Lot) { l.Kind = kind }), api.ErrArg)
	}
	for _, change := range []func(*api.Lot, int64){
		func(l *api.Lot, n int64) { l.Step = n },
		func(l *api.Lot, n int64) { l.Extend = n },
		func(l *api.Lot, n int64) { l.Last = n },
		func(l *api.Lot, n int64) { l.Count = int(n) },
		func(l *api.Lot, n int64) { l.Rule = api.Rule(n) },
	} {
		for _, n := range []int64{math.MinInt64, -1, 1, 20, math.MaxInt64} {
			wantLot(t, changed(lot(), func(l *api.Lot) { change(l, n) }), api.ErrArg)
		}
	}
}

// TestPriceTicks: what is no tick is ErrArg, ahead of ErrTime; a tick at which the lot does not run ErrTime.
func TestPriceTicks(t *testing.T) {
	for _, l := range []api.Lot{lot(), made(0, 1, 7, 7, 0), made(0, api.MaxTick, 9, 0, 1), made(api.MaxTick-1, api.MaxTick, 9, 0, 1)} {
		for _, tick := range []int64{math.MinInt64, -1 << 40, -1, api.MaxTick + 1, math.MaxInt64} {
			wantPrice(t, l, tick, 0, api.ErrArg)
		}
		wantPrice(t, l, l.Opens, l.Start, api.OK)
		wantPrice(t, l, l.Closes, 0, api.ErrTime)
		wantPrice(t, l, api.MaxTick, 0, api.ErrTime)
		if l.Opens > 0 {
			wantPrice(t, l, 0, 0, api.ErrTime)
			wantPrice(t, l, l.Opens-1, 0, api.ErrTime)
		}
	}
	wrong := changed(lot(), func(l *api.Lot) { l.Last = 30 })
	for _, tick := range []int64{-1, 0, 9, 15, 20, api.MaxTick + 1} {
		wantPrice(t, wrong, tick, 0, api.ErrArg)
	}
}

// TestPriceFalls: the last fall reaches the floor just so, or would go below it.
func TestPriceFalls(t *testing.T) {
	even := made(0, 100, 100, 40, 20)
	for tick, want := range []int64{100, 80, 60, 40, 40, 40} {
		wantPrice(t, even, int64(tick), want, api.OK)
	}
	for l, want := range map[api.Lot][2]int64{
		made(5, 9, 8, 8, 3):                       {8, 8},
		made(5, 9, 8, 0, 0):                       {8, 8},
		made(5, 9, 8, 7, api.MaxCoins):            {7, 7},
		made(5, 9, 8, 0, 8):                       {0, 0},
		made(5, 9, 8, 0, 7):                       {1, 0},
		made(5, 9, 8, 0, 1):                       {7, 5},
		made(5, 9, api.MaxCoins, 0, 1<<39):        {1 << 39, 0},
		made(5, 9, api.MaxCoins, 0, api.MaxCoins): {0, 0},
	} {
		wantPrice(t, l, 6, want[0], api.OK)
		wantPrice(t, l, 8, want[1], api.OK)
	}
}

// TestPriceOfGreatNumbers: Fall times the ticks goes above 64 bits, and round to what would be a price again.
func TestPriceOfGreatNumbers(t *testing.T) {
	whole := int64(api.MaxTick)
	l := made(0, whole, api.MaxCoins, 0, 1)
	wantPrice(t, l, whole-1, 1, api.OK)
	wantPrice(t, l, 1, api.MaxCoins-1, api.OK)
	for _, fall := range []int64{1 << 24, 1<<24 + 1, 1 << 30, 1 << 39, 1 << 40} {
		l := made(0, whole, api.MaxCoins, 3, fall)
		for _, tick := range []int64{whole - 1, 1 << 24, 1 << 25, 1 << 34, 1<<40 - 1<<24, 1 << 39} {
			wantPrice(t, l, tick, bigPrice(l, tick), api.OK)
		}
	}
}

// TestFirstBounds: coins of any size are asked for.
func TestFirstBounds(t *testing.T) {
	l := lot()
	for _, coins := range []int64{100, 101, api.MaxCoins, api.MaxCoins + 1, math.MaxInt64} {
		wantFirst(t, l, coins, 10, true)
	}
	for coins, want := range map[int64]int64{99: 11, 75: 11, 74: 12, 50: 12, 49: 13, 31: 13, 30: 13} {
		wantFirst(t, l, coins, want, true)
	}
	for _, coins := range []int64{29, 0, -1, -api.MaxCoins, math.MinInt64} {
		wantFirst(t, l, coins, 0, false)
	}

	free := made(7, 9, 0, 0, 5)
	wantFirst(t, free, 0, 7, true)
	wantFirst(t, free, -1, 0, false)
}

// TestFirstTooLate: the price would come down so far, but the lot closes ahead of it.
func TestFirstTooLate(t *testing.T) {
	closes := func(c int64) api.Lot { return made(10, c, 100, 30, 25) }
	wantFirst(t, closes(14), 30, 13, true)
	wantFirst(t, closes(13), 30, 0, false)
	wantFirst(t, closes(13), 50, 12, true)
	wantFirst(t, closes(12), 50, 0, false)
	wantFirst(t, closes(11), 99, 0, false)
	wantFirst(t, closes(11), 100, 10, true)

	stays := made(10, 20, 100, 30, 0)
	wantFirst(t, stays, 99, 0, false)
	wantFirst(t, stays, 30, 0, false)
	wantFirst(t, stays, 100, 10, true)

	slow := made(0, api.MaxTick, api.MaxCoins, 0, 1)
	wantFirst(t, slow, 1, api.MaxTick-1, true)
	wantFirst(t, slow, 0, 0, false)
	late := made(api.MaxTick-2, api.MaxTick, api.MaxCoins, 0, api.MaxCoins)
	wantFirst(t, late, 0, api.MaxTick-1, true)
	wantFirst(t, made(api.MaxTick-1, api.MaxTick, 1, 0, 1), 0, 0, false)
}

// TestSteps: where the price stays there is one step; where the lot closes early there are fewer.
func TestSteps(t *testing.T) {
	wantSteps(t, made(3, 9, 50, 10, 0), step{3, 50})
	wantSteps(t, made(3, 9, 50, 50, 7), step{3, 50})
	wantSteps(t, made(3, 9, 0, 0, 0), step{3, 0})
	wantSteps(t, made(3, 9, 1, 0, 1), step{3, 1}, step{4, 0})
	wantSteps(t, made(3, 9, 50, 10, 20), step{3, 50}, step{4, 30}, step{5, 10})
	wantSteps(t, made(3, 9, 50, 11, 20), step{3, 50}, step{4, 30}, step{5, 11})
	wantSteps(t, made(3, 9, 50, 9, 20), step{3, 50}, step{4, 30}, step{5, 10}, step{6, 9})
	wantSteps(t, made(3, 6, 50, 9, 20), step{3, 50}, step{4, 30}, step{5, 10})
	wantSteps(t, made(3, 4, 50, 9, 20), step{3, 50})
	wantSteps(t, made(api.MaxTick-2, api.MaxTick, 9, 0, 4), step{api.MaxTick - 2, 9}, step{api.MaxTick - 1, 5})
}

// TestStepsEnd: the ticks at which a price stays are not gone through, however many they are.
func TestStepsEnd(t *testing.T) {
	wantSteps(t, made(0, api.MaxTick, api.MaxCoins, 0, api.MaxCoins), step{0, api.MaxCoins}, step{1, 0})
	wantSteps(t, made(0, api.MaxTick, api.MaxCoins, 0, 0), step{0, api.MaxCoins})
	wantSteps(t, made(0, api.MaxTick, 5, 5, 1), step{0, 5})
}

// TestStepsLeft: they may be left anywhere, gone over again, and within one another.
func TestStepsLeft(t *testing.T) {
	all := []step{{10, 100}, {11, 75}, {12, 50}, {13, 30}}
	s := falling.Steps(lot())
	for n := 1; n <= len(all); n++ {
		var got []step
		for tick, price := range s {
			got = append(got, step{tick, price})
			if len(got) == n {
				break
			}
		}
		if !slices.Equal(got, all[:n]) {
			t.Errorf("left behind %d steps: %v", n, got)
		}
	}
	var pairs int
	for tick := range s {
		for other := range s {
			if other == tick {
				break
			}
			pairs++
		}
	}
	if pairs != 6 {
		t.Errorf("%d pairs of steps, one ahead of the other", pairs)
	}

	next, stop := iter.Pull2(falling.Steps(made(0, api.MaxTick, api.MaxCoins, 0, 1)))
	defer stop()
	for tick := range int64(1000) {
		if at, price, ok := next(); at != tick || price != api.MaxCoins-tick || !ok {
			t.Fatalf("step %d of many is %d, %d, %v", tick, at, price, ok)
		}
	}
}

// TestNobody: methods of what is not there, or was never made.
func TestNobody(t *testing.T) {
	refused, err := falling.New(api.Lot{})
	if refused != nil || err != api.ErrArg {
		t.Errorf("New of no lot: %v, %v", refused, err)
	}
	for _, f := range []*falling.Falling{nil, refused, {}, new(falling.Falling)} {
		wantBid(t, f, 0, 0, 0, 0, 0, api.ErrNil)
		wantBid(t, f, 1, 11, 80, 80, 0, api.ErrNil)
		wantBid(t, f, -1, -1, -1, -1, 0, api.ErrNil)
		wantUnsold(t, f)
		wantAt(t, f, 0, 0, false)
		wantAt(t, f, 11, 0, false)
		if c := f.Copy(); c != nil {
			t.Errorf("Copy of nothing: %v", c)
		}
	}
}

// TestBidErrors: each wrong number, and which error is told of several; nothing is sold by any of them.
func TestBidErrors(t *testing.T) {
	f := begun(t, lot())
	for _, c := range []struct {
		bidder            int
		tick, coins, free int64
		want              api.Errno
	}{
		{-1, 11, 80, 80, api.ErrArg},
		{math.MinInt64, 11, 80, 80, api.ErrArg},
		{0, -1, 80, 80, api.ErrArg},
		{0, api.MaxTick + 1, 80, 80, api.ErrArg},
		{0, math.MinInt64, 80, 80, api.ErrArg},
		{0, math.MaxInt64, 80, 80, api.ErrArg},
		{0, 11, -1, 80, api.ErrArg},
		{0, 11, math.MinInt64, 80, api.ErrArg},
		{0, 11, api.MaxCoins + 1, 80, api.ErrArg},
		{0, 11, 80, -1, api.ErrArg},
		{0, 11, 80, math.MinInt64, api.ErrArg},
		{0, 11, 80, api.MaxCoins + 1, api.ErrArg},
		{0, 11, 80, math.MaxInt64, api.ErrArg},
		{-1, 9, 0, 0, api.ErrArg},
		{0, 9, -1, 0, api.ErrArg},
		{0, 20, 0, api.MaxCoins + 1, api.ErrArg},
		{0, 9, 100, 100, api.ErrTime},
		{0, 20, 100, 100, api.ErrTime},
		{0, 0, 100, 100, api.ErrTime},
		{0, api.MaxTick, 100, 100, api.ErrTime},
		{0, 9, 0, 0, api.ErrTime},
		{0, 20, 29, 29, api.ErrTime},
		{0, 10, 99, 100, api.ErrLow},
		{0, 11, 74, api.MaxCoins, api.ErrLow},
		{0, 11, 74, 0, api.ErrLow},
		{0, 19, 29, 30, api.ErrLow},
		{0, 10, 100, 99, api.ErrBudget},
		{0, 11, api.MaxCoins, 74, api.ErrBudget},
		{0, 19, 30, 29, api.ErrBudget},
		{0, 19, 30, 0, api.ErrBudget},
	} {
		wantBid(t, f, c.bidder, c.tick, c.coins, c.free, 0, c.want)
		wantUnsold(t, f)
		wantAt(t, f, 11, 75, true)
	}
	wantBid(t, f, 0, 19, 30, 30, 30, api.OK)
	wantSold(t, f, 0, 30, 19)
}

// TestBidBounds: numbers at their bounds that are taken.
func TestBidBounds(t *testing.T) {
	for _, c := range []struct {
		l                 api.Lot
		bidder            int
		tick, coins, free int64
		want              int64
	}{
		{lot(), 0, 10, 100, 100, 100},
		{lot(), math.MaxInt64, 10, api.MaxCoins, api.MaxCoins, 100},
		{lot(), 5, 19, 30, 30, 30},
		{made(0, 1, 0, 0, 0), 0, 0, 0, 0, 0},
		{made(0, api.MaxTick, api.MaxCoins, 0, 1), 4096, api.MaxTick - 1, 1, 1, 1},
		{made(0, api.MaxTick, api.MaxCoins, api.MaxCoins, 1), 1, api.MaxTick - 1, api.MaxCoins, api.MaxCoins, api.MaxCoins},
	} {
		f := begun(t, c.l)
		wantUnsold(t, f)
		wantBid(t, f, c.bidder, c.tick, c.coins, c.free, c.want, api.OK)
		wantSold(t, f, c.bidder, c.want, c.tick)
	}
}

// TestSoldStays: what is sold runs no more, at no tick, and stays sold as it is.
func TestSoldStays(t *testing.T) {
	f := begun(t, lot())
	wantBid(t, f, 3, 12, 60, 55, 50, api.OK)
	for tick := int64(8); tick <= 22; tick++ {
		wantAt(t, f, tick, 0, false)
		wantBid(t, f, 4, tick, 100, 100, 0, api.ErrTime)
		wantBid(t, f, 3, tick, 100, 100, 0, api.ErrTime)
		wantBid(t, f, 4, tick, 0, 0, 0, api.ErrTime)
		wantSold(t, f, 3, 50, 12)
	}
	wantBid(t, f, -1, 12, 100, 100, 0, api.ErrArg)
	wantBid(t, f, 4, -1, 100, 100, 0, api.ErrArg)
	wantSold(t, f, 3, 50, 12)
}

// TestAt: the ticks at which it runs, asked in any order, and all others.
func TestAt(t *testing.T) {
	f := begun(t, lot())
	for _, tick := range []int64{math.MinInt64, -1, 0, 9, 20, 21, api.MaxTick, api.MaxTick + 1, math.MaxInt64} {
		wantAt(t, f, tick, 0, false)
	}
	for tick := int64(19); tick >= 10; tick-- {
		wantAt(t, f, tick, max(100-25*(tick-10), 30), true)
	}
	wantUnsold(t, f)

	free := begun(t, made(4, 6, 0, 0, 0))
	wantAt(t, free, 4, 0, true)
	wantAt(t, free, 6, 0, false)
}

// TestTicksGoBack: that ticks do not go back is the caller's.
func TestTicksGoBack(t *testing.T) {
	f := begun(t, lot())
	wantBid(t, f, 1, 19, 29, 29, 0, api.ErrLow)
	wantBid(t, f, 1, 25, 29, 29, 0, api.ErrTime)
	wantBid(t, f, 1, 10, 100, 100, 100, api.OK)
	wantSold(t, f, 1, 100, 10)
}

// TestCopy: neither tells of what is done to the other.
func TestCopy(t *testing.T) {
	f := begun(t, lot())
	g := f.Copy()
	wantUnsold(t, g)
	wantAt(t, g, 11, 75, true)

	wantBid(t, f, 1, 11, 80, 80, 75, api.OK)
	wantUnsold(t, g)
	wantAt(t, g, 12, 50, true)

	h := f.Copy()
	if h == f || g == f {
		t.Error("Copy answers the same one")
	}
	wantSold(t, h, 1, 75, 11)
	wantAt(t, h, 11, 0, false)
	wantBid(t, h, 2, 11, 99, 99, 0, api.ErrTime)

	wantBid(t, g, 2, 12, 60, 60, 50, api.OK)
	wantSold(t, g, 2, 50, 12)
	wantSold(t, f, 1, 75, 11)
	wantSold(t, h, 1, 75, 11)
}

// TestTwoOfOneLot: two that New made of one lot go on apart.
func TestTwoOfOneLot(t *testing.T) {
	f, g := begun(t, lot()), begun(t, lot())
	wantBid(t, f, 1, 11, 80, 80, 75, api.OK)
	wantUnsold(t, g)
	wantBid(t, g, 2, 13, 30, 30, 30, api.OK)
	wantSold(t, f, 1, 75, 11)
	wantSold(t, g, 2, 30, 13)
}

// TestTakes: ties, those who have no coins to name, and nobody.
func TestTakes(t *testing.T) {
	l := lot()
	for _, c := range []struct {
		coins []int64
		who   int
		paid  int64
		ok    bool
	}{
		{nil, 0, 0, false},
		{[]int64{}, 0, 0, false},
		{[]int64{29, 0, 10}, 0, 0, false},
		{[]int64{29, 30, 31}, 1, 30, true},
		{[]int64{30, 49, 31}, 0, 30, true},
		{[]int64{75, 99, 76}, 0, 75, true},
		{[]int64{74, 76, 99}, 1, 75, true},
		{[]int64{99, 100, api.MaxCoins}, 1, 100, true},
		{[]int64{30, 50, 75, 100}, 3, 100, true},
		{[]int64{100, 75, 50, 30}, 0, 100, true},
		{[]int64{api.MaxCoins + 1}, 0, 0, false},
		{[]int64{math.MaxInt64, -1, math.MinInt64}, 0, 0, false},
		{[]int64{math.MaxInt64, 30}, 1, 30, true},
		{[]int64{-1, api.MaxCoins + 1, api.MaxCoins}, 2, 100, true},
		{[]int64{0, 0, 0, 30}, 3, 30, true},
	} {
		wantTakes(t, l, c.coins, c.who, c.paid, c.ok)
	}

	free := made(0, 5, 3, 0, 2)
	wantTakes(t, free, []int64{0, 0}, 0, 0, true)
	wantTakes(t, free, []int64{-1, 0}, 1, 0, true)
	wantTakes(t, made(0, 2, 3, 0, 2), []int64{0, 1}, 1, 1, true)
	wantTakes(t, made(0, 2, 3, 0, 2), []int64{0, 0}, 0, 0, false)
	wantTakes(t, made(0, 5, 3, 0, 0), []int64{2, 3, 3}, 1, 3, true)
	wantTakes(t, made(0, api.MaxTick, api.MaxCoins, 0, 1), []int64{0, 1, 2}, 2, 2, true)
	wantTakes(t, made(0, api.MaxTick, api.MaxCoins, 0, 1), []int64{0}, 0, 0, false)
	wantTakes(t, changed(l, func(l *api.Lot) { l.Step = 1 }), []int64{100}, 0, 0, false)
}

// TestTakesLeavesRoom: the room behind the list that is handed in is as it was.
func TestTakesLeavesRoom(t *testing.T) {
	room := []int64{50, 80, 60, 7, 8, 9}
	wantTakes(t, lot(), room[:3], 1, 75, true)
	if !slices.Equal(room, []int64{50, 80, 60, 7, 8, 9}) {
		t.Errorf("the room is %v then", room)
	}
}
