package sealed_test

import (
	"iter"
	"math"
	"slices"
	"testing"

	"gavel/api"
	"gavel/sealed"
)

// list makes bids of numbers: a bidder, its coins, and so on.
func list(numbers ...int64) []api.Secret {
	var bids []api.Secret
	for pair := range slices.Chunk(numbers, 2) {
		bids = append(bids, api.Secret{Bidder: int(pair[0]), Coins: pair[1]})
	}
	return bids
}

func sold(winner int, coins, price int64) api.Sold {
	return api.Sold{Sold: true, Winner: winner, Coins: coins, Price: price}
}

func newBox(t *testing.T, floor int64) *sealed.Box {
	t.Helper()
	b, err := sealed.NewBox(floor)
	if b == nil || err != api.OK {
		t.Fatalf("NewBox(%d): %v, %v", floor, b, err)
	}
	return b
}

// filled is a box in which these bids stand.
func filled(t *testing.T, floor int64, bids ...api.Secret) *sealed.Box {
	t.Helper()
	b := newBox(t, floor)
	for _, bid := range bids {
		wantBid(t, b, bid.Bidder, bid.Coins, api.OK)
	}
	return b
}

func wantSell(t *testing.T, floor int64, bids []api.Secret, want api.Sold, wantErr api.Errno) {
	t.Helper()
	if got, err := sealed.Sell(floor, bids...); got != want || err != wantErr {
		t.Errorf("Sell(%d, %v): %+v, %v, not %+v, %v", floor, bids, got, err, want, wantErr)
	}
}

func wantOrder(t *testing.T, bids []api.Secret, want ...int) {
	t.Helper()
	if got := sealed.Order(bids...); !slices.Equal(got, want) {
		t.Errorf("Order(%v): %v, not %v", bids, got, want)
	}
}

func wantBid(t *testing.T, b *sealed.Box, bidder int, coins int64, want api.Errno) {
	t.Helper()
	if got := b.Bid(bidder, coins); got != want {
		t.Errorf("Bid(%d, %d): %v, not %v", bidder, coins, got, want)
	}
}

func wantDrop(t *testing.T, b *sealed.Box, bidder int, want api.Errno) {
	t.Helper()
	if got := b.Drop(bidder); got != want {
		t.Errorf("Drop(%d): %v, not %v", bidder, got, want)
	}
}

func wantOf(t *testing.T, b *sealed.Box, bidder int, want int64, wantOK bool) {
	t.Helper()
	if got, ok := b.Of(bidder); got != want || ok != wantOK {
		t.Errorf("Of(%d): %d, %v, not %d, %v", bidder, got, ok, want, wantOK)
	}
}

func wantSold(t *testing.T, b *sealed.Box, want api.Sold) {
	t.Helper()
	if got, err := b.Sell(); got != want || err != api.OK {
		t.Errorf("Sell of a box: %+v, %v, not %+v", got, err, want)
	}
}

// wantStands asks which bids stand, by each call that tells of them.
func wantStands(t *testing.T, b *sealed.Box, want ...api.Secret) {
	t.Helper()
	all := b.All()
	for range 2 {
		if got := slices.Collect(all); !slices.Equal(got, want) {
			t.Errorf("All: %v, not %v", got, want)
		}
	}
	if got := b.Len(); got != len(want) {
		t.Errorf("Len: %d, not %d", got, len(want))
	}
	for _, bid := range want {
		wantOf(t, b, bid.Bidder, bid.Coins, true)
	}
}

// TestExamples: the rows of the chapter's table, in their order.
func TestExamples(t *testing.T) {
	wantSell(t, 5, nil, api.Sold{}, api.OK)
	wantSell(t, 5, list(0, 4), api.Sold{}, api.OK)
	wantSell(t, 5, list(0, 7), sold(0, 7, 5), api.OK)

	wantSell(t, 5, list(0, 7, 1, 9, 2, 4), sold(1, 9, 7), api.OK)
	wantSell(t, 0, list(3, 8, 1, 8), sold(3, 8, 8), api.OK)

	wantSell(t, -1, nil, api.Sold{}, api.ErrArg)
	wantSell(t, 0, list(-1, 3), api.Sold{}, api.ErrArg)
	wantSell(t, 0, list(1, 2, 1, 3), api.Sold{}, api.ErrThere)

	wantOrder(t, list(0, 3, 1, 9, 2, 3), 1, 0, 2)

	b := newBox(t, 5)
	wantBid(t, b, 0, 7, api.OK)
	wantBid(t, b, 1, 7, api.OK)
	wantBid(t, b, 2, 4, api.ErrLow)
	wantSold(t, b, sold(0, 7, 7))
	wantBid(t, b, 0, 7, api.OK)
	wantSold(t, b, sold(1, 7, 7))

	wantDrop(t, b, 1, api.OK)
	wantDrop(t, b, 1, api.ErrNone)
	wantSold(t, b, sold(0, 7, 5))
	wantOf(t, b, 0, 7, true)
	wantOf(t, b, 1, 0, false)
}

// TestHouseExample is the house's example 1: ann is the bidder 0, bob the bidder 1.
func TestHouseExample(t *testing.T) {
	b := filled(t, 5, list(0, 60, 1, 40)...)
	wantSold(t, b, sold(0, 60, 40))
	wantDrop(t, b, 1, api.OK)
	wantSold(t, b, sold(0, 60, 5))
}

// TestSell: bids at the floor and below it, at the bounds of coins, and ties.
func TestSell(t *testing.T) {
	for _, c := range []struct {
		floor int64
		bids  []api.Secret
		want  api.Sold
	}{
		{0, nil, api.Sold{}},
		{0, []api.Secret{}, api.Sold{}},
		{api.MaxCoins, nil, api.Sold{}},
		{0, list(0, 0), sold(0, 0, 0)},
		{1, list(0, 0), api.Sold{}},
		{5, list(7, 5), sold(7, 5, 5)},
		{5, list(7, 4), api.Sold{}},
		{5, list(0, 4, 1, 3, 2, 0), api.Sold{}},
		{5, list(0, 4, 1, 5), sold(1, 5, 5)},
		{5, list(0, 9, 1, 4), sold(0, 9, 5)},
		{5, list(0, 9, 1, 5), sold(0, 9, 5)},
		{5, list(0, 9, 1, 6), sold(0, 9, 6)},
		{5, list(0, 6, 1, 9), sold(1, 9, 6)},
		{0, list(0, 1, 1, 2, 2, 3), sold(2, 3, 2)},
		{0, list(0, 3, 1, 2, 2, 1), sold(0, 3, 2)},
		{0, list(0, 2, 1, 3, 2, 1), sold(1, 3, 2)},
		{0, list(0, 1, 1, 3, 2, 2), sold(1, 3, 2)},
		{0, list(0, 2, 1, 1, 2, 3), sold(2, 3, 2)},
		{0, list(0, 3, 1, 1, 2, 2), sold(0, 3, 2)},
		{0, list(9, 4, 2, 4, 5, 4), sold(9, 4, 4)},
		{0, list(2, 4, 9, 4), sold(2, 4, 4)},
		{0, list(1, 3, 9, 4, 2, 4), sold(9, 4, 4)},
		{0, list(9, 0, 2, 0), sold(9, 0, 0)},
		{0, list(math.MaxInt64, 8, 0, 7), sold(math.MaxInt64, 8, 7)},
		{0, list(0, api.MaxCoins, 1, api.MaxCoins-1), sold(0, api.MaxCoins, api.MaxCoins-1)},
		{0, list(0, api.MaxCoins, 1, api.MaxCoins), sold(0, api.MaxCoins, api.MaxCoins)},
		{api.MaxCoins, list(0, api.MaxCoins-1, 1, api.MaxCoins), sold(1, api.MaxCoins, api.MaxCoins)},
		{api.MaxCoins, list(0, api.MaxCoins-1), api.Sold{}},
	} {
		wantSell(t, c.floor, c.bids, c.want, api.OK)
	}
}

// TestSellErrors: each wrong number, at each place, and which error is told of several.
func TestSellErrors(t *testing.T) {
	for _, floor := range []int64{math.MinInt64, -api.MaxCoins, -1, api.MaxCoins + 1, math.MaxInt64} {
		wantSell(t, floor, nil, api.Sold{}, api.ErrArg)
		wantSell(t, floor, list(0, 7), api.Sold{}, api.ErrArg)
		wantSell(t, floor, list(0, 7, 0, 7), api.Sold{}, api.ErrArg)
	}
	for _, wrong := range []api.Secret{
		{Bidder: -1, Coins: 8}, {Bidder: math.MinInt64, Coins: 8}, {Bidder: -1, Coins: 0},
		{Bidder: 9, Coins: -1}, {Bidder: 9, Coins: math.MinInt64},
		{Bidder: 9, Coins: api.MaxCoins + 1}, {Bidder: 9, Coins: math.MaxInt64},
		{Bidder: -1, Coins: -1},
	} {
		for place := range 4 {
			bids := slices.Insert(list(0, 7, 1, 9, 2, 4), place, wrong)
			wantSell(t, 5, bids, api.Sold{}, api.ErrArg)
		}
		wantSell(t, 5, []api.Secret{wrong}, api.Sold{}, api.ErrArg)
		wantSell(t, 5, append(list(0, 7, 0, 7), wrong), api.Sold{}, api.ErrArg)
		wantSell(t, 5, []api.Secret{wrong, wrong}, api.Sold{}, api.ErrArg)
	}
	for _, bids := range [][]api.Secret{
		list(0, 7, 0, 7), list(0, 7, 0, 6), list(0, 6, 0, 7), list(0, 4, 0, 3), list(0, 9, 0, 4),
		list(0, 7, 1, 8, 0, 9), list(1, 8, 0, 7, 0, 9), list(0, 7, 1, 8, 2, 9, 3, 1, 2, 0),
		list(math.MaxInt64, 7, 3, 3, math.MaxInt64, 7),
	} {
		wantSell(t, 5, bids, api.Sold{}, api.ErrThere)
	}
}

// TestOrder: numbers of any size, those that are no coins too, and bidders of any kind.
func TestOrder(t *testing.T) {
	wantOrder(t, nil)
	wantOrder(t, []api.Secret{})
	wantOrder(t, list(-5, -3), 0)
	wantOrder(t, list(0, 1, 1, 2, 2, 3), 2, 1, 0)
	wantOrder(t, list(0, 3, 1, 2, 2, 1), 0, 1, 2)
	wantOrder(t, list(3, 4, 2, 4, 1, 4, 0, 4), 0, 1, 2, 3)
	wantOrder(t, list(1, 4, 1, 5, 1, 4, 1, 5), 1, 3, 0, 2)
	wantOrder(t, list(-1, 0, -1, -1, -1, 1), 2, 0, 1)
	wantOrder(t, list(0, math.MinInt64, 1, math.MaxInt64, 2, 0, 3, -1, 4, math.MinInt64, 5, 1, 6, math.MaxInt64), 1, 6, 5, 2, 3, 0, 4)
	wantOrder(t, list(0, math.MaxInt64, 1, math.MinInt64), 0, 1)
	wantOrder(t, list(0, api.MaxCoins+1, 1, api.MaxCoins, 2, api.MaxCoins+2), 2, 0, 1)
}

// TestOrderIsNew: what is answered shares nothing with the next answer, in its room neither.
func TestOrderIsNew(t *testing.T) {
	bids := list(0, 3, 1, 9, 2, 3)
	first := sealed.Order(bids...)
	first = first[:cap(first)]
	for i := range first {
		first[i] = 77
	}
	wantOrder(t, bids, 1, 0, 2)
}

// TestHandedIn: the bids that are handed in are as they were, the room behind them too.
func TestHandedIn(t *testing.T) {
	room := list(4, 3, 2, 9, 3, 3, 8, 8, 7, 7)
	before := slices.Clone(room)
	wantSell(t, 1, room[:3], sold(2, 9, 3), api.OK)
	wantOrder(t, room[:3], 1, 0, 2)
	wantSell(t, 1, append(room[:1:1], room[0]), api.Sold{}, api.ErrThere)
	if !slices.Equal(room, before) {
		t.Errorf("the room is %v then", room)
	}
}

// TestManyBids: a long list is sold in no time, in which two of one bidder stand far apart.
func TestManyBids(t *testing.T) {
	const many = 300000
	bids := make([]api.Secret, many)
	for i := range bids {
		bids[i] = api.Secret{Bidder: many - i, Coins: int64(i)}
	}
	wantSell(t, 5, bids, sold(1, many-1, many-2), api.OK)
	order := sealed.Order(bids...)
	if len(order) != many || order[0] != many-1 || order[many-1] != 0 {
		t.Errorf("%d places, from %d to %d", len(order), order[0], order[many-1])
	}
	bids[many-1].Bidder = bids[0].Bidder
	wantSell(t, 5, bids, api.Sold{}, api.ErrThere)
}

// TestNewBox: each floor at its bounds, and one past them.
func TestNewBox(t *testing.T) {
	for _, floor := range []int64{0, 1, 5, api.MaxCoins - 1, api.MaxCoins} {
		b := newBox(t, floor)
		wantStands(t, b)
		wantSold(t, b, api.Sold{})
		wantBid(t, b, 3, floor, api.OK)
		wantSold(t, b, sold(3, floor, floor))
	}
	for _, floor := range []int64{math.MinInt64, -1, api.MaxCoins + 1, math.MaxInt64} {
		if b, err := sealed.NewBox(floor); b != nil || err != api.ErrArg {
			t.Errorf("NewBox(%d): %v, %v", floor, b, err)
		}
	}
}

// TestNobody: methods of what is not there, or was never made.
func TestNobody(t *testing.T) {
	refused, _ := sealed.NewBox(-1)
	for _, b := range []*sealed.Box{nil, refused, {}, new(sealed.Box)} {
		for _, bidder := range []int{-1, 0, 1, math.MaxInt64} {
			for _, coins := range []int64{-1, 0, 7, api.MaxCoins + 1} {
				wantBid(t, b, bidder, coins, api.ErrNil)
			}
			wantDrop(t, b, bidder, api.ErrNil)
			wantOf(t, b, bidder, 0, false)
		}
		wantStands(t, b)
		if got, err := b.Sell(); got != (api.Sold{}) || err != api.ErrNil {
			t.Errorf("Sell of nothing: %+v, %v", got, err)
		}
		if c := b.Copy(); c != nil {
			t.Errorf("Copy of nothing: %v", c)
		}
	}
}

// TestBidErrors: each wrong number, and which error is told of several; what stands stays, the bidder's last bid too.
func TestBidErrors(t *testing.T) {
	stands := list(0, 7, 1, 9, 2, 5)
	b := filled(t, 5, stands...)
	for _, c := range []struct {
		bidder int
		coins  int64
		want   api.Errno
	}{
		{-1, 8, api.ErrArg},
		{math.MinInt64, 8, api.ErrArg},
		{-1, 4, api.ErrArg},
		{-1, -1, api.ErrArg},
		{0, -1, api.ErrArg},
		{0, math.MinInt64, api.ErrArg},
		{0, api.MaxCoins + 1, api.ErrArg},
		{0, math.MaxInt64, api.ErrArg},
		{3, -1, api.ErrArg},
		{0, 4, api.ErrLow},
		{0, 0, api.ErrLow},
		{1, 4, api.ErrLow},
		{3, 4, api.ErrLow},
		{math.MaxInt64, 4, api.ErrLow},
	} {
		wantBid(t, b, c.bidder, c.coins, c.want)
		wantStands(t, b, stands...)
		wantSold(t, b, sold(1, 9, 7))
	}
	for _, bidder := range []int{-1, math.MinInt64, 3, math.MaxInt64} {
		wantDrop(t, b, bidder, api.ErrNone)
		wantOf(t, b, bidder, 0, false)
		wantStands(t, b, stands...)
	}
}

// TestBidBounds: numbers at their bounds that are taken.
func TestBidBounds(t *testing.T) {
	b := newBox(t, 5)
	wantBid(t, b, 0, 5, api.OK)
	wantBid(t, b, math.MaxInt64, api.MaxCoins, api.OK)
	wantStands(t, b, list(0, 5, math.MaxInt64, api.MaxCoins)...)
	wantSold(t, b, sold(math.MaxInt64, api.MaxCoins, 5))
	wantDrop(t, b, math.MaxInt64, api.OK)
	wantSold(t, b, sold(0, 5, 5))

	free := newBox(t, 0)
	wantBid(t, free, 0, 0, api.OK)
	wantOf(t, free, 0, 0, true)
	wantStands(t, free, list(0, 0)...)
	wantSold(t, free, sold(0, 0, 0))
}

// TestBidAgain: whether it is the first one, one in the midst or the last one, higher, lower or the same: it stands behind all others.
func TestBidAgain(t *testing.T) {
	for _, coins := range []int64{5, 7, 9} {
		for bidder, want := range [][]api.Secret{
			list(1, 7, 2, 7, 0, coins),
			list(0, 7, 2, 7, 1, coins),
			list(0, 7, 1, 7, 2, coins),
		} {
			b := filled(t, 5, list(0, 7, 1, 7, 2, 7)...)
			wantBid(t, b, bidder, coins, api.OK)
			wantStands(t, b, want...)
		}
	}
	b := filled(t, 5, list(4, 6)...)
	wantBid(t, b, 4, 8, api.OK)
	wantBid(t, b, 4, 7, api.OK)
	wantStands(t, b, list(4, 7)...)
	wantSold(t, b, sold(4, 7, 5))
}

// TestDrop: the others stand as they did; who comes again stands behind them.
func TestDrop(t *testing.T) {
	b := filled(t, 5, list(0, 7, 1, 8, 2, 9, 3, 6)...)
	wantDrop(t, b, 1, api.OK)
	wantStands(t, b, list(0, 7, 2, 9, 3, 6)...)
	wantDrop(t, b, 1, api.ErrNone)
	wantOf(t, b, 1, 0, false)
	wantDrop(t, b, 0, api.OK)
	wantStands(t, b, list(2, 9, 3, 6)...)
	wantBid(t, b, 1, 9, api.OK)
	wantStands(t, b, list(2, 9, 3, 6, 1, 9)...)
	wantSold(t, b, sold(2, 9, 9))
	wantDrop(t, b, 1, api.OK)
	wantDrop(t, b, 3, api.OK)
	wantDrop(t, b, 2, api.OK)
	wantStands(t, b)
	wantSold(t, b, api.Sold{})
	wantDrop(t, b, 2, api.ErrNone)
	wantBid(t, b, 2, 5, api.OK)
	wantStands(t, b, list(2, 5)...)
}

// TestSellChangesNothing: a box that has told what comes of its bids goes on.
func TestSellChangesNothing(t *testing.T) {
	b := filled(t, 5, list(0, 7, 1, 9)...)
	for range 3 {
		wantSold(t, b, sold(1, 9, 7))
		wantStands(t, b, list(0, 7, 1, 9)...)
	}
	wantBid(t, b, 0, 10, api.OK)
	wantSold(t, b, sold(0, 10, 9))
}

// TestAllLeft: it may be left anywhere, gone over again, and within one another.
func TestAllLeft(t *testing.T) {
	bids := list(3, 7, 1, 9, 2, 5)
	all := filled(t, 5, bids...).All()
	for n := 1; n <= len(bids); n++ {
		var got []api.Secret
		for bid := range all {
			got = append(got, bid)
			if len(got) == n {
				break
			}
		}
		if !slices.Equal(got, bids[:n]) {
			t.Errorf("left behind %d bids: %v", n, got)
		}
	}
	var pairs int
	for a := range all {
		for b := range all {
			if a == b {
				break
			}
			pairs++
		}
	}
	if pairs != 3 {
		t.Errorf("%d pairs of bids, one ahead of the other", pairs)
	}
}

// TestAllWhenItBegins: the bids are told as they stand when going over them begins, not as when All is called, and not as they come to stand in between.
func TestAllWhenItBegins(t *testing.T) {
	b := filled(t, 5, list(0, 7, 1, 9)...)
	all := b.All()
	wantBid(t, b, 2, 6, api.OK)
	if got, want := slices.Collect(all), list(0, 7, 1, 9, 2, 6); !slices.Equal(got, want) {
		t.Errorf("behind a bid: %v, not %v", got, want)
	}

	var got []api.Secret
	for bid := range all {
		got = append(got, bid)
		wantDrop(t, b, bid.Bidder, api.OK)
		wantBid(t, b, 10+bid.Bidder, bid.Coins, api.OK)
	}
	if want := list(0, 7, 1, 9, 2, 6); !slices.Equal(got, want) {
		t.Errorf("with changes in between: %v, not %v", got, want)
	}
	wantStands(t, b, list(10, 7, 11, 9, 12, 6)...)

	next, stop := iter.Pull(all)
	defer stop()
	first, _ := next()
	wantBid(t, b, 10, 8, api.OK)
	second, _ := next()
	third, _ := next()
	if got, want := []api.Secret{first, second, third}, list(10, 7, 11, 9, 12, 6); !slices.Equal(got, want) {
		t.Errorf("with a bid again in between: %v, not %v", got, want)
	}
	if bid, more := next(); more {
		t.Errorf("behind the last one: %v", bid)
	}
	wantStands(t, b, list(11, 9, 12, 6, 10, 8)...)
}

// TestCopy: neither tells of what is done to the other.
func TestCopy(t *testing.T) {
	b := filled(t, 5, list(0, 7, 1, 9, 2, 6)...)
	c := b.Copy()
	if c == b {
		t.Fatal("Copy answers the same one")
	}
	wantStands(t, c, list(0, 7, 1, 9, 2, 6)...)
	wantBid(t, c, 3, 4, api.ErrLow)

	wantDrop(t, b, 0, api.OK)
	wantBid(t, b, 1, 10, api.OK)
	wantStands(t, b, list(2, 6, 1, 10)...)
	wantStands(t, c, list(0, 7, 1, 9, 2, 6)...)

	wantBid(t, c, 3, 8, api.OK)
	wantBid(t, b, 4, 20, api.OK)
	wantStands(t, b, list(2, 6, 1, 10, 4, 20)...)
	wantStands(t, c, list(0, 7, 1, 9, 2, 6, 3, 8)...)
	wantSold(t, b, sold(4, 20, 10))
	wantSold(t, c, sold(1, 9, 8))

	empty := newBox(t, 0)
	other := empty.Copy()
	wantBid(t, other, 0, 0, api.OK)
	wantStands(t, empty)
	wantStands(t, other, list(0, 0)...)
}

// TestTwoBoxes: two of one floor have nothing in common.
func TestTwoBoxes(t *testing.T) {
	a, b := newBox(t, 5), newBox(t, 5)
	wantBid(t, a, 0, 7, api.OK)
	wantStands(t, b)
	wantBid(t, b, 0, 8, api.OK)
	wantStands(t, a, list(0, 7)...)
}
