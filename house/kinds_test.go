package house_test

import (
	"math"
	"testing"

	"gavel/api"
)

// TestRising: who leads, at which price, with what held; the errors at their bounds.
func TestRising(t *testing.T) {
	h := three(t, risingLot(), sealedLot())
	asksLot(t, h, 0, api.LotNow{Lot: risingLot(), Closes: 10, Leader: -1})
	asksStands(t, h, 0)
	refused(t, h, bidCoins(2, 0, 9), api.ErrLow)
	refused(t, h, bidCoins(2, 0, 51), api.ErrBudget)
	play(t, h, step{bidCoins(2, 0, 50), done(5, 10)})
	asksHeld(t, h, 0, 0, 50)
	refused(t, h, bidCoins(2, 0, 50), api.ErrLow)
	refused(t, h, bidCoins(2, 0, 51), api.ErrBudget)
	refused(t, h, bidCoins(0, 0, 14), api.ErrLow)
	must(t, h, bidCoins(0, 1, 86))
	refused(t, h, bidCoins(0, 0, 15), api.ErrBudget)
	must(t, h, drop(0, 1))
	play(t, h, step{bidCoins(0, 0, 15), done(8, 20)})
	asksHeld(t, h, 0, 0, 50)
	must(t, h, bring(2, 10))
	refused(t, h, bidCoins(2, 0, 61), api.ErrBudget)
	play(t, h, step{bidCoins(2, 0, 60), done(10, 20)})
	asksHeld(t, h, 0, 0, 60)
	asksLot(t, h, 0, api.LotNow{Lot: risingLot(), Closes: 10, Price: 20, Leader: 2, Bids: 1})
	asksStands(t, h, 0, standing(2, 60, set(0, 60)))
	play(t, h, step{bidCoins(1, 0, 60), done(11, 60)}, step{bidCoins(1, 0, 64), not(api.ErrLow)}, step{bidCoins(1, 0, 65), done(12, 65)})
	asksHeld(t, h, 0, 65, 0)
	refused(t, h, drop(1, 0), api.ErrKind)
	refused(t, h, drop(2, 0), api.ErrKind)
	play(t, h, step{tick(10), done(13, 2)})
	asksLot(t, h, 0, api.LotNow{Lot: risingLot(), Closes: 10, Closed: true, Price: 65, Leader: 1})
	asksStands(t, h, 0)
	asksSales(t, h, api.Sale{Number: 13, Bidder: 1, Coins: 65, Tick: 10})
	asksHeld(t, h, 0, 0, 0)
	asksSpent(t, h, 0, 65, 0)
}

// TestRisingAlone: who leads without another bid pays where it began; a lot that nobody bids at is not sold.
func TestRisingAlone(t *testing.T) {
	h := three(t, risingLot(), risingLot())
	must(t, h, bidCoins(1, 0, 90), tick(11))
	asksSales(t, h, api.Sale{Number: 6, Bidder: 1, Coins: 10, Tick: 11})
	asksLot(t, h, 1, api.LotNow{Lot: risingLot(), Closes: 10, Closed: true, Leader: -1})
	asksHeld(t, h, 0, 0, 0)
	asksSpent(t, h, 0, 10, 0)
}

// TestRisingForNothing: a limit of no coins leads, too.
func TestRisingForNothing(t *testing.T) {
	l := risingLot()
	l.Start = 0
	h := three(t, l)
	play(t, h, step{bidCoins(2, 0, 0), done(4, 0)})
	asksStands(t, h, 0, standing(2, 0, set(0, 0)))
	asksLot(t, h, 0, api.LotNow{Lot: l, Closes: 10, Leader: 2, Bids: 1})
	must(t, h, tick(10))
	asksSales(t, h, api.Sale{Number: 5, Bidder: 2, Tick: 10})
}

// TestRisingExtends: a lot closes later by a bid that is taken, not by one that is refused; its time goes on up to the new tick.
func TestRisingExtends(t *testing.T) {
	l := api.Lot{Kind: api.Rising, Closes: 10, Start: 1, Step: 1, Extend: 5, Last: 13}
	h := three(t, l, sealedLot())
	must(t, h, tick(5), bidCoins(0, 0, 5))
	asksLot(t, h, 0, api.LotNow{Lot: l, Closes: 10, Price: 1, Leader: 0, Bids: 1})
	must(t, h, tick(6))
	refused(t, h, bidCoins(1, 0, 1), api.ErrLow)
	must(t, h, bidCoins(1, 0, 2))
	asksLot(t, h, 0, api.LotNow{Lot: l, Closes: 11, Price: 3, Leader: 0, Bids: 1})
	play(t, h, step{tick(10), done(9, 1)})
	must(t, h, bidCoins(0, 0, 6))
	asksLot(t, h, 0, api.LotNow{Lot: l, Closes: 13, Price: 3, Leader: 0, Bids: 1})
	play(t, h, step{tick(12), done(11, 0)}, step{tick(13), done(12, 1)})
	asksLot(t, h, 0, api.LotNow{Lot: l, Closes: 13, Closed: true, Price: 3, Leader: 0})
}

// TestFalling: the price as time goes on; the errors at their bounds; it is sold at once.
func TestFalling(t *testing.T) {
	l := opening(fallingLot(), 10, 30)
	h := three(t, l, l, opening(sealedLot(), 0, 40))
	asksLot(t, h, 0, api.LotNow{Lot: l, Closes: 30, Price: 50, Leader: -1})
	refused(t, h, bidCoins(0, 0, 99), api.ErrTime)
	must(t, h, bidCoins(2, 2, 6), bidCoins(1, 2, 54))
	for _, x := range []struct{ at, price int64 }{{9, 50}, {10, 50}, {11, 47}, {19, 23}, {20, 20}, {29, 20}} {
		g := h.Copy()
		must(t, g, tick(x.at))
		if got := lotOf(t, g, 0); got.Price != x.price || got.Closed || got.Leader != -1 || got.Bids != 0 {
			t.Errorf("at %d: %+v", x.at, got)
		}
	}
	must(t, h, tick(11))
	refused(t, h, bidCoins(2, 0, 46), api.ErrLow)
	refused(t, h, bidCoins(1, 0, 47), api.ErrBudget)
	refused(t, h, bidCoins(1, 0, 46), api.ErrLow)
	refused(t, h, drop(2, 0), api.ErrKind)
	must(t, h, bring(2, 2))
	refused(t, h, bidCoins(2, 0, 47), api.ErrBudget)
	must(t, h, bring(2, 1))
	play(t, h, step{bidCoins(2, 0, 99), done(11, 47)})
	asksHeld(t, h, 0, 54, 6)
	asksSpent(t, h, 0, 0, 47)
	asksLot(t, h, 0, api.LotNow{Lot: l, Closes: 30, Closed: true, Price: 47, Leader: -1})
	asksStands(t, h, 0)
	asksSales(t, h, api.Sale{Number: 11, Bidder: 2, Coins: 47, Tick: 11})
	refused(t, h, bidCoins(0, 0, 99), api.ErrTime)
	play(t, h, step{tick(30), done(h.Orders(), 1)})
	asksLot(t, h, 0, api.LotNow{Lot: l, Closes: 30, Closed: true, Price: 47, Leader: -1})
	asksLot(t, h, 1, api.LotNow{Lot: l, Closes: 30, Closed: true, Leader: -1})
}

// TestFallingClosesNothingElse: what is sold by a bid leaves the other lots running, and counts for no Time.
func TestFallingClosesNothingElse(t *testing.T) {
	h := three(t, fallingLot(), sealedLot(), fallingLot())
	must(t, h, bidCoins(0, 0, 50))
	for n, closed := range []bool{true, false, false} {
		if lotOf(t, h, n).Closed != closed {
			t.Errorf("lot %d: %v", n, !closed)
		}
	}
	play(t, h, step{tick(9), done(7, 0)}, step{tick(10), done(8, 2)}, step{tick(11), done(9, 0)})
}

// TestFallingFar: a price that falls by more than 64 bits hold is the floor.
func TestFallingFar(t *testing.T) {
	h := three(t, api.Lot{Kind: api.Falling, Closes: api.MaxTick, Start: api.MaxCoins, Floor: 7, Fall: api.MaxCoins})
	must(t, h, tick(api.MaxTick-1))
	play(t, h, step{bidCoins(0, 0, 6), not(api.ErrLow)}, step{bidCoins(0, 0, 7), done(5, 7)})
}

// TestSealed: bids stand, are replaced and go behind all others; the errors at their bounds; a refused one leaves the last one.
func TestSealed(t *testing.T) {
	h := three(t, sealedLot())
	refused(t, h, drop(0, 0), api.ErrNone)
	refused(t, h, bidCoins(0, 0, 4), api.ErrLow)
	refused(t, h, bidCoins(0, 0, 0), api.ErrLow)
	refused(t, h, bidCoins(2, 0, 51), api.ErrBudget)
	must(t, h, bidCoins(0, 0, 30), bidCoins(1, 0, 30), bidCoins(2, 0, 5))
	asksStands(t, h, 0, standing(0, 30, set(0, 30)), standing(1, 30, set(0, 30)), standing(2, 5, set(0, 5)))
	asksLot(t, h, 0, api.LotNow{Lot: sealedLot(), Closes: 10, Leader: -1, Bids: 3})
	refused(t, h, bidCoins(0, 0, 101), api.ErrBudget)
	refused(t, h, bidCoins(0, 0, 4), api.ErrLow)
	must(t, h, bidCoins(0, 0, 30))
	asksStands(t, h, 0, standing(1, 30, set(0, 30)), standing(2, 5, set(0, 5)), standing(0, 30, set(0, 30)))
	must(t, h, bidCoins(2, 0, 50))
	asksHeld(t, h, 30, 30, 50)
	must(t, h, drop(2, 0))
	asksHeld(t, h, 30, 30, 0)
	refused(t, h, drop(2, 0), api.ErrNone)
	asksStands(t, h, 0, standing(1, 30, set(0, 30)), standing(0, 30, set(0, 30)))
	must(t, h, tick(10))
	asksSales(t, h, api.Sale{Number: h.Orders() - 1, Bidder: 1, Coins: 30, Tick: 10})
	asksLot(t, h, 0, api.LotNow{Lot: sealedLot(), Closes: 10, Closed: true, Price: 30, Leader: -1})
	asksStands(t, h, 0)
	asksHeld(t, h, 0, 0, 0)
	asksSpent(t, h, 0, 30, 0)
}

// TestSealedUnsold: without bids it closes, with no price.
func TestSealedUnsold(t *testing.T) {
	h := three(t, sealedLot())
	must(t, h, bidCoins(0, 0, 7), drop(0, 0), tick(10))
	asksSales(t, h)
	asksLot(t, h, 0, api.LotNow{Lot: sealedLot(), Closes: 10, Closed: true, Leader: -1})
	if h.Taken() != 0 {
		t.Error(h.Taken())
	}
}

// TestUnits: the sum is held; the errors at their bounds; who gets several, who none; the price.
func TestUnits(t *testing.T) {
	h := three(t, unitsLot())
	refused(t, h, bidCoins(0, 0, 5, 1), api.ErrLow)
	refused(t, h, bidCoins(2, 0, 26, 25), api.ErrBudget)
	refused(t, h, bidCoins(0, 0, 200, 1), api.ErrLow)
	refused(t, h, bidCoins(0, 0, api.MaxCoins, api.MaxCoins, api.MaxCoins), api.ErrBudget)
	must(t, h, bidCoins(2, 0, 25, 25), bidCoins(1, 0, 2), bidCoins(0, 0, 20, 20, 20))
	asksHeld(t, h, 60, 2, 50)
	asksStands(t, h, 0, standing(2, 50, plain(25, 25)...), standing(1, 2, plain(2)...), standing(0, 60, plain(20, 20, 20)...))
	refused(t, h, bidCoins(2, 0, 26, 25), api.ErrBudget)
	must(t, h, bidCoins(2, 0, 20, 20, 10))
	asksHeld(t, h, 60, 2, 50)
	asksLot(t, h, 0, api.LotNow{Lot: unitsLot(), Closes: 10, Leader: -1, Bids: 3})
	must(t, h, bidCoins(1, 0, 20), drop(0, 0), bidCoins(0, 0, 20, 9))
	asksHeld(t, h, 29, 20, 50)
	must(t, h, tick(10))
	n := h.Orders() - 1
	asksSales(t, h, api.Sale{Number: n, Bidder: 2, Coins: 40, Count: 2, Tick: 10}, api.Sale{Number: n, Bidder: 1, Coins: 20, Count: 1, Tick: 10})
	asksLot(t, h, 0, api.LotNow{Lot: unitsLot(), Closes: 10, Closed: true, Price: 20, Leader: -1})
	asksHeld(t, h, 0, 0, 0)
	asksSpent(t, h, 0, 20, 40)
}

// TestUnitsFloor: where fewer are wanted than there are, each costs the floor, also without bids.
func TestUnitsFloor(t *testing.T) {
	h := three(t, unitsLot(), unitsLot())
	must(t, h, bidCoins(1, 0, 9, 8), tick(10))
	asksSales(t, h, api.Sale{Number: 6, Bidder: 1, Coins: 4, Count: 2, Tick: 10})
	asksLot(t, h, 1, api.LotNow{Lot: unitsLot(), Closes: 10, Closed: true, Price: 2, Leader: -1})
}

// TestPackage: the greatest coins are held; the errors at their bounds; bids are replaced and taken back.
func TestPackage(t *testing.T) {
	l := packageLot(api.Costs)
	h := three(t, l)
	refused(t, h, bid(2, 0, set(1, 1), set(2, 51)), api.ErrBudget)
	must(t, h, bid(2, 0, set(1, 50), set(2, 50), set(3, 49)), bid(0, 0, set(1, 30)))
	asksHeld(t, h, 30, 0, 50)
	asksLot(t, h, 0, api.LotNow{Lot: l, Closes: 10, Leader: -1, Bids: 2})
	asksStands(t, h, 0, standing(2, 50, set(1, 50), set(2, 50), set(3, 49)), standing(0, 30, set(1, 30)))
	refused(t, h, bid(2, 0, set(3, 51)), api.ErrBudget)
	must(t, h, bid(2, 0, set(3, 40)))
	asksStands(t, h, 0, standing(0, 30, set(1, 30)), standing(2, 40, set(3, 40)))
	must(t, h, bid(1, 0, set(2, 8), set(3, 11)), drop(1, 0))
	refused(t, h, drop(1, 0), api.ErrNone)
	must(t, h, bid(1, 0, set(2, 8), set(3, 11)))
	asksHeld(t, h, 30, 11, 40)
	must(t, h, tick(10))
	asksSales(t, h, api.Sale{Number: h.Orders() - 1, Bidder: 2, Coins: 38, Goods: 3, Tick: 10})
	asksHeld(t, h, 0, 0, 0)
	asksSpent(t, h, 0, 0, 38)
}

// TestPackageTies: of choices of one worth the first buyers win, by the order in which their bids stand.
func TestPackageTies(t *testing.T) {
	h := three(t, packageLot(api.Costs))
	must(t, h, bid(0, 0, set(1, 9)), bid(1, 0, set(1, 9)), bid(2, 0, set(2, 4), set(2, 4)))
	must(t, h, bid(0, 0, set(1, 9)), tick(10))
	n := h.Orders() - 1
	asksSales(t, h, api.Sale{Number: n, Bidder: 1, Coins: 9, Goods: 1, Tick: 10}, api.Sale{Number: n, Bidder: 2, Goods: 2, Tick: 10})
}

// TestMaxBuyers: as many bidders as may be bid at a package lot; one more is ErrLong, ahead of ErrBudget, behind ErrArg; who bids there may bid again.
func TestMaxBuyers(t *testing.T) {
	h := three(t, packageLot(api.Core))
	for n := range api.MaxBuyers {
		must(t, h, enter(string(rune('A'+n)), 10), bid(3+n, 0, set(1, 1)))
	}
	refused(t, h, bid(0, 0, set(1, 1)), api.ErrLong)
	refused(t, h, bid(0, 0, set(1, 1000)), api.ErrLong)
	refused(t, h, bid(0, 0, set(4, 1)), api.ErrArg)
	refused(t, h, bid(3, 0, set(1, 11)), api.ErrBudget)
	must(t, h, bid(3, 0, set(1, 2)), bid(3+api.MaxBuyers-1, 0, set(1, 2)))
	refused(t, h, drop(0, 0), api.ErrNone)
	must(t, h, drop(4, 0), bid(0, 0, set(1, 3)))
	refused(t, h, bid(4, 0, set(1, 1)), api.ErrLong)
	if got := lotOf(t, h, 0); got.Bids != api.MaxBuyers {
		t.Errorf("%+v", got)
	}
	must(t, h, tick(10))
	asksSales(t, h, api.Sale{Number: h.Orders() - 1, Coins: 2, Goods: 1, Tick: 10})
}

// TestMaxOffers: as many offers as may be, of as many goods; each of them may win.
func TestMaxOffers(t *testing.T) {
	l := packageLot(api.Core)
	l.Count = api.MaxGoods
	h := three(t, l)
	var list []api.Offer
	for i := range api.MaxOffers {
		list = append(list, set(3<<i, int64(10+i)))
	}
	must(t, h, bid(0, 0, list...), bid(1, 0, set(1<<api.MaxGoods-1, 1)))
	asksHeld(t, h, 17, 1)
	must(t, h, tick(10))
	asksSales(t, h, api.Sale{Number: 6, Coins: 1, Goods: 3 << 7, Tick: 10})
}

// TestDropErrors: behind the lot that does not run, its kind; behind that, who has no bid there.
func TestDropErrors(t *testing.T) {
	h := three(t, allLots()...)
	for n, l := range allLots() {
		want := api.ErrNone
		if l.Kind == api.Rising || l.Kind == api.Falling {
			want = api.ErrKind
		}
		refused(t, h, drop(0, n), want)
	}
}

// TestTime: its errors, in their order, and its bounds; at the tick that is now it is done, and closes nothing.
func TestTime(t *testing.T) {
	h := three(t, sealedLot())
	play(t, h, step{tick(0), done(4, 0)}, step{tick(9), done(5, 0)}, step{tick(9), done(6, 0)})
	refused(t, h, tick(8), api.ErrTime)
	refused(t, h, tick(0), api.ErrTime)
	for _, x := range []int64{-1, api.MaxTick + 1, math.MinInt64, math.MaxInt64} {
		refused(t, h, tick(x), api.ErrArg)
	}
	play(t, h, step{tick(10), done(7, 1)}, step{tick(10), done(8, 0)}, step{tick(api.MaxTick), done(9, 0)}, step{tick(api.MaxTick), done(10, 0)})
	refused(t, h, tick(api.MaxTick-1), api.ErrTime)
	if h.Now() != api.MaxTick || h.Orders() != 11 {
		t.Errorf("now %d, %d orders", h.Now(), h.Orders())
	}
	refused(t, h, put(opening(sealedLot(), api.MaxTick, api.MaxTick+1)), api.ErrArg)
}

// TestClosingOrder: lots close by their Closes, of one Closes by their numbers, at the tick that is now then.
func TestClosingOrder(t *testing.T) {
	h := three(t)
	for _, closes := range []int64{7, 5, 9, 5, 7, 12, 1} {
		must(t, h, put(opening(sealedLot(), 0, closes)))
	}
	for n := range 7 {
		must(t, h, bidCoins(n%2, n, int64(5+n)))
	}
	play(t, h, step{tick(11), done(17, 6)})
	var lots []int
	for _, s := range h.Sales() {
		lots = append(lots, s.Lot)
		if s.Number != 17 || s.Tick != 11 || s.Coins != 5 || s.Bidder != s.Lot%2 {
			t.Errorf("%+v", s)
		}
	}
	for i, n := range []int{6, 1, 3, 0, 4, 2} {
		if len(lots) != 6 || lots[i] != n {
			t.Fatalf("%v", lots)
		}
	}
	play(t, h, step{tick(12), done(18, 1)})
	if s := h.Sales(); len(s) != 7 || s[6] != (api.Sale{Number: 18, Lot: 5, Bidder: 1, Coins: 5, Tick: 12}) || h.Taken() != 35 {
		t.Errorf("%+v, %d", s, h.Taken())
	}
}

// TestFreedInTheSameOrder: what one lot's close frees and spends is told of the bidder behind the order.
func TestFreedInTheSameOrder(t *testing.T) {
	h := three(t, sealedLot(), unitsLot(), packageLot(api.Core), risingLot())
	must(t, h, bidCoins(0, 0, 30), bidCoins(0, 1, 10, 10), bid(0, 2, set(1, 20)), bidCoins(0, 3, 30))
	refused(t, h, bidCoins(0, 0, 31), api.ErrBudget)
	must(t, h, tick(10))
	if b := bidderOf(t, h, 0); b != (api.Bidder{Name: "ann", Budget: 100, Spent: 5 + 4 + 0 + 10}) || h.Taken() != 19 {
		t.Errorf("%+v, %d", b, h.Taken())
	}
	must(t, h, put(opening(sealedLot(), 10, 11)), bidCoins(0, 4, 81))
	refused(t, h, bidCoins(0, 4, 82), api.ErrBudget)
}
