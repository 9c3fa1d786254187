package house_test

import (
	"math"
	"reflect"
	"slices"
	"strconv"
	"strings"
	"testing"

	"gavel/api"
	"gavel/house"
)

func enter(name string, coins int64) api.Order {
	return api.Order{Kind: api.OrderEnter, Name: name, Coins: coins}
}

func bring(bidder int, coins int64) api.Order {
	return api.Order{Kind: api.OrderBring, Bidder: bidder, Coins: coins}
}

func put(l api.Lot) api.Order { return api.Order{Kind: api.OrderPut, Put: l} }

func bid(bidder, lot int, l ...api.Offer) api.Order {
	return api.Order{Kind: api.OrderBid, Bidder: bidder, Lot: lot, Offers: l}
}

// bidCoins is a bid without goods.
func bidCoins(bidder, lot int, coins ...int64) api.Order {
	return bid(bidder, lot, plain(coins...)...)
}

func drop(bidder, lot int) api.Order {
	return api.Order{Kind: api.OrderDrop, Bidder: bidder, Lot: lot}
}

func tick(t int64) api.Order { return api.Order{Kind: api.OrderTime, Tick: t} }

// plain is offers without goods.
func plain(coins ...int64) []api.Offer {
	var l []api.Offer
	for _, c := range coins {
		l = append(l, api.Offer{Coins: c})
	}
	return l
}

func set(g api.Goods, coins int64) api.Offer { return api.Offer{Goods: g, Coins: coins} }

func done(number, value int64) api.Answer { return api.Answer{Number: number, Value: value} }

func not(err api.Errno) api.Answer { return api.Answer{Err: err} }

// Lots of each kind that open at 0 and close at 10.
func risingLot() api.Lot {
	return api.Lot{Kind: api.Rising, Closes: 10, Start: 10, Step: 5, Last: 10}
}

func fallingLot() api.Lot {
	return api.Lot{Kind: api.Falling, Closes: 10, Start: 50, Floor: 20, Fall: 3}
}

func sealedLot() api.Lot { return api.Lot{Kind: api.Sealed, Closes: 10, Floor: 5} }

func unitsLot() api.Lot { return api.Lot{Kind: api.Units, Closes: 10, Floor: 2, Count: 3} }

func packageLot(r api.Rule) api.Lot {
	return api.Lot{Kind: api.Package, Closes: 10, Count: 2, Rule: r}
}

func allLots() []api.Lot {
	return []api.Lot{risingLot(), fallingLot(), sealedLot(), unitsLot(), packageLot(api.Costs), packageLot(api.Core)}
}

// opening is a lot with other ticks.
func opening(l api.Lot, opens, closes int64) api.Lot {
	l.Opens, l.Closes = opens, closes
	if l.Kind == api.Rising {
		l.Last = closes
	}
	return l
}

type step struct {
	order api.Order
	want  api.Answer
}

// play lets a house do orders, and asks for their answers.
func play(t *testing.T, h *house.House, steps ...step) {
	t.Helper()
	for i, s := range steps {
		if got := h.Do(s.order); got != s.want {
			t.Errorf("step %d: %+v: %+v, not %+v", i, s.order, got, s.want)
		}
	}
}

// must lets a house do orders, none of which it refuses.
func must(t *testing.T, h *house.House, orders ...api.Order) {
	t.Helper()
	for i, a := range h.Run(orders...) {
		if a.Err != api.OK {
			t.Fatalf("order %d: %+v: %v", i, orders[i], a.Err)
		}
	}
}

// refused asks that a house refuses an order so, and that it is the same then.
func refused(t *testing.T, h *house.House, o api.Order, err api.Errno) {
	t.Helper()
	was := h.Copy()
	if got := h.Do(o); got != not(err) {
		t.Errorf("%+v: %+v, not %v", o, got, err)
	}
	if !h.Same(was) {
		t.Errorf("%+v: refused, and another house", o)
	}
}

// with is a house that has done orders, none of which it refused.
func with(t *testing.T, orders ...api.Order) *house.House {
	t.Helper()
	h := house.New()
	must(t, h, orders...)
	return h
}

// three is a house with ann and bob of 100 coins, cid of 50, as bidders 0, 1, 2, and these lots.
func three(t *testing.T, lots ...api.Lot) *house.House {
	t.Helper()
	h := with(t, enter("ann", 100), enter("bob", 100), enter("cid", 50))
	for _, l := range lots {
		must(t, h, put(l))
	}
	return h
}

func bidderOf(t *testing.T, h *house.House, n int) api.Bidder {
	t.Helper()
	b, err := h.Bidder(n)
	if err != api.OK {
		t.Fatalf("Bidder(%d): %v", n, err)
	}
	return b
}

func lotOf(t *testing.T, h *house.House, n int) api.LotNow {
	t.Helper()
	l, err := h.Lot(n)
	if err != api.OK {
		t.Fatalf("Lot(%d): %v", n, err)
	}
	return l
}

func standsOf(t *testing.T, h *house.House, n int) []api.Standing {
	t.Helper()
	l, err := h.Stands(n)
	if err != api.OK {
		t.Fatalf("Stands(%d): %v", n, err)
	}
	return l
}

// asksHeld asks what is held of each bidder.
func asksHeld(t *testing.T, h *house.House, want ...int64) {
	t.Helper()
	for n, w := range want {
		if b := bidderOf(t, h, n); b.Held != w {
			t.Errorf("held of %d: %d, not %d", n, b.Held, w)
		}
	}
}

// asksSpent asks what each bidder has spent.
func asksSpent(t *testing.T, h *house.House, want ...int64) {
	t.Helper()
	for n, w := range want {
		if b := bidderOf(t, h, n); b.Spent != w {
			t.Errorf("spent of %d: %d, not %d", n, b.Spent, w)
		}
	}
}

func asksLot(t *testing.T, h *house.House, n int, want api.LotNow) {
	t.Helper()
	if got := lotOf(t, h, n); got != want {
		t.Errorf("lot %d: %+v, not %+v", n, got, want)
	}
}

func asksStands(t *testing.T, h *house.House, n int, want ...api.Standing) {
	t.Helper()
	got := standsOf(t, h, n)
	if len(got) != len(want) || len(got) > 0 && !reflect.DeepEqual(got, want) {
		t.Errorf("stands at %d: %+v, not %+v", n, got, want)
	}
}

func asksSales(t *testing.T, h *house.House, want ...api.Sale) {
	t.Helper()
	if got := h.Sales(); !slices.Equal(got, want) {
		t.Errorf("sales: %+v, not %+v", got, want)
	}
}

func standing(bidder int, held int64, l ...api.Offer) api.Standing {
	return api.Standing{Bidder: bidder, Offers: l, Held: held}
}

// TestChapterExamples: each row of the chapter's table, in turn.
func TestChapterExamples(t *testing.T) {
	h := house.New()
	play(t, h,
		step{enter("ann", 100), done(0, 0)},
		step{enter("bob", 100), done(1, 1)},
		step{enter("ann", 5), not(api.ErrThere)},
		step{enter("", 5), not(api.ErrArg)},
	)
	play(t, h,
		step{put(sealedLot()), done(2, 0)},
		step{bidCoins(0, 0, 60), done(3, 0)},
		step{bidCoins(1, 0, 40), done(4, 0)},
		step{bidCoins(1, 0, 4), not(api.ErrLow)},
		step{bidCoins(0, 0, 101), not(api.ErrBudget)},
	)
	if b := bidderOf(t, h, 0); b != (api.Bidder{Name: "ann", Budget: 100, Held: 60}) {
		t.Errorf("ann: %+v", b)
	}
	play(t, h, step{tick(10), done(5, 1)})
	if b := bidderOf(t, h, 0); b != (api.Bidder{Name: "ann", Budget: 100, Spent: 40}) {
		t.Errorf("ann: %+v", b)
	}
	asksSales(t, h, api.Sale{Number: 5, Coins: 40, Tick: 10})
	play(t, h,
		step{bidCoins(0, 0, 50), not(api.ErrTime)},
		step{bidCoins(0, 7, 50), not(api.ErrNone)},
		step{tick(9), not(api.ErrTime)},
		step{drop(0, 0), not(api.ErrTime)},
	)
	play(t, h,
		step{put(opening(fallingLot(), 10, 30)), done(6, 1)},
		step{tick(14), done(7, 0)},
		step{bidCoins(1, 1, 37), not(api.ErrLow)},
		step{bidCoins(1, 1, 38), done(8, 38)},
	)
}

// The document's examples of the whole, those of the house.

func TestWholeSealed(t *testing.T) {
	h := three(t, sealedLot(), sealedLot())
	must(t, h, bidCoins(0, 0, 60), bidCoins(1, 0, 40), bidCoins(0, 1, 40), bidCoins(1, 1, 40), drop(1, 1))
	must(t, h, tick(10))
	asksSales(t, h, api.Sale{Number: 10, Coins: 40, Tick: 10}, api.Sale{Number: 10, Lot: 1, Coins: 5, Tick: 10})
	asksSpent(t, h, 45, 0, 0)
	asksHeld(t, h, 0, 0, 0)
}

func TestWholeRising(t *testing.T) {
	h := three(t, risingLot())
	play(t, h, step{bidCoins(0, 0, 60), done(4, 10)})
	play(t, h, step{bidCoins(1, 0, 30), done(5, 35)})
	asksHeld(t, h, 60, 0, 0)
	play(t, h, step{bidCoins(1, 0, 60), done(6, 60)})
	asksHeld(t, h, 60, 0, 0)
	play(t, h, step{bidCoins(1, 0, 65), done(7, 65)})
	asksHeld(t, h, 0, 65, 0)
	asksLot(t, h, 0, api.LotNow{Lot: risingLot(), Closes: 10, Price: 65, Leader: 1, Bids: 1})
	asksStands(t, h, 0, standing(1, 65, set(0, 65)))
}

func TestWholeExtended(t *testing.T) {
	l := api.Lot{Kind: api.Rising, Closes: 100, Start: 10, Step: 5, Extend: 10, Last: 115}
	h := three(t, l)
	for i, x := range []struct{ at, closes int64 }{{90, 100}, {95, 105}, {104, 114}, {113, 115}} {
		must(t, h, tick(x.at), bidCoins(i%2, 0, int64(10+10*i)))
		if got := lotOf(t, h, 0); got.Closes != x.closes || got.Lot != l || got.Closed {
			t.Errorf("a bid at %d: %+v", x.at, got)
		}
	}
	play(t, h, step{tick(114), done(12, 0)}, step{tick(115), done(13, 1)}, step{bidCoins(0, 0, 90), not(api.ErrTime)})
	asksLot(t, h, 0, api.LotNow{Lot: l, Closes: 115, Closed: true, Price: 35, Leader: 1})
	asksSales(t, h, api.Sale{Number: 13, Bidder: 1, Coins: 35, Tick: 115})
}

func TestWholeFalling(t *testing.T) {
	h := three(t, opening(fallingLot(), 10, 30))
	must(t, h, tick(14))
	refused(t, h, bidCoins(2, 0, 37), api.ErrLow)
	play(t, h, step{bidCoins(2, 0, 45), done(5, 38)})
	if b := bidderOf(t, h, 2); b != (api.Bidder{Name: "cid", Budget: 50, Spent: 38}) {
		t.Errorf("cid: %+v", b)
	}
	asksSales(t, h, api.Sale{Number: 5, Bidder: 2, Coins: 38, Tick: 14})
}

func TestWholeUnits(t *testing.T) {
	h := three(t, unitsLot())
	must(t, h, bidCoins(0, 0, 20, 15, 4), bidCoins(1, 0, 18, 10))
	asksHeld(t, h, 39, 28, 0)
	must(t, h, tick(10))
	asksSales(t, h, api.Sale{Number: 6, Coins: 20, Count: 2, Tick: 10}, api.Sale{Number: 6, Bidder: 1, Coins: 10, Count: 1, Tick: 10})
	asksLot(t, h, 0, api.LotNow{Lot: unitsLot(), Closes: 10, Closed: true, Price: 10, Leader: -1})
	asksSpent(t, h, 20, 10, 0)
	asksHeld(t, h, 0, 0, 0)
}

func TestWholePackage(t *testing.T) {
	for rule, pays := range map[api.Rule]int64{api.Costs: 0, api.Core: 10} {
		h := three(t, packageLot(rule))
		must(t, h, bid(0, 0, set(1, 10)), bid(1, 0, set(2, 10)), bid(2, 0, set(3, 10)))
		asksHeld(t, h, 10, 10, 10)
		must(t, h, tick(10))
		asksSales(t, h, api.Sale{Number: 7, Goods: 1, Tick: 10}, api.Sale{Number: 7, Bidder: 1, Coins: pays, Goods: 2, Tick: 10})
		asksLot(t, h, 0, api.LotNow{Lot: packageLot(rule), Closes: 10, Closed: true, Leader: -1})
		asksSpent(t, h, 0, pays, 0)
	}
}

func TestWholeBudget(t *testing.T) {
	h := three(t, sealedLot(), sealedLot())
	must(t, h, bidCoins(0, 0, 60))
	refused(t, h, bidCoins(0, 1, 41), api.ErrBudget)
	must(t, h, bidCoins(0, 1, 40))
}

// TestNew: (P24.1) a house without bidders and lots, now 0; each is another one.
func TestNew(t *testing.T) {
	h, g := house.New(), house.New()
	if h == nil || h.Now() != 0 || h.Orders() != 0 || h.Bidders() != 0 || h.Lots() != 0 || h.Taken() != 0 || h.Sales() != nil {
		t.Errorf("New: %+v", h)
	}
	must(t, h, enter("a", 1))
	if g.Bidders() != 0 || g.Same(h) || !g.Same(house.New()) {
		t.Error("two new houses hang together")
	}
	if _, ok := g.Find("a"); ok {
		t.Error("Find in an empty house")
	}
}

// TestRun: (P24.1) each order's answer is Do's, one behind the other.
func TestRun(t *testing.T) {
	orders := []api.Order{enter("a", 1), enter("a", 1), bring(0, 4), tick(3), tick(2), {}, tick(3)}
	h, g := house.New(), house.New()
	got := h.Run(orders...)
	if len(got) != len(orders) {
		t.Fatalf("%d answers", len(got))
	}
	for i, o := range orders {
		if want := g.Do(o); got[i] != want {
			t.Errorf("%d: %+v, not %+v", i, got[i], want)
		}
	}
	if !h.Same(g) || len(h.Run()) != 0 || !h.Same(g) {
		t.Error("Run is not Do, one behind the other")
	}
}

// TestEnter: the order's errors, in their order, and its bounds.
func TestEnter(t *testing.T) {
	h := house.New()
	long := strings.Repeat("x", api.MaxName)
	for i, name := range []string{"a", "\x00", "\xff\xfe", " ", long, "A", "\n"} {
		play(t, h, step{enter(name, int64(i)), done(int64(i), int64(i))})
		if n, ok := h.Find(name); n != i || !ok {
			t.Errorf("Find(%q): %d, %v", name, n, ok)
		}
		if b := bidderOf(t, h, i); b != (api.Bidder{Name: name, Budget: int64(i)}) {
			t.Errorf("Bidder(%d): %+v", i, b)
		}
	}
	play(t, h, step{enter("most", api.MaxCoins), done(7, 7)})
	for _, o := range []api.Order{
		enter("", 5), enter(long+"x", 5), enter("b", -1), enter("b", api.MaxCoins+1), enter("b", math.MinInt64), enter("b", math.MaxInt64), enter("a", -1),
	} {
		refused(t, h, o, api.ErrArg)
	}
	refused(t, h, enter("a", 5), api.ErrThere)
	refused(t, h, enter(long, 0), api.ErrThere)
	if n, ok := h.Find("b"); n != 0 || ok {
		t.Errorf("Find of one who was refused: %d, %v", n, ok)
	}
}

// TestMaxBidders: as many as may be enter; one more is ErrLong, behind ErrArg and ErrThere.
func TestMaxBidders(t *testing.T) {
	h := house.New()
	for n := range api.MaxBidders {
		if a := h.Do(enter(strconv.Itoa(n), 1)); a != done(int64(n), int64(n)) {
			t.Fatalf("%d: %+v", n, a)
		}
	}
	refused(t, h, enter("more", 1), api.ErrLong)
	refused(t, h, enter("7", 1), api.ErrThere)
	refused(t, h, enter("", 1), api.ErrArg)
	refused(t, h, enter("more", -1), api.ErrArg)
	if h.Bidders() != api.MaxBidders {
		t.Errorf("%d bidders", h.Bidders())
	}
	if _, err := h.Bidder(api.MaxBidders - 1); err != api.OK {
		t.Error(err)
	}
	if b, err := h.Bidder(api.MaxBidders); b != (api.Bidder{}) || err != api.ErrNone {
		t.Errorf("%+v, %v", b, err)
	}
}

// TestBring: its errors, in their order, and the budget's bound.
func TestBring(t *testing.T) {
	h := with(t, enter("a", 5), enter("b", 0))
	play(t, h,
		step{bring(0, 2), done(2, 7)}, step{bring(0, 0), done(3, 7)}, step{bring(1, api.MaxCoins), done(4, api.MaxCoins)},
		step{bring(0, api.MaxCoins-7), done(5, api.MaxCoins)},
	)
	for _, c := range []int64{-1, 1, api.MaxCoins, api.MaxCoins + 1, math.MinInt64, math.MaxInt64} {
		refused(t, h, bring(0, c), api.ErrArg)
	}
	for _, n := range []int{-1, 2, math.MinInt, math.MaxInt} {
		refused(t, h, bring(n, -1), api.ErrNone)
	}
	if b := bidderOf(t, h, 0); b.Budget != api.MaxCoins {
		t.Errorf("%+v", b)
	}
}

// TestBringAfterSpent: what was spent is in the budget still, so that no more than its bound can be brought ever.
func TestBringAfterSpent(t *testing.T) {
	h := with(t, enter("a", api.MaxCoins), put(fallingLot()), bidCoins(0, 0, 50))
	refused(t, h, bring(0, 1), api.ErrArg)
	play(t, h, step{bring(0, 0), done(3, api.MaxCoins)})
}

// TestPut: its errors, in their order; lots are numbered.
func TestPut(t *testing.T) {
	h := with(t, tick(5))
	for n, l := range allLots() {
		play(t, h, step{put(opening(l, 5, 6)), done(int64(n)+1, int64(n))})
		asks := lotOf(t, h, n)
		if asks.Lot != opening(l, 5, 6) || asks.Closes != 6 || asks.Closed || asks.Bids != 0 || asks.Leader != -1 {
			t.Errorf("%+v", asks)
		}
	}
	for _, l := range allLots() {
		refused(t, h, put(opening(l, 4, 60)), api.ErrTime)
		refused(t, h, put(opening(l, 4, 4)), api.ErrArg)
		refused(t, h, put(opening(l, 5, 5)), api.ErrArg)
		refused(t, h, put(opening(l, -1, 60)), api.ErrArg)
	}
	refused(t, h, put(api.Lot{}), api.ErrArg)
	if h.Lots() != len(allLots()) {
		t.Errorf("%d lots", h.Lots())
	}
}

// TestMaxLots: as many as may be are put up; one more is ErrLong, behind ErrArg and ErrTime.
func TestMaxLots(t *testing.T) {
	h := with(t, tick(1))
	for n := range api.MaxLots {
		if a := h.Do(put(opening(sealedLot(), 1, 10+int64(n%3)))); a != done(int64(n)+1, int64(n)) {
			t.Fatalf("%d: %+v", n, a)
		}
	}
	refused(t, h, put(opening(sealedLot(), 1, 10)), api.ErrLong)
	refused(t, h, put(opening(sealedLot(), 0, 10)), api.ErrTime)
	refused(t, h, put(api.Lot{}), api.ErrArg)
	play(t, h, step{tick(11), done(api.MaxLots+1, 1366+1365)}, step{tick(12), done(api.MaxLots+2, 1365)})
	refused(t, h, put(opening(sealedLot(), 12, 20)), api.ErrLong)
	if _, err := h.Lot(api.MaxLots - 1); err != api.OK {
		t.Error(err)
	}
	if l, err := h.Lot(api.MaxLots); l != (api.LotNow{}) || err != api.ErrNone {
		t.Errorf("%+v, %v", l, err)
	}
}

// TestCheck: (P24.1) each field of each kind at its bounds.
func TestCheck(t *testing.T) {
	r, f, s, u, p := risingLot(), fallingLot(), sealedLot(), unitsLot(), packageLot(api.Core)
	may := func(l api.Lot, changes ...func(*api.Lot)) {
		t.Helper()
		for i, change := range changes {
			x := l
			change(&x)
			if err := house.Check(x); err != api.OK {
				t.Errorf("%d: %+v: %v", i, x, err)
			}
			if a := house.New().Do(put(x)); a != done(0, 0) {
				t.Errorf("%d: %+v: %+v", i, x, a)
			}
		}
	}
	not := func(l api.Lot, changes ...func(*api.Lot)) {
		t.Helper()
		for i, change := range changes {
			x := l
			change(&x)
			if err := house.Check(x); err != api.ErrArg {
				t.Errorf("%d: %+v: %v", i, x, err)
			}
			if a := house.New().Do(put(x)); a.Err != api.ErrArg {
				t.Errorf("%d: %+v: %+v", i, x, a)
			}
		}
	}
	numbers := func(place func(*api.Lot) *int64, list ...int64) []func(*api.Lot) {
		var changes []func(*api.Lot)
		for _, x := range list {
			changes = append(changes, func(l *api.Lot) { *place(l) = x })
		}
		return changes
	}
	opens := func(l *api.Lot) *int64 { return &l.Opens }
	closes := func(l *api.Lot) *int64 { return &l.Closes }
	start := func(l *api.Lot) *int64 { return &l.Start }
	step := func(l *api.Lot) *int64 { return &l.Step }
	extend := func(l *api.Lot) *int64 { return &l.Extend }
	last := func(l *api.Lot) *int64 { return &l.Last }
	floor := func(l *api.Lot) *int64 { return &l.Floor }
	fall := func(l *api.Lot) *int64 { return &l.Fall }
	count := func(list ...int) []func(*api.Lot) {
		var changes []func(*api.Lot)
		for _, x := range list {
			changes = append(changes, func(l *api.Lot) { l.Count = x })
		}
		return changes
	}
	rule := func(list ...api.Rule) []func(*api.Lot) {
		var changes []func(*api.Lot)
		for _, x := range list {
			changes = append(changes, func(l *api.Lot) { l.Rule = x })
		}
		return changes
	}
	wrongCoins := []int64{-1, api.MaxCoins + 1, math.MinInt64, math.MaxInt64}
	wrongTicks := []int64{-1, api.MaxTick + 1, math.MinInt64, math.MaxInt64}

	for _, l := range []api.Lot{r, f, s, u, p, packageLot(api.Costs)} {
		l.Last = 0
		if l.Kind == api.Rising {
			l.Last = api.MaxTick
		}
		may(l, numbers(opens, 0, 9)...)
		may(l, numbers(closes, 1, api.MaxTick)...)
		not(l, numbers(opens, append(wrongTicks, 10, 11)...)...)
		not(l, numbers(closes, append(wrongTicks, 0)...)...)
		not(l, func(l *api.Lot) { l.Kind = 0 }, func(l *api.Lot) { l.Kind = 6 }, func(l *api.Lot) { l.Kind = -1 }, func(l *api.Lot) { l.Kind = math.MaxInt })
	}

	may(r, numbers(start, 0, api.MaxCoins)...)
	not(r, numbers(start, wrongCoins...)...)
	may(r, numbers(step, 1, api.MaxCoins)...)
	not(r, numbers(step, append(wrongCoins, 0)...)...)
	may(r, numbers(extend, 0, 1, api.MaxTick)...)
	not(r, numbers(extend, wrongTicks...)...)
	may(r, numbers(last, 10, api.MaxTick)...)
	not(r, numbers(last, append(wrongTicks, 0, 9)...)...)
	not(r, numbers(floor, 1, -1)...)
	not(r, numbers(fall, 1, -1)...)
	not(r, count(1, -1)...)
	not(r, rule(1, 2, -1)...)

	may(f, numbers(start, 20, 21, api.MaxCoins)...)
	not(f, numbers(start, append(wrongCoins, 19)...)...)
	may(f, numbers(floor, 0, 50)...)
	not(f, numbers(floor, append(wrongCoins, 51)...)...)
	may(f, numbers(fall, 0, 1, api.MaxCoins)...)
	not(f, numbers(fall, wrongCoins...)...)
	not(f, numbers(step, 1, -1)...)
	not(f, numbers(extend, 1, -1)...)
	not(f, numbers(last, 10, -1)...)
	not(f, count(1, -1)...)
	not(f, rule(1, 2, -1)...)

	for _, l := range []api.Lot{s, u} {
		may(l, numbers(floor, 0, api.MaxCoins)...)
		not(l, numbers(floor, wrongCoins...)...)
		not(l, rule(1, 2, -1)...)
	}
	not(s, count(1, -1)...)
	may(u, count(1, api.MaxCount)...)
	not(u, count(0, -1, api.MaxCount+1, math.MaxInt, math.MinInt)...)
	may(p, count(1, api.MaxGoods)...)
	not(p, count(0, -1, api.MaxGoods+1, math.MaxInt, math.MinInt)...)
	may(p, rule(api.Costs, api.Core)...)
	not(p, rule(0, 3, -1, math.MaxInt)...)
	not(p, numbers(floor, 1, -1)...)
	for _, l := range []api.Lot{s, u, p} {
		not(l, numbers(start, 1, -1)...)
		not(l, numbers(step, 1, -1)...)
		not(l, numbers(extend, 1, -1)...)
		not(l, numbers(last, 10, -1)...)
		not(l, numbers(fall, 1, -1)...)
	}
}

// TestUnnamed: ahead of all else an order is refused that has what its kind does not name, or whose kind is none; a list without elements is nothing.
func TestUnnamed(t *testing.T) {
	h := three(t, sealedLot())
	must(t, h, bidCoins(0, 0, 7))
	fields := map[string]func(*api.Order){
		"Name":   func(o *api.Order) { o.Name = "x" },
		"Coins":  func(o *api.Order) { o.Coins = 1 },
		"coins":  func(o *api.Order) { o.Coins = -1 },
		"Bidder": func(o *api.Order) { o.Bidder = 1 },
		"bidder": func(o *api.Order) { o.Bidder = -1 },
		"Lot":    func(o *api.Order) { o.Lot = 1 },
		"Put":    func(o *api.Order) { o.Put = sealedLot() },
		"put":    func(o *api.Order) { o.Put.Rule = 1 },
		"Offers": func(o *api.Order) { o.Offers = make([]api.Offer, 1) },
		"Tick":   func(o *api.Order) { o.Tick = 1 },
	}
	names := map[api.OrderKind]string{
		api.OrderEnter: "Name Coins coins", api.OrderBring: "Bidder bidder Coins coins", api.OrderPut: "Put put",
		api.OrderBid: "Bidder bidder Lot Offers", api.OrderDrop: "Bidder bidder Lot", api.OrderTime: "Tick",
	}
	right := []api.Order{enter("new", 1), bring(0, 1), put(sealedLot()), bidCoins(0, 0, 8), drop(0, 0), tick(0)}
	wrong := []api.Order{enter("", 1), bring(9, 1), put(api.Lot{}), bidCoins(9, 0, 8), drop(0, 9), tick(-1)}
	for field, change := range fields {
		for _, o := range slices.Concat(right, wrong) {
			if slices.Contains(strings.Fields(names[o.Kind]), field) {
				continue
			}
			change(&o)
			refused(t, h, o, api.ErrArg)
		}
	}
	for _, kind := range []api.OrderKind{0, -1, 7, 8, math.MaxInt, math.MinInt} {
		for _, o := range right {
			o.Kind = kind
			refused(t, h, o, api.ErrArg)
		}
		refused(t, h, api.Order{Kind: kind}, api.ErrArg)
	}
	for _, o := range right {
		g := h.Copy()
		if o.Kind != api.OrderBid {
			o.Offers = []api.Offer{}
		}
		if a := g.Do(o); a.Err != api.OK {
			t.Errorf("%+v: %v", o, a.Err)
		}
	}
}

// TestBidOrder: of several errors of a bid the first one is told: ErrNone, ErrTime, ErrArg, then the kind's.
func TestBidOrder(t *testing.T) {
	for _, l := range allLots() {
		h := three(t, opening(l, 3, 10))
		for _, o := range [][]api.Offer{nil, plain(10), plain(-1), {set(1, 10)}, plain(1, 2)} {
			for _, n := range []int{-1, 3, math.MaxInt, math.MinInt} {
				refused(t, h, bid(n, 0, o...), api.ErrNone)
				refused(t, h, drop(n, 0), api.ErrNone)
			}
			for _, n := range []int{-1, 1, math.MaxInt, math.MinInt} {
				refused(t, h, bid(0, n, o...), api.ErrNone)
				refused(t, h, drop(0, n), api.ErrNone)
			}
			refused(t, h, bid(0, 0, o...), api.ErrTime)
			refused(t, h, drop(0, 0), api.ErrTime)
		}
		must(t, h, tick(2))
		refused(t, h, bid(0, 0), api.ErrTime)
		must(t, h, tick(3))
		refused(t, h, bid(0, 0), api.ErrArg)
		must(t, h, tick(9))
		refused(t, h, bid(0, 0), api.ErrArg)
		must(t, h, tick(10))
		refused(t, h, bid(0, 0), api.ErrTime)
		refused(t, h, drop(0, 0), api.ErrTime)
		refused(t, h, bid(0, 1), api.ErrNone)
	}
}

// TestNoBid: offers that are no bid of a kind are ErrArg, ahead of ErrLow and ErrBudget.
func TestNoBid(t *testing.T) {
	one := [][]api.Offer{
		nil, {}, plain(-1), plain(math.MinInt64), plain(api.MaxCoins + 1), plain(math.MaxInt64), plain(50, 50), plain(50, 49),
		{set(1, 50)}, {set(1, 0)}, {set(math.MaxUint32, 50)}, {set(1, 1<<40)},
	}
	for _, l := range []api.Lot{risingLot(), fallingLot(), sealedLot()} {
		h := three(t, l)
		for _, o := range one {
			refused(t, h, bid(0, 0, o...), api.ErrArg)
		}
	}
	h := three(t, unitsLot())
	for _, o := range [][]api.Offer{
		nil, {}, plain(-1), plain(api.MaxCoins + 1), plain(5, 6), plain(5, 5, 6), plain(5, -1), plain(9, 8, 7, 6), plain(1, 2), plain(200, 201), plain(5, 4, 1, 1),
		{set(1, 5)}, {set(0, 5), set(1, 4)}, {set(0, 1), set(2, 1)}, {set(0, 200), set(1, 200)}, make([]api.Offer, 1000),
	} {
		refused(t, h, bid(0, 0, o...), api.ErrArg)
	}
	h = three(t, packageLot(api.Costs))
	many := slices.Repeat([]api.Offer{set(1, 1)}, api.MaxOffers+1)
	for _, o := range [][]api.Offer{
		nil, {}, plain(5), {set(4, 5)}, {set(7, 5)}, {set(3, 0)}, {set(3, -1)}, {set(3, api.MaxCoins+1)}, {set(1, 5), set(0, 5)}, {set(1, 5), set(2, 0)}, {set(1<<31, 1)},
		{set(1, 200), set(4, 1)}, many, slices.Repeat(many, 100),
	} {
		refused(t, h, bid(0, 0, o...), api.ErrArg)
	}
}
