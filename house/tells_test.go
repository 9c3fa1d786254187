package house_test

import (
	"math"
	"reflect"
	"slices"
	"testing"

	"gavel/api"
	"gavel/house"
)

// busy is a house in which something of everything is: sold and running lots of each kind, bids that stand.
func busy(t *testing.T) *house.House {
	t.Helper()
	h := three(t, allLots()...)
	must(t, h, bring(2, 100))
	for n := range allLots() {
		must(t, h, bidOf(h, 0, n))
		must(t, h, bidOf(h, 1, n))
	}
	must(t, h, tick(10))
	for _, l := range allLots() {
		must(t, h, put(opening(l, 10, 20)))
	}
	for n := range allLots() {
		if n != 1 {
			must(t, h, bidOf(h, 2, 6+n))
			must(t, h, bidOf(h, 1, 6+n))
		}
	}
	return h
}

// bidOf is a small bid of a bidder, of the kind of a lot; a falling one that is sold is left alone.
func bidOf(h *house.House, bidder, n int) api.Order {
	l, _ := h.Lot(n)
	switch {
	case l.Closed:
		return tick(h.Now())
	case l.Lot.Kind == api.Rising:
		return bidCoins(bidder, n, l.Price+10)
	case l.Lot.Kind == api.Falling:
		return bidCoins(bidder, n, l.Price)
	case l.Lot.Kind == api.Package:
		return bid(bidder, n, set(1, 3), set(3, 4))
	}
	return bidCoins(bidder, n, 5)
}

// TestNone: (P24.2) who and what is not there.
func TestNone(t *testing.T) {
	h := busy(t)
	for _, n := range []int{-1, 3, math.MinInt, math.MaxInt} {
		if b, err := h.Bidder(n); b != (api.Bidder{}) || err != api.ErrNone {
			t.Errorf("Bidder(%d): %+v, %v", n, b, err)
		}
	}
	for _, n := range []int{-1, 12, math.MinInt, math.MaxInt} {
		if l, err := h.Lot(n); l != (api.LotNow{}) || err != api.ErrNone {
			t.Errorf("Lot(%d): %+v, %v", n, l, err)
		}
		if l, err := h.Stands(n); l != nil || err != api.ErrNone {
			t.Errorf("Stands(%d): %+v, %v", n, l, err)
		}
	}
	for _, name := range []string{"", "an", "ann ", "Ann", "dan"} {
		if n, ok := h.Find(name); n != 0 || ok {
			t.Errorf("Find(%q): %d, %v", name, n, ok)
		}
	}
	if n, ok := h.Find("cid"); n != 2 || !ok {
		t.Errorf("Find(cid): %d, %v", n, ok)
	}
	if h.Bidders() != 3 || h.Lots() != 12 || h.Now() != 10 {
		t.Errorf("%d bidders, %d lots, now %d", h.Bidders(), h.Lots(), h.Now())
	}
}

// TestSalesFrom: (P24.3) from any number on, each with its own; left early, gone over again, within itself.
func TestSalesFrom(t *testing.T) {
	h := busy(t)
	all := h.Sales()
	if len(all) < 5 {
		t.Fatalf("%d sales", len(all))
	}
	for _, from := range []int{math.MinInt, -1, 0, 1, 3, len(all) - 1, len(all), len(all) + 1, math.MaxInt} {
		sales := h.SalesFrom(from)
		for range 2 {
			next := min(max(from, 0), len(all))
			for n, s := range sales {
				if n != next || s != all[n] {
					t.Fatalf("from %d: %d %+v", from, n, s)
				}
				next++
			}
			if next != len(all) {
				t.Errorf("from %d: up to %d", from, next)
			}
		}
	}
	left := 0
	sales := h.SalesFrom(0)
	for a := range sales {
		for b := range sales {
			if b == a {
				left++
				break
			}
		}
		if a == 2 {
			break
		}
	}
	if left != 3 {
		t.Errorf("left %d times", left)
	}
	var sum int64
	for _, s := range all {
		sum += s.Coins
	}
	if h.Taken() != sum {
		t.Errorf("taken %d, not %d", h.Taken(), sum)
	}
}

// TestIteratorsAsTheyWere: (P24.3) what is sold and ordered behind the call is not told, whenever it is gone over.
func TestIteratorsAsTheyWere(t *testing.T) {
	h := busy(t)
	sold, orders := len(h.Sales()), h.Orders()
	sales, book := h.SalesFrom(0), h.Book()
	told := 0
	for range sales {
		must(t, h, tick(h.Now()+5))
		told++
	}
	if told != sold || len(h.Sales()) <= sold {
		t.Errorf("%d sales told of %d, then %d", told, sold, len(h.Sales()))
	}
	for range 2 {
		var n int64
		for i := range book {
			if i != n {
				t.Fatalf("order %d, not %d", i, n)
			}
			n++
			must(t, h, tick(h.Now()))
		}
		if n != orders {
			t.Errorf("%d orders told of %d", n, orders)
		}
	}
}

// TestBook: (P24.3) the orders that were done, by their numbers; none that was refused.
func TestBook(t *testing.T) {
	h := house.New()
	orders := []api.Order{
		enter("ann", 9), enter("ann", 9), put(packageLot(api.Core)), bid(0, 0, set(1, 2), set(2, 3)), bid(0, 0, set(1, 10)),
		bring(0, 1), bring(1, 1), drop(0, 0), drop(0, 0), tick(4), tick(3), {}, put(risingLot()),
	}
	var want []api.Order
	for _, o := range orders {
		if h.Do(o).Err == api.OK {
			want = append(want, o)
		}
	}
	if len(want) != 6 || h.Orders() != 6 {
		t.Fatalf("%d done, %d orders", len(want), h.Orders())
	}
	book := h.Book()
	for range 2 {
		next := 0
		for n, o := range book {
			if n != int64(next) || !reflect.DeepEqual(o, want[next]) {
				t.Errorf("%d: %+v, not %+v", n, o, want[next])
			}
			next++
		}
		if next != len(want) {
			t.Errorf("%d orders told", next)
		}
	}
	for n := range book {
		if n == 2 {
			break
		}
	}
}

// TestCopy: (P24.4) it stands there, and goes on apart, whichever of the two goes on.
func TestCopy(t *testing.T) {
	orders := func(h *house.House) []api.Order {
		list := []api.Order{enter("dan", 5), bring(0, 4), put(opening(sealedLot(), 10, 20)), tick(11), tick(25)}
		for n := range allLots() {
			list = append(list, bidOf(h, 2, 6+n))
			if k := allLots()[n].Kind; k != api.Rising && k != api.Falling {
				list = append(list, drop(1, 6+n))
			}
		}
		return list
	}
	for i := range orders(busy(t)) {
		h, untouched := busy(t), busy(t)
		c := h.Copy()
		if !h.Same(c) || !c.Same(h) || c == h {
			t.Fatal("a copy is another house")
		}
		o := orders(h)[i]
		must(t, h, o)
		if h.Same(c) || !c.Same(untouched) {
			t.Errorf("%+v: the copy goes on with it", o)
		}
		must(t, c, o)
		if !h.Same(c) {
			t.Errorf("%+v: the copy goes on otherwise", o)
		}
		must(t, c, tick(99), tick(99))
		must(t, h, tick(30), tick(99))
		if h.Taken() != c.Taken() || h.Orders() != c.Orders() {
			t.Errorf("%+v: %d, %d", o, h.Taken(), c.Taken())
		}
	}
	h := busy(t)
	a, b := h.Copy(), h.Copy()
	must(t, a, bring(0, 1))
	must(t, b, bring(0, 2))
	must(t, h, bring(0, 3))
	for n, o := range a.Book() {
		if n == a.Orders()-1 && o.Coins != 1 {
			t.Errorf("books of copies are one: %+v", o)
		}
	}
	for i, g := range []*house.House{a, b, h} {
		must(t, g, tick(20))
		if s := g.Sales(); s[len(s)-1].Number != g.Orders()-1 || s[len(s)-1].Tick != 20 {
			t.Errorf("%d: %+v", i, s[len(s)-1])
		}
	}
}

// TestCopySales: (P24.4) what a house and its copy sell later comes apart, however many sales stood ahead.
func TestCopySales(t *testing.T) {
	for n := range 9 {
		h := three(t)
		must(t, h, bring(0, 400))
		for i := range n + 1 {
			must(t, h, put(fallingLot()))
			if i < n {
				must(t, h, bidCoins(0, i, 50))
			}
		}
		c := h.Copy()
		must(t, h, bidCoins(1, n, 50))
		must(t, c, bidCoins(2, n, 50))
		for bidder, g := range map[int]*house.House{1: h, 2: c} {
			if s := g.Sales(); len(s) != n+1 || s[n].Bidder != bidder {
				t.Errorf("%d sales ahead, bidder %d: %+v", n, bidder, s)
			}
		}
	}
}

// TestCopyByValue: a house that is copied by value is the same one.
func TestCopyByValue(t *testing.T) {
	h := busy(t)
	v := *h
	must(t, &v, tick(20), enter("dan", 1))
	if !h.Same(&v) || h.Now() != 20 || h.Bidders() != 4 {
		t.Error("it has come apart")
	}
}

// TestSame: (P24.4) houses that differ in one thing alone are not the same.
func TestSame(t *testing.T) {
	base := []api.Order{enter("ann", 100), enter("bob", 100)}
	for name, x := range map[string][2][]api.Order{
		"names":     {{enter("x", 1)}, {enter("y", 1)}},
		"budgets":   {{enter("x", 1)}, {enter("x", 2)}},
		"brought":   {{bring(0, 1)}, {bring(1, 1)}},
		"bidders":   {{enter("x", 0)}, {bring(0, 0)}},
		"lots":      {{put(sealedLot())}, {tick(0)}},
		"a lot":     {{put(packageLot(api.Costs))}, {put(packageLot(api.Core))}},
		"now":       {{tick(1)}, {tick(2)}},
		"orders":    {{tick(1)}, {tick(1), tick(1)}},
		"who bids":  {{put(sealedLot()), bidCoins(0, 0, 7)}, {put(sealedLot()), bidCoins(1, 0, 7)}},
		"a bid":     {{put(sealedLot()), bidCoins(0, 0, 7)}, {put(sealedLot()), bidCoins(0, 0, 8)}},
		"offers":    {{put(packageLot(1)), bid(0, 0, set(1, 7))}, {put(packageLot(1)), bid(0, 0, set(2, 7))}},
		"offers'":   {{put(packageLot(1)), bid(0, 0, set(1, 7), set(2, 7))}, {put(packageLot(1)), bid(0, 0, set(2, 7), set(1, 7))}},
		"units":     {{put(unitsLot()), bidCoins(0, 0, 5, 5)}, {put(unitsLot()), bidCoins(0, 0, 6, 4)}},
		"standing":  {{put(sealedLot()), bidCoins(0, 0, 7), bidCoins(1, 0, 7)}, {put(sealedLot()), bidCoins(1, 0, 7), bidCoins(0, 0, 7)}},
		"a limit":   {{put(risingLot()), bidCoins(0, 0, 20)}, {put(risingLot()), bidCoins(0, 0, 21)}},
		"a leader":  {{put(risingLot()), bidCoins(0, 0, 20)}, {put(risingLot()), bidCoins(1, 0, 20)}},
		"a price":   {{put(risingLot()), bidCoins(0, 0, 50), bidCoins(1, 0, 20)}, {put(risingLot()), bidCoins(0, 0, 50), bidCoins(1, 0, 21)}},
		"sold":      {{put(fallingLot()), bidCoins(0, 0, 50)}, {put(fallingLot()), tick(0)}},
		"sold to":   {{put(fallingLot()), bidCoins(0, 0, 50)}, {put(fallingLot()), bidCoins(1, 0, 50)}},
		"sold when": {{put(sealedLot()), bidCoins(0, 0, 7), tick(10), tick(12)}, {put(sealedLot()), bidCoins(0, 0, 7), tick(11), tick(12)}},
		"sold by":   {{put(sealedLot()), bidCoins(0, 0, 7), tick(12), tick(12)}, {put(sealedLot()), bidCoins(0, 0, 7), tick(0), tick(12)}},
	} {
		a, b := with(t, base...), with(t, base...)
		must(t, a, x[0]...)
		must(t, b, x[1]...)
		if a.Same(b) || b.Same(a) {
			t.Errorf("%s: the same", name)
		}
		c := with(t, base...)
		must(t, c, x[0]...)
		if !a.Same(c) || !c.Same(a) || !a.Same(a) {
			t.Errorf("%s: not the same", name)
		}
	}
}

// TestSameByOtherOrders: (P24.4) of the book just how many orders there are is asked.
func TestSameByOtherOrders(t *testing.T) {
	a := with(t, enter("a", 5), bring(0, 2), bring(0, 1), put(sealedLot()), bidCoins(0, 0, 5), bidCoins(0, 0, 6), tick(0))
	b := with(t, enter("a", 6), put(sealedLot()), bring(0, 2), bidCoins(0, 0, 8), drop(0, 0), bidCoins(0, 0, 6), tick(0))
	if !a.Same(b) || !b.Same(a) {
		t.Error("not the same")
	}
}

// TestSameExtended: houses in which a rising lot closes at another tick are not the same.
func TestSameExtended(t *testing.T) {
	l := api.Lot{Kind: api.Rising, Closes: 10, Start: 10, Step: 5, Extend: 8, Last: 20}
	base := []api.Order{enter("ann", 100), put(l)}
	a, b := with(t, base...), with(t, base...)
	must(t, a, bidCoins(0, 0, 20), tick(5))
	must(t, b, tick(5), bidCoins(0, 0, 20))
	if a.Same(b) || b.Same(a) {
		t.Error("the same")
	}
}

// TestNil: (P24.4, rules) of a nil house, and of a zero one.
func TestNil(t *testing.T) {
	var zero house.House
	var none *house.House
	for i, h := range []*house.House{none, &zero, {}} {
		for kind := range api.OrderKind(9) {
			if a := h.Do(api.Order{Kind: kind}); a != not(api.ErrNil) {
				t.Errorf("%d: Do: %+v", i, a)
			}
		}
		if a := h.Run(tick(0), enter("", 1)); !slices.Equal(a, []api.Answer{not(api.ErrNil), not(api.ErrNil)}) || len(h.Run()) != 0 {
			t.Errorf("%d: Run: %+v", i, a)
		}
		if h.Now() != 0 || h.Orders() != 0 || h.Bidders() != 0 || h.Lots() != 0 || h.Taken() != 0 || h.Sales() != nil {
			t.Errorf("%d: numbers", i)
		}
		for _, n := range []int{-1, 0, 1} {
			if b, err := h.Bidder(n); b != (api.Bidder{}) || err != api.ErrNil {
				t.Errorf("%d: Bidder: %+v, %v", i, b, err)
			}
			if l, err := h.Lot(n); l != (api.LotNow{}) || err != api.ErrNil {
				t.Errorf("%d: Lot: %+v, %v", i, l, err)
			}
			if l, err := h.Stands(n); l != nil || err != api.ErrNil {
				t.Errorf("%d: Stands: %+v, %v", i, l, err)
			}
			for range h.SalesFrom(n) {
				t.Errorf("%d: SalesFrom", i)
			}
		}
		for range h.Book() {
			t.Errorf("%d: Book", i)
		}
		if n, ok := h.Find("a"); n != 0 || ok {
			t.Errorf("%d: Find: %d, %v", i, n, ok)
		}
		if h.Copy() != nil || !h.Same(nil) || !h.Same(&zero) || !none.Same(h) || !zero.Same(h) {
			t.Errorf("%d: Copy, Same", i)
		}
		if made := house.New(); h.Same(made) || made.Same(h) {
			t.Errorf("%d: the same as a house", i)
		}
	}
}

// TestHandedIn: what is handed in is not changed, and not kept.
func TestHandedIn(t *testing.T) {
	h := three(t, packageLot(api.Costs), unitsLot())
	list := append(make([]api.Offer, 0, 9), set(1, 7), set(3, 5), set(2, 6), set(1, 1))
	room := list[:cap(list)]
	was := slices.Clone(room)
	must(t, h, bid(0, 0, list[:3]...))
	must(t, h, api.Order{Kind: api.OrderBid, Bidder: 1, Lot: 0, Offers: list[1:3]})
	refused(t, h, bid(2, 0, list[:0]...), api.ErrArg)
	refused(t, h, bid(2, 1, list...), api.ErrArg)
	if !slices.Equal(room, was) {
		t.Errorf("changed: %v", room)
	}
	c := h.Copy()
	for i := range room {
		room[i] = set(1023, 99)
	}
	asksStands(t, h, 0, standing(0, 7, was[:3]...), standing(1, 6, was[1:3]...))
	if !h.Same(c) {
		t.Error("kept")
	}
	for n, o := range h.Book() {
		if n == 5 && !slices.Equal(o.Offers, was[:3]) || n == 6 && !slices.Equal(o.Offers, was[1:3]) {
			t.Errorf("kept in the book: %d %+v", n, o)
		}
	}
	must(t, h, tick(10))
	asksSales(t, h, api.Sale{Number: 7, Coins: 0, Goods: 1, Tick: 10}, api.Sale{Number: 7, Bidder: 1, Coins: 0, Goods: 2, Tick: 10})

	orders := []api.Order{bid(0, 1, list...), tick(11)}
	h.Run(orders...)
	if !reflect.DeepEqual(orders, []api.Order{bid(0, 1, list...), tick(11)}) {
		t.Errorf("changed: %+v", orders)
	}
}

// spoil writes over a list, its spare room included.
func spoil[T any](l []T, x T) {
	l = l[:cap(l)]
	for i := range l {
		l[i] = x
	}
}

// TestAnswersAreNew: whoever writes into an answer, its spare room included, changes nothing else.
func TestAnswersAreNew(t *testing.T) {
	h := busy(t)
	was := h.Copy()
	for n := range h.Lots() {
		l := standsOf(t, h, n)
		other := standsOf(t, h, n)
		for i := range l {
			spoil(l[i].Offers, set(77, 77))
		}
		spoil(l, api.Standing{Bidder: 77})
		if again := standsOf(t, h, n); !reflect.DeepEqual(again, other) {
			t.Errorf("Stands(%d): %+v", n, again)
		}
	}
	spoil(h.Sales(), api.Sale{Number: 77})
	sales := h.Sales()
	spoil(sales[:1], api.Sale{Number: 77})
	book := h.Book()
	for _, o := range book {
		spoil(o.Offers, set(77, 77))
	}
	answers := h.Run(tick(3), tick(4))
	spoil(answers, api.Answer{Number: 77})
	if !h.Same(was) || h.Orders() != was.Orders() {
		t.Error("answers are the house's own memory")
	}
	again := with(t)
	for n, o := range book {
		if a := again.Do(o); a.Number != n || a.Err != api.OK {
			t.Fatalf("order %d: %+v", n, a)
		}
	}
	if !again.Same(was) {
		t.Error("the book has changed")
	}
	must(t, h, tick(20))
	must(t, was, tick(20))
	if !h.Same(was) {
		t.Error("it goes on otherwise")
	}
	for n, s := range h.SalesFrom(0) {
		if w := was.Sales()[n]; s != w {
			t.Errorf("sale %d: %+v, not %+v", n, s, w)
		}
	}
}

// TestStandsApart: no two lists of one answer share memory.
func TestStandsApart(t *testing.T) {
	h := three(t, unitsLot())
	list := plain(9, 9)
	must(t, h, bid(0, 0, list...), bid(1, 0, list...))
	l := standsOf(t, h, 0)
	spoil(l[0].Offers, set(1, 1))
	if !slices.Equal(l[1].Offers, plain(9, 9)) {
		t.Errorf("%+v", l[1])
	}
	l[0].Offers = append(l[0].Offers[:1:2], set(5, 5))
	if !slices.Equal(l[1].Offers, plain(9, 9)) {
		t.Errorf("%+v", l[1])
	}
}
