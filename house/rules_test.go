package house_test

import (
	"math/rand"
	"reflect"
	"slices"
	"testing"

	"gavel/api"
	"gavel/house"
)

// model is a house by the document's words alone: what is held is added up anew out of the bids whenever it is asked for, and packages are sold by going through all choices.
type model struct {
	names         []string
	budget, spent []int64
	lots          []modelLot
	now           int64
	orders        []api.Order
	sales         []api.Sale
}

type modelLot struct {
	lot     api.Lot
	closes  int64
	closed  bool
	price   int64
	leader  int
	bidders []int
	bids    [][]api.Offer
}

func isCoins(c int64) bool { return 0 <= c && c <= api.MaxCoins }

func (m *model) copy() *model {
	c := *m
	c.names, c.budget, c.spent = slices.Clone(m.names), slices.Clone(m.budget), slices.Clone(m.spent)
	c.orders, c.sales, c.lots = slices.Clone(m.orders), slices.Clone(m.sales), slices.Clone(m.lots)
	for i := range c.lots {
		l := &c.lots[i]
		l.bidders, l.bids = slices.Clone(l.bidders), slices.Clone(l.bids)
	}
	return &c
}

// heldFor is what a bid stands for.
func heldFor(kind api.LotKind, l []api.Offer) int64 {
	var sum, most int64
	for _, o := range l {
		sum += o.Coins
		most = max(most, o.Coins)
	}
	if kind == api.Package {
		return most
	}
	return sum
}

// heldAt is what is held of a bidder's at a lot.
func (m *model) heldAt(lot, bidder int) int64 {
	l := m.lots[lot]
	if i := slices.Index(l.bidders, bidder); i >= 0 {
		return heldFor(l.lot.Kind, l.bids[i])
	}
	return 0
}

func (m *model) held(bidder int) int64 {
	var sum int64
	for n := range m.lots {
		sum += m.heldAt(n, bidder)
	}
	return sum
}

func (m *model) free(bidder int) int64 { return m.budget[bidder] - m.spent[bidder] - m.held(bidder) }

func (m *model) do(o api.Order) api.Answer {
	value, err := m.try(o)
	if err != api.OK {
		return api.Answer{Err: err}
	}
	m.orders = append(m.orders, o)
	return api.Answer{Number: int64(len(m.orders) - 1), Value: value}
}

func (m *model) try(o api.Order) (int64, api.Errno) {
	none := api.Order{Kind: o.Kind, Name: o.Name, Coins: o.Coins, Bidder: o.Bidder, Lot: o.Lot, Put: o.Put, Tick: o.Tick, Offers: o.Offers}
	if len(none.Offers) == 0 {
		none.Offers = nil
	}
	switch o.Kind {
	case api.OrderEnter:
		if !reflect.DeepEqual(none, enter(o.Name, o.Coins)) || len(o.Name) < 1 || len(o.Name) > 64 || !isCoins(o.Coins) {
			return 0, api.ErrArg
		}
		if slices.Contains(m.names, o.Name) {
			return 0, api.ErrThere
		}
		m.names, m.budget, m.spent = append(m.names, o.Name), append(m.budget, o.Coins), append(m.spent, 0)
		return int64(len(m.names) - 1), api.OK
	case api.OrderBring:
		if !reflect.DeepEqual(none, bring(o.Bidder, o.Coins)) {
			return 0, api.ErrArg
		}
		if o.Bidder < 0 || o.Bidder >= len(m.names) {
			return 0, api.ErrNone
		}
		if !isCoins(o.Coins) || m.budget[o.Bidder]+o.Coins > api.MaxCoins {
			return 0, api.ErrArg
		}
		m.budget[o.Bidder] += o.Coins
		return m.budget[o.Bidder], api.OK
	case api.OrderPut:
		if !reflect.DeepEqual(none, put(o.Put)) || !mayBe(o.Put) {
			return 0, api.ErrArg
		}
		if o.Put.Opens < m.now {
			return 0, api.ErrTime
		}
		m.lots = append(m.lots, modelLot{lot: o.Put, closes: o.Put.Closes, leader: -1})
		return int64(len(m.lots) - 1), api.OK
	case api.OrderBid:
		if !reflect.DeepEqual(none, bid(o.Bidder, o.Lot, none.Offers...)) {
			return 0, api.ErrArg
		}
		return m.bid(o.Bidder, o.Lot, o.Offers)
	case api.OrderDrop:
		if !reflect.DeepEqual(none, drop(o.Bidder, o.Lot)) {
			return 0, api.ErrArg
		}
		return 0, m.drop(o.Bidder, o.Lot)
	case api.OrderTime:
		if !reflect.DeepEqual(none, tick(o.Tick)) || o.Tick < 0 || o.Tick > api.MaxTick {
			return 0, api.ErrArg
		}
		if o.Tick < m.now {
			return 0, api.ErrTime
		}
		return m.time(o.Tick), api.OK
	}
	return 0, api.ErrArg
}

// mayBe is written field by field, with all that a kind does not name.
func mayBe(l api.Lot) bool {
	isTick := func(x int64) bool { return 0 <= x && x <= api.MaxTick }
	zero := func(list ...int64) bool { return !slices.ContainsFunc(list, func(x int64) bool { return x != 0 }) }
	if !isTick(l.Opens) || !isTick(l.Closes) || l.Opens >= l.Closes || !isCoins(l.Start) || !isCoins(l.Floor) || !isCoins(l.Fall) {
		return false
	}
	switch l.Kind {
	case api.Rising:
		return zero(l.Floor, l.Fall, int64(l.Count), int64(l.Rule)) && isCoins(l.Step) && l.Step >= 1 && isTick(l.Extend) && isTick(l.Last) && l.Last >= l.Closes
	case api.Falling:
		return zero(l.Step, l.Extend, l.Last, int64(l.Count), int64(l.Rule)) && l.Floor <= l.Start
	case api.Sealed:
		return zero(l.Start, l.Step, l.Extend, l.Last, l.Fall, int64(l.Count), int64(l.Rule))
	case api.Units:
		return zero(l.Start, l.Step, l.Extend, l.Last, l.Fall, int64(l.Rule)) && 1 <= l.Count && l.Count <= 64
	case api.Package:
		return zero(l.Start, l.Step, l.Extend, l.Last, l.Floor, l.Fall) && 1 <= l.Count && l.Count <= 10 && 1 <= l.Rule && l.Rule <= 2
	}
	return false
}

// running tells why a bidder may not bid at a lot, whatever the bid.
func (m *model) running(bidder, lot int) api.Errno {
	if bidder < 0 || bidder >= len(m.names) || lot < 0 || lot >= len(m.lots) {
		return api.ErrNone
	}
	if l := m.lots[lot]; l.closed || m.now < l.lot.Opens || m.now >= l.closes {
		return api.ErrTime
	}
	return api.OK
}

func (m *model) drop(bidder, lot int) api.Errno {
	if err := m.running(bidder, lot); err != api.OK {
		return err
	}
	l := &m.lots[lot]
	if l.lot.Kind == api.Rising || l.lot.Kind == api.Falling {
		return api.ErrKind
	}
	if !l.leave(bidder) {
		return api.ErrNone
	}
	return api.OK
}

func (l *modelLot) leave(bidder int) bool {
	i := slices.Index(l.bidders, bidder)
	if i < 0 {
		return false
	}
	l.bidders = append(slices.Clone(l.bidders[:i]), l.bidders[i+1:]...)
	l.bids = append(slices.Clone(l.bids[:i]), l.bids[i+1:]...)
	return true
}

// isBid says whether offers are a bid of a lot's kind.
func isBid(l api.Lot, list []api.Offer) bool {
	most := map[api.LotKind]int{api.Rising: 1, api.Falling: 1, api.Sealed: 1, api.Units: l.Count, api.Package: 8}[l.Kind]
	if len(list) < 1 || len(list) > most {
		return false
	}
	for i, o := range list {
		if !isCoins(o.Coins) {
			return false
		}
		if l.Kind == api.Package {
			if o.Coins < 1 || o.Goods == 0 || o.Goods >= 1<<l.Count {
				return false
			}
		} else if o.Goods != 0 || i > 0 && list[i-1].Coins < o.Coins {
			return false
		}
	}
	return true
}

func (m *model) bid(bidder, lot int, list []api.Offer) (int64, api.Errno) {
	if err := m.running(bidder, lot); err != api.OK {
		return 0, err
	}
	l := &m.lots[lot]
	if !isBid(l.lot, list) {
		return 0, api.ErrArg
	}
	room := m.free(bidder) + m.heldAt(lot, bidder)
	switch l.lot.Kind {
	case api.Rising:
		return l.rise(bidder, list[0].Coins, room, m.now)
	case api.Falling:
		price := m.falls(lot)
		if list[0].Coins < price {
			return 0, api.ErrLow
		}
		if price > room {
			return 0, api.ErrBudget
		}
		l.closed, l.price = true, price
		m.sell(lot, api.Sale{Bidder: bidder, Coins: price})
		return price, api.OK
	case api.Package:
		others := len(l.bidders)
		if slices.Contains(l.bidders, bidder) {
			others--
		}
		if others >= 32 {
			return 0, api.ErrLong
		}
	default:
		if list[len(list)-1].Coins < l.lot.Floor {
			return 0, api.ErrLow
		}
	}
	if heldFor(l.lot.Kind, list) > room {
		return 0, api.ErrBudget
	}
	l.leave(bidder)
	l.bidders, l.bids = append(l.bidders, bidder), append(l.bids, slices.Clone(list))
	return 0, api.OK
}

// rise is a bid at a rising lot.
func (l *modelLot) rise(bidder int, limit, room, now int64) (int64, api.Errno) {
	least := l.lot.Start
	var elder int64
	if l.leader >= 0 {
		elder = l.bids[0][0].Coins
		least = l.price + l.lot.Step
	}
	if l.leader == bidder {
		least = elder + 1
	}
	if limit < least {
		return 0, api.ErrLow
	}
	if limit > room {
		return 0, api.ErrBudget
	}
	leads := true
	switch {
	case l.leader == -1:
		l.price = l.lot.Start
	case l.leader == bidder:
	case limit > elder:
		l.price = min(elder+l.lot.Step, limit)
	default:
		leads = false
		l.price = min(limit+l.lot.Step, elder)
	}
	if leads {
		l.leader, l.bidders, l.bids = bidder, []int{bidder}, [][]api.Offer{plain(limit)}
	}
	if l.closes-now < l.lot.Extend {
		l.closes = min(now+l.lot.Extend, l.lot.Last)
	}
	return l.price, api.OK
}

// falls is the price of a falling lot now: step by step down, as long as that is above the floor.
func (m *model) falls(lot int) int64 {
	l := m.lots[lot].lot
	price := l.Start
	for t := l.Opens; t < m.now && price > l.Floor; t++ {
		price -= l.Fall
	}
	return max(price, l.Floor)
}

func (m *model) sell(lot int, s api.Sale) {
	s.Number, s.Lot, s.Tick = int64(len(m.orders)), lot, m.now
	m.sales = append(m.sales, s)
	m.spent[s.Bidder] += s.Coins
}

// time closes what is due, seeking each time the first one of all.
func (m *model) time(to int64) int64 {
	m.now = to
	var closed int64
	for {
		first := -1
		for n, l := range m.lots {
			if !l.closed && l.closes <= to && (first < 0 || l.closes < m.lots[first].closes) {
				first = n
			}
		}
		if first < 0 {
			return closed
		}
		m.close(first)
		closed++
	}
}

func (m *model) close(n int) {
	l := &m.lots[n]
	l.closed = true
	switch l.lot.Kind {
	case api.Rising:
		if l.leader >= 0 {
			m.sell(n, api.Sale{Bidder: l.leader, Coins: l.price})
		}
	case api.Sealed:
		m.closeSealed(n)
	case api.Units:
		m.closeUnits(n)
	case api.Package:
		m.closePackage(n)
	}
	l.bidders, l.bids = nil, nil
}

func (m *model) closeSealed(n int) {
	l := &m.lots[n]
	best := -1
	for i, b := range l.bids {
		if best < 0 || b[0].Coins > l.bids[best][0].Coins {
			best = i
		}
	}
	if best < 0 {
		return
	}
	l.price = l.lot.Floor
	for i, b := range l.bids {
		if i != best {
			l.price = max(l.price, b[0].Coins)
		}
	}
	m.sell(n, api.Sale{Bidder: l.bidders[best], Coins: l.price})
}

func (m *model) closeUnits(n int) {
	l := &m.lots[n]
	type unit struct {
		coins int64
		bid   int
	}
	var all []unit
	for i, b := range l.bids {
		for _, o := range b {
			all = append(all, unit{o.Coins, i})
		}
	}
	slices.SortStableFunc(all, func(a, b unit) int { return int(b.coins - a.coins) })
	l.price = l.lot.Floor
	if len(all) > l.lot.Count {
		l.price = all[l.lot.Count].coins
		all = all[:l.lot.Count]
	}
	for i, who := range l.bidders {
		count := 0
		for _, u := range all {
			if u.bid == i {
				count++
			}
		}
		if count > 0 {
			m.sell(n, api.Sale{Bidder: who, Coins: int64(count) * l.price, Count: count})
		}
	}
}

func (m *model) closePackage(n int) {
	l := &m.lots[n]
	choice, worth := bestOf(l.bids)
	pays := make([]int64, len(choice))
	won := func(i int) int64 {
		if choice[i] < 0 {
			return 0
		}
		return l.bids[i][choice[i]].Coins
	}
	without := func(bids [][]api.Offer, i int) int64 {
		left := slices.Clone(bids)
		left[i] = nil
		_, w := bestOf(left)
		return w
	}
	for i := range pays {
		pays[i] = won(i)
	}
	for i, c := range choice {
		switch {
		case c < 0:
		case l.lot.Rule == api.Costs:
			pays[i] = without(l.bids, i) - (worth - won(i))
		default:
			var lowered [][]api.Offer
			var others int64
			for j, b := range l.bids {
				var low []api.Offer
				for _, o := range b {
					if c := o.Coins - (won(j) - pays[j]); c >= 1 {
						low = append(low, set(o.Goods, c))
					}
				}
				lowered = append(lowered, low)
				if j != i {
					others += pays[j]
				}
			}
			pays[i] = max(0, without(lowered, i)-others)
		}
	}
	for i, c := range choice {
		if c >= 0 {
			m.sell(n, api.Sale{Bidder: l.bidders[i], Coins: pays[i], Goods: l.bids[i][c].Goods})
		}
	}
}

// bestOf is the best choice, and its worth, by going through all choices in their order.
func bestOf(bids [][]api.Offer) ([]int, int64) {
	var best []int
	most := int64(-1)
	choice := make([]int, len(bids))
	var try func(i int, taken api.Goods, worth int64)
	try = func(i int, taken api.Goods, worth int64) {
		if i == len(bids) {
			if worth > most {
				best, most = slices.Clone(choice), worth
			}
			return
		}
		for n, o := range bids[i] {
			if o.Goods&taken == 0 {
				choice[i] = n
				try(i+1, taken|o.Goods, worth+o.Coins)
			}
		}
		choice[i] = -1
		try(i+1, taken, worth)
	}
	try(0, 0, 0)
	return best, most
}

// lotNow is what a house tells of a lot.
func (m *model) lotNow(n int) api.LotNow {
	l := m.lots[n]
	now := api.LotNow{Lot: l.lot, Closes: l.closes, Closed: l.closed, Price: l.price, Leader: l.leader, Bids: len(l.bids)}
	if l.lot.Kind == api.Falling && !l.closed {
		now.Price = m.falls(n)
	}
	return now
}

// agree asks that a house stands as the model does, and that what the document promises of coins holds.
func (m *model) agree(t *testing.T, h *house.House) {
	t.Helper()
	if h.Now() != m.now || h.Orders() != int64(len(m.orders)) || h.Bidders() != len(m.names) || h.Lots() != len(m.lots) {
		t.Fatalf("now %d, %d orders, %d bidders, %d lots", h.Now(), h.Orders(), h.Bidders(), h.Lots())
	}
	if got := h.Sales(); !slices.Equal(got, m.sales) {
		t.Fatalf("sales %+v, not %+v", got, m.sales)
	}
	held := make([]int64, len(m.names))
	for n := range m.lots {
		got, err := h.Lot(n)
		if want := m.lotNow(n); got != want || err != api.OK {
			t.Fatalf("lot %+v, not %+v", got, want)
		}
		stands, err := h.Stands(n)
		if len(stands) != len(m.lots[n].bids) || err != api.OK {
			t.Fatalf("stands %+v", stands)
		}
		for i, s := range stands {
			l := m.lots[n]
			if s.Bidder != l.bidders[i] || !slices.Equal(s.Offers, l.bids[i]) || s.Held != heldFor(l.lot.Kind, l.bids[i]) {
				t.Fatalf("stands %+v", s)
			}
			held[s.Bidder] += s.Held
		}
	}
	var spent, paid int64
	for n, name := range m.names {
		got, err := h.Bidder(n)
		if want := (api.Bidder{Name: name, Budget: m.budget[n], Held: m.held(n), Spent: m.spent[n]}); got != want || err != api.OK {
			t.Fatalf("bidder %+v, not %+v", got, want)
		}
		if found, ok := h.Find(name); found != n || !ok {
			t.Fatalf("Find(%q): %d, %v", name, found, ok)
		}
		if got.Held < 0 || got.Spent < 0 || got.Held+got.Spent > got.Budget || got.Held != held[n] {
			t.Fatalf("(P24.5) %+v, held by bids %d", got, held[n])
		}
		spent += got.Spent
	}
	for _, s := range m.sales {
		paid += s.Coins
	}
	if h.Taken() != spent || h.Taken() != paid {
		t.Fatalf("(P24.5) taken %d, spent %d, paid %d", h.Taken(), spent, paid)
	}
}

// both lets house and model do an order, and asks that they agree; a refused one leaves the house the same.
func both(t *testing.T, h *house.House, m *model, o api.Order) {
	t.Helper()
	was := h.Copy()
	got, want := h.Do(o), m.do(o)
	if got != want {
		t.Fatalf("%+v: %+v, not %+v", o, got, want)
	}
	if got.Err != api.OK && !h.Same(was) {
		t.Fatalf("(P24.6) %+v: refused, and another house", o)
	}
	if got.Err == api.OK && h.Same(was) {
		t.Fatalf("%+v: done, and the same house", o)
	}
	m.agree(t, h)
}

// rebuilt asks that the orders of the book are all done by a new house, and make the same one. (P24.6)
func rebuilt(t *testing.T, h *house.House) {
	t.Helper()
	g := house.New()
	for n, o := range h.Book() {
		if a := g.Do(o); a.Err != api.OK || a.Number != n {
			t.Fatalf("(P24.6) order %d: %+v", n, a)
		}
	}
	if !g.Same(h) || !h.Same(g) {
		t.Fatal("(P24.6) another house out of the book")
	}
}

// untold is sales without what may differ where time went in several steps.
func untold(l []api.Sale) []api.Sale {
	for i := range l {
		l[i].Number, l[i].Tick = 0, 0
	}
	return l
}

// inSteps asks that time up to a tick sells the same in one step and in several. (P24.7)
func inSteps(t *testing.T, h *house.House, to int64) {
	t.Helper()
	one, several := h.Copy(), h.Copy()
	must(t, one, tick(to))
	for x := h.Now(); x <= to; x++ {
		must(t, several, tick(x))
	}
	if a, b := one.Sales(), several.Sales(); !slices.Equal(untold(a), untold(b)) {
		t.Fatalf("(P24.7) %+v, in steps %+v", a, b)
	}
	for n := range h.Bidders() {
		if a, b := bidderOf(t, one, n), bidderOf(t, several, n); a != b {
			t.Fatalf("(P24.7) %+v, in steps %+v", a, b)
		}
	}
	for n := range h.Lots() {
		if a, b := lotOf(t, one, n), lotOf(t, several, n); a != b {
			t.Fatalf("(P24.7) %+v, in steps %+v", a, b)
		}
	}
}

// TestAllShortWalks: all walks of a few orders at one lot of each kind, against the model.
func TestAllShortWalks(t *testing.T) {
	short := func(l api.Lot) api.Lot { return opening(l, 1, 3) }
	rising := api.Lot{Kind: api.Rising, Opens: 1, Closes: 3, Start: 3, Step: 2, Extend: 2, Last: 4}
	falling := api.Lot{Kind: api.Falling, Opens: 1, Closes: 3, Start: 6, Floor: 3, Fall: 2}
	units := api.Lot{Kind: api.Units, Opens: 1, Closes: 3, Floor: 2, Count: 2}
	pair := []api.Offer{set(1, 4), set(3, 6)}
	for _, x := range []struct {
		lot  api.Lot
		bids []api.Order
	}{
		{rising, []api.Order{bidCoins(0, 0, 3), bidCoins(0, 0, 7), bidCoins(1, 0, 4), bidCoins(1, 0, 5), bidCoins(1, 0, 8)}},
		{falling, []api.Order{bidCoins(0, 0, 3), bidCoins(0, 0, 7), bidCoins(1, 0, 4), bidCoins(1, 0, 6)}},
		{short(sealedLot()), []api.Order{bidCoins(0, 0, 5), bidCoins(0, 0, 7), bidCoins(1, 0, 5), bidCoins(1, 0, 6), drop(0, 0), drop(1, 0)}},
		{units, []api.Order{bidCoins(0, 0, 2), bidCoins(0, 0, 5, 2), bidCoins(1, 0, 5, 5), bidCoins(1, 0, 3, 2), drop(0, 0), drop(1, 0)}},
		{short(packageLot(api.Costs)), []api.Order{bid(0, 0, pair...), bid(0, 0, set(2, 7)), bid(1, 0, pair...), bid(1, 0, set(2, 3), set(1, 3)), drop(0, 0)}},
		{short(packageLot(api.Core)), []api.Order{bid(0, 0, pair...), bid(0, 0, set(2, 7)), bid(1, 0, pair...), bid(1, 0, set(2, 3), set(1, 3)), drop(0, 0)}},
	} {
		orders := append(x.bids, tick(1), tick(2), tick(3), tick(4))
		h, m := house.New(), &model{}
		for _, o := range []api.Order{enter("a", 8), enter("b", 9), put(x.lot), tick(1)} {
			both(t, h, m, o)
		}
		walk(t, h, m, orders, 4)
	}
}

// walk goes all ways of so many orders from a house on.
func walk(t *testing.T, h *house.House, m *model, orders []api.Order, far int) {
	if far == 0 {
		rebuilt(t, h)
		inSteps(t, h, 5)
		return
	}
	for _, o := range orders {
		g, n := h.Copy(), m.copy()
		both(t, g, n, o)
		if len(n.orders) > len(m.orders) {
			walk(t, g, n, orders, far-1)
		}
	}
}

// drawn draws orders for houses that are small enough that much of what they do hangs together.
type drawn struct{ *rand.Rand }

func (d drawn) coins(most int64) int64 {
	if d.Intn(60) == 0 {
		return []int64{-1, api.MaxCoins, api.MaxCoins + 1, -1 << 63, 1<<63 - 1}[d.Intn(5)]
	}
	return d.Int63n(most)
}

func (d drawn) lot(now int64) api.Lot {
	l := api.Lot{Kind: api.LotKind(1 + d.Intn(5)), Opens: now + d.Int63n(4)}
	l.Closes = l.Opens + 1 + d.Int63n(8)
	switch l.Kind {
	case api.Rising:
		l.Start, l.Step, l.Extend = d.Int63n(6), 1+d.Int63n(4), d.Int63n(5)
		l.Last = l.Closes + d.Int63n(6)
	case api.Falling:
		l.Floor, l.Fall = d.Int63n(8), d.Int63n(4)
		l.Start = l.Floor + d.Int63n(20)
	case api.Sealed:
		l.Floor = d.Int63n(8)
	case api.Units:
		l.Floor, l.Count = d.Int63n(5), 1+d.Intn(5)
	case api.Package:
		l.Count, l.Rule = 1+d.Intn(4), api.Rule(1+d.Intn(2))
	}
	if d.Intn(12) == 0 {
		wrong := []*int64{&l.Opens, &l.Closes, &l.Start, &l.Step, &l.Extend, &l.Last, &l.Floor, &l.Fall}
		*wrong[d.Intn(len(wrong))] = d.coins(9)
	}
	return l
}

// offers draws a bid for a lot, now and then one of another kind.
func (d drawn) offers(l api.Lot, price int64) []api.Offer {
	kind := l.Kind
	if d.Intn(20) == 0 {
		kind = api.LotKind(1 + d.Intn(5))
	}
	switch kind {
	case api.Units:
		var coins []int64
		for range 1 + d.Intn(max(l.Count, 1)) {
			coins = append(coins, d.coins(15))
		}
		if d.Intn(15) > 0 {
			slices.Sort(coins)
			slices.Reverse(coins)
		}
		return plain(coins...)
	case api.Package:
		var list []api.Offer
		for range 1 + d.Intn(3) {
			list = append(list, set(api.Goods(1+d.Intn(1<<max(l.Count, 1)-1)), 1+d.coins(20)))
		}
		if d.Intn(20) == 0 {
			list[0].Goods = api.Goods(d.Intn(40))
		}
		return list
	}
	return plain(max(0, price-4) + d.coins(20))
}

func (d drawn) order(h *house.House) api.Order {
	bidder, lot := d.Intn(h.Bidders()+1), d.Intn(h.Lots()+1)
	if d.Intn(30) > 0 && h.Bidders() > 0 && h.Lots() > 0 {
		bidder, lot = d.Intn(h.Bidders()), max(d.Intn(h.Lots()), h.Lots()-1-d.Intn(6))
	}
	var o api.Order
	switch x := d.Intn(100); {
	case x < 4:
		o = enter(string(rune('a'+d.Intn(5))), d.coins(60))
	case x < 12:
		o = bring(bidder, d.coins(30))
	case x < 22 && h.Lots() < 24:
		o = put(d.lot(h.Now() - d.Int63n(2)))
	case x < 35:
		o = drop(bidder, lot)
	case x < 48:
		o = tick(h.Now() + d.Int63n(5) - 1)
	default:
		l, _ := h.Lot(lot)
		o = bid(bidder, lot, d.offers(l.Lot, l.Price)...)
	}
	if d.Intn(80) == 0 {
		o.Tick++
	}
	return o
}

// TestDrawnWalks: long walks of orders that are drawn, against the model, with what the chapter promises besides.
func TestDrawnWalks(t *testing.T) {
	kinds := map[api.LotKind]int{}
	errs := map[api.Errno]int{}
	for seed := range int64(300) {
		d := drawn{rand.New(rand.NewSource(seed))}
		h, m := house.New(), &model{}
		both(t, h, m, enter("x", 100))
		both(t, h, m, enter("y", 100))
		for i := range 200 {
			o := d.order(h)
			both(t, h, m, o)
			_, err := m.copy().try(o)
			errs[err]++
			if i%40 == 39 {
				rebuilt(t, h)
				inSteps(t, h, h.Now()+9)
			}
		}
		for _, s := range h.Sales() {
			kinds[lotOf(t, h, s.Lot).Lot.Kind]++
		}
	}
	for _, kind := range []api.LotKind{api.Rising, api.Falling, api.Sealed, api.Units, api.Package} {
		if kinds[kind] < 50 {
			t.Errorf("kind %d was sold %d times: the walks are too poor", kind, kinds[kind])
		}
	}
	for _, err := range []api.Errno{api.ErrArg, api.ErrNone, api.ErrThere, api.ErrTime, api.ErrLow, api.ErrBudget, api.ErrKind} {
		if errs[err] < 20 {
			t.Errorf("error %d came %d times: the walks are too poor", err, errs[err])
		}
	}
}

// TestPaysAtMostItsBid: (P24.5) what is paid is at most what was bid for just that.
func TestPaysAtMostItsBid(t *testing.T) {
	for seed := range int64(60) {
		d := drawn{rand.New(rand.NewSource(1000 + seed))}
		h := house.New()
		h.Run(enter("x", 400), enter("y", 400), enter("z", 400))
		for range 120 {
			var stood [][]api.Standing
			for n := range h.Lots() {
				stood = append(stood, standsOf(t, h, n))
			}
			sold := len(h.Sales())
			o := d.order(h)
			h.Do(o)
			for _, s := range h.SalesFrom(sold) {
				if o.Kind == api.OrderBid {
					if s.Coins > o.Offers[0].Coins || s.Bidder != o.Bidder {
						t.Fatalf("%+v by %+v", s, o)
					}
					continue
				}
				if !isBidFor(stood[s.Lot], s, lotOf(t, h, s.Lot).Lot.Kind) {
					t.Fatalf("%+v by %+v", s, stood[s.Lot])
				}
			}
		}
	}
}

// isBidFor says whether a bid that stood gives as much as a sale takes, for what was sold.
func isBidFor(stood []api.Standing, s api.Sale, kind api.LotKind) bool {
	for _, b := range stood {
		if b.Bidder != s.Bidder {
			continue
		}
		switch kind {
		case api.Units:
			return s.Coins <= heldFor(kind, b.Offers[:s.Count]) && s.Coins <= int64(s.Count)*b.Offers[s.Count-1].Coins
		case api.Package:
			return slices.ContainsFunc(b.Offers, func(o api.Offer) bool { return o.Goods == s.Goods && s.Coins <= o.Coins })
		}
		return s.Coins <= b.Offers[0].Coins && s.Goods == 0 && s.Count == 0
	}
	return false
}
