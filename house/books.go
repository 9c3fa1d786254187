package house

import (
	"slices"
	"strings"

	"gavel/account"
	"gavel/api"
	"gavel/names"
	"gavel/ticks"
)

// books is what a house writes down.
type books struct {
	people
	stock
	diary
	till
}

// people is who has entered, each with its coins, by the same numbers.
type people struct {
	names    *names.Names
	accounts []*account.Account
}

// stock is what was put up, and at which tick each lot closes that has not closed; the calendar's now is the house's.
type stock struct {
	lots     []lot
	calendar *ticks.Ticks
}

// diary is the orders that were done. They come behind others alone, and stay as they are.
type diary struct{ orders []api.Order }

// till is what was sold, likewise, and what all of it pays.
type till struct {
	sales []api.Sale
	taken int64
}

// deed is what an order does: what is answered, or why it is refused, nothing being changed then.
type deed func(b *books, o api.Order) (int64, api.Errno)

// deeds answers what orders do, by their kinds.
func deeds() [api.OrderTime + 1]deed {
	return [api.OrderTime + 1]deed{
		api.OrderEnter: (*books).enter,
		api.OrderBring: (*books).bring,
		api.OrderPut:   (*books).put,
		api.OrderBid:   (*books).bid,
		api.OrderDrop:  (*books).drop,
		api.OrderTime:  (*books).pass,
	}
}

// newBooks answers the books of a house at its beginning. Neither layer refuses what is handed to it here.
func newBooks() *books {
	table, _ := names.New(api.MaxBidders)
	calendar, _ := ticks.New(0)
	return &books{people: people{names: table}, stock: stock{calendar: calendar}}
}

// enter lets a bidder come. Its account is made first, since a name that has come stays.
func (b *books) enter(o api.Order) (int64, api.Errno) {
	coins, err := account.New(o.Coins)
	if err != api.OK {
		return 0, err
	}
	n, err := b.names.Add(o.Name)
	if err != api.OK {
		return 0, err
	}
	b.accounts = append(b.accounts, coins)
	return int64(n), api.OK
}

// bring lets a bidder's budget grow.
func (b *books) bring(o api.Order) (int64, api.Errno) {
	if !b.hasBidder(o.Bidder) {
		return 0, api.ErrNone
	}
	coins := b.accounts[o.Bidder]
	if err := coins.Bring(o.Coins); err != api.OK {
		return 0, err
	}
	return coins.Budget(), api.OK
}

// put puts a lot up.
func (b *books) put(o api.Order) (int64, api.Errno) {
	k, err := opened(o.Put)
	switch {
	case err != api.OK:
		return 0, err
	case o.Put.Opens < b.calendar.Now():
		return 0, api.ErrTime
	case len(b.lots) >= api.MaxLots:
		return 0, api.ErrLong
	}
	n := len(b.lots)
	b.lots = append(b.lots, lot{kind: k})
	b.calendar.Set(int64(n), k.due())
	return int64(n), api.OK
}

// bid lets a bidder bid at a lot. The lot may be due at another tick then: a rising one later, a falling one, which is sold by a bid, at once.
func (b *books) bid(o api.Order) (int64, api.Errno) {
	if err := b.refusal(o); err != api.OK {
		return 0, err
	}
	k, now := b.lots[o.Lot].kind, b.calendar.Now()
	value, err := k.bid(bid{people: b.people, bidder: o.Bidder, lot: o.Lot, offers: o.Offers, now: now})
	if err != api.OK {
		return 0, err
	}
	b.calendar.Set(int64(o.Lot), k.due())
	b.closeUpto(now)
	return value, api.OK
}

// drop takes a bid back.
func (b *books) drop(o api.Order) (int64, api.Errno) {
	if err := b.refusal(o); err != api.OK {
		return 0, err
	}
	if err := b.lots[o.Lot].kind.drop(o.Bidder); err != api.OK {
		return 0, err
	}
	b.accounts[o.Bidder].Release(o.Lot)
	return 0, api.OK
}

// pass lets time go on.
func (b *books) pass(o api.Order) (int64, api.Errno) {
	if o.Tick < 0 || o.Tick > api.MaxTick {
		return 0, api.ErrArg
	}
	if o.Tick < b.calendar.Now() {
		return 0, api.ErrTime
	}
	closed := b.closeUpto(o.Tick)
	b.calendar.Upto(o.Tick)
	return closed, api.OK
}

// refusal tells why a bidder may neither bid nor drop at a lot, whatever its kind. A lot that has not closed closes behind now, since what is due closes ahead of anything else being done.
func (b *books) refusal(o api.Order) api.Errno {
	if !b.hasBidder(o.Bidder) || !b.hasLot(o.Lot) {
		return api.ErrNone
	}
	now := b.calendar.Now()
	l := b.lots[o.Lot].now(now)
	if l.Closed || now < l.Lot.Opens {
		return api.ErrTime
	}
	return api.OK
}

// closeUpto closes the lots that are due at a tick, the house's tick then, or ahead of it: how many.
func (b *books) closeUpto(tick int64) int64 {
	var closed int64
	first := b.dueUpto(tick)
	for n, ok := first(); ok; n, ok = first() {
		b.close(n, tick)
		closed++
	}
	return closed
}

// dueUpto answers what tells which lot closes first, of those that are due up to a tick and have not closed by then.
func (b *books) dueUpto(tick int64) func() (int, bool) {
	return func() (int, bool) {
		next, ok := b.calendar.Next()
		return int(next.Number), ok && next.Tick <= tick
	}
}

// close closes a lot: who wins pays out of what is held for its bid, and what is held still is free. The order that does so is the next one that is written down.
func (b *books) close(n int, tick int64) {
	l := &b.lots[n]
	sales, price := l.kind.sell()
	for _, sale := range sales {
		b.accounts[sale.Bidder].Pay(n, sale.Coins)
		sale.Number, sale.Lot, sale.Tick = b.written(), n, tick
		b.sales = append(b.sales, sale)
		b.taken += sale.Coins
	}
	for _, s := range l.kind.stands() {
		b.accounts[s.Bidder].Release(n)
	}
	b.calendar.Drop(int64(n))
	l.close(price, tick)
}

// write writes an order down that was done: its number.
func (b *books) write(o api.Order) int64 {
	b.orders = append(b.orders, o)
	return b.written() - 1
}

// copy answers books that go on apart. Orders, and the offers of bids that stand, are never changed, so that both may have them.
func (b *books) copy() *books {
	c := &books{
		people: people{names: b.names.Copy()},
		stock:  stock{calendar: b.calendar.Copy()},
		diary:  diary{orders: slices.Clone(b.orders)},
		till:   till{sales: slices.Clone(b.sales), taken: b.taken},
	}
	for _, coins := range b.accounts {
		c.accounts = append(c.accounts, coins.Copy())
	}
	for _, l := range b.lots {
		c.lots = append(c.lots, l.copy())
	}
	return c
}

// same says whether two houses have books that say the same. Of the orders just how many there are is asked; what was taken is told by the sales.
func (b *books) same(c *books) bool {
	now := b.calendar.Now()
	sameLots := func(l, m lot) bool {
		return l.now(now) == m.now(now) && slices.EqualFunc(l.stands(), m.stands(), sameStanding)
	}
	return now == c.calendar.Now() && b.written() == c.written() &&
		b.names.Same(c.names) && slices.EqualFunc(b.accounts, c.accounts, (*account.Account).Same) &&
		slices.EqualFunc(b.lots, c.lots, sameLots) && slices.Equal(b.sales, c.sales)
}

func (p *people) hasBidder(n int) bool { return n >= 0 && n < len(p.accounts) }

// bidder answers how a bidder stands that is there.
func (p *people) bidder(n int) api.Bidder {
	name, _ := p.names.Name(n)
	coins := p.accounts[n]
	return api.Bidder{Name: name, Budget: coins.Budget(), Held: coins.Held(), Spent: coins.Spent()}
}

func (s *stock) hasLot(n int) bool { return n >= 0 && n < len(s.lots) }

// written answers how many orders are written down.
func (d *diary) written() int64 { return int64(len(d.orders)) }

// sameStanding says whether two bids stand alike.
func sameStanding(a, b api.Standing) bool {
	return a.Bidder == b.Bidder && a.Held == b.Held && slices.Equal(a.Offers, b.Offers)
}

// own answers an order that shares nothing with another one.
func own(o api.Order) api.Order {
	o.Name, o.Offers = strings.Clone(o.Name), slices.Clone(o.Offers)
	return o
}

// isOrder says whether an order is of a kind that there is, and has nothing that this kind does not name.
func isOrder(o api.Order) bool {
	switch o.Kind {
	case api.OrderEnter:
		o.Name, o.Coins = "", 0
	case api.OrderBring:
		o.Bidder, o.Coins = 0, 0
	case api.OrderPut:
		o.Put = api.Lot{}
	case api.OrderBid:
		o.Bidder, o.Lot, o.Offers = 0, 0, nil
	case api.OrderDrop:
		o.Bidder, o.Lot = 0, 0
	case api.OrderTime:
		o.Tick = 0
	default:
		return false
	}
	return o.Name == "" && o.Coins == 0 && o.Bidder == 0 && o.Lot == 0 && o.Put == api.Lot{} && len(o.Offers) == 0 && o.Tick == 0
}
