package house

import (
	"slices"

	"gavel/api"
	"gavel/clear"
	"gavel/core"
	"gavel/falling"
	"gavel/ladder"
	"gavel/offers"
	"gavel/sealed"
	"gavel/units"
	"gavel/vcg"
)

// nobody stands for the leader of a lot that has none.
const nobody = -1

// kind is a lot that has not closed, by the kind that it is of.
type kind interface {
	// bid takes a bid, and holds what it stands for: what is answered, or why it is refused, nothing being changed then.
	bid(b bid) (int64, api.Errno)
	// drop takes a bidder's bid back; what is held for it stays held.
	drop(bidder int) api.Errno
	// due answers the tick at which the lot closes.
	due() int64
	// now answers how the lot stands at a tick.
	now(tick int64) api.LotNow
	// stands answers the bids as they stand, which whoever asks leaves as they are.
	stands() []api.Standing
	// sell answers who gets what for how much, by the bids as they stand, and the price that the lot has then.
	sell() ([]api.Sale, int64)
	// copy answers one that goes on apart.
	copy() kind
}

// lot is one that has not closed, by its kind; or else how it stands for good.
type lot struct {
	kind kind
	end  api.LotNow
}

// bid is a bid as it comes: whose, where, which offers, when. Its offers are the house's own.
type bid struct {
	people
	bidder, lot int
	offers      []api.Offer
	now         int64
}

// risingLot is how a rising lot stands.
type risingLot struct {
	lot  api.Lot
	rise api.Rise
}

// fallingLot is a thing whose price falls, and which may be sold already.
type fallingLot struct {
	lot   api.Lot
	thing *falling.Falling
}

// queue is the bids at a lot, of each bidder one at most, in the order in which they came.
type queue struct {
	lot  api.Lot
	bids []api.Standing
}

// These three have bids that stand until the lot closes.
type (
	sealedLot  struct{ queue }
	unitsLot   struct{ queue }
	packageLot struct{ queue }
)

// opened answers a lot as nobody has bid at it, if it may be.
func opened(l api.Lot) (kind, api.Errno) {
	switch l.Kind {
	case api.Rising:
		if rise, err := ladder.Begin(l); err == api.OK {
			return &risingLot{lot: l, rise: rise}, api.OK
		}
	case api.Falling:
		if thing, err := falling.New(l); err == api.OK {
			return &fallingLot{lot: l, thing: thing}, api.OK
		}
	case api.Sealed:
		if isSealed(l) {
			return &sealedLot{queue{lot: l}}, api.OK
		}
	case api.Units:
		if isUnits(l) {
			return &unitsLot{queue{lot: l}}, api.OK
		}
	case api.Package:
		if isPackage(l) {
			return &packageLot{queue{lot: l}}, api.OK
		}
	}
	return nil, api.ErrArg
}

// isSealed says whether a lot is a sealed one that may be. What its kind does not name is seen by the lot being the one with nothing else in it; whether the floor may be is told by the layer that will sell.
func isSealed(l api.Lot) bool {
	named := api.Lot{Kind: api.Sealed, Opens: l.Opens, Closes: l.Closes, Floor: l.Floor}
	_, err := sealed.Sell(l.Floor)
	return l == named && isSpan(l) && err == api.OK
}

// isUnits says whether a lot is one of many units that may be, likewise.
func isUnits(l api.Lot) bool {
	named := api.Lot{Kind: api.Units, Opens: l.Opens, Closes: l.Closes, Floor: l.Floor, Count: l.Count}
	_, err := units.Sell(l.Count, l.Floor)
	return l == named && isSpan(l) && err == api.OK
}

// isPackage says whether a lot is a package one that may be, likewise.
func isPackage(l api.Lot) bool {
	named := api.Lot{Kind: api.Package, Opens: l.Opens, Closes: l.Closes, Count: l.Count, Rule: l.Rule}
	_, err := offers.Check(l.Count)
	isRule := l.Rule == api.Costs || l.Rule == api.Core
	return l == named && isSpan(l) && err == api.OK && isRule
}

// isSpan says whether a lot opens at a tick, and closes at a later one.
func isSpan(l api.Lot) bool { return 0 <= l.Opens && l.Opens < l.Closes && l.Closes <= api.MaxTick }

// now answers how a lot stands at a tick.
func (l *lot) now(tick int64) api.LotNow {
	if l.kind == nil {
		return l.end
	}
	return l.kind.now(tick)
}

// stands answers the bids as they stand.
func (l *lot) stands() []api.Standing {
	if l.kind == nil {
		return nil
	}
	return l.kind.stands()
}

// close lets a lot stand for good as it stands at a tick, with that price; its bids are not kept.
func (l *lot) close(price, tick int64) {
	end := l.kind.now(tick)
	end.Closed, end.Price, end.Bids = true, price, 0
	*l = lot{end: end}
}

// copy answers one that goes on apart.
func (l *lot) copy() lot {
	if l.kind == nil {
		return *l
	}
	return lot{kind: l.kind.copy()}
}

// coins answers the coins of a bid that is one offer without goods; false, if it is none.
func (b bid) coins() (int64, bool) {
	if len(b.offers) != 1 || b.offers[0].Goods != 0 {
		return 0, false
	}
	coins := b.offers[0].Coins
	return coins, coins >= 0 && coins <= api.MaxCoins
}

// free answers what the bidder has free.
func (b bid) free() int64 { return b.accounts[b.bidder].Free() }

// hold holds so many coins of a bidder's for the lot, in the place of what was, and says whether it has them.
func (b bid) hold(bidder int, coins int64) bool {
	return b.accounts[bidder].Hold(b.lot, coins) == api.OK
}

func (r *risingLot) bid(b bid) (int64, api.Errno) {
	limit, ok := b.coins()
	if !ok {
		return 0, api.ErrArg
	}
	rise, err := ladder.Bid(r.lot, r.rise, api.RiseBid{Bidder: b.bidder, Limit: limit, Free: b.free(), Now: b.now})
	if err != api.OK {
		return 0, err
	}
	if r.rise.Leader != nobody {
		b.hold(r.rise.Leader, 0)
	}
	b.hold(rise.Leader, rise.Limit)
	r.rise = rise
	return rise.Price, api.OK
}

func (r *risingLot) drop(int) api.Errno { return api.ErrKind }

func (r *risingLot) due() int64 { return r.rise.Closes }

func (r *risingLot) now(int64) api.LotNow {
	return api.LotNow{Lot: r.lot, Closes: r.rise.Closes, Price: r.rise.Price, Leader: r.rise.Leader, Bids: len(r.stands())}
}

// stands answers the leader's bid: of the others nothing stands.
func (r *risingLot) stands() []api.Standing {
	if r.rise.Leader == nobody {
		return nil
	}
	return []api.Standing{{Bidder: r.rise.Leader, Offers: []api.Offer{{Coins: r.rise.Limit}}, Held: r.rise.Limit}}
}

func (r *risingLot) sell() ([]api.Sale, int64) {
	leader, price, ok := ladder.End(r.lot, r.rise)
	if !ok {
		return nil, 0
	}
	return []api.Sale{{Bidder: leader, Coins: price}}, price
}

func (r *risingLot) copy() kind {
	c := *r
	return &c
}

// bid sells the thing at once. What is paid is held till the lot closes, within the same order.
func (f *fallingLot) bid(b bid) (int64, api.Errno) {
	coins, ok := b.coins()
	if !ok {
		return 0, api.ErrArg
	}
	price, err := f.thing.Bid(b.bidder, b.now, coins, b.free())
	if err != api.OK {
		return 0, err
	}
	b.hold(b.bidder, price)
	return price, api.OK
}

func (f *fallingLot) drop(int) api.Errno { return api.ErrKind }

// due answers the tick at which it was sold, if it is.
func (f *fallingLot) due() int64 {
	if _, _, tick, ok := f.thing.Sold(); ok {
		return tick
	}
	return f.lot.Closes
}

// now tells the price of a thing that is to be had; ahead of its opening that at which it will begin.
func (f *fallingLot) now(tick int64) api.LotNow {
	price, ok := f.thing.At(tick)
	if !ok {
		price = f.lot.Start
	}
	return api.LotNow{Lot: f.lot, Closes: f.lot.Closes, Price: price, Leader: nobody}
}

func (f *fallingLot) stands() []api.Standing { return nil }

func (f *fallingLot) sell() ([]api.Sale, int64) {
	bidder, price, _, ok := f.thing.Sold()
	if !ok {
		return nil, 0
	}
	return []api.Sale{{Bidder: bidder, Coins: price}}, price
}

func (f *fallingLot) copy() kind { return &fallingLot{lot: f.lot, thing: f.thing.Copy()} }

// take lets a bid stand behind all others, in the place of the bidder's last one, with so many coins held for it. All that hinders is the budget: coins that are too many for anybody are not told from others.
func (q *queue) take(b bid, coins int64) api.Errno {
	if !b.hold(b.bidder, coins) {
		return api.ErrBudget
	}
	q.drop(b.bidder)
	q.bids = append(q.bids, api.Standing{Bidder: b.bidder, Offers: b.offers, Held: coins})
	return api.OK
}

func (q *queue) drop(bidder int) api.Errno {
	place := q.place(bidder)
	if place < 0 {
		return api.ErrNone
	}
	q.bids = slices.Delete(q.bids, place, place+1)
	return api.OK
}

// place answers where a bidder's bid stands: below 0, if there is none.
func (q *queue) place(bidder int) int {
	return slices.IndexFunc(q.bids, func(s api.Standing) bool { return s.Bidder == bidder })
}

func (q *queue) due() int64 { return q.lot.Closes }

func (q *queue) now(int64) api.LotNow {
	return api.LotNow{Lot: q.lot, Closes: q.lot.Closes, Leader: nobody, Bids: len(q.bids)}
}

func (q *queue) stands() []api.Standing { return q.bids }

// apart answers a queue that goes on apart. The offers of bids that stand are never changed, so that both may have them.
func (q *queue) apart() queue { return queue{lot: q.lot, bids: slices.Clone(q.bids)} }

func (s *sealedLot) bid(b bid) (int64, api.Errno) {
	coins, ok := b.coins()
	if !ok {
		return 0, api.ErrArg
	}
	if coins < s.lot.Floor {
		return 0, api.ErrLow
	}
	return 0, s.take(b, coins)
}

func (s *sealedLot) sell() ([]api.Sale, int64) {
	secrets := make([]api.Secret, len(s.bids))
	for i, b := range s.bids {
		secrets[i] = api.Secret{Bidder: b.Bidder, Coins: b.Held}
	}
	sold, _ := sealed.Sell(s.lot.Floor, secrets...)
	if !sold.Sold {
		return nil, 0
	}
	return []api.Sale{{Bidder: sold.Winner, Coins: sold.Price}}, sold.Price
}

func (s *sealedLot) copy() kind { return &sealedLot{s.apart()} }

func (u *unitsLot) bid(b bid) (int64, api.Errno) {
	if slices.ContainsFunc(b.offers, func(o api.Offer) bool { return o.Goods != 0 }) {
		return 0, api.ErrArg
	}
	coins := coinsOf(b.offers)
	if err := units.Check(u.lot.Count, u.lot.Floor, coins...); err != api.OK {
		return 0, err
	}
	var sum int64
	for _, c := range coins {
		sum += c
	}
	return 0, u.take(b, sum)
}

func (u *unitsLot) sell() ([]api.Sale, int64) {
	wanted := make([][]int64, len(u.bids))
	for i, b := range u.bids {
		wanted[i] = coinsOf(b.Offers)
	}
	sale, _ := units.Sell(u.lot.Count, u.lot.Floor, wanted...)
	var sales []api.Sale
	for i, won := range sale.Won {
		if won > 0 {
			coins, _ := units.Spent(sale, i)
			sales = append(sales, api.Sale{Bidder: u.bids[i].Bidder, Coins: coins, Count: won})
		}
	}
	return sales, sale.Price
}

func (u *unitsLot) copy() kind { return &unitsLot{u.apart()} }

func (p *packageLot) bid(b bid) (int64, api.Errno) {
	if _, err := offers.Check(p.lot.Count, b.offers...); err != api.OK || len(b.offers) == 0 {
		return 0, api.ErrArg
	}
	if p.place(b.bidder) < 0 && len(p.bids) >= api.MaxBuyers {
		return 0, api.ErrLong
	}
	most, _ := offers.Greatest(b.offers...)
	return 0, p.take(b, most)
}

func (p *packageLot) sell() ([]api.Sale, int64) {
	x := api.Instance{Goods: p.lot.Count}
	for _, b := range p.bids {
		x.Buyers = append(x.Buyers, b.Offers)
	}
	best, _ := clear.Best(x)
	pays := p.pays(x)
	var sales []api.Sale
	for buyer, n := range best.Choice {
		if n >= 0 {
			sales = append(sales, api.Sale{Bidder: p.bids[buyer].Bidder, Coins: pays[buyer], Goods: x.Buyers[buyer][n].Goods})
		}
	}
	return sales, 0
}

// pays answers what each buyer of an instance pays by the lot's rule.
func (p *packageLot) pays(x api.Instance) []int64 {
	if p.lot.Rule == api.Core {
		pays, _ := core.Pay(x)
		return pays
	}
	paid, _ := vcg.Costs(x)
	return paid.Pays
}

func (p *packageLot) copy() kind { return &packageLot{p.apart()} }

// coinsOf answers the coins of offers.
func coinsOf(l []api.Offer) []int64 {
	coins := make([]int64, len(l))
	for i, o := range l {
		coins[i] = o.Coins
	}
	return coins
}
