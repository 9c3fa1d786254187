package sealed_test

import (
	"math/rand"
	"slices"
	"testing"

	"gavel/api"
	"gavel/sealed"
)

// The rules of another kind: each bid is held against each other one.

// beats says whether the bid at a place wins against the one at another.
func beats(bids []api.Secret, a, b int) bool {
	return bids[a].Coins > bids[b].Coins || bids[a].Coins == bids[b].Coins && a < b
}

// slowSell is what comes of bids, by the chapter's words.
func slowSell(floor int64, bids []api.Secret) api.Sold {
	for a, bid := range bids {
		wins, price := bid.Coins >= floor, floor
		for b, other := range bids {
			if a == b || other.Coins < floor {
				continue
			}
			wins = wins && beats(bids, a, b)
			price = max(price, other.Coins)
		}
		if wins {
			return sold(bid.Bidder, bid.Coins, price)
		}
	}
	return api.Sold{}
}

// slowOrder puts each place where as many stand ahead of it as beat it.
func slowOrder(bids []api.Secret) []int {
	order := make([]int, len(bids))
	for a := range bids {
		ahead := 0
		for b := range bids {
			if a != b && beats(bids, b, a) {
				ahead++
			}
		}
		order[ahead] = a
	}
	return order
}

// everySmall goes over all lists of up to four bids with few coins, and over some floors.
func everySmall(do func(floor int64, bids []api.Secret)) {
	bidders := []int{6, 0, 9, 3}
	var longer func(floor int64, bids []api.Secret)
	longer = func(floor int64, bids []api.Secret) {
		do(floor, bids)
		if len(bids) == len(bidders) {
			return
		}
		for coins := range int64(6) {
			next := api.Secret{Bidder: bidders[len(bids)], Coins: coins}
			longer(floor, append(slices.Clone(bids), next))
		}
	}
	for floor := range int64(7) {
		longer(floor, nil)
	}
}

// TestEverySmallList: Sell and Order of every list of small numbers.
func TestEverySmallList(t *testing.T) {
	everySmall(func(floor int64, bids []api.Secret) {
		wantSell(t, floor, bids, slowSell(floor, bids), api.OK)
		wantOrder(t, bids, slowOrder(bids)...)
	})
}

// mustSell is what comes of bids that may be.
func mustSell(t *testing.T, floor int64, bids []api.Secret) api.Sold {
	t.Helper()
	told, err := sealed.Sell(floor, bids...)
	if err != api.OK {
		t.Fatalf("Sell(%d, %v): %v", floor, bids, err)
	}
	return told
}

// winnersPlace is where the winner's bid stands.
func winnersPlace(bids []api.Secret, told api.Sold) int {
	return slices.IndexFunc(bids, func(bid api.Secret) bool { return bid.Bidder == told.Winner })
}

// checkPrice: it is at most the bid, at least the floor; whatever else the winner bids, if it wins by that, it pays the same (P11.3).
func checkPrice(t *testing.T, floor int64, bids []api.Secret, others ...int64) {
	t.Helper()
	told := mustSell(t, floor, bids)
	if !told.Sold {
		if told != (api.Sold{}) {
			t.Errorf("Sell(%d, %v): %+v", floor, bids, told)
		}
		return
	}
	place := winnersPlace(bids, told)
	if told.Coins != bids[place].Coins || told.Price > told.Coins || told.Price < floor {
		t.Errorf("Sell(%d, %v): %+v", floor, bids, told)
	}
	for _, coins := range others {
		changed := slices.Clone(bids)
		changed[place].Coins = coins
		again := mustSell(t, floor, changed)
		if again.Sold && again.Winner == told.Winner && (again.Price != told.Price || again.Coins != coins) {
			t.Errorf("Sell(%d, %v): %+v, but of %v %+v", floor, bids, told, changed, again)
		}
		if coins > told.Price && again.Winner != told.Winner {
			t.Errorf("Sell(%d, %v): %+v, though %d bids above %d", floor, changed, again, told.Winner, told.Price)
		}
	}
}

// checkTruth: whatever the thing is worth to a bidder, no bid gains it more than that worth (P0.3).
func checkTruth(t *testing.T, floor int64, bids []api.Secret, place int, worth, other int64) {
	t.Helper()
	gain := func(coins int64) int64 {
		changed := slices.Clone(bids)
		changed[place].Coins = coins
		told := mustSell(t, floor, changed)
		if !told.Sold || told.Winner != bids[place].Bidder {
			return 0
		}
		return worth - told.Price
	}
	if by, otherwise := gain(worth), gain(other); by < 0 || otherwise > by {
		t.Errorf("floor %d, %v: who bids its worth %d at %d gains %d, by %d it gains %d", floor, bids, worth, place, by, other, otherwise)
	}
}

// checkMore: with one bid more, wherever it stands, the price is not lower (P11.3).
func checkMore(t *testing.T, floor int64, bids []api.Secret, more api.Secret) {
	t.Helper()
	told := mustSell(t, floor, bids)
	for place := range len(bids) + 1 {
		longer := slices.Insert(slices.Clone(bids), place, more)
		again := mustSell(t, floor, longer)
		if again.Price < told.Price || told.Sold && !again.Sold {
			t.Errorf("Sell(%d, %v): %+v, with one bid less %+v", floor, longer, again, told)
		}
	}
}

// checkNext: without the winner the next one in order wins, if it isn't below the floor; else nobody (P11.3).
func checkNext(t *testing.T, floor int64, bids []api.Secret) {
	t.Helper()
	told := mustSell(t, floor, bids)
	if !told.Sold {
		return
	}
	order := sealed.Order(bids...)
	if bids[order[0]].Bidder != told.Winner {
		t.Errorf("Sell(%d, %v): %+v, though the order is %v", floor, bids, told, order)
	}
	fewer := slices.Delete(slices.Clone(bids), order[0], order[0]+1)
	again := mustSell(t, floor, fewer)
	if len(order) == 1 || bids[order[1]].Coins < floor {
		if again.Sold || told.Price != floor {
			t.Errorf("Sell(%d, %v): %+v, without the winner %+v", floor, bids, told, again)
		}
		return
	}
	next := bids[order[1]]
	if again.Winner != next.Bidder || again.Coins != next.Coins || told.Price != next.Coins {
		t.Errorf("Sell(%d, %v): %+v, without the winner %+v", floor, bids, told, again)
	}
}

// TestEverySmallConsequence: what follows (P11.3), of every list of small numbers.
func TestEverySmallConsequence(t *testing.T) {
	everySmall(func(floor int64, bids []api.Secret) {
		checkPrice(t, floor, bids, 0, 1, 2, 3, 4, 5, 6, 7)
		checkNext(t, floor, bids)
		if len(bids) == 4 {
			return
		}
		for coins := range int64(7) {
			checkMore(t, floor, bids, api.Secret{Bidder: 4, Coins: coins})
			for place := range bids {
				checkTruth(t, floor, bids, place, coins, (coins*3+int64(place))%7)
			}
		}
	})
}

// anyCoins draws coins of any size alike, and the bounds themselves often.
func anyCoins(r *rand.Rand) int64 {
	switch r.Intn(8) {
	case 0:
		return 0
	case 1:
		return api.MaxCoins
	case 2:
		return api.MaxCoins - 1 - r.Int63n(3)
	case 3:
		return r.Int63n(4)
	}
	return min(r.Int63n(int64(2)<<r.Intn(41)), api.MaxCoins)
}

// anyBids draws bids of bidders who stand in any order.
func anyBids(r *rand.Rand) []api.Secret {
	bids := make([]api.Secret, r.Intn(12))
	for i, bidder := range r.Perm(40)[:len(bids)] {
		bids[i] = api.Secret{Bidder: bidder, Coins: anyCoins(r)}
	}
	return bids
}

// TestGreatLists: bids of any size, and what follows of them (P11.3).
func TestGreatLists(t *testing.T) {
	r := rand.New(rand.NewSource(11))
	for range 20000 {
		floor, bids := anyCoins(r), anyBids(r)
		if len(bids) > 0 && r.Intn(2) == 0 {
			floor = bids[r.Intn(len(bids))].Coins
		}
		told := slowSell(floor, bids)
		wantSell(t, floor, bids, told, api.OK)
		wantOrder(t, bids, slowOrder(bids)...)
		checkPrice(t, floor, bids, told.Price, min(told.Price+1, api.MaxCoins), max(told.Price-1, 0), anyCoins(r), api.MaxCoins)
		checkNext(t, floor, bids)
		checkMore(t, floor, bids, api.Secret{Bidder: 50, Coins: anyCoins(r)})
		for place := range bids {
			checkTruth(t, floor, bids, place, anyCoins(r), anyCoins(r))
		}
		checkShuffled(t, r, floor, bids)
	}
}

// TestLongOrder: lists in which many bids are the same, too long to be put in order by what is fit for short ones.
func TestLongOrder(t *testing.T) {
	r := rand.New(rand.NewSource(13))
	for _, length := range []int{50, 500, 1500} {
		bids := make([]api.Secret, length)
		for i := range bids {
			bids[i] = api.Secret{Bidder: length - i, Coins: r.Int63n(7)}
		}
		wantOrder(t, bids, slowOrder(bids)...)
		for floor := range int64(8) {
			wantSell(t, floor, bids, slowSell(floor, bids), api.OK)
		}
	}
}

// checkShuffled: in another order, if no two bids are the same, the same one wins and pays the same (P11.3).
func checkShuffled(t *testing.T, r *rand.Rand, floor int64, bids []api.Secret) {
	t.Helper()
	byCoins := func(a, b api.Secret) int { return int(a.Coins - b.Coins) }
	sorted := slices.SortedFunc(slices.Values(bids), byCoins)
	if len(slices.CompactFunc(sorted, func(a, b api.Secret) bool { return a.Coins == b.Coins })) < len(bids) {
		return
	}
	other := slices.Clone(bids)
	r.Shuffle(len(other), func(i, j int) { other[i], other[j] = other[j], other[i] })
	if told, again := mustSell(t, floor, bids), mustSell(t, floor, other); told != again {
		t.Errorf("Sell(%d, %v): %+v, but of %v %+v", floor, bids, told, other, again)
	}
}

// model is a box by the chapter's words: its floor, and the bids as they stand.
type model struct {
	floor int64
	bids  []api.Secret
}

func (m *model) drop(bidder int) api.Errno {
	var left []api.Secret
	for _, bid := range m.bids {
		if bid.Bidder != bidder {
			left = append(left, bid)
		}
	}
	if len(left) == len(m.bids) {
		return api.ErrNone
	}
	m.bids = left
	return api.OK
}

func (m *model) bid(bidder int, coins int64) api.Errno {
	switch {
	case bidder < 0 || coins < 0 || coins > api.MaxCoins:
		return api.ErrArg
	case coins < m.floor:
		return api.ErrLow
	}
	m.drop(bidder)
	m.bids = append(m.bids, api.Secret{Bidder: bidder, Coins: coins})
	return api.OK
}

// TestAnyWalk: boxes that go on step by step, and copies of them that go on apart, against models of them.
func TestAnyWalk(t *testing.T) {
	r := rand.New(rand.NewSource(12))
	for range 300 {
		floor := r.Int63n(6)
		boxes := []*sealed.Box{newBox(t, floor)}
		models := []*model{{floor: floor}}
		for range 150 {
			n := r.Intn(len(boxes))
			b, m := boxes[n], models[n]
			bidder, coins := r.Intn(9)-1, r.Int63n(13)-1
			switch r.Intn(8) {
			case 0, 1:
				wantDrop(t, b, bidder, m.drop(bidder))
			case 2:
				if len(boxes) < 4 {
					boxes = append(boxes, b.Copy())
					models = append(models, &model{floor, slices.Clone(m.bids)})
				}
			default:
				wantBid(t, b, bidder, coins, m.bid(bidder, coins))
			}
			for i, m := range models {
				wantStands(t, boxes[i], m.bids...)
				wantSold(t, boxes[i], slowSell(m.floor, m.bids))
				wantSell(t, m.floor, slices.Collect(boxes[i].All()), slowSell(m.floor, m.bids), api.OK)
			}
		}
	}
}
