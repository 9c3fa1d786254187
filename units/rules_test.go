package units_test

import (
	"math/rand"
	"slices"
	"testing"

	"gavel/api"
	"gavel/units"
)

// The rules of another kind: all units at once, each held against each other one.

// beats says whether a unit comes ahead of another one.
func beats(a, b api.Unit) bool {
	switch {
	case a.Coins != b.Coins:
		return a.Coins > b.Coins
	case a.Bid != b.Bid:
		return a.Bid < b.Bid
	}
	return a.Place < b.Place
}

// slowOrder puts each unit where as many stand ahead of it as beat it.
func slowOrder(bids [][]int64) []api.Unit {
	var all []api.Unit
	for i, bid := range bids {
		for place, coins := range bid {
			all = append(all, api.Unit{Bid: i, Place: place, Coins: coins})
		}
	}
	order := make([]api.Unit, len(all))
	for _, a := range all {
		ahead := 0
		for _, b := range all {
			if beats(b, a) {
				ahead++
			}
		}
		order[ahead] = a
	}
	return order
}

// slowSell is what comes of bids that may be, by the chapter's words.
func slowSell(count int, floor int64, bids [][]int64) api.UnitSale {
	s := api.UnitSale{Price: floor, Won: make([]int, len(bids)), Next: -1}
	for place, unit := range slowOrder(bids) {
		if place < count {
			s.Won[unit.Bid]++
		}
		if place == count {
			s.Price, s.Next = max(floor, unit.Coins), unit.Bid
		}
	}
	return s
}

// slowGain is what somebody to whom units are worth that gains by the bids.
func slowGain(count int, floor int64, bids [][]int64, who int, worth []int64) int64 {
	s := slowSell(count, floor, bids)
	var gain int64
	for n := range s.Won[who] {
		if n < len(worth) {
			gain += worth[n]
		}
		gain -= s.Price
	}
	return gain
}

// checkBetter: by a bid in another one's place, the other way to reckon says the same.
func checkBetter(t *testing.T, count int, floor int64, bids [][]int64, who int, other []int64) {
	t.Helper()
	changed := slices.Clone(bids)
	changed[who] = other
	wantBetter(t, count, floor, bids, who, other, slowGain(count, floor, bids, who, bids[who]), slowGain(count, floor, changed, who, bids[who]))
}

// mustSell is what comes of bids that may be.
func mustSell(t *testing.T, count int, floor int64, bids [][]int64) api.UnitSale {
	t.Helper()
	s, err := units.Sell(count, floor, bids...)
	if err != api.OK || len(s.Won) != len(bids) {
		t.Fatalf("Sell(%d, %d, %v): %+v, %v", count, floor, bids, s, err)
	}
	return s
}

// checkFair: nobody pays above a bid; no unit is sold to a lesser bid than one that gets none (P12.5).
func checkFair(t *testing.T, count int, floor int64, bids [][]int64) {
	t.Helper()
	s := mustSell(t, count, floor, bids)
	least, most := int64(api.MaxCoins), int64(-1)
	for i, bid := range bids {
		got, lost := bid[:s.Won[i]], bid[s.Won[i]:]
		for _, coins := range got {
			least = min(least, coins)
		}
		for _, coins := range lost {
			most = max(most, coins)
		}
		paid, err := units.Spent(s, i)
		if err != api.OK || paid != int64(len(got))*s.Price {
			t.Errorf("Sell(%d, %d, %v): %+v, and %d pays %d, %v", count, floor, bids, s, i, paid, err)
		}
	}
	if s.Price > least || most > least {
		t.Errorf("Sell(%d, %d, %v): %+v, though %d wins, and %d does not", count, floor, bids, s, least, most)
	}
}

// checkPrice: how many are sold, and how many are wanted at the price and above it (P12.5).
func checkPrice(t *testing.T, count int, floor int64, bids [][]int64) {
	t.Helper()
	s := mustSell(t, count, floor, bids)
	sold := 0
	for _, n := range s.Won {
		sold += n
	}
	atFloor, atPrice, above := units.Wanted(floor, bids...), units.Wanted(s.Price, bids...), units.Wanted(s.Price+1, bids...)
	if sold != min(count, atFloor) || s.Price < floor || above > count || atFloor >= count && atPrice < count {
		t.Errorf("Sell(%d, %d, %v): %+v: %d are sold; %d, %d, %d are wanted at the floor, at the price, above it", count, floor, bids, s, sold, atFloor, atPrice, above)
	}
	if (s.Next < 0) != (atFloor <= count) {
		t.Errorf("Sell(%d, %d, %v): %+v, though %d are wanted", count, floor, bids, s, atFloor)
	}
}

// checkAll asks all that is promised of bids that may be.
func checkAll(t *testing.T, count int, floor int64, bids [][]int64) {
	t.Helper()
	for _, bid := range bids {
		wantCheck(t, count, floor, bid, api.OK)
	}
	wantSell(t, count, floor, bids, slowSell(count, floor, bids))
	wantOrder(t, count, floor, bids, slowOrder(bids)...)
	checkFair(t, count, floor, bids)
	checkPrice(t, count, floor, bids)
}

// everyBid is all bids of up to so many units, of coins from the floor to the most.
func everyBid(count int, floor, most int64) [][]int64 {
	var all [][]int64
	var longer func(bid []int64, most int64)
	longer = func(bid []int64, most int64) {
		if len(bid) > 0 {
			all = append(all, bid)
		}
		if len(bid) == count {
			return
		}
		for coins := floor; coins <= most; coins++ {
			longer(append(slices.Clone(bid), coins), coins)
		}
	}
	longer(nil, most)
	return all
}

// everyList goes over all lists of up to so many of these bids.
func everyList(length int, each [][]int64, do func(bids [][]int64)) {
	var longer func(bids [][]int64)
	longer = func(bids [][]int64) {
		do(bids)
		if len(bids) == length {
			return
		}
		for _, bid := range each {
			longer(append(slices.Clone(bids), bid))
		}
	}
	longer(nil)
}

// TestEverySmallList: all that is promised, of every list of small numbers.
func TestEverySmallList(t *testing.T) {
	for count := 1; count <= 3; count++ {
		for floor := range int64(4) {
			everyList(3, everyBid(count, floor, 3), func(bids [][]int64) { checkAll(t, count, floor, bids) })
		}
	}
}

// TestEverySmallBetter: what somebody gains by any bid in the place of any.
func TestEverySmallBetter(t *testing.T) {
	for count := 1; count <= 2; count++ {
		for floor := range int64(2) {
			each := everyBid(count, floor, 3)
			everyList(3, each, func(bids [][]int64) {
				for who := range bids {
					for _, other := range each {
						checkBetter(t, count, floor, bids, who, other)
					}
				}
			})
		}
	}
}

// checkTruth: who wants one unit as all others do, and bids what it is worth to it, gains no more by another bid (P12.6).
func checkTruth(t *testing.T, count int, floor int64, bids [][]int64, who int, other int64) {
	t.Helper()
	by, otherwise, err := units.Better(count, floor, bids, who, bid(other))
	if err != api.OK || otherwise > by || by < 0 {
		t.Errorf("Better(%d, %d, %v, %d, %d): %d, %d, %v", count, floor, bids, who, other, by, otherwise, err)
	}
}

// TestEverySmallTruth: bids of one unit each (P12.6).
func TestEverySmallTruth(t *testing.T) {
	for count := 1; count <= 4; count++ {
		for floor := range int64(3) {
			everyList(4, everyBid(1, floor, 4), func(bids [][]int64) {
				for who := range bids {
					for other := floor; other <= 5; other++ {
						checkTruth(t, count, floor, bids, who, other)
					}
				}
			})
		}
	}
}

// anyCoins draws coins of any size from the floor on, and the bounds themselves often.
func anyCoins(r *rand.Rand, floor int64) int64 {
	switch r.Intn(8) {
	case 0:
		return floor
	case 1:
		return api.MaxCoins
	case 2:
		return max(floor, api.MaxCoins-1-r.Int63n(3))
	case 3:
		return min(floor+r.Int63n(4), api.MaxCoins)
	}
	return min(floor+r.Int63n(int64(2)<<r.Intn(41)), api.MaxCoins)
}

// anyBid draws a bid of up to so many units.
func anyBid(r *rand.Rand, count int, floor int64) []int64 {
	coins := make([]int64, 1+r.Intn(count))
	for i := range coins {
		coins[i] = anyCoins(r, floor)
	}
	slices.SortFunc(coins, func(a, b int64) int { return int(b - a) })
	return coins
}

// TestGreatLists: bids of any size, and what follows of them.
func TestGreatLists(t *testing.T) {
	r := rand.New(rand.NewSource(12))
	for range 4000 {
		count, floor := 1+r.Intn(1<<r.Intn(7)), anyCoins(r, 0)
		bids := make([][]int64, r.Intn(10))
		for i := range bids {
			bids[i] = anyBid(r, min(count, 12), floor)
		}
		checkAll(t, count, floor, bids)
		for who := range bids {
			checkBetter(t, count, floor, bids, who, anyBid(r, count, floor))
		}
		for i, list := range bids {
			bids[i] = list[:1]
		}
		for who := range bids {
			checkTruth(t, count, floor, bids, who, anyCoins(r, floor))
		}
	}
}

// TestLongOrder: many bids of few coins, so that the heap is deep and has many that are the same.
func TestLongOrder(t *testing.T) {
	r := rand.New(rand.NewSource(13))
	for _, length := range []int{30, 100, 700} {
		bids := make([][]int64, length)
		for i := range bids {
			bids[i] = alike(1+r.Intn(3), r.Int63n(7))
		}
		for _, count := range []int{3, 20, api.MaxCount} {
			checkAll(t, count, 0, bids)
		}
	}
}
