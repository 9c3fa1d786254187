package falling_test

import (
	"math/big"
	"math/rand"
	"slices"
	"testing"

	"gavel/api"
	"gavel/falling"
)

// The rules of another kind: prices in numbers of any size, and ticks that are gone through one by one.

// bigPrice is the price at a tick from Opens on, by the chapter's words.
func bigPrice(l api.Lot, tick int64) int64 {
	since := new(big.Int).Sub(big.NewInt(tick), big.NewInt(l.Opens))
	price := new(big.Int).Sub(big.NewInt(l.Start), since.Mul(since, big.NewInt(l.Fall)))
	if floor := big.NewInt(l.Floor); price.Cmp(floor) < 0 {
		price = floor
	}
	return price.Int64()
}

func slowFirst(l api.Lot, coins int64) (int64, bool) {
	for tick := l.Opens; tick < l.Closes; tick++ {
		if bigPrice(l, tick) <= coins {
			return tick, true
		}
	}
	return 0, false
}

func slowSteps(l api.Lot) []step {
	var all []step
	for tick := l.Opens; tick < l.Closes; tick++ {
		price := bigPrice(l, tick)
		if tick == l.Opens || price != bigPrice(l, tick-1) {
			all = append(all, step{tick, price})
		}
	}
	return all
}

// slowTakes lets the ticks go by, and asks each bidder at each.
func slowTakes(l api.Lot, coins []int64) (int, int64, bool) {
	for tick := l.Opens; tick < l.Closes; tick++ {
		price := bigPrice(l, tick)
		for bidder, c := range coins {
			if c <= api.MaxCoins && price <= c {
				return bidder, price, true
			}
		}
	}
	return 0, 0, false
}

// everySmall goes over all lots whose numbers are small.
func everySmall(do func(api.Lot)) {
	for opens := range int64(3) {
		for length := range int64(7) {
			for start := range int64(9) {
				for floor := range start + 1 {
					for fall := range int64(11) {
						do(made(opens, opens+1+length, start, floor, fall))
					}
				}
			}
		}
	}
}

// TestEverySmallLot: each call at every lot of small numbers.
func TestEverySmallLot(t *testing.T) {
	everySmall(func(l api.Lot) {
		f := begun(t, l)
		wantSteps(t, l, slowSteps(l)...)
		for tick := range l.Closes + 2 {
			if tick < l.Opens || tick >= l.Closes {
				wantPrice(t, l, tick, 0, api.ErrTime)
				wantAt(t, f, tick, 0, false)
				continue
			}
			wantPrice(t, l, tick, bigPrice(l, tick), api.OK)
			wantAt(t, f, tick, bigPrice(l, tick), true)
		}
		for coins := int64(-1); coins <= l.Start+1; coins++ {
			want, ok := slowFirst(l, coins)
			wantFirst(t, l, coins, want, ok)
		}
		for a := int64(-1); a <= l.Start+1; a++ {
			for b := int64(-1); b <= l.Start+1; b++ {
				coins := []int64{a, b, l.Start / 2}
				who, paid, ok := slowTakes(l, coins)
				wantTakes(t, l, coins, who, paid, ok)
			}
		}
	})
}

// TestEverySmallBid: what a bid is answered, and what is sold then, at every lot of small numbers, at any tick, with any coins.
func TestEverySmallBid(t *testing.T) {
	everySmall(func(l api.Lot) {
		if l.Opens != 1 || l.Fall%3 == 1 {
			return
		}
		for tick := range l.Closes + 1 {
			price := bigPrice(l, max(tick, l.Opens))
			for _, coins := range []int64{price - 1, price, price + 1} {
				for _, free := range []int64{price - 1, price, price + 1} {
					tryBid(t, l, tick, coins, free, price)
				}
			}
		}
	})
}

// tryBid bids at a lot anew, and holds the answer against the rules, one by one.
func tryBid(t *testing.T, l api.Lot, tick, coins, free, price int64) {
	t.Helper()
	f := begun(t, l)
	want := api.OK
	switch {
	case coins < 0 || free < 0:
		want = api.ErrArg
	case tick < l.Opens || tick >= l.Closes:
		want = api.ErrTime
	case coins < price:
		want = api.ErrLow
	case price > free:
		want = api.ErrBudget
	}
	if want != api.OK {
		wantBid(t, f, 6, tick, coins, free, 0, want)
		wantUnsold(t, f)
		return
	}
	wantBid(t, f, 6, tick, coins, free, price, api.OK)
	wantSold(t, f, 6, price, tick)
	wantAt(t, f, tick, 0, false)
}

// anyUpto draws a number from 0 to a bound, of any size alike, and the bounds themselves often.
func anyUpto(r *rand.Rand, bound int64) int64 {
	switch r.Intn(8) {
	case 0:
		return 0
	case 1:
		return bound
	case 2:
		return max(bound-1-r.Int63n(3), 0)
	}
	return min(r.Int63n(int64(2)<<r.Intn(41)), bound)
}

func anyLot(r *rand.Rand) api.Lot {
	opens := anyUpto(r, api.MaxTick-1)
	closes := opens + 1 + anyUpto(r, api.MaxTick-1-opens)
	start := anyUpto(r, api.MaxCoins)
	return made(opens, closes, start, anyUpto(r, start), anyUpto(r, api.MaxCoins))
}

// TestGreatLots: of lots of any size, what follows of the price and of First (P10.5).
func TestGreatLots(t *testing.T) {
	r := rand.New(rand.NewSource(10))
	for range 60000 {
		l := anyLot(r)
		if falling.Check(l) != api.OK {
			t.Fatalf("%+v may not be", l)
		}
		tick := l.Opens + anyUpto(r, l.Closes-1-l.Opens)
		price := bigPrice(l, tick)
		wantPrice(t, l, tick, price, api.OK)
		wantAt(t, begun(t, l), tick, price, true)
		if price > l.Start || price < l.Floor || l.Fall == 0 && price != l.Start {
			t.Errorf("%+v costs %d at %d", l, price, tick)
		}
		if later := l.Opens + anyUpto(r, l.Closes-1-l.Opens); later >= tick && bigPrice(l, later) > price {
			t.Errorf("%+v costs more at %d than at %d", l, later, tick)
		}
		coins := anyUpto(r, l.Start)
		checkFirst(t, l, coins)
		checkFirst(t, l, price)
		checkFirst(t, l, price-1)
	}
}

// checkFirst: the price at First is at most the coins, at the tick ahead above; where there is no First it is above at the last tick.
func checkFirst(t *testing.T, l api.Lot, coins int64) {
	t.Helper()
	at, ok := falling.First(l, coins)
	if !ok {
		if at != 0 || bigPrice(l, l.Closes-1) <= coins {
			t.Errorf("First(%+v, %d): %d, false", l, coins, at)
		}
		return
	}
	if at < l.Opens || at >= l.Closes || bigPrice(l, at) > coins {
		t.Errorf("First(%+v, %d): %d", l, coins, at)
	}
	if at > l.Opens && bigPrice(l, at-1) <= coins {
		t.Errorf("First(%+v, %d): %d, though it costs that the tick ahead", l, coins, at)
	}
	if sooner, ok := falling.First(l, coins+1); !ok || sooner > at {
		t.Errorf("First(%+v, %d): %d, of one coin less %d", l, coins+1, sooner, at)
	}
}

// TestGreatSteps: of lots of any size the steps at their beginning, and, if there are few, all of them (P10.5).
func TestGreatSteps(t *testing.T) {
	r := rand.New(rand.NewSource(11))
	for range 3000 {
		l := anyLot(r)
		var all []step
		for tick, price := range falling.Steps(l) {
			all = append(all, step{tick, price})
			if len(all) == 200 {
				break
			}
		}
		if len(all) == 0 || all[0] != (step{l.Opens, l.Start}) {
			t.Fatalf("Steps(%+v): %v", l, all)
		}
		for i, s := range all {
			if s.price != bigPrice(l, s.tick) || i > 0 && (s.tick != all[i-1].tick+1 || s.price >= all[i-1].price) {
				t.Errorf("Steps(%+v): %v at %d", l, s, i)
			}
		}
		if last := all[len(all)-1]; len(all) < 200 && bigPrice(l, l.Closes-1) != last.price {
			t.Errorf("Steps(%+v) end with %v", l, last)
		}
	}
}

// TestStepsTellPrices: at each tick Price is that of the last step that is not behind it (P10.5).
func TestStepsTellPrices(t *testing.T) {
	everySmall(func(l api.Lot) {
		steps := collect(falling.Steps(l))
		for tick := l.Opens; tick < l.Closes; tick++ {
			n, found := slices.BinarySearchFunc(steps, tick, func(s step, tick int64) int { return int(s.tick - tick) })
			if !found {
				n--
			}
			wantPrice(t, l, tick, steps[n].price, api.OK)
		}
	})
}

// TestGreatTakes: nobody's First is earlier than the taker's, of the same tick nobody has a lesser number, and it pays at most its coins (P10.5).
func TestGreatTakes(t *testing.T) {
	r := rand.New(rand.NewSource(12))
	for range 20000 {
		l := anyLot(r)
		coins := make([]int64, r.Intn(9))
		for i := range coins {
			coins[i] = anyUpto(r, api.MaxCoins+2) - 1
			if r.Intn(2) == 0 {
				coins[i] = anyUpto(r, l.Start+1)
			}
		}
		checkTakes(t, l, coins)
	}
}

func checkTakes(t *testing.T, l api.Lot, coins []int64) {
	t.Helper()
	who, paid, ok := falling.Takes(l, coins...)
	var earliest int64
	taker := -1
	for i, c := range coins {
		if c < 0 || c > api.MaxCoins {
			continue
		}
		if at, some := falling.First(l, c); some && (taker < 0 || at < earliest) {
			taker, earliest = i, at
		}
	}
	if taker < 0 {
		if who != 0 || paid != 0 || ok {
			t.Errorf("Takes(%+v, %v): %d, %d, %v, though nobody does", l, coins, who, paid, ok)
		}
		return
	}
	if who != taker || paid != bigPrice(l, earliest) || !ok || paid > coins[taker] {
		t.Errorf("Takes(%+v, %v): %d, %d, %v, not %d", l, coins, who, paid, ok, taker)
	}
}

// TestTakesIsFirstBid: whoever takes the thing is who gets it where all bid at each tick, in the order of their numbers.
func TestTakesIsFirstBid(t *testing.T) {
	r := rand.New(rand.NewSource(13))
	for range 5000 {
		l := made(r.Int63n(5), 5+r.Int63n(8), 0, 0, r.Int63n(7))
		l.Start = r.Int63n(30)
		l.Floor = r.Int63n(l.Start + 1)
		coins := make([]int64, r.Intn(5))
		for i := range coins {
			coins[i] = r.Int63n(35)
		}
		f := begun(t, l)
		for tick := range int64(15) {
			for bidder, c := range coins {
				f.Bid(bidder, tick, c, c)
			}
		}
		bidder, price, _, sold := f.Sold()
		wantTakes(t, l, coins, bidder, price, sold)
	}
}
