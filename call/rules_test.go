package call_test

import (
	"math/rand"
	"slices"
	"testing"

	"gavel/api"
	"gavel/call"
)

// The rules of another kind: all units at once, each held against each other one, by the chapter's words.

// unit is one unit that somebody wants, or gives.
type unit struct {
	who   int
	coins int64
}

// slowUnits puts each unit where as many stand ahead of it as come first; of one want they are the same.
func slowUnits(list []api.Want, first func(a, b int64) bool) []unit {
	var all []unit
	for who, want := range list {
		for range want.Count {
			all = append(all, unit{who, want.Coins})
		}
	}
	order := make([]unit, len(all))
	for i, a := range all {
		ahead := 0
		for j, b := range all {
			if first(b.coins, a.coins) || a.coins == b.coins && (b.who < a.who || b.who == a.who && j < i) {
				ahead++
			}
		}
		order[ahead] = a
	}
	return order
}

// slow is a call by the chapter's words.
type slow struct {
	bought, sold []unit // all units, in order
	called       api.Called
	fills        []api.Fill
	gains        int64
}

func slowCall(buys, sells []api.Want) slow {
	s := slow{
		bought: slowUnits(buys, func(a, b int64) bool { return a > b }),
		sold:   slowUnits(sells, func(a, b int64) bool { return a < b }),
	}
	traded := 0
	for k := 1; k <= min(len(s.bought), len(s.sold)); k++ {
		if s.bought[k-1].coins >= s.sold[k-1].coins {
			traded = k
		}
	}
	s.called = called(int64(traded), 0, 0, 0, make([]int, len(buys)), make([]int, len(sells)))
	for k := range traded {
		s.pair(s.bought[k], s.sold[k])
	}
	if traded > 0 {
		s.price(traded)
	}
	return s
}

// pair trades one unit.
func (s *slow) pair(b, g unit) {
	s.called.Buys[b.who]++
	s.called.Sells[g.who]++
	s.gains += b.coins - g.coins
	if last := len(s.fills) - 1; last >= 0 && s.fills[last].Buyer == b.who && s.fills[last].Seller == g.who {
		s.fills[last].Count++
		return
	}
	s.fills = append(s.fills, api.Fill{Buyer: b.who, Seller: g.who, Count: 1})
}

// price tells Low, High and the price.
func (s *slow) price(traded int) {
	c := &s.called
	c.Low, c.High = s.sold[traded-1].coins, s.bought[traded-1].coins
	if traded < len(s.bought) && s.bought[traded].coins > c.Low {
		c.Low = s.bought[traded].coins
	}
	if traded < len(s.sold) && s.sold[traded].coins < c.High {
		c.High = s.sold[traded].coins
	}
	c.Price = (c.Low + c.High) / 2
}

// checkSlow: the slow call says the same.
func checkSlow(t *testing.T, buys, sells []api.Want) {
	t.Helper()
	s := slowCall(buys, sells)
	wantCheck(t, buys, sells, api.OK)
	wantClear(t, buys, sells, s.called)
	wantFills(t, buys, sells, s.fills...)
	wantGains(t, buys, sells, s.gains)
	prices := []int64{0, api.MaxCoins, s.called.Price, s.called.Low, s.called.High}
	for _, list := range [][]unit{s.bought, s.sold} {
		if len(list) > 0 {
			prices = append(prices, list[0].coins, list[len(list)-1].coins, max(list[0].coins-1, 0), min(list[0].coins+1, api.MaxCoins))
		}
	}
	for _, price := range prices {
		var wanted, given int64
		for _, u := range s.bought {
			if u.coins >= price {
				wanted++
			}
		}
		for _, u := range s.sold {
			if u.coins <= price {
				given++
			}
		}
		wantAt(t, buys, sells, price, wanted, given, api.OK)
	}
}

func mustClear(t *testing.T, buys, sells []api.Want) api.Called {
	t.Helper()
	c, err := call.Clear(buys, sells)
	if err != api.OK || len(c.Buys) != len(buys) || len(c.Sells) != len(sells) {
		t.Fatalf("Clear(%v, %v): %+v, %v", buys, sells, c, err)
	}
	return c
}

func mustGain(t *testing.T, buys, sells []api.Want) int64 {
	t.Helper()
	gains, err := call.Gains(buys, sells)
	if err != api.OK {
		t.Fatalf("Gains(%v, %v): %v", buys, sells, err)
	}
	return gains
}

func sum(list []int) int64 {
	var all int64
	for _, n := range list {
		all += int64(n)
	}
	return all
}

// checkPrice: the price lies between Low and High, nobody trades to its loss, nobody who would gain is left out (P13.4). Where nothing is traded there is no price, and nothing follows of it.
func checkPrice(t *testing.T, buys, sells []api.Want) {
	t.Helper()
	c := mustClear(t, buys, sells)
	if c.Low > c.Price || c.Price > c.High || sum(c.Buys) != c.Traded || sum(c.Sells) != c.Traded {
		t.Errorf("Clear(%v, %v): %+v", buys, sells, c)
	}
	if c.Traded == 0 {
		return
	}
	for i, want := range buys {
		if c.Buys[i] > 0 && want.Coins < c.Price || want.Coins > c.Price && c.Buys[i] != want.Count {
			t.Errorf("Clear(%v, %v): %+v: the buyer %d", buys, sells, c, i)
		}
	}
	for i, want := range sells {
		if c.Sells[i] > 0 && want.Coins > c.Price || want.Coins < c.Price && c.Sells[i] != want.Count {
			t.Errorf("Clear(%v, %v): %+v: the seller %d", buys, sells, c, i)
		}
	}
}

// checkAt: at the price as many are wanted, and given, as are traded; not more, but for those whose coins are just it (P13.4).
func checkAt(t *testing.T, buys, sells []api.Want) {
	t.Helper()
	c := mustClear(t, buys, sells)
	if c.Traded == 0 {
		return
	}
	wanted, given, err := call.At(buys, sells, c.Price)
	if err != api.OK || wanted < c.Traded || given < c.Traded {
		t.Errorf("Clear(%v, %v): %+v, and at the price %d, %d, %v", buys, sells, c, wanted, given, err)
	}
	for _, want := range buys {
		if want.Coins == c.Price {
			wanted -= int64(want.Count)
		}
	}
	for _, want := range sells {
		if want.Coins == c.Price {
			given -= int64(want.Count)
		}
	}
	if wanted > c.Traded || given > c.Traded {
		t.Errorf("Clear(%v, %v): %+v, and %d would gain by buying, %d by selling", buys, sells, c, wanted, given)
	}
}

// checkFills: the fills are what each buyer gets, and what each seller gives (P13.4).
func checkFills(t *testing.T, buys, sells []api.Want) {
	t.Helper()
	c := mustClear(t, buys, sells)
	bought, sold := make([]int, len(buys)), make([]int, len(sells))
	for fill := range call.Fills(buys, sells) {
		if fill.Count < 1 {
			t.Errorf("Fills(%v, %v): %+v", buys, sells, fill)
		}
		bought[fill.Buyer] += fill.Count
		sold[fill.Seller] += fill.Count
	}
	if !slices.Equal(bought, c.Buys) || !slices.Equal(sold, c.Sells) {
		t.Errorf("Fills(%v, %v): %v, %v, not %v, %v", buys, sells, bought, sold, c.Buys, c.Sells)
	}
}

// bestPairs is the most that any pairs of units gain together: each buyer's unit with any of the sellers', or with none.
func bestPairs(bought, sold []unit) int64 {
	if len(bought) == 0 {
		return 0
	}
	best := bestPairs(bought[1:], sold)
	for i, u := range sold {
		rest := slices.Delete(slices.Clone(sold), i, i+1)
		best = max(best, bought[0].coins-u.coins+bestPairs(bought[1:], rest))
	}
	return best
}

// checkBest: no pairs gain more (P13.4).
func checkBest(t *testing.T, buys, sells []api.Want) {
	t.Helper()
	s := slowCall(buys, sells)
	if gains, best := mustGain(t, buys, sells), bestPairs(s.bought, s.sold); gains != best {
		t.Errorf("Gains(%v, %v): %d, though %d can be", buys, sells, gains, best)
	}
}

// checkOneMore: another one who comes last does not make the gains less (P13.4).
func checkOneMore(t *testing.T, buys, sells []api.Want, more api.Want) {
	t.Helper()
	gains := mustGain(t, buys, sells)
	if got := mustGain(t, append(slices.Clone(buys), more), sells); got < gains {
		t.Errorf("Gains(%v, %v): %d, and with the buyer %v %d", buys, sells, gains, more, got)
	}
	if got := mustGain(t, buys, append(slices.Clone(sells), more)); got < gains {
		t.Errorf("Gains(%v, %v): %d, and with the seller %v %d", buys, sells, gains, more, got)
	}
}

// checkAll asks all that is promised, but for the best pairs, of which there are too many in a long list.
func checkAll(t *testing.T, buys, sells []api.Want) {
	t.Helper()
	checkSlow(t, buys, sells)
	checkPrice(t, buys, sells)
	checkAt(t, buys, sells)
	checkFills(t, buys, sells)
}

// everyWant is all wants of up to so many units, of coins up to the most.
func everyWant(count int, most int64) []api.Want {
	var all []api.Want
	for coins := range most + 1 {
		for n := range count {
			all = append(all, api.Want{Coins: coins, Count: n + 1})
		}
	}
	return all
}

// everySide is all lists of up to so many of these wants.
func everySide(length int, each []api.Want) [][]api.Want {
	all := [][]api.Want{nil}
	for from := 0; length > 0; length-- {
		end := len(all)
		for _, list := range all[from:end] {
			for _, want := range each {
				all = append(all, append(slices.Clone(list), want))
			}
		}
		from = end
	}
	return all
}

// TestEverySmallCall: all that is promised, of every two sides of small numbers: few who want several units, and more who want one each.
func TestEverySmallCall(t *testing.T) {
	for _, each := range []struct {
		length, count int
		most          int64
	}{{2, 2, 3}, {3, 1, 3}} {
		sides := everySide(each.length, everyWant(each.count, each.most))
		for _, buys := range sides {
			for _, sells := range sides {
				checkAll(t, buys, sells)
				checkBest(t, buys, sells)
			}
		}
	}
}

// TestEverySmallOneMore: any one who comes last to every two small sides.
func TestEverySmallOneMore(t *testing.T) {
	each := everyWant(2, 3)
	sides := everySide(2, each)
	for _, buys := range sides {
		for _, sells := range sides {
			for _, more := range each {
				checkOneMore(t, buys, sells, more)
			}
		}
	}
}

// anyCoins draws coins of any size, and the bounds themselves often.
func anyCoins(r *rand.Rand) int64 {
	switch r.Intn(8) {
	case 0:
		return 0
	case 1:
		return api.MaxCoins
	case 2:
		return api.MaxCoins - 1 - r.Int63n(3)
	case 3, 4:
		return r.Int63n(6)
	}
	return min(r.Int63n(int64(2)<<r.Intn(41)), api.MaxCoins)
}

// anySide draws up to so many wants of up to so many units.
func anySide(r *rand.Rand, length, count int) []api.Want {
	list := make([]api.Want, r.Intn(length+1))
	for i := range list {
		list[i] = api.Want{Coins: anyCoins(r), Count: 1 + r.Intn(count)}
	}
	return list
}

// TestGreatCalls: sides of any numbers, and what follows of them.
func TestGreatCalls(t *testing.T) {
	r := rand.New(rand.NewSource(13))
	for range 3000 {
		buys, sells := anySide(r, 9, 9), anySide(r, 9, 9)
		checkAll(t, buys, sells)
		checkOneMore(t, buys, sells, api.Want{Coins: anyCoins(r), Count: 1 + r.Intn(api.MaxCount)})
	}
	for range 500 {
		checkBest(t, anySide(r, 3, 2), anySide(r, 3, 2))
	}
}

// TestLongCalls: many of few coins, so that many have the same ones.
func TestLongCalls(t *testing.T) {
	r := rand.New(rand.NewSource(14))
	for _, length := range []int{30, 100, 500} {
		for _, most := range []int64{1, 3, 40} {
			buys, sells := make([]api.Want, length), make([]api.Want, length+r.Intn(9))
			for _, side := range [][]api.Want{buys, sells} {
				for i := range side {
					side[i] = api.Want{Coins: r.Int63n(most), Count: 1 + r.Intn(4)}
				}
			}
			checkAll(t, buys, sells)
		}
	}
}
