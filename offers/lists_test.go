package offers_test

import (
	"math"
	"math/rand"
	"slices"
	"testing"

	"gavel/api"
	"gavel/offers"
)

const everything = api.Goods(math.MaxUint32)

// list is one of offers: goods and coins in turn. Behind it stands room of its own, which nobody may touch.
func list(numbers ...int64) []api.Offer {
	l := make([]api.Offer, 0, len(numbers)/2+3)
	for i := 0; i+1 < len(numbers); i += 2 {
		l = append(l, api.Offer{Goods: api.Goods(numbers[i]), Coins: numbers[i+1]})
	}
	return l
}

// wholly is a list with the room behind it.
func wholly(l []api.Offer) []api.Offer { return l[:cap(l)] }

// unchanged tells, when it is called, whether a list has become another one since then, the room behind it included.
func unchanged(t *testing.T, call string, l []api.Offer) func() {
	before := append([]api.Offer(nil), wholly(l)...)
	return func() {
		t.Helper()
		if !slices.Equal(wholly(l), before) {
			t.Errorf("%s changed %v to %v", call, before, wholly(l))
		}
	}
}

// overwrite fills a list and the room behind it with what is in no list of these tests.
func overwrite(l []api.Offer) {
	for i := range wholly(l) {
		wholly(l)[i] = api.Offer{Goods: 77, Coins: -77}
	}
}

func wantCheck(t *testing.T, n int, l []api.Offer, want int, wantErr api.Errno) {
	t.Helper()
	defer unchanged(t, "Check", l)()
	if got, err := offers.Check(n, l...); got != want || err != wantErr {
		t.Errorf("Check(%d, %v): %d, %v, not %d, %v", n, l, got, err, want, wantErr)
	}
}

func wantWorth(t *testing.T, l []api.Offer, g api.Goods, want int64, wantAt int) {
	t.Helper()
	defer unchanged(t, "Worth", l)()
	if got, at := offers.Worth(l, g); got != want || at != wantAt {
		t.Errorf("Worth(%v, %d): %d, %d, not %d, %d", l, g, got, at, want, wantAt)
	}
}

func wantGreatest(t *testing.T, l []api.Offer, want int64, wantAt int) {
	t.Helper()
	defer unchanged(t, "Greatest", l)()
	if got, at := offers.Greatest(l...); got != want || at != wantAt {
		t.Errorf("Greatest(%v): %d, %d, not %d, %d", l, got, at, want, wantAt)
	}
}

// worth is what one set is worth.
type worth struct {
	set   api.Goods
	coins int64
}

// told gathers what Worths tells, at most so much of it.
func told(n int, most int, l []api.Offer) []worth {
	var all []worth
	for g, coins := range offers.Worths(n, l...) {
		if len(all) == most {
			break
		}
		all = append(all, worth{g, coins})
	}
	return all
}

func wantWorths(t *testing.T, n int, l []api.Offer, coins ...int64) {
	t.Helper()
	defer unchanged(t, "Worths", l)()
	var want []worth
	for g, c := range coins {
		want = append(want, worth{api.Goods(g), c})
	}
	if got := told(n, math.MaxInt, l); !slices.Equal(got, want) {
		t.Errorf("Worths(%d, %v): %v, not %v", n, l, got, want)
	}
}

// wantIdle asks for each offer of a list whether it is idle.
func wantIdle(t *testing.T, l []api.Offer, want ...bool) {
	t.Helper()
	defer unchanged(t, "Idle", l)()
	for i, idle := range want {
		if got := offers.Idle(l, i); got != idle {
			t.Errorf("Idle(%v, %d): %v, not %v", l, i, got, idle)
		}
	}
}

func wantNormal(t *testing.T, l, want []api.Offer) {
	t.Helper()
	defer unchanged(t, "Normal", l)()
	if got := offers.Normal(l...); !slices.Equal(got, want) {
		t.Errorf("Normal(%v): %v, not %v", l, got, want)
	}
}

func wantSame(t *testing.T, a, b []api.Offer, want bool) {
	t.Helper()
	defer unchanged(t, "Same", a)()
	defer unchanged(t, "Same", b)()
	if offers.Same(a, b) != want || offers.Same(b, a) != want {
		t.Errorf("Same(%v, %v): %v, the other way %v, not %v", a, b, offers.Same(a, b), offers.Same(b, a), want)
	}
	if !offers.Same(a, a) || !offers.Same(b, b) {
		t.Errorf("%v or %v is not Same as itself", a, b)
	}
}

func wantLower(t *testing.T, c int64, l, want []api.Offer) {
	t.Helper()
	defer unchanged(t, "Lower", l)()
	if got := offers.Lower(c, l...); !slices.Equal(got, want) {
		t.Errorf("Lower(%d, %v): %v, not %v", c, l, got, want)
	}
}

func TestExamplesOfLists(t *testing.T) {
	wantCheck(t, 2, list(3, 5), 0, api.OK)
	wantCheck(t, 2, list(3, 5, 4, 1), 1, api.ErrOffer)
	wantCheck(t, 0, nil, 0, api.ErrArg)
	wantCheck(t, 2, list(1, 0), 0, api.ErrOffer)
	wantCheck(t, 2, nil, 0, api.OK)

	three := list(1, 4, 3, 6, 2, 4)
	wantWorth(t, three, 3, 6, 1)
	wantWorth(t, three, 2, 4, 2)
	wantWorth(t, three, 4, 0, -1)
	wantWorths(t, 2, list(1, 4, 3, 6), 0, 4, 0, 6)

	wantNormal(t, list(3, 4, 1, 4, 2, 3, 2, 3, 7, 9), list(1, 4, 2, 3, 7, 9))
	wantSame(t, list(3, 4, 1, 4), list(1, 4), true)
	wantLower(t, 4, list(1, 4, 3, 6), list(3, 2))
	wantGreatest(t, list(1, 4, 2, 4), 4, 0)
}

// P8.1: each bound of a list, at it and one past it.
func TestCheckAtItsBounds(t *testing.T) {
	for _, n := range []int{math.MinInt, -1 << 32, -1, 0, api.MaxGoods + 1, 32, 1<<32 + 1, math.MaxInt} {
		wantCheck(t, n, nil, 0, api.ErrArg)
		wantCheck(t, n, list(1, 1), 0, api.ErrArg)
	}
	for n := 1; n <= api.MaxGoods; n++ {
		all := int64(1)<<n - 1
		wantCheck(t, n, list(all, 1, 1, api.MaxCoins, all, api.MaxCoins), 0, api.OK)
		wantCheck(t, n, list(1, 1, all, 1, all+1, 1), 2, api.ErrOffer)
		wantCheck(t, n, list(1, 1, int64(everything), 1), 1, api.ErrOffer)
		wantCheck(t, n, list(1, 1, 1<<31|1, 1), 1, api.ErrOffer)
	}
	for _, coins := range []int64{math.MinInt64, -api.MaxCoins, -1, 0, api.MaxCoins + 1, math.MaxInt64} {
		wantCheck(t, 3, list(7, 1, 7, coins), 1, api.ErrOffer)
	}
	wantCheck(t, 3, list(0, 1), 0, api.ErrOffer)
	wantCheck(t, 3, list(1, 1, 2, 1, 0, 1), 2, api.ErrOffer)
}

func TestCheckTellsTheFirstOffer(t *testing.T) {
	for at := range api.MaxOffers {
		l := slices.Repeat(list(3, 5), api.MaxOffers)
		for i := at; i < len(l); i++ {
			l[i].Coins = 0
		}
		wantCheck(t, 2, l, at, api.ErrOffer)
	}
}

func TestCheckTellsErrorsInTheirOrder(t *testing.T) {
	eight := slices.Repeat(list(1, 1), api.MaxOffers)
	nine := slices.Repeat(list(1, 1), api.MaxOffers+1)
	wrong := make([]api.Offer, api.MaxOffers+1)
	wantCheck(t, 1, eight, 0, api.OK)
	wantCheck(t, 1, nine, 0, api.ErrLong)
	wantCheck(t, 1, wrong, 0, api.ErrLong)
	wantCheck(t, 1, wrong[1:], 0, api.ErrOffer)
	wantCheck(t, 0, nine, 0, api.ErrArg)
	wantCheck(t, 11, wrong, 0, api.ErrArg)
	wantCheck(t, 0, list(0, 0), 0, api.ErrArg)
	wantCheck(t, 4, make([]api.Offer, 1<<16), 0, api.ErrLong)
}

// P8.2.
func TestWorthTellsTheFirstOfTheGreatest(t *testing.T) {
	l := list(3, 6, 1, 6, 2, 6, 1, 7, 4, 1, 5, 7)
	wantWorth(t, l, 0, 0, -1)
	wantWorth(t, l, 1, 7, 3)
	wantWorth(t, l, 2, 6, 2)
	wantWorth(t, l, 3, 7, 3)
	wantWorth(t, l, 4, 1, 4)
	wantWorth(t, l, 6, 6, 2)
	wantWorth(t, l, everything, 7, 3)
	wantWorth(t, l, everything&^1, 6, 2)
	wantWorth(t, list(3, 6, 1, 6, 2, 6), 3, 6, 0)
	wantWorth(t, nil, everything, 0, -1)
	wantWorth(t, []api.Offer{}, 0, 0, -1)
}

func TestWorthOfOffersThatMayNotBe(t *testing.T) {
	wantWorth(t, list(0, 5), 0, 5, 0)
	wantWorth(t, list(1, 4, 0, 5), 1, 5, 1)
	wantWorth(t, list(0, 4, 1, 5), 2, 4, 0)
	wantWorth(t, list(1, 0, 1, -1, 1, math.MinInt64), 1, 0, -1)
	wantWorth(t, list(0, 0, 1, -9, 1, 1), 1, 1, 2)
	wantWorth(t, list(1, math.MaxInt64-1, 1, math.MaxInt64), 1, math.MaxInt64, 1)
	wantWorth(t, list(1<<31, 3), 1<<31, 3, 0)
	wantWorth(t, list(1<<31, 3), 1<<30, 0, -1)
	wantWorth(t, slices.Repeat(list(1, 2), 50), 1, 2, 0)
}

func TestWorthsTellsEachSet(t *testing.T) {
	wantWorths(t, 1, nil, 0, 0)
	wantWorths(t, 1, list(1, 4), 0, 4)
	wantWorths(t, 3, list(5, 9, 2, 1), 0, 0, 1, 1, 0, 9, 1, 9)
	wantWorths(t, 2, list(0, 3, 2, 2, 3, 4), 3, 3, 3, 4)
	wantWorths(t, 2, list(1, -1, 2, 0), 0, 0, 0, 0)
	wantWorths(t, 1, list(2, 8, 3, 9, 1<<31, 9), 0, 0)
	for _, n := range []int{math.MinInt, -1, 0, api.MaxGoods + 1, 31, 32, 33, math.MaxInt} {
		wantWorths(t, n, list(0, 1, 1, 1))
	}
	for n := 1; n <= api.MaxGoods; n++ {
		all := told(n, math.MaxInt, list(0, 1))
		if len(all) != 1<<n || all[len(all)-1] != (worth{api.Goods(1)<<n - 1, 1}) {
			t.Errorf("Worths of %d goods: %d sets", n, len(all))
		}
	}
}

func TestWorthsKeepsTheListAsItWas(t *testing.T) {
	l := list(1, 4, 3, 6)
	worths := offers.Worths(2, l...)
	overwrite(l)
	for round := range 3 {
		var got []int64
		for _, coins := range worths {
			got = append(got, coins)
		}
		if !slices.Equal(got, []int64{0, 4, 0, 6}) {
			t.Errorf("round %d: %v", round, got)
		}
	}
}

func TestWorthsMayBeLeftAnywhere(t *testing.T) {
	l := list(1, 4, 6, 6)
	all := told(3, math.MaxInt, l)
	worths := offers.Worths(3, l...)
	for most := range len(all) + 1 {
		var got []worth
		for g, coins := range worths {
			if len(got) == most {
				break
			}
			got = append(got, worth{g, coins})
		}
		if !slices.Equal(got, all[:most]) {
			t.Errorf("left behind %d: %v, not %v", most, got, all[:most])
		}
	}
	for g := range worths {
		inner := 0
		for range worths {
			inner++
		}
		if inner != len(all) {
			t.Errorf("gone over again at %d: %d sets", g, inner)
		}
	}
}

// P8.3.
func TestIdle(t *testing.T) {
	wantIdle(t, list(3, 4, 1, 4, 2, 3, 2, 3, 7, 9), true, false, false, true, false)
	wantIdle(t, list(1, 4, 1, 5), true, false)
	wantIdle(t, list(1, 5, 1, 4), false, true)
	wantIdle(t, list(1, 4, 1, 4, 1, 4), false, true, true)
	wantIdle(t, list(3, 4, 1, 4), true, false)
	wantIdle(t, list(1, 4, 3, 4), false, true)
	wantIdle(t, list(3, 5, 1, 4), false, false)
	wantIdle(t, list(1, 4, 3, 3), false, true)
	wantIdle(t, list(5, 4, 3, 4), false, false)
	wantIdle(t, list(5, 4, 2, 9), false, false)
	wantIdle(t, list(1<<31|1, 4, 1<<31, 4), true, false)
	wantIdle(t, list(1, 4), false)
}

func TestIdleOfOffersThatMayNotBe(t *testing.T) {
	wantIdle(t, list(0, 4, 3, 4, 3, 5, 0, 4), false, true, false, true)
	wantIdle(t, list(1, 0, 1, 0, 3, -1, 1, 1), false, false, false, false)
	wantIdle(t, list(1, -1, 1, -1), false, false)
	wantIdle(t, list(1, 0, 1, 9), false, false)
	wantIdle(t, list(0, math.MinInt64, 1, math.MaxInt64, 1, math.MaxInt64), false, false, true)
	for _, i := range []int{math.MinInt, -2, -1, 2, 3, math.MaxInt} {
		if l := list(1, 4, 1, 4); offers.Idle(l, i) || offers.Idle(nil, i) {
			t.Errorf("Idle of %d", i)
		}
	}
	if offers.Idle(nil, 0) || offers.Idle([]api.Offer{}, 0) || offers.Idle(list(1, 4, 1, 4)[:1], 1) {
		t.Error("Idle where there is none")
	}
}

func TestNormal(t *testing.T) {
	wantNormal(t, nil, nil)
	wantNormal(t, []api.Offer{}, nil)
	wantNormal(t, list(1, 4), list(1, 4))
	wantNormal(t, list(1, 4, 1, 6, 1, 5), list(1, 6))
	wantNormal(t, list(1, 4, 1, 4), list(1, 4))
	wantNormal(t, list(4, 1, 2, 1, 1, 1), list(1, 1, 2, 1, 4, 1))
	wantNormal(t, list(7, 9, 3, 9, 1, 8), list(1, 8, 3, 9))
	wantNormal(t, list(7, 3, 6, 2, 5, 1), list(5, 1, 6, 2, 7, 3))
	wantNormal(t, list(7, 2, 6, 3, 5, 1), list(5, 1, 6, 3))
	wantNormal(t, list(1, 9, 2, 7, 3, 9, 5, 10, 7, 10), list(1, 9, 2, 7, 5, 10))
	wantNormal(t, list(1<<31, 1, 1<<30, 1), list(1<<30, 1, 1<<31, 1))
}

func TestNormalOfOffersThatMayNotBe(t *testing.T) {
	wantNormal(t, list(1, 0, 2, -1, 3, math.MinInt64), nil)
	wantNormal(t, list(1, 0, 2, 1, 0, 0), list(2, 1))
	wantNormal(t, list(3, 5, 0, 4, 1, 4, 1, 3), list(0, 4, 3, 5))
	wantNormal(t, list(0, 5, 0, 5, 0, 6), list(0, 6))
	wantNormal(t, list(1, math.MaxInt64, 1, math.MinInt64, 3, math.MaxInt64), list(1, math.MaxInt64))
	wantNormal(t, slices.Repeat(list(2, 5, 1, 5), 30), list(1, 5, 2, 5))
}

func TestSame(t *testing.T) {
	wantSame(t, nil, nil, true)
	wantSame(t, nil, []api.Offer{}, true)
	wantSame(t, nil, list(1, 0, 1, -4), true)
	wantSame(t, nil, list(1, 1), false)
	wantSame(t, list(1, 4), list(1, 5), false)
	wantSame(t, list(1, 4), list(2, 4), false)
	wantSame(t, list(1, 4), list(1, 4, 2, 1), false)
	wantSame(t, list(1, 4, 2, 5), list(2, 5, 1, 4), true)
	wantSame(t, list(1, 4, 1, 4, 3, 4, 2, 0), list(1, 4), true)
	wantSame(t, list(0, 4), list(1, 4), false)
	wantSame(t, list(0, 4, 1, 4), list(0, 4, 9, 3), true)
}

// P8.4.
func TestLower(t *testing.T) {
	l := list(1, 4, 3, 6, 2, 5)
	wantLower(t, 0, l, l)
	wantLower(t, -1, l, l)
	wantLower(t, math.MinInt64, l, l)
	wantLower(t, 3, l, list(1, 1, 3, 3, 2, 2))
	wantLower(t, 4, l, list(3, 2, 2, 1))
	wantLower(t, 5, l, list(3, 1))
	wantLower(t, 6, l, nil)
	wantLower(t, math.MaxInt64, l, nil)
	wantLower(t, 1, nil, nil)
	wantLower(t, 0, list(1, 0, 2, 1, 3, -1, 2, 1), list(2, 1, 2, 1))
	wantLower(t, -5, list(1, -3, 2, 1), list(2, 1))
	wantLower(t, 2, list(1, math.MinInt64, 2, math.MinInt64+1), nil)
	wantLower(t, math.MaxInt64, list(1, math.MinInt64, 1, math.MaxInt64), nil)
	wantLower(t, math.MaxInt64-1, list(0, math.MaxInt64, 1, math.MinInt64), list(0, 1))
	wantLower(t, 1, slices.Repeat(list(0, 2), 40), slices.Repeat(list(0, 1), 40))
}

func TestGreatest(t *testing.T) {
	wantGreatest(t, nil, 0, -1)
	wantGreatest(t, []api.Offer{}, 0, -1)
	wantGreatest(t, list(1, 0, 2, -1, 3, math.MinInt64), 0, -1)
	wantGreatest(t, list(1, 1), 1, 0)
	wantGreatest(t, list(1, 0, 0, 3, int64(everything), 4, 2, 4), 4, 2)
	wantGreatest(t, list(1, 3, 1<<31, math.MaxInt64, 1, math.MaxInt64), math.MaxInt64, 1)
	wantGreatest(t, append(slices.Repeat(list(1, 2), 60), list(1, 3)...), 3, 60)
}

// What is answered shares no memory with what was handed in, with another answer, or with what is asked later.
func TestListsAnsweredAreNewMemory(t *testing.T) {
	for _, call := range []func([]api.Offer) []api.Offer{
		func(l []api.Offer) []api.Offer { return offers.Normal(l...) },
		func(l []api.Offer) []api.Offer { return offers.Lower(0, l...) },
		func(l []api.Offer) []api.Offer { return offers.Lower(1, l...) },
	} {
		for _, l := range [][]api.Offer{list(1, 4, 2, 5), list(3, 4, 1, 4, 2, 3, 1, 0), list(1, 1), list()} {
			check := unchanged(t, "overwriting an answer", l)
			first, second := call(l), call(l)
			want := append([]api.Offer(nil), second...)
			overwrite(first)
			check()
			if !slices.Equal(second, want) || !slices.Equal(call(l), want) {
				t.Errorf("answers of %v share memory", l)
			}
			overwrite(l)
			if !slices.Equal(second, want) {
				t.Errorf("an answer shares memory with what was handed in: %v, not %v", second, want)
			}
		}
	}
}

// randomOffers are some whose sets and coins meet often; wild ones are such as may not be, too.
func randomOffers(r *rand.Rand, goods, most int, wild bool) []api.Offer {
	l := make([]api.Offer, r.Intn(most+1))
	for i := range l {
		l[i] = api.Offer{Goods: api.Goods(1 + r.Intn(1<<goods-1)), Coins: int64(1 + r.Intn(6))}
		if wild {
			l[i].Goods &= api.Goods(r.Intn(1 << goods))
			l[i].Goods |= api.Goods(r.Intn(4)/3) << 31
			l[i].Coins = l[i].Coins - 2 - int64(r.Intn(6)/5)*math.MaxInt64
		}
	}
	return l
}

// slowWorth is what a list is worth, by its words.
func slowWorth(l []api.Offer, g api.Goods) (int64, int) {
	greatest, at := int64(0), -1
	for i := len(l) - 1; i >= 0; i-- {
		if l[i].Coins >= 1 && l[i].Goods|g == g && l[i].Coins >= greatest {
			greatest, at = l[i].Coins, i
		}
	}
	return greatest, at
}

// slowIdle is whether an offer is idle, by its words.
func slowIdle(l []api.Offer, i int) bool {
	for j := range l {
		if i == j || l[i].Coins < 1 || l[j].Coins < 1 || l[j].Goods&^l[i].Goods != 0 {
			continue
		}
		more, asMany := l[j].Coins > l[i].Coins, l[j].Coins == l[i].Coins
		fewer, theSame := l[j].Goods != l[i].Goods, l[j].Goods == l[i].Goods
		if more || asMany && fewer || asMany && theSame && j < i {
			return true
		}
	}
	return false
}

// slowNormal puts in, for each set as a number, what is not idle of it.
func slowNormal(l []api.Offer) []api.Offer {
	var normal []api.Offer
	for i := range l {
		if l[i].Coins < 1 || slowIdle(l, i) {
			continue
		}
		at := 0
		for at < len(normal) && normal[at].Goods < l[i].Goods {
			at++
		}
		normal = slices.Insert(normal, at, l[i])
	}
	return normal
}

func TestListsAgainstTheirWords(t *testing.T) {
	r := rand.New(rand.NewSource(8))
	for round := range 6000 {
		l := randomOffers(r, 1+r.Intn(4), 14, round%2 == 1)
		for g := api.Goods(0); g < 16; g++ {
			worth, at := slowWorth(l, g)
			wantWorth(t, l, g, worth, at)
			worth, at = slowWorth(l, g|1<<31)
			wantWorth(t, l, g|1<<31, worth, at)
		}
		for i := range l {
			wantIdle(t, l[i:], slowIdle(l[i:], 0))
			if got, want := offers.Idle(l, i), slowIdle(l, i); got != want {
				t.Errorf("Idle(%v, %d): %v, not %v", l, i, got, want)
			}
		}
		wantNormal(t, l, slowNormal(l))
		greatest, at := slowWorth(l, everything)
		wantGreatest(t, l, greatest, at)
		other := randomOffers(r, 2, 4, false)
		wantSame(t, l, other, slices.Equal(slowNormal(l), slowNormal(other)))
		if t.Failed() {
			t.Fatalf("round %d", round)
		}
	}
}

// P8.7: a list and its Normal are worth the same; no offer of the Normal can be left out; a greater set is never worth less.
func TestNormalIsTheShortestThatIsWorthTheSame(t *testing.T) {
	r := rand.New(rand.NewSource(9))
	for range 2000 {
		n := 1 + r.Intn(5)
		l := randomOffers(r, n, api.MaxOffers, false)
		normal := offers.Normal(l...)
		all := told(n, math.MaxInt, l)
		if !slices.Equal(told(n, math.MaxInt, normal), all) {
			t.Fatalf("%v is not worth as much as %v", normal, l)
		}
		for i := range normal {
			if slices.Equal(told(n, math.MaxInt, slices.Delete(slices.Clone(normal), i, i+1)), all) {
				t.Fatalf("%v can be without its offer %d", normal, i)
			}
		}
		wantNormal(t, normal, normal)
		wantSame(t, l, normal, true)
		for _, a := range all {
			for _, b := range all {
				if a.set&^b.set == 0 && a.coins > b.coins {
					t.Fatalf("%v: the set %d is worth more than %d", l, a.set, b.set)
				}
			}
		}
	}
}

// P8.7: Same tells just whether all sets are worth the same.
func TestSameTellsWhetherAllSetsAreWorthTheSame(t *testing.T) {
	r := rand.New(rand.NewSource(10))
	same := 0
	for range 3000 {
		a, b := randomOffers(r, 2, 5, false), randomOffers(r, 2, 5, false)
		want := slices.Equal(told(api.MaxGoods, math.MaxInt, a), told(api.MaxGoods, math.MaxInt, b))
		wantSame(t, a, b, want)
		if want {
			same++
		}
	}
	if same < 30 {
		t.Errorf("%d pairs only are worth the same", same)
	}
}

// P8.7: lowered twice is lowered by both.
func TestLoweredTwice(t *testing.T) {
	r := rand.New(rand.NewSource(11))
	for range 2000 {
		l := randomOffers(r, 3, 9, r.Intn(2) == 1)
		c, d := int64(r.Intn(6)), int64(r.Intn(6))
		wantLower(t, d, offers.Lower(c, l...), offers.Lower(c+d, l...))
	}
	wantLower(t, 1, offers.Lower(math.MaxInt64-2, list(1, math.MaxInt64)...), list(1, 1))
}

func TestLongLists(t *testing.T) {
	const long = 40000
	l := make([]api.Offer, long)
	for i := range l {
		l[i] = api.Offer{Goods: api.Goods(1 + i%1023), Coins: int64(i + 1)}
	}
	normal := offers.Normal(l...)
	if len(normal) == 0 || len(normal) > 1023 || !offers.Same(l, normal) {
		t.Errorf("Normal of a long list has %d offers", len(normal))
	}
	if got := told(api.MaxGoods, math.MaxInt, l); !slices.Equal(got, told(api.MaxGoods, math.MaxInt, normal)) {
		t.Error("a long list and its Normal are not worth the same")
	}
	wantGreatest(t, l, long, long-1)
	if got := offers.Lower(long-5, l...); len(got) != 5 {
		t.Errorf("a long list lowered has %d offers", len(got))
	}
	for i := range l {
		l[i] = api.Offer{Goods: 1, Coins: int64(i + 1)}
	}
	wantNormal(t, l, list(1, long))
	wantIdle(t, l, true, true)
}
