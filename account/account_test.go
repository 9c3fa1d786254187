package account_test

import (
	"iter"
	"math"
	"slices"
	"testing"

	"gavel/account"
	"gavel/api"
)

const most = int64(api.MaxCoins)

// noCoins are numbers that are no coins.
var noCoins = []int64{math.MinInt64, -most, -1, most + 1, math.MaxInt64 - 1, math.MaxInt64}

// noLots are numbers that no lot has.
var noLots = []int{math.MinInt64, -api.MaxLots, -1}

// list makes what is held of numbers: a lot, its coins, and so on.
func list(numbers ...int64) []api.Held {
	var held []api.Held
	for pair := range slices.Chunk(numbers, 2) {
		held = append(held, api.Held{Lot: int(pair[0]), Coins: pair[1]})
	}
	return held
}

// all is what going over an account's lots tells.
func all(lots iter.Seq2[int, int64]) []api.Held {
	var held []api.Held
	for lot, coins := range lots {
		held = append(held, api.Held{Lot: lot, Coins: coins})
	}
	return held
}

func newAccount(t *testing.T, budget int64) *account.Account {
	t.Helper()
	a, err := account.New(budget)
	if a == nil || err != api.OK {
		t.Fatalf("New(%d): %v, %v", budget, a, err)
	}
	return a
}

func stands(t *testing.T, budget, spent int64, held ...api.Held) *account.Account {
	t.Helper()
	a, err := account.Of(budget, spent, held...)
	if a == nil || err != api.OK {
		t.Fatalf("Of(%d, %d, %v): %v, %v", budget, spent, held, a, err)
	}
	return a
}

func wantErr(t *testing.T, call string, got, want api.Errno) {
	t.Helper()
	if got != want {
		t.Errorf("%s: %v, not %v", call, got, want)
	}
}

func wantRefused(t *testing.T, want api.Errno, budget, spent int64, held ...api.Held) {
	t.Helper()
	if a, err := account.Of(budget, spent, held...); a != nil || err != want {
		t.Errorf("Of(%d, %d, %v): %v, %v, not %v", budget, spent, held, a, err, want)
	}
}

// wantHold asks Can first, which must foretell Hold, and change nothing that Hold could tell.
func wantHold(t *testing.T, a *account.Account, lot int, coins int64, want api.Errno) {
	t.Helper()
	if can := a.Can(lot, coins); can != (want == api.OK) {
		t.Errorf("Can(%d, %d): %v, though Hold should answer %v", lot, coins, can, want)
	}
	if got := a.Hold(lot, coins); got != want {
		t.Errorf("Hold(%d, %d): %v, not %v", lot, coins, got, want)
	}
}

func wantRelease(t *testing.T, a *account.Account, lot int, want int64, wantErr api.Errno) {
	t.Helper()
	if got, err := a.Release(lot); got != want || err != wantErr {
		t.Errorf("Release(%d): %d, %v, not %d, %v", lot, got, err, want, wantErr)
	}
}

func wantPay(t *testing.T, a *account.Account, lot int, coins int64, want api.Errno) {
	t.Helper()
	if got := a.Pay(lot, coins); got != want {
		t.Errorf("Pay(%d, %d): %v, not %v", lot, coins, got, want)
	}
}

func wantTake(t *testing.T, a *account.Account, coins int64, want api.Errno) {
	t.Helper()
	if got := a.Take(coins); got != want {
		t.Errorf("Take(%d): %v, not %v", coins, got, want)
	}
}

func wantBring(t *testing.T, a *account.Account, coins int64, want api.Errno) {
	t.Helper()
	if got := a.Bring(coins); got != want {
		t.Errorf("Bring(%d): %v, not %v", coins, got, want)
	}
}

// wantStands asks how an account stands, by each call that tells of it.
func wantStands(t *testing.T, a *account.Account, budget, spent int64, held ...api.Held) {
	t.Helper()
	var sum int64
	for _, h := range held {
		sum += h.Coins
		if got := a.At(h.Lot); got != h.Coins {
			t.Errorf("At(%d): %d, not %d", h.Lot, got, h.Coins)
		}
	}
	got := [4]int64{a.Budget(), a.Spent(), a.Held(), a.Free()}
	if want := [4]int64{budget, spent, sum, budget - spent - sum}; got != want {
		t.Errorf("budget, spent, held, free: %v, not %v", got, want)
	}
	lots := a.All()
	for range 2 {
		if got := all(lots); !slices.Equal(got, held) {
			t.Errorf("All: %v, not %v", got, held)
		}
	}
	wantEmpty(t, a, held)
}

// wantEmpty: for lots beside those that have something, and for numbers that no lot has, nothing is held.
func wantEmpty(t *testing.T, a *account.Account, held []api.Held) {
	t.Helper()
	for _, lot := range []int{math.MinInt64, -2, -1, 0, 1, 2, 3, 4, 5, api.MaxLots, math.MaxInt64} {
		has := slices.ContainsFunc(held, func(h api.Held) bool { return h.Lot == lot })
		if got := a.At(lot); !has && got != 0 {
			t.Errorf("At(%d): %d, though nothing is held", lot, got)
		}
	}
}

// wantSame asks it both ways.
func wantSame(t *testing.T, a, b *account.Account, want bool) {
	t.Helper()
	if ab, ba := a.Same(b), b.Same(a); ab != want || ba != want {
		t.Errorf("Same: %v, and the other way %v, not %v", ab, ba, want)
	}
}

// TestExamples: the rows of the chapter's table, in their order.
func TestExamples(t *testing.T) {
	for _, budget := range []int64{-1, 1<<40 + 1} {
		if a, err := account.New(budget); a != nil || err != api.ErrArg {
			t.Errorf("New(%d): %v, %v", budget, a, err)
		}
	}
	a := newAccount(t, 10)
	wantHold(t, a, 0, 6, api.OK)
	wantHold(t, a, 1, 5, api.ErrBudget)
	wantHold(t, a, 0, 5, api.OK)
	wantHold(t, a, 1, 5, api.OK)
	wantStands(t, a, 10, 0, list(0, 5, 1, 5)...)

	wantPay(t, a, 0, 6, api.ErrBudget)
	wantPay(t, a, 0, 3, api.OK)
	if a.Free() != 2 || a.Spent() != 3 || a.At(0) != 0 || a.Held() != 5 {
		t.Errorf("free %d, spent %d, at 0 %d, held %d", a.Free(), a.Spent(), a.At(0), a.Held())
	}

	wantRelease(t, a, 1, 5, api.OK)
	wantRelease(t, a, 1, 0, api.OK)
	wantTake(t, a, 8, api.ErrBudget)
	wantTake(t, a, 7, api.OK)
	wantBring(t, a, 1<<40, api.ErrArg)

	wantStands(t, stands(t, 10, 3, list(1, 5)...), 10, 3, list(1, 5)...)
	wantRefused(t, api.ErrBudget, 10, 6, list(1, 5)...)
	wantRefused(t, api.ErrArg, 10, 0, list(1, 0)...)
	wantRefused(t, api.ErrArg, 10, 0, list(2, 1, 1, 1)...)

	var none *account.Account
	wantErr(t, "Hold of nothing", none.Hold(0, 1), api.ErrNil)
	if none.Free() != 0 || none.Can(0, 1) {
		t.Errorf("nothing: free %d, can %v", none.Free(), none.Can(0, 1))
	}
}

// TestHouseExample is the house's example 8, as far as one bids at a time: ann has 100, of which 60 are held.
func TestHouseExample(t *testing.T) {
	a := newAccount(t, 100)
	wantHold(t, a, 0, 60, api.OK)
	wantHold(t, a, 1, 41, api.ErrBudget)
	wantHold(t, a, 1, 40, api.OK)
	wantStands(t, a, 100, 0, list(0, 60, 1, 40)...)
}

// TestNew: each budget at its bounds, and past them (P19.1).
func TestNew(t *testing.T) {
	for _, budget := range []int64{0, 1, 10, most - 1, most} {
		a := newAccount(t, budget)
		wantStands(t, a, budget, 0)
		wantSame(t, a, stands(t, budget, 0), true)
		wantHold(t, a, 0, budget, api.OK)
	}
	for _, budget := range noCoins {
		if a, err := account.New(budget); a != nil || err != api.ErrArg {
			t.Errorf("New(%d): %v, %v", budget, a, err)
		}
	}
}

// TestOf: accounts that may be, up to the budget (P19.1).
func TestOf(t *testing.T) {
	for _, c := range []struct {
		budget, spent int64
		held          []api.Held
	}{
		{0, 0, nil},
		{0, 0, []api.Held{}},
		{10, 0, nil},
		{10, 10, nil},
		{10, 3, list(1, 5)},
		{10, 3, list(1, 7)},
		{10, 0, list(0, 10)},
		{10, 9, list(0, 1)},
		{10, 1, list(0, 2, 1, 3, 2, 4)},
		{10, 0, list(0, 2, 3, 3, 700, 5)},
		{10, 0, list(math.MaxInt64-1, 4, math.MaxInt64, 6)},
		{10, 0, list(api.MaxLots, 1)},
		{most, 0, list(7, most)},
		{most, most, nil},
		{most, most - 2, list(0, 1, math.MaxInt64, 1)},
		{most, 1, list(0, most-3, 9, 2)},
	} {
		wantStands(t, stands(t, c.budget, c.spent, c.held...), c.budget, c.spent, c.held...)
	}
}

// TestOfWrong: each number that may not be, at each place of the list; what is too much besides is not told (P19.1).
func TestOfWrong(t *testing.T) {
	for _, wrong := range noCoins {
		wantRefused(t, api.ErrArg, wrong, 0)
		wantRefused(t, api.ErrArg, 10, wrong)
		wantRefused(t, api.ErrArg, wrong, wrong)
		wantRefused(t, api.ErrArg, wrong, 11, list(1, 5)...)
		wantRefused(t, api.ErrArg, 10, wrong, list(1, 50)...)
	}
	for place, lot := range []int64{0, 4, 6, 9} {
		for _, wrong := range append(noCoins, 0) {
			held := slices.Insert(list(3, 1, 5, 1, 8, 1), place, list(lot, wrong)...)
			wantRefused(t, api.ErrArg, 10, 0, held...)
			wantRefused(t, api.ErrArg, 10, 8, held...)
			wantRefused(t, api.ErrArg, 0, most, held...)
		}
	}
	for _, lot := range noLots {
		wantRefused(t, api.ErrArg, 10, 0, list(int64(lot), 1)...)
		wantRefused(t, api.ErrArg, 10, 0, list(int64(lot), 1, 0, 1)...)
		wantRefused(t, api.ErrArg, 10, 0, list(0, 1, int64(lot), 1)...)
		wantRefused(t, api.ErrArg, 10, 0, list(int64(lot), 11)...)
	}
	for _, held := range [][]api.Held{
		list(0, 1, 0, 1), list(3, 1, 3, 1), list(2, 1, 1, 1), list(1, 1, 0, 1),
		list(0, 1, 1, 1, 1, 1), list(0, 1, 2, 1, 1, 1), list(1, 1, 2, 1, 1, 1),
		list(math.MaxInt64, 1, 0, 1), list(math.MaxInt64, 1, math.MaxInt64, 1),
		list(0, 10, 0, 1), list(0, 11, 0, 1), list(0, most, 1, most, 1, 1), list(0, 11, 1, 0), list(0, 11, 2, 1, 1, 1),
	} {
		wantRefused(t, api.ErrArg, 10, 0, held...)
		wantRefused(t, api.ErrArg, 10, 11, held...)
	}
}

// TestOfTooMuch: one coin above the budget, by what is spent, by what is held, by both (P19.1).
func TestOfTooMuch(t *testing.T) {
	wantRefused(t, api.ErrBudget, 0, 1)
	wantRefused(t, api.ErrBudget, 0, 0, list(0, 1)...)
	wantRefused(t, api.ErrBudget, 10, 11)
	wantRefused(t, api.ErrBudget, 10, most)
	wantRefused(t, api.ErrBudget, 10, 11, list(0, 1)...)
	wantRefused(t, api.ErrBudget, 10, 10, list(0, 1)...)
	wantRefused(t, api.ErrBudget, 10, 0, list(0, 11)...)
	wantRefused(t, api.ErrBudget, 10, 0, list(0, 5, 1, 6)...)
	wantRefused(t, api.ErrBudget, 10, 0, list(0, 10, 1, 1)...)
	wantRefused(t, api.ErrBudget, 10, 1, list(0, 2, 1, 3, 2, 5)...)
	wantRefused(t, api.ErrBudget, 10, 0, list(0, 11, 1, 1)...)
	wantRefused(t, api.ErrBudget, most, most, list(0, 1)...)
	wantRefused(t, api.ErrBudget, most, 1, list(0, most)...)
	wantRefused(t, api.ErrBudget, most, most, list(0, most, 1, most)...)
}

// TestOfLongSum: as many coins as come round to no more than a budget in 64 bits, and one coin that is none at their end.
func TestOfLongSum(t *testing.T) {
	held := make([]api.Held, 1<<23+1)
	for i := range held {
		held[i] = api.Held{Lot: i, Coins: most}
	}
	for _, length := range []int{1 << 22, 1<<23 - 1, 1 << 23, 1<<23 + 1} {
		if a, err := account.Of(most, 0, held[:length]...); a != nil || err != api.ErrBudget {
			t.Errorf("Of with %d that are held: %v, %v", length, a, err)
		}
	}
	held[len(held)-1].Coins = 0
	if a, err := account.Of(most, 0, held...); a != nil || err != api.ErrArg {
		t.Errorf("Of with a last one of no coins: %v, %v", a, err)
	}
}

// TestHandedIn: the list that is handed in is as it was, the room behind it too, and isn't kept.
func TestHandedIn(t *testing.T) {
	room := list(1, 2, 3, 4, 5, 6, 7, 8)
	before := slices.Clone(room)
	a := stands(t, 20, 0, room[:2]...)
	wantHold(t, a, 1, 9, api.OK)
	wantHold(t, a, 5, 1, api.OK)
	wantRelease(t, a, 3, 4, api.OK)
	if !slices.Equal(room, before) {
		t.Errorf("the room is %v then", room)
	}
	clear(room)
	wantStands(t, a, 20, 0, list(1, 9, 5, 1)...)
}

// TestBring: budgets up to the greatest one, and what would be above it (P19.2).
func TestBring(t *testing.T) {
	a := stands(t, 10, 3, list(2, 7)...)
	wantBring(t, a, 0, api.OK)
	wantStands(t, a, 10, 3, list(2, 7)...)
	wantBring(t, a, 5, api.OK)
	wantStands(t, a, 15, 3, list(2, 7)...)
	for _, wrong := range append(noCoins, most-14, most-1, most) {
		wantBring(t, a, wrong, api.ErrArg)
		wantStands(t, a, 15, 3, list(2, 7)...)
	}
	wantBring(t, a, most-15, api.OK)
	wantStands(t, a, most, 3, list(2, 7)...)
	wantBring(t, a, 1, api.ErrArg)
	wantBring(t, a, most, api.ErrArg)
	wantBring(t, a, 0, api.OK)
	wantStands(t, a, most, 3, list(2, 7)...)

	b := newAccount(t, 0)
	wantBring(t, b, most, api.OK)
	wantStands(t, b, most, 0)
	c := newAccount(t, 1)
	wantBring(t, c, most, api.ErrArg)
	wantStands(t, c, 1, 0)
}

// TestHold: more, less, the same and nothing, in the place of what was (P19.2).
func TestHold(t *testing.T) {
	a := stands(t, 10, 1, list(4, 3)...)
	wantHold(t, a, 2, 6, api.OK)
	wantHold(t, a, 2, 7, api.ErrBudget)
	wantHold(t, a, 3, 1, api.ErrBudget)
	wantHold(t, a, 3, 0, api.OK)
	wantStands(t, a, 10, 1, list(2, 6, 4, 3)...)
	wantHold(t, a, 2, 6, api.OK)
	wantStands(t, a, 10, 1, list(2, 6, 4, 3)...)
	wantHold(t, a, 4, 1, api.OK)
	wantStands(t, a, 10, 1, list(2, 6, 4, 1)...)
	wantHold(t, a, 4, 4, api.ErrBudget)
	wantHold(t, a, 2, 9, api.ErrBudget)
	wantHold(t, a, 0, 3, api.ErrBudget)
	wantStands(t, a, 10, 1, list(2, 6, 4, 1)...)
	wantHold(t, a, 2, 0, api.OK)
	wantStands(t, a, 10, 1, list(4, 1)...)
	wantHold(t, a, 2, 9, api.ErrBudget)
	wantHold(t, a, 2, 8, api.OK)
	wantStands(t, a, 10, 1, list(2, 8, 4, 1)...)
	wantHold(t, a, 4, 0, api.OK)
	wantHold(t, a, 2, 0, api.OK)
	wantStands(t, a, 10, 1)
}

// TestHoldBounds: the greatest lots and coins, and an account that has none.
func TestHoldBounds(t *testing.T) {
	a := newAccount(t, most)
	wantHold(t, a, math.MaxInt64, most, api.OK)
	wantStands(t, a, most, 0, list(math.MaxInt64, most)...)
	wantHold(t, a, 0, 1, api.ErrBudget)
	wantHold(t, a, 0, most, api.ErrBudget)
	wantHold(t, a, math.MaxInt64, most-1, api.OK)
	wantHold(t, a, 0, 2, api.ErrBudget)
	wantHold(t, a, 0, 1, api.OK)
	wantStands(t, a, most, 0, list(0, 1, math.MaxInt64, most-1)...)

	b := newAccount(t, 0)
	wantHold(t, b, 0, 0, api.OK)
	wantHold(t, b, 0, 1, api.ErrBudget)
	wantStands(t, b, 0, 0)
}

// TestWrongLots: what may not be is told ahead of what is too much, and changes nothing (P19.2, P19.3).
func TestWrongLots(t *testing.T) {
	held := list(0, 2, 3, 4)
	a := stands(t, 10, 3, held...)
	for _, lot := range noLots {
		for _, coins := range append(noCoins, 0, 1, 2, 11, most) {
			wantHold(t, a, lot, coins, api.ErrArg)
			wantPay(t, a, lot, coins, api.ErrArg)
		}
		wantRelease(t, a, lot, 0, api.ErrArg)
		wantStands(t, a, 10, 3, held...)
	}
	for _, coins := range noCoins {
		for _, lot := range []int{0, 1, 3, math.MaxInt64} {
			wantHold(t, a, lot, coins, api.ErrArg)
			wantPay(t, a, lot, coins, api.ErrArg)
		}
		wantTake(t, a, coins, api.ErrArg)
		wantStands(t, a, 10, 3, held...)
	}
}

// TestRelease: what was is told, once; the others stay (P19.3).
func TestRelease(t *testing.T) {
	a := stands(t, 20, 1, list(0, 2, 3, 4, math.MaxInt64, 6)...)
	wantRelease(t, a, 1, 0, api.OK)
	wantStands(t, a, 20, 1, list(0, 2, 3, 4, math.MaxInt64, 6)...)
	wantRelease(t, a, math.MaxInt64, 6, api.OK)
	wantStands(t, a, 20, 1, list(0, 2, 3, 4)...)
	wantRelease(t, a, 0, 2, api.OK)
	wantStands(t, a, 20, 1, list(3, 4)...)
	wantRelease(t, a, 0, 0, api.OK)
	wantHold(t, a, 3, 7, api.OK)
	wantRelease(t, a, 3, 7, api.OK)
	wantStands(t, a, 20, 1)
	wantRelease(t, a, 3, 0, api.OK)
	wantStands(t, a, 20, 1)
}

// TestPay: of what is held for that lot alone, all of it, some of it, nothing of it (P19.3).
func TestPay(t *testing.T) {
	a := stands(t, 20, 1, list(0, 2, 3, 4, 7, 6)...)
	wantPay(t, a, 3, 5, api.ErrBudget)
	wantPay(t, a, 0, 3, api.ErrBudget)
	wantPay(t, a, 1, 1, api.ErrBudget)
	wantPay(t, a, 1, most, api.ErrBudget)
	wantStands(t, a, 20, 1, list(0, 2, 3, 4, 7, 6)...)
	wantPay(t, a, 1, 0, api.OK)
	wantStands(t, a, 20, 1, list(0, 2, 3, 4, 7, 6)...)
	wantPay(t, a, 3, 4, api.OK)
	wantStands(t, a, 20, 5, list(0, 2, 7, 6)...)
	wantPay(t, a, 3, 1, api.ErrBudget)
	wantPay(t, a, 3, 0, api.OK)
	wantPay(t, a, 0, 0, api.OK)
	wantStands(t, a, 20, 5, list(7, 6)...)
	wantPay(t, a, 7, 1, api.OK)
	wantStands(t, a, 20, 6)
	wantPay(t, a, 7, 1, api.ErrBudget)
	wantStands(t, a, 20, 6)

	rich := stands(t, most, 0, list(math.MaxInt64, most)...)
	wantPay(t, rich, math.MaxInt64, most, api.OK)
	wantStands(t, rich, most, most)
}

// TestTake: what is free alone, to the last coin; what is held stays, that for the lot 0 too (P19.3).
func TestTake(t *testing.T) {
	a := stands(t, 20, 1, list(0, 2, 3, 4)...)
	for _, coins := range []int64{14, 15, 17, 19, 20, most} {
		wantTake(t, a, coins, api.ErrBudget)
		wantStands(t, a, 20, 1, list(0, 2, 3, 4)...)
	}
	wantTake(t, a, 0, api.OK)
	wantStands(t, a, 20, 1, list(0, 2, 3, 4)...)
	wantTake(t, a, 5, api.OK)
	wantStands(t, a, 20, 6, list(0, 2, 3, 4)...)
	wantTake(t, a, 9, api.ErrBudget)
	wantTake(t, a, 8, api.OK)
	wantStands(t, a, 20, 14, list(0, 2, 3, 4)...)
	wantTake(t, a, 1, api.ErrBudget)
	wantTake(t, a, 0, api.OK)

	rich := newAccount(t, most)
	wantTake(t, rich, most, api.OK)
	wantTake(t, rich, most, api.ErrBudget)
	wantStands(t, rich, most, most)
}

// TestNobody: methods of what is not there, or was never made.
func TestNobody(t *testing.T) {
	refused, _ := account.New(-1)
	short, _ := account.Of(1, 2)
	some := newAccount(t, 0)
	for _, a := range []*account.Account{nil, refused, short, {}, new(account.Account)} {
		for _, coins := range append(noCoins, 0, 1, most) {
			for _, lot := range append(noLots, 0, 1, math.MaxInt64) {
				wantHold(t, a, lot, coins, api.ErrNil)
				wantPay(t, a, lot, coins, api.ErrNil)
				wantRelease(t, a, lot, 0, api.ErrNil)
			}
			wantBring(t, a, coins, api.ErrNil)
			wantTake(t, a, coins, api.ErrNil)
		}
		if a.All() == nil {
			t.Error("All of nothing is not there")
		}
		wantStands(t, a, 0, 0)
		wantSame(t, a, a, false)
		wantSame(t, a, nil, false)
		wantSame(t, a, &account.Account{}, false)
		wantSame(t, a, some, false)
		if b := a.Copy(); b != nil {
			t.Errorf("Copy of nothing: %v", b)
		}
	}
}

// TestAllRises: many lots, held in another order than they are told (P19.4).
func TestAllRises(t *testing.T) {
	const many = 3000
	a := newAccount(t, most)
	for i := range many {
		lot := i * 1009 % many
		wantHold(t, a, lot*3, int64(lot)+1, api.OK)
	}
	var want []api.Held
	for lot := range many {
		want = append(want, api.Held{Lot: lot * 3, Coins: int64(lot) + 1})
	}
	for range 3 {
		wantStands(t, a, most, 0, want...)
	}
	for lot := range many {
		if lot%3 > 0 {
			wantRelease(t, a, lot*3, int64(lot)+1, api.OK)
		}
	}
	want = slices.DeleteFunc(want, func(h api.Held) bool { return h.Lot%9 > 0 })
	wantStands(t, a, most, 0, want...)
}

// TestAllLeft: going over the lots is left at each of them, and begun again (P19.4).
func TestAllLeft(t *testing.T) {
	held := list(0, 2, 3, 4, 7, 6)
	a := stands(t, 20, 0, held...)
	lots := a.All()
	for stop := range held {
		var got []api.Held
		for lot, coins := range lots {
			got = append(got, api.Held{Lot: lot, Coins: coins})
			if len(got) > stop {
				break
			}
		}
		if !slices.Equal(got, held[:stop+1]) {
			t.Errorf("left at %d: %v", stop, got)
		}
	}
	next, stop := iter.Pull2(lots)
	defer stop()
	if lot, coins, ok := next(); lot != 0 || coins != 2 || !ok {
		t.Errorf("first %d, %d, %v", lot, coins, ok)
	}
	for range lots {
		if got := all(lots); !slices.Equal(got, held) {
			t.Errorf("within: %v", got)
		}
	}
	if lot, coins, ok := next(); lot != 3 || coins != 4 || !ok {
		t.Errorf("second %d, %d, %v", lot, coins, ok)
	}
}

// TestAllAsItBegins: what is told is what stands when going over it begins, whatever is done ahead of that and within it (P19.4).
func TestAllAsItBegins(t *testing.T) {
	a := stands(t, 20, 0, list(1, 1, 3, 3, 5, 5)...)
	lots := a.All()
	wantHold(t, a, 2, 2, api.OK)
	wantRelease(t, a, 1, 1, api.OK)
	wantHold(t, a, 5, 6, api.OK)
	begun := list(2, 2, 3, 3, 5, 6)
	var got []api.Held
	for lot, coins := range lots {
		got = append(got, api.Held{Lot: lot, Coins: coins})
		wantRelease(t, a, 3, a.At(3), api.OK)
		wantHold(t, a, 4, 1, api.OK)
		wantHold(t, a, 5, 9, api.OK)
		wantHold(t, a, 0, 1, api.OK)
	}
	if !slices.Equal(got, begun) {
		t.Errorf("All: %v, not %v", got, begun)
	}
	if got, want := all(lots), list(0, 1, 2, 2, 4, 1, 5, 9); !slices.Equal(got, want) {
		t.Errorf("All again: %v, not %v", got, want)
	}
}

// TestSame: accounts that differ in one thing, and some that came there by other ways (P19.4).
func TestSame(t *testing.T) {
	a := stands(t, 20, 3, list(1, 4, 5, 6)...)
	wantSame(t, a, a, true)
	wantSame(t, a, stands(t, 20, 3, list(1, 4, 5, 6)...), true)
	for _, other := range []*account.Account{
		nil,
		stands(t, 21, 3, list(1, 4, 5, 6)...),
		stands(t, 20, 2, list(1, 4, 5, 6)...),
		stands(t, 20, 3, list(1, 5, 5, 5)...),
		stands(t, 20, 3, list(1, 4, 6, 6)...),
		stands(t, 20, 3, list(1, 4, 5, 5, 6, 1)...),
		stands(t, 20, 3, list(5, 10)...),
		stands(t, 20, 3, list(1, 4)...),
		stands(t, 20, 3, list(1, 4, 5, 6, 7, 1)...),
		stands(t, 20, 3),
		stands(t, 20, 13),
		stands(t, 21, 4, list(1, 4, 5, 6)...),
	} {
		wantSame(t, a, other, false)
	}
	b := newAccount(t, 12)
	wantHold(t, b, 5, 9, api.OK)
	wantHold(t, b, 7, 2, api.OK)
	wantHold(t, b, 9, 1, api.OK)
	wantPay(t, b, 7, 2, api.OK)
	wantHold(t, b, 9, 0, api.OK)
	wantHold(t, b, 8, 0, api.OK)
	wantRelease(t, b, 8, 0, api.OK)
	wantTake(t, b, 1, api.OK)
	wantBring(t, b, 8, api.OK)
	wantHold(t, b, 5, 6, api.OK)
	wantHold(t, b, 1, 4, api.OK)
	wantSame(t, a, b, true)
}

// TestCopy: each goes on apart from the other (P19.4).
func TestCopy(t *testing.T) {
	held := list(1, 4, 5, 6)
	a := stands(t, 20, 3, held...)
	b, c := a.Copy(), a.Copy()
	wantSame(t, a, b, true)
	wantStands(t, b, 20, 3, held...)
	wantBring(t, b, 1, api.OK)
	wantHold(t, b, 1, 2, api.OK)
	wantHold(t, b, 0, 1, api.OK)
	wantPay(t, b, 5, 5, api.OK)
	wantTake(t, b, 7, api.OK)
	wantStands(t, b, 21, 15, list(0, 1, 1, 2)...)
	wantStands(t, a, 20, 3, held...)
	wantRelease(t, a, 5, 6, api.OK)
	wantTake(t, a, 1, api.OK)
	wantStands(t, a, 20, 4, list(1, 4)...)
	wantStands(t, b, 21, 15, list(0, 1, 1, 2)...)
	wantStands(t, c, 20, 3, held...)
	wantSame(t, a, b, false)
	wantSame(t, a, c, false)
	wantStands(t, newAccount(t, 0).Copy(), 0, 0)
}
