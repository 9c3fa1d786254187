package account_test

import (
	"math"
	"math/rand"
	"slices"
	"testing"

	"gavel/account"
	"gavel/api"
)

// The rules of another kind: a model whose lots stand in a row as long as there are lots, and whose sums are added up anew each time.

const lots = 3

type model struct {
	budget, spent int64
	row           [lots]int64
}

func (m model) held() int64 {
	var sum int64
	for _, coins := range m.row {
		sum += coins
	}
	return sum
}

func (m model) list() []api.Held {
	var held []api.Held
	for lot, coins := range m.row {
		if coins > 0 {
			held = append(held, api.Held{Lot: lot, Coins: coins})
		}
	}
	return held
}

// step is a call that may change an account.
type step struct {
	kind  byte
	lot   int
	coins int64
}

// do answers the model behind a step, what is answered, and the error, by the chapter's words: what would come is made first, and then asked whether it may be.
func (m model) do(s step) (model, int64, api.Errno) {
	next, told := m, int64(0)
	if s.lot < 0 || s.coins < 0 || s.coins > api.MaxCoins {
		return m, 0, api.ErrArg
	}
	switch s.kind {
	case 'b':
		next.budget += s.coins
	case 'h':
		next.row[s.lot] = s.coins
	case 'r':
		told, next.row[s.lot] = m.row[s.lot], 0
	case 'p':
		if m.row[s.lot] < s.coins {
			return m, 0, api.ErrBudget
		}
		next.row[s.lot] = 0
		next.spent += s.coins
	case 't':
		next.spent += s.coins
	}
	if next.budget > api.MaxCoins {
		return m, 0, api.ErrArg
	}
	if next.held()+next.spent > next.budget {
		return m, 0, api.ErrBudget
	}
	return next, told, api.OK
}

// call does a step to an account.
func call(a *account.Account, s step) (int64, api.Errno) {
	switch s.kind {
	case 'b':
		return 0, a.Bring(s.coins)
	case 'h':
		return 0, a.Hold(s.lot, s.coins)
	case 'r':
		return a.Release(s.lot)
	case 'p':
		return 0, a.Pay(s.lot, s.coins)
	}
	return 0, a.Take(s.coins)
}

// stepsOf are all steps by some numbers of coins, for each lot and for one that is none.
func stepsOf(coins ...int64) []step {
	var steps []step
	for lot := -1; lot < lots; lot++ {
		steps = append(steps, step{'r', lot, 0})
		for _, c := range coins {
			steps = append(steps, step{'h', lot, c}, step{'p', lot, c})
		}
	}
	for _, c := range coins {
		steps = append(steps, step{'b', 0, c}, step{'t', 0, c})
	}
	return steps
}

// wantModel asks how an account stands, and what follows: held and spent are at most the budget, none below 0; the account is what Of makes of what it tells (P0.5, P19.5).
func wantModel(t *testing.T, a *account.Account, m model) {
	t.Helper()
	wantStands(t, a, m.budget, m.spent, m.list()...)
	if a.Free() < 0 || a.Held() < 0 || a.Spent() < 0 || a.Held()+a.Spent() > a.Budget() || a.Budget() > api.MaxCoins {
		t.Errorf("budget %d, held %d, spent %d, free %d", a.Budget(), a.Held(), a.Spent(), a.Free())
	}
	wantSame(t, a, stands(t, a.Budget(), a.Spent(), all(a.All())...), true)
}

// wantStep does a step to an account and to its model, and asks Can ahead of it. It answers the model behind it.
func wantStep(t *testing.T, a *account.Account, m model, s step) model {
	t.Helper()
	next, told, want := m.do(s)
	if can := a.Can(s.lot, s.coins); s.kind == 'h' && can != (want == api.OK) {
		t.Errorf("%+v: Can(%d, %d): %v", m, s.lot, s.coins, can)
	}
	free, at := a.Free(), a.At(s.lot)
	if got, err := call(a, s); got != told || err != want {
		t.Errorf("%+v, %c %d %d: %d, %v, not %d, %v", m, s.kind, s.lot, s.coins, got, err, told, want)
	}
	wantFree(t, s, want, at, a.Free()-free)
	return next
}

// wantFree: what is free falls by what a Hold holds more than was, and by a Take; it rises by Bring, Release, and by what is held and not paid; by nothing else (P19.5).
func wantFree(t *testing.T, s step, err api.Errno, at, rose int64) {
	t.Helper()
	var want int64
	switch {
	case err != api.OK:
	case s.kind == 'b':
		want = s.coins
	case s.kind == 'h' || s.kind == 'p':
		want = at - s.coins
	case s.kind == 'r':
		want = at
	case s.kind == 't':
		want = -s.coins
	}
	if rose != want {
		t.Errorf("%c %d %d with %d at the lot: free rose by %d, not %d", s.kind, s.lot, s.coins, at, rose, want)
	}
}

// TestEverySmallWalk: all walks of three steps with small numbers.
func TestEverySmallWalk(t *testing.T) {
	steps := stepsOf(-1, 0, 1, 2, 3, api.MaxCoins)
	var walk func(a *account.Account, m model, left int)
	walk = func(a *account.Account, m model, left int) {
		wantModel(t, a, m)
		if left == 0 {
			return
		}
		for _, s := range steps {
			b := a.Copy()
			next := wantStep(t, b, m, s)
			if next == m {
				wantSame(t, a, b, true)
				continue
			}
			wantSame(t, a, b, false)
			walk(b, next, left-1)
		}
	}
	for budget := range int64(5) {
		walk(newAccount(t, budget), model{budget: budget}, 3)
	}
}

// anyCoins draws coins of any size alike, the bounds and what is past them often.
func anyCoins(r *rand.Rand, near ...int64) int64 {
	switch r.Intn(6) {
	case 0:
		return r.Int63n(3) - 1
	case 1:
		return api.MaxCoins + r.Int63n(3) - 1
	case 2:
		return noCoins[r.Intn(len(noCoins))]
	case 3, 4:
		return near[r.Intn(len(near))] + r.Int63n(3) - 1
	}
	return r.Int63n(int64(2) << r.Intn(41))
}

// TestAnyWalk: accounts of any size that go on for long, and copies of them that go on apart, against models of them.
func TestAnyWalk(t *testing.T) {
	r := rand.New(rand.NewSource(19))
	for range 400 {
		budget := min(max(anyCoins(r, 50, api.MaxCoins/2), 0), api.MaxCoins)
		accounts := []*account.Account{newAccount(t, budget)}
		models := []model{{budget: budget}}
		for range 150 {
			n := r.Intn(len(accounts))
			a, m := accounts[n], models[n]
			if len(accounts) < 4 && r.Intn(20) == 0 {
				accounts, models = append(accounts, a.Copy()), append(models, m)
				continue
			}
			s := step{"bhhhhrppt"[r.Intn(9)], r.Intn(lots+1) - 1, 0}
			if s.kind == 'b' || s.kind == 't' {
				s.lot = 0
			}
			if s.kind != 'r' {
				s.coins = anyCoins(r, a.Free(), a.At(s.lot), a.Free()+a.At(s.lot), api.MaxCoins-a.Budget(), a.Free()/2)
			}
			models[n] = wantStep(t, a, m, s)
			for i, m := range models {
				wantModel(t, accounts[i], m)
			}
		}
	}
}

// TestAnyOrder: lots that are held in any order stand alike, if all go (P19.5).
func TestAnyOrder(t *testing.T) {
	r := rand.New(rand.NewSource(20))
	for range 300 {
		held := make([]api.Held, r.Intn(20))
		var sum int64
		for i := range held {
			held[i] = api.Held{Lot: r.Intn(3), Coins: 1 + r.Int63n(api.MaxCoins/40)}
			if i > 0 {
				held[i].Lot = held[i-1].Lot + 1 + r.Intn(9)
			}
			sum += held[i].Coins
		}
		want := stands(t, sum, 0, held...)
		for range 5 {
			a := newAccount(t, sum)
			for _, place := range r.Perm(len(held)) {
				wantHold(t, a, held[place].Lot, held[place].Coins, api.OK)
			}
			wantSame(t, a, want, true)
			wantStands(t, a, sum, 0, held...)
			wantHold(t, a, math.MaxInt64, 1, api.ErrBudget)
		}
	}
}

// slowOf is what Of refuses a list by, asked pair by pair, with the sum in parts that cannot run over.
func slowOf(budget, spent int64, held []api.Held) api.Errno {
	coins := func(c int64) bool { return 0 <= c && c <= api.MaxCoins }
	if !coins(budget) || !coins(spent) {
		return api.ErrArg
	}
	sum := spent
	for i, h := range held {
		behind := func(o api.Held) bool { return o.Lot <= h.Lot }
		if h.Lot < 0 || !coins(h.Coins) || h.Coins < 1 || slices.ContainsFunc(held[i+1:], behind) {
			return api.ErrArg
		}
		sum += h.Coins
	}
	if sum > budget {
		return api.ErrBudget
	}
	return api.OK
}

// TestEverySmallOf: all lists of up to three that are held, with small numbers.
func TestEverySmallOf(t *testing.T) {
	var longer func(held []api.Held)
	longer = func(held []api.Held) {
		for budget := int64(-1); budget < 6; budget++ {
			for spent := int64(-1); spent < 6; spent++ {
				want := slowOf(budget, spent, held)
				if want != api.OK {
					wantRefused(t, want, budget, spent, held...)
					continue
				}
				wantStands(t, stands(t, budget, spent, held...), budget, spent, held...)
			}
		}
		if len(held) == 3 {
			return
		}
		for lot := -1; lot < 4; lot++ {
			for coins := int64(-1); coins < 4; coins++ {
				longer(append(slices.Clone(held), api.Held{Lot: lot, Coins: coins}))
			}
		}
	}
	longer(nil)
}
