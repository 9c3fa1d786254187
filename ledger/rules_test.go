package ledger_test

import (
	"math/big"
	"math/rand"
	"slices"
	"strconv"
	"testing"

	"gavel/api"
	"gavel/ledger"
)

// The rules of another kind: a model that has no sums, but adds all entries up anew whenever it is asked, in numbers that never run over, and finds accounts by going through them.

type model struct {
	accounts []api.Account // Has is not looked at
	postings [][]api.Entry
}

func (m model) find(name string) int {
	return slices.IndexFunc(m.accounts, func(a api.Account) bool { return a.Name == name })
}

func total(lists [][]api.Entry, mine func(who string) bool) *big.Int {
	sum := new(big.Int)
	for _, list := range lists {
		for _, e := range list {
			if mine(e.Who) {
				sum.Add(sum, big.NewInt(e.Coins))
			}
		}
	}
	return sum
}

// has is what an account has behind some postings.
func has(lists [][]api.Entry, name string) *big.Int {
	return total(lists, func(who string) bool { return who == name })
}

func isName(text string) bool { return 1 <= len(text) && len(text) <= 64 }

// open answers the model behind an opening, the number, and the error.
func (m model) open(name string, least int64) (model, int, api.Errno) {
	switch {
	case !isName(name) || least > 0 || least < -moved:
		return m, 0, api.ErrArg
	case m.find(name) >= 0:
		return m, 0, api.ErrThere
	}
	m.accounts = append(slices.Clone(m.accounts), api.Account{Name: name, Least: least})
	return m, len(m.accounts) - 1, api.OK
}

// post answers the model behind a posting, the number, and the error: each error is asked of all entries, ahead of the next one.
func (m model) post(entries []api.Entry) (model, int64, api.Errno) {
	wrong := func(e api.Entry) bool { return !isName(e.Who) || e.Coins == 0 || max(e.Coins, -e.Coins) > moved }
	absent := func(e api.Entry) bool { return m.find(e.Who) < 0 }
	switch {
	case len(entries) == 0 || len(entries) > maxEntries || slices.ContainsFunc(entries, wrong):
		return m, 0, api.ErrArg
	case total([][]api.Entry{entries}, isName).Sign() != 0:
		return m, 0, api.ErrArg
	case slices.ContainsFunc(entries, absent):
		return m, 0, api.ErrNone
	}
	then := append(slices.Clone(m.postings), slices.Clone(entries))
	for _, a := range m.accounts {
		if has(then, a.Name).Cmp(big.NewInt(a.Least)) < 0 {
			return m, 0, api.ErrLow
		}
	}
	m.postings = then
	return m, int64(len(then) - 1), api.OK
}

// back answers the same of a posting that is taken back.
func (m model) back(n int64) (model, int64, api.Errno) {
	if n < 0 || n >= int64(len(m.postings)) {
		return m, 0, api.ErrNone
	}
	turned := slices.Clone(m.postings[n])
	for i := range turned {
		turned[i].Coins *= -1
	}
	return m.post(turned)
}

// line is what Line should tell: at each posting with an entry of the account all up to there are added up.
func (m model) line(name string) [][2]int64 {
	if m.find(name) < 0 {
		return nil
	}
	var list [][2]int64
	for n, entries := range m.postings {
		if slices.ContainsFunc(entries, func(e api.Entry) bool { return e.Who == name }) {
			list = append(list, [2]int64{int64(n), has(m.postings[:n+1], name).Int64()})
		}
	}
	return list
}

// told is the accounts as they should be told.
func (m model) told() []api.Account {
	list := slices.Clone(m.accounts)
	for i := range list {
		list[i].Has = has(m.postings, list[i].Name).Int64()
	}
	return list
}

// wantModel asks how a ledger stands, and what follows: all together have 0, none less than its least (P21.7).
func wantModel(t *testing.T, l *ledger.Ledger, m model) {
	t.Helper()
	wantStands(t, l, m.told(), m.postings)
	sum := int64(0)
	for n, a := range l.Accounts() {
		sum += a.Has
		if a.Has < a.Least {
			t.Errorf("account %d: %v", n, a)
		}
		wantLine(t, l, a.Name, m.line(a.Name)...)
	}
	if sum != 0 {
		t.Errorf("all together have %d", sum)
	}
	wantLine(t, l, "nobody")
}

// entriesOf are all entries of some names with some coins.
func entriesOf(who []string, coins ...int64) []api.Entry {
	var list []api.Entry
	for _, name := range who {
		for _, c := range coins {
			list = append(list, e(name, c))
		}
	}
	return list
}

// eachList calls do with each list of up to that many of these entries.
func eachList(most int, of []api.Entry, do func(list []api.Entry)) {
	var longer func(list []api.Entry)
	longer = func(list []api.Entry) {
		do(list)
		if len(list) == most {
			return
		}
		for _, next := range of {
			longer(append(slices.Clone(list), next))
		}
	}
	longer(nil)
}

// wantPosted posts to a ledger and to its model, and answers the model behind it. Behind Post and Back all have what they had, if it can be taken back (P21.7).
func wantPosted(t *testing.T, l *ledger.Ledger, m model, list []api.Entry) model {
	t.Helper()
	next, want, wantErr := m.post(list)
	ahead := l.Copy()
	wantPost(t, l, list, want, wantErr)
	if wantErr != api.OK {
		wantSame(t, l, ahead, true)
		return m
	}
	wantSame(t, l, ahead, false)
	undone := l.Copy()
	wantBack(t, undone, want, want+1, api.OK)
	if got, want := accounts(t, undone.Accounts()), accounts(t, ahead.Accounts()); !slices.Equal(got, want) {
		t.Errorf("Post(%v) and Back: %v, not %v", list, got, want)
	}
	return next
}

// TestEverySmallPosting: all lists of up to four entries with small coins, at ledgers that stand in some ways.
func TestEverySmallPosting(t *testing.T) {
	for _, first := range [][]api.Entry{nil, move("a", "b", 1), move("a", "c", 2), {e("a", -2), e("b", 1), e("c", 1)}, move("b", "a", 1)} {
		l := opened(t, api.Account{Name: "a", Least: -2}, api.Account{Name: "b", Least: -1}, api.Account{Name: "c"})
		m := model{accounts: accounts(t, l.Accounts())}
		if first != nil {
			m = wantPosted(t, l, m, first)
		}
		eachList(4, entriesOf([]string{"a", "b", "c"}, -2, -1, 1, 2), func(list []api.Entry) {
			if b := l.Copy(); len(list) < 4 {
				wantModel(t, b, wantPosted(t, b, m, list))
				return
			}
			_, _, want := m.post(list)
			if got := l.May(list...); got != want {
				t.Errorf("%v, May(%v): %v, not %v", m.postings, list, got, want)
			}
		})
		wantModel(t, l, m)
	}
}

// TestEveryWrongPosting: the same with entries that may not be, or of accounts that are not there.
func TestEveryWrongPosting(t *testing.T) {
	l := opened(t, api.Account{Name: "a", Least: -1}, api.Account{Name: "b"})
	m := model{accounts: accounts(t, l.Accounts())}
	eachList(3, entriesOf([]string{"a", "b", "d", ""}, -2, -1, 0, 1, moved+1), func(list []api.Entry) {
		b := l.Copy()
		wantPosted(t, b, m, list)
	})
	wantModel(t, l, m)
}

// TestEverySmallWalk: all walks of a few steps: postings, and such taken back.
func TestEverySmallWalk(t *testing.T) {
	lists := [][]api.Entry{move("a", "b", 1), move("b", "a", 1), move("a", "b", 2), {e("a", 1), e("b", -2), e("a", 1)}, move("a", "a", 9)}
	var walk func(l *ledger.Ledger, m model, left int)
	walk = func(l *ledger.Ledger, m model, left int) {
		wantModel(t, l, m)
		if left == 0 {
			return
		}
		for _, list := range lists {
			b := l.Copy()
			if next := wantPosted(t, b, m, list); len(next.postings) > len(m.postings) {
				walk(b, next, left-1)
			}
		}
		for n := int64(-1); n <= int64(len(m.postings)); n++ {
			b := l.Copy()
			next, want, wantErr := m.back(n)
			wantBack(t, b, n, want, wantErr)
			wantSame(t, l, b, wantErr != api.OK)
			if wantErr == api.OK {
				walk(b, next, left-1)
			}
		}
	}
	l := opened(t, api.Account{Name: "a", Least: -2}, api.Account{Name: "b", Least: 0})
	walk(l, model{accounts: accounts(t, l.Accounts())}, 4)
}

// anyNumber draws a number below most of any size alike.
func anyNumber(r *rand.Rand, most int64) int64 {
	if r.Intn(4) == 0 {
		return most - r.Int63n(min(most, 2))
	}
	return r.Int63n(int64(1)<<r.Intn(47)+1) % (most + 1)
}

// anyList draws a posting among some names, in any order: pairs that add up to nothing, of which one may be parted in three. Now and then an entry is spoilt.
func anyList(r *rand.Rand, who []string) []api.Entry {
	pairs := 1 + r.Intn(3)
	if r.Intn(12) == 0 {
		pairs = r.Intn(maxEntries/2 + 2)
	}
	drawn := func(coins int64) api.Entry { return e(who[r.Intn(len(who))], coins) }
	var list []api.Entry
	for range pairs {
		coins := max(1, anyNumber(r, moved))
		list = append(list, drawn(coins), drawn(-coins))
	}
	if pairs > 0 && list[0].Coins > 1 && r.Intn(2) == 0 {
		list[0].Coins--
		list = append(list, drawn(1))
	}
	r.Shuffle(len(list), func(i, j int) { list[i], list[j] = list[j], list[i] })
	if len(list) > 0 && r.Intn(20) == 0 {
		list[r.Intn(len(list))].Coins = noMoves[r.Intn(len(noMoves))]
	}
	return list
}

// TestAnyWalk: ledgers that go on for long, and copies of them that go on apart, against models of them.
func TestAnyWalk(t *testing.T) {
	r := rand.New(rand.NewSource(21))
	who := []string{"house", "ann", "bob", "cid"}
	for range 30 {
		first := opened(t, api.Account{Name: "house", Least: -moved}, api.Account{Name: "ann", Least: -anyNumber(r, moved)}, api.Account{Name: "bob"})
		ledgers, models := []*ledger.Ledger{first}, []model{{accounts: accounts(t, first.Accounts())}}
		for range 120 {
			i := r.Intn(len(ledgers))
			l, m := ledgers[i], models[i]
			switch r.Intn(16) {
			case 0:
				if len(ledgers) < 3 {
					ledgers, models = append(ledgers, l.Copy()), append(models, m)
				}
			case 1, 2:
				name, least := append(who, noNames[0], "x"+strconv.Itoa(r.Intn(9)))[r.Intn(len(who)+2)], 1-anyNumber(r, moved+2)
				next, want, wantErr := m.open(name, least)
				wantOpen(t, l, name, least, want, wantErr)
				models[i] = next
			case 3, 4:
				n := r.Int63n(int64(len(m.postings))+2) - 1
				next, want, wantErr := m.back(n)
				wantBack(t, l, n, want, wantErr)
				models[i] = next
			default:
				models[i] = wantPosted(t, l, m, anyList(r, who[:3+r.Intn(8)/7]))
			}
			for j, o := range ledgers {
				wantSame(t, o, l, slices.Equal(models[j].accounts, models[i].accounts) && equal(models[j].postings, models[i].postings))
			}
		}
		for j, l := range ledgers {
			wantModel(t, l, models[j])
		}
	}
}
