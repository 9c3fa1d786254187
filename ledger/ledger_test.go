package ledger_test

import (
	"iter"
	"math"
	"slices"
	"strconv"
	"strings"
	"testing"
	"unsafe"

	"gavel/api"
	"gavel/ledger"
)

const (
	maxAccounts = 1 << 16
	maxEntries  = 128
	moved       = int64(1) << 46
)

// noLeasts are numbers that no account's least may be.
var noLeasts = []int64{math.MinInt64, -2 * moved, -moved - 1, 1, 2, moved, math.MaxInt64}

// noMoves are numbers that no entry's coins may be.
var noMoves = []int64{math.MinInt64, math.MinInt64 + 1, -2 * moved, -moved - 1, 0, moved + 1, 2 * moved, math.MaxInt64}

// noNames are texts that are no names.
var noNames = []string{"", strings.Repeat("x", api.MaxName+1), strings.Repeat("\x00", api.MaxName*9)}

// noPlaces are numbers that neither account nor posting has where there are few of them.
var noPlaces = []int64{math.MinInt64, math.MinInt32, -2, -1, 2, 3, 1 << 16, 1 << 32, 1<<32 + 1, math.MaxInt64}

func e(who string, coins int64) api.Entry { return api.Entry{Who: who, Coins: coins} }

// move is a posting by which one account gives coins to another one.
func move(from, to string, coins int64) []api.Entry {
	return []api.Entry{e(from, -coins), e(to, coins)}
}

// many is n entries, 2 or more, that take from one account and give back to it; the last three of an odd number take twice and give back at once.
func many(n int, name string) []api.Entry {
	var list []api.Entry
	for len(list) < n-n%2*3 {
		list = append(list, e(name, -1), e(name, 1))
	}
	if n%2 == 1 {
		list = append(list, e(name, -1), e(name, -1), e(name, 2))
	}
	return list
}

// opened is a new ledger with these accounts.
func opened(t *testing.T, accounts ...api.Account) *ledger.Ledger {
	t.Helper()
	l := ledger.New()
	if l == nil {
		t.Fatal("New: none")
	}
	for i, a := range accounts {
		wantOpen(t, l, a.Name, a.Least, i, api.OK)
	}
	return l
}

// pair is a ledger with the chapter's two accounts.
func pair(t *testing.T) *ledger.Ledger {
	t.Helper()
	return opened(t, api.Account{Name: "house", Least: -1000}, api.Account{Name: "ann"})
}

// deep is a ledger with accounts that may go down as far as any may.
func deep(t *testing.T, list ...string) *ledger.Ledger {
	t.Helper()
	var accounts []api.Account
	for _, name := range list {
		accounts = append(accounts, api.Account{Name: name, Least: -moved})
	}
	return opened(t, accounts...)
}

func wantOpen(t *testing.T, l *ledger.Ledger, name string, least int64, want int, wantErr api.Errno) {
	t.Helper()
	if got, err := l.Open(name, least); got != want || err != wantErr {
		t.Errorf("Open(%.70q, %d): %d, %v, not %d, %v", name, least, got, err, want, wantErr)
	}
}

// wantPost asks May first, which must foretell Post, and change nothing that Post could tell.
func wantPost(t *testing.T, l *ledger.Ledger, entries []api.Entry, want int64, wantErr api.Errno) {
	t.Helper()
	if got := l.May(entries...); got != wantErr {
		t.Errorf("May(%.300v): %v, not %v", entries, got, wantErr)
	}
	if got, err := l.Post(entries...); got != want || err != wantErr {
		t.Errorf("Post(%.300v): %d, %v, not %d, %v", entries, got, err, want, wantErr)
	}
}

func wantBack(t *testing.T, l *ledger.Ledger, n, want int64, wantErr api.Errno) {
	t.Helper()
	if got, err := l.Back(n); got != want || err != wantErr {
		t.Errorf("Back(%d): %d, %v, not %d, %v", n, got, err, want, wantErr)
	}
}

func wantHas(t *testing.T, l *ledger.Ledger, name string, want int64, wantErr api.Errno) {
	t.Helper()
	if got, err := l.Has(name); got != want || err != wantErr {
		t.Errorf("Has(%.70q): %d, %v, not %d, %v", name, got, err, want, wantErr)
	}
}

func wantAccount(t *testing.T, l *ledger.Ledger, n int, want api.Account, wantErr api.Errno) {
	t.Helper()
	if got, err := l.Account(n); got != want || err != wantErr {
		t.Errorf("Account(%d): %v, %v, not %v, %v", n, got, err, want, wantErr)
	}
}

func wantPosting(t *testing.T, l *ledger.Ledger, n int64, want []api.Entry, wantErr api.Errno) {
	t.Helper()
	if got, err := l.Posting(n); !slices.Equal(got, want) || err != wantErr {
		t.Errorf("Posting(%d): %.300v, %v, not %.300v, %v", n, got, err, want, wantErr)
	}
}

func wantLen(t *testing.T, l *ledger.Ledger, accounts int, postings int64) {
	t.Helper()
	if a, p := l.Len(); a != accounts || p != postings {
		t.Errorf("Len: %d, %d, not %d, %d", a, p, accounts, postings)
	}
}

// wantLine wants an account's line to be pairs: a posting, and what the account has behind it.
func wantLine(t *testing.T, l *ledger.Ledger, name string, want ...[2]int64) {
	t.Helper()
	if got := line(l.Line(name)); !slices.Equal(got, want) {
		t.Errorf("Line(%.70q): %v, not %v", name, got, want)
	}
}

// wantSame asks it both ways.
func wantSame(t *testing.T, a, b *ledger.Ledger, want bool) {
	t.Helper()
	if ab, ba := a.Same(b), b.Same(a); ab != want || ba != want {
		t.Errorf("Same: %v, and the other way %v, not %v", ab, ba, want)
	}
}

// accounts is what going over the accounts tells; their numbers must be those from 0 on.
func accounts(t *testing.T, seq iter.Seq2[int, api.Account]) []api.Account {
	t.Helper()
	var list []api.Account
	for n, a := range seq {
		if n != len(list) {
			t.Errorf("Accounts: the number %d at the place %d", n, len(list))
		}
		list = append(list, a)
	}
	return list
}

// postings is what going over the postings tells; their numbers must be those from 0 on.
func postings(t *testing.T, seq iter.Seq2[int64, []api.Entry]) [][]api.Entry {
	t.Helper()
	var list [][]api.Entry
	for n, p := range seq {
		if n != int64(len(list)) {
			t.Errorf("All: the number %d at the place %d", n, len(list))
		}
		list = append(list, p)
	}
	return list
}

func line(seq iter.Seq2[int64, int64]) [][2]int64 {
	var list [][2]int64
	for n, has := range seq {
		list = append(list, [2]int64{n, has})
	}
	return list
}

func equal(a, b [][]api.Entry) bool { return slices.EqualFunc(a, b, slices.Equal) }

// wantStands asks for all that a ledger tells of its accounts and postings.
func wantStands(t *testing.T, l *ledger.Ledger, want []api.Account, posted [][]api.Entry) {
	t.Helper()
	wantLen(t, l, len(want), int64(len(posted)))
	if got := accounts(t, l.Accounts()); !slices.Equal(got, want) {
		t.Errorf("Accounts: %v, not %v", got, want)
	}
	if got := postings(t, l.All()); !equal(got, posted) {
		t.Errorf("All: %v, not %v", got, posted)
	}
	for n, a := range want {
		wantAccount(t, l, n, a, api.OK)
		wantHas(t, l, a.Name, a.Has, api.OK)
	}
	for n, p := range posted {
		wantPosting(t, l, int64(n), p, api.OK)
	}
	wantAccount(t, l, len(want), api.Account{}, api.ErrNone)
	wantPosting(t, l, int64(len(posted)), nil, api.ErrNone)
}

// TestExamples: the rows of the chapter's table, in their order.
func TestExamples(t *testing.T) {
	l := ledger.New()
	wantOpen(t, l, "house", -1000, 0, api.OK)
	wantOpen(t, l, "ann", 0, 1, api.OK)
	wantOpen(t, l, "ann", 0, 0, api.ErrThere)
	wantOpen(t, l, "x", 1, 0, api.ErrArg)
	wantOpen(t, l, "", 0, 0, api.ErrArg)

	wantPost(t, l, move("house", "ann", 50), 0, api.OK)
	wantPost(t, l, move("ann", "house", 60), 0, api.ErrLow)
	wantPost(t, l, move("ann", "bob", 1), 0, api.ErrNone)
	wantPost(t, l, []api.Entry{e("ann", 5)}, 0, api.ErrArg)
	wantPost(t, l, nil, 0, api.ErrArg)

	three := []api.Entry{e("ann", -60), e("ann", 20), e("house", 40)}
	wantPost(t, l, three, 1, api.OK)
	wantHas(t, l, "ann", 10, api.OK)
	wantHas(t, l, "house", -10, api.OK)
	wantBack(t, l, 1, 2, api.OK)
	wantHas(t, l, "ann", 50, api.OK)

	wantLine(t, l, "ann", [2]int64{0, 50}, [2]int64{1, 10}, [2]int64{2, 50})
	wantPosting(t, l, 1, three, api.OK)
	wantPosting(t, l, 9, nil, api.ErrNone)
	wantLen(t, l, 2, 3)
}

// TestNew: nothing is there at first, and each ledger is one of its own (P21.1).
func TestNew(t *testing.T) {
	l := opened(t)
	wantStands(t, l, nil, nil)
	wantPost(t, l, move("ann", "house", 1), 0, api.ErrNone)
	wantOpen(t, l, "ann", 0, 0, api.OK)
	wantStands(t, opened(t), nil, nil)
}

// TestOpen: names and leasts at their bounds, and past them (P21.1).
func TestOpen(t *testing.T) {
	l := opened(t)
	var want []api.Account
	for i, name := range []string{"a", "\x00", "\xff\xfe", "ä", " ", strings.Repeat("x", api.MaxName), strings.Repeat("\x00", 2), "A", "aa"} {
		least := []int64{0, -1, -moved, -moved + 1}[i%4]
		wantOpen(t, l, name, least, i, api.OK)
		want = append(want, api.Account{Name: name, Least: least})
		wantStands(t, l, want, nil)
	}
	for _, least := range noLeasts {
		wantOpen(t, l, "new", least, 0, api.ErrArg)
		wantOpen(t, l, "a", least, 0, api.ErrArg)
	}
	for _, name := range noNames {
		wantOpen(t, l, name, 0, 0, api.ErrArg)
		wantOpen(t, l, name, 1, 0, api.ErrArg)
	}
	for _, a := range want {
		wantOpen(t, l, a.Name, 0, 0, api.ErrThere)
		wantOpen(t, l, a.Name, a.Least, 0, api.ErrThere)
	}
	wantStands(t, l, want, nil)
	wantOpen(t, l, "new", 0, len(want), api.OK)
}

// TestFull: as many accounts as there may be, and one more; which error is told first then (P21.1).
func TestFull(t *testing.T) {
	l := opened(t)
	for i := range maxAccounts {
		wantOpen(t, l, strconv.Itoa(i), -int64(i), i, api.OK)
	}
	for range 2 {
		wantOpen(t, l, "one more", 0, 0, api.ErrLong)
		wantOpen(t, l, "one more", 1, 0, api.ErrArg)
		wantOpen(t, l, "", 0, 0, api.ErrArg)
		wantOpen(t, l, "77", 0, 0, api.ErrThere)
		wantOpen(t, l, "77", 1, 0, api.ErrArg)
	}
	wantPost(t, l, move("65535", "0", 65535), 0, api.OK)
	wantPost(t, l, move("one more", "0", 1), 0, api.ErrNone)
	wantLen(t, l, maxAccounts, 1)
	wantAccount(t, l, maxAccounts-1, api.Account{Name: "65535", Least: -65535, Has: -65535}, api.OK)
	wantAccount(t, l, maxAccounts, api.Account{}, api.ErrNone)
	c := l.Copy()
	wantSame(t, l, c, true)
	wantOpen(t, c, "one more", 0, 0, api.ErrLong)
	if got := accounts(t, l.Accounts()); len(got) != maxAccounts || got[0].Has != 65535 || got[9] != (api.Account{Name: "9", Least: -9}) {
		t.Errorf("Accounts: %d of them", len(got))
	}
}

// TestNoPosting: what may not be, whoever is there (P21.2).
func TestNoPosting(t *testing.T) {
	l := deep(t, "a", "b")
	wrong := [][]api.Entry{nil, {}, many(maxEntries+1, "a"), many(maxEntries+2, "a"), make([]api.Entry, 1<<20)}
	for _, coins := range noMoves {
		wrong = append(wrong, []api.Entry{e("a", coins)}, move("a", "b", coins), []api.Entry{e("a", 1), e("b", coins), e("a", -1)})
	}
	for _, coins := range []int64{1, -1, moved, -moved} {
		wrong = append(wrong, []api.Entry{e("a", coins)}, []api.Entry{e("a", coins), e("b", coins)}, []api.Entry{e("a", coins), e("b", -coins), e("a", 1)})
	}
	for _, name := range noNames {
		wrong = append(wrong, move("a", name, 1), move(name, "a", 1), []api.Entry{e("a", 1), e("a", -1), e(name, 1), e("b", -1)})
	}
	// Sums that would be 0, if they went round.
	huge := []api.Entry{e("a", math.MinInt64), e("b", math.MinInt64)}
	wrong = append(wrong, huge, []api.Entry{e("a", math.MaxInt64), e("b", math.MaxInt64), e("a", 2)})
	for _, list := range wrong {
		wantPost(t, l, list, 0, api.ErrArg)
	}
	wantStands(t, l, []api.Account{{Name: "a", Least: -moved}, {Name: "b", Least: -moved}}, nil)
}

// TestPostingBounds: as many entries as there may be, and coins as great as they may be (P21.2).
func TestPostingBounds(t *testing.T) {
	l := deep(t, "a", "b")
	sizes := []int{2, 3, 4, maxEntries - 1, maxEntries}
	for i, size := range sizes {
		list := many(size, "a")
		if len(list) != size {
			t.Fatalf("%d entries, not %d", len(list), size)
		}
		wantPost(t, l, list, int64(i), api.OK)
		wantPosting(t, l, int64(i), list, api.OK)
	}
	n := int64(len(sizes))
	wantPost(t, l, move("a", "b", moved), n, api.OK)
	wantPost(t, l, move("b", "a", moved), n+1, api.OK)
	wantPost(t, l, move("b", "a", moved-1), n+2, api.OK)
	wantPost(t, l, move("b", "a", 2), 0, api.ErrLow)
	wantPost(t, l, move("b", "a", 1), n+3, api.OK)
	wantHas(t, l, "b", -moved, api.OK)
	wantHas(t, l, "a", moved, api.OK)
}

// TestErrorsInOrder: of several errors the one that the chapter names first, wherever it stands among the entries (P21.2).
func TestErrorsInOrder(t *testing.T) {
	l := pair(t)
	absent, low := e("bob", 1), e("ann", -1)
	for _, wrong := range []api.Entry{e("", 1), e("bob", 0), e("ann", 0), e("ann", moved+1), e("bob", -moved-1), e(noNames[1], 1)} {
		for _, list := range [][]api.Entry{{wrong, absent, low}, {absent, wrong, low}, {absent, low, wrong}, {low, wrong}, {wrong, low}} {
			wantPost(t, l, list, 0, api.ErrArg)
		}
	}
	wantPost(t, l, []api.Entry{absent, low, e("house", 1)}, 0, api.ErrArg)
	wantPost(t, l, []api.Entry{absent}, 0, api.ErrArg)
	wantPost(t, l, []api.Entry{low}, 0, api.ErrArg)
	wantPost(t, l, many(maxEntries+1, "bob"), 0, api.ErrArg)
	wantPost(t, l, many(maxEntries+2, "bob"), 0, api.ErrArg)
	wantPost(t, l, many(maxEntries, "bob"), 0, api.ErrNone)
	wantPost(t, l, []api.Entry{low, absent}, 0, api.ErrNone)
	wantPost(t, l, []api.Entry{absent, low}, 0, api.ErrNone)
	wantPost(t, l, []api.Entry{e("house", -2000), e("ann", 1999), absent}, 0, api.ErrNone)
	wantPost(t, l, []api.Entry{e("bob", -1), absent}, 0, api.ErrNone)
	wantPost(t, l, []api.Entry{low, e("house", 1)}, 0, api.ErrLow)
	wantStands(t, l, []api.Account{{Name: "house", Least: -1000}, {Name: "ann"}}, nil)
}

// TestLeast: each account down to its least, and one below it; what counts is what it has behind all entries (P21.2).
func TestLeast(t *testing.T) {
	l := opened(t, api.Account{Name: "a", Least: -5}, api.Account{Name: "b", Least: -7}, api.Account{Name: "c"})
	wantPost(t, l, move("a", "c", 6), 0, api.ErrLow)
	wantPost(t, l, move("a", "c", 5), 0, api.OK)
	wantPost(t, l, move("a", "c", 1), 0, api.ErrLow)
	wantPost(t, l, move("c", "b", 6), 0, api.ErrLow)
	wantPost(t, l, move("c", "b", 5), 1, api.OK)
	wantPost(t, l, move("b", "a", 13), 0, api.ErrLow)
	wantPost(t, l, move("b", "a", 12), 2, api.OK)

	// a has 7, b -7, c 0: in between c would be far below 0, and b, too.
	wantPost(t, l, []api.Entry{e("c", -100), e("a", -7), e("b", -9), e("b", 16), e("c", 100)}, 3, api.OK)
	// Each single one could be done, all of them not.
	wantPost(t, l, []api.Entry{e("a", -3), e("b", 3), e("a", -3), e("b", 3)}, 0, api.ErrLow)
	wantPost(t, l, []api.Entry{e("b", 3), e("a", -3), e("a", -2), e("b", 2)}, 4, api.OK)
	// The first one is low, the last one is, one in the midst is.
	wantPost(t, l, []api.Entry{e("a", -1), e("b", 1), e("c", 1), e("c", -1)}, 0, api.ErrLow)
	wantPost(t, l, []api.Entry{e("b", 1), e("c", 1), e("c", -1), e("a", -1)}, 0, api.ErrLow)
	wantPost(t, l, []api.Entry{e("b", 1), e("a", -1), e("c", 1), e("c", -1)}, 0, api.ErrLow)
	wantStands(t, l, []api.Account{{Name: "a", Least: -5, Has: -5}, {Name: "b", Least: -7, Has: 5}, {Name: "c"}}, [][]api.Entry{
		move("a", "c", 5),
		move("c", "b", 5),
		move("b", "a", 12),
		{e("c", -100), e("a", -7), e("b", -9), e("b", 16), e("c", 100)},
		{e("b", 3), e("a", -3), e("a", -2), e("b", 2)},
	})
}

// TestGreatest: as much as one account can have, all others being as low as they may.
func TestGreatest(t *testing.T) {
	if testing.Short() {
		t.Skip()
	}
	l := opened(t)
	for i := range maxAccounts {
		wantOpen(t, l, strconv.Itoa(i), -moved, i, api.OK)
	}
	for i := 1; i < maxAccounts; i++ {
		wantPost(t, l, move(strconv.Itoa(i), "0", moved), int64(i-1), api.OK)
	}
	wantHas(t, l, "0", (maxAccounts-1)*moved, api.OK)
	list := make([]api.Entry, 0, maxEntries)
	for i := range maxEntries / 2 {
		list = append(list, e("0", moved), e(strconv.Itoa(i+1), -moved))
	}
	wantPost(t, l, list, 0, api.ErrLow)
	sum := int64(0)
	for _, a := range l.Accounts() {
		sum += a.Has
	}
	if sum != 0 {
		t.Errorf("all together have %d", sum)
	}
	if told := line(l.Line("0")); len(told) != maxAccounts-1 || told[1] != [2]int64{1, 2 * moved} || told[maxAccounts-2][1] != (maxAccounts-1)*moved {
		t.Errorf("Line: %d of them", len(told))
	}
	wantBack(t, l, maxAccounts-2, maxAccounts-1, api.OK)
	wantHas(t, l, "65535", 0, api.OK)
}

// TestNoSuch: accounts and postings that are not there (P21.3). What is no name is no account's.
func TestNoSuch(t *testing.T) {
	l := pair(t)
	wantPost(t, l, move("house", "ann", 50), 0, api.OK)
	wantPost(t, l, move("ann", "house", 20), 1, api.OK)
	for _, name := range append([]string{"bob", "an", "anna", "Ann", "ann\x00", "0", "1"}, noNames...) {
		wantHas(t, l, name, 0, api.ErrNone)
		wantLine(t, l, name)
	}
	for _, n := range noPlaces {
		wantAccount(t, l, int(n), api.Account{}, api.ErrNone)
		wantPosting(t, l, n, nil, api.ErrNone)
		wantBack(t, l, n, 0, api.ErrNone)
	}
	wantStands(t, l, []api.Account{{Name: "house", Least: -1000, Has: -30}, {Name: "ann", Has: 30}}, [][]api.Entry{
		move("house", "ann", 50), move("ann", "house", 20),
	})
}

// TestLine: postings that have several entries of an account, or such as come to nothing (P21.4).
func TestLine(t *testing.T) {
	l := deep(t, "a", "b", "c")
	lists := [][]api.Entry{
		move("a", "b", 3),
		{e("a", 9), e("b", 1), e("a", -9), e("b", -1)},
		move("c", "b", 4),
		{e("a", 2), e("c", -1), e("a", 3), e("b", -4)},
		move("a", "a", 7),
		{e("c", 1), e("b", -1)},
	}
	for i, list := range lists {
		wantPost(t, l, list, int64(i), api.OK)
	}
	wantLine(t, l, "a", [2]int64{0, -3}, [2]int64{1, -3}, [2]int64{3, 2}, [2]int64{4, 2})
	wantLine(t, l, "b", [2]int64{0, 3}, [2]int64{1, 3}, [2]int64{2, 7}, [2]int64{3, 3}, [2]int64{5, 2})
	wantLine(t, l, "c", [2]int64{2, -4}, [2]int64{3, -5}, [2]int64{5, -4})
	wantStands(t, l, []api.Account{{Name: "a", Least: -moved, Has: 2}, {Name: "b", Least: -moved, Has: 2}, {Name: "c", Least: -moved, Has: -4}}, lists)
}

// goings makes each going over a ledger that there is, told as lists.
func goings(t *testing.T, l *ledger.Ledger) []func() []any {
	a, p, x, y, z := l.Accounts(), l.All(), l.Line("house"), l.Line("ann"), l.Line("bob")
	return []func() []any{
		func() []any { return told(accounts(t, a)) },
		func() []any {
			var list []any
			for _, entries := range postings(t, p) {
				list = append(append(list, "a posting"), told(entries)...)
			}
			return list
		},
		func() []any { return told(line(x)) },
		func() []any { return told(line(y)) },
		func() []any { return told(line(z)) },
	}
}

func told[T any](list []T) []any {
	var all []any
	for _, x := range list {
		all = append(all, x)
	}
	return all
}

// TestAsWhenCalled: what is told is what stands when the call is made, whatever comes ahead of going over it, and as often as it is gone over (P21.4).
func TestAsWhenCalled(t *testing.T) {
	l := pair(t)
	empty := goings(t, l)
	wantPost(t, l, move("house", "ann", 50), 0, api.OK)
	wantPost(t, l, move("ann", "house", 20), 1, api.OK)
	begun := goings(t, l)
	var want [][]any
	for _, going := range goings(t, l.Copy()) {
		want = append(want, going())
	}
	wantOpen(t, l, "bob", -9, 2, api.OK)
	wantPost(t, l, move("bob", "ann", 9), 2, api.OK)
	wantBack(t, l, 1, 3, api.OK)
	for range 2 {
		for i, going := range begun {
			if got := going(); !slices.Equal(got, want[i]) {
				t.Errorf("going %d: %v, not %v", i, got, want[i])
			}
		}
		for i, going := range empty[1:] {
			if got := going(); len(got) != 0 {
				t.Errorf("going %d, ahead of any posting: %v", i+1, got)
			}
		}
		if got, want := empty[0](), told([]api.Account{{Name: "house", Least: -1000}, {Name: "ann"}}); !slices.Equal(got, want) {
			t.Errorf("Accounts, ahead of any posting: %v, not %v", got, want)
		}
	}
	wantLine(t, l, "bob", [2]int64{2, -9})
	wantLine(t, l, "ann", [2]int64{0, 50}, [2]int64{1, 30}, [2]int64{2, 39}, [2]int64{3, 59})
}

// TestWithin: what is done while one goes over it is not told by that going (P21.4).
func TestWithin(t *testing.T) {
	l := deep(t, "a", "b")
	wantPost(t, l, move("a", "b", 1), 0, api.OK)
	wantPost(t, l, move("a", "b", 1), 1, api.OK)
	more := func() {
		n, m := l.Len()
		wantOpen(t, l, "more"+strconv.Itoa(n), 0, n, api.OK)
		wantPost(t, l, move("a", "b", 5), m, api.OK)
	}
	var has []int64
	for _, a := range l.Accounts() {
		has = append(has, a.Has)
		more()
	}
	if !slices.Equal(has, []int64{-2, 2}) {
		t.Errorf("Accounts: %v", has)
	}
	count := 0
	for n, p := range l.All() {
		if n != int64(count) || len(p) != 2 {
			t.Errorf("All: %d %v", n, p)
		}
		count++
		more()
	}
	var last int64
	for _, last = range l.Line("b") {
		count++
		more()
	}
	if count != 4+8 || last != 2+6*5 {
		t.Errorf("All, Line: %d told, %d", count, last)
	}
}

// TestLeft: each going may be left anywhere, and two of them may go at a time (P21.4).
func TestLeft(t *testing.T) {
	l := deep(t, "a", "b", "c")
	for i := range int64(4) {
		wantPost(t, l, move("a", "b", i+1), i, api.OK)
	}
	all, of, posted := l.Accounts(), l.Line("b"), l.All()
	for leave := range 5 {
		var numbers []int64
		for n := range all {
			if numbers = append(numbers, int64(n)); n >= leave {
				break
			}
		}
		for n := range of {
			if numbers = append(numbers, n); n >= int64(leave) {
				break
			}
		}
		for n := range posted {
			if numbers = append(numbers, n); n >= int64(leave) {
				break
			}
		}
		want := []int64{0, 1, 2}[:min(leave+1, 3)]
		want = slices.Concat(want, []int64{0, 1, 2, 3}[:min(leave+1, 4)], []int64{0, 1, 2, 3}[:min(leave+1, 4)])
		if !slices.Equal(numbers, want) {
			t.Errorf("left at %d: %v, not %v", leave, numbers, want)
		}
	}
	first, stopFirst := iter.Pull2(of)
	defer stopFirst()
	first()
	second, stopSecond := iter.Pull2(of)
	defer stopSecond()
	for _, want := range [][2]int64{{0, 1}, {1, 3}, {2, 6}, {3, 10}} {
		if n, has, ok := second(); n != want[0] || has != want[1] || !ok {
			t.Errorf("second: %d, %d, %v", n, has, ok)
		}
	}
	if n, has, ok := first(); n != 1 || has != 3 || !ok {
		t.Errorf("first: %d, %d, %v", n, has, ok)
	}
}

// TestBack: a posting taken back, and that one; what can't be taken back any more (P21.5).
func TestBack(t *testing.T) {
	l := pair(t)
	three := []api.Entry{e("house", -30), e("ann", 50), e("house", -20)}
	turned := []api.Entry{e("house", 30), e("ann", -50), e("house", 20)}
	wantBack(t, l, 0, 0, api.ErrNone)
	wantPost(t, l, three, 0, api.OK)
	wantBack(t, l, 0, 1, api.OK)
	wantBack(t, l, 0, 0, api.ErrLow)
	wantBack(t, l, 1, 2, api.OK)
	wantBack(t, l, 1, 3, api.OK)
	wantBack(t, l, 4, 0, api.ErrNone)
	wantPost(t, l, move("ann", "house", 51), 4, api.OK)
	wantBack(t, l, 0, 0, api.ErrLow)
	wantBack(t, l, 2, 0, api.ErrLow)
	wantBack(t, l, 4, 5, api.OK)
	wantBack(t, l, 2, 6, api.OK)
	wantBack(t, l, 6, 7, api.OK)
	wantStands(t, l, []api.Account{{Name: "house", Least: -1000, Has: -100}, {Name: "ann", Has: 100}}, [][]api.Entry{
		three, turned, three, three, move("ann", "house", 51), {e("ann", 51), e("house", -51)}, turned, three,
	})

	d := deep(t, "a", "b")
	wantPost(t, d, move("a", "b", moved), 0, api.OK)
	wantBack(t, d, 0, 1, api.OK)
	wantBack(t, d, 1, 2, api.OK)
	wantBack(t, d, 1, 0, api.ErrLow)
	wantHas(t, d, "a", -moved, api.OK)
}

// TestCopy: each goes on apart from the others (P21.6).
func TestCopy(t *testing.T) {
	l := pair(t)
	wantPost(t, l, move("house", "ann", 50), 0, api.OK)
	stood := []api.Account{{Name: "house", Least: -1000, Has: -50}, {Name: "ann", Has: 50}}
	posted := [][]api.Entry{move("house", "ann", 50)}
	b, c := l.Copy(), l.Copy()
	wantSame(t, l, b, true)
	wantStands(t, b, stood, posted)

	wantPost(t, b, move("ann", "house", 7), 1, api.OK)
	wantOpen(t, b, "bob", -3, 2, api.OK)
	wantOpen(t, b, "ann", 0, 0, api.ErrThere)
	wantPost(t, b, move("bob", "ann", 3), 2, api.OK)
	wantStands(t, l, stood, posted)

	wantOpen(t, l, "cid", 0, 2, api.OK)
	wantPost(t, l, move("ann", "cid", 50), 1, api.OK)
	wantHas(t, l, "bob", 0, api.ErrNone)
	wantHas(t, b, "cid", 0, api.ErrNone)
	wantHas(t, b, "ann", 46, api.OK)
	wantStands(t, c, stood, posted)
	wantStands(t, b, []api.Account{{Name: "house", Least: -1000, Has: -43}, {Name: "ann", Has: 46}, {Name: "bob", Least: -3, Has: -3}}, [][]api.Entry{
		posted[0], move("ann", "house", 7), move("bob", "ann", 3),
	})
	wantSame(t, l, b, false)
	wantSame(t, l, c, false)
	wantSame(t, b, c, false)
	wantSame(t, b, b.Copy().Copy(), true)
	wantSame(t, opened(t).Copy(), opened(t), true)
}

// TestCopiesGrow: copies of one ledger don't write over each other's postings, however many there are (P21.6).
func TestCopiesGrow(t *testing.T) {
	l := deep(t, "a", "b")
	for n := range int64(40) {
		b, c := l.Copy(), l.Copy()
		wantPost(t, b, move("a", "b", 2), n, api.OK)
		wantPost(t, c, move("a", "b", 3), n, api.OK)
		wantPost(t, l, move("a", "b", 1), n, api.OK)
		wantPosting(t, b, n, move("a", "b", 2), api.OK)
		wantPosting(t, c, n, move("a", "b", 3), api.OK)
		wantPosting(t, l, n, move("a", "b", 1), api.OK)
		wantHas(t, b, "b", n+2, api.OK)
		wantHas(t, c, "b", n+3, api.OK)
		wantHas(t, l, "b", n+1, api.OK)
	}
}

// TestSame: ledgers that differ in one thing (P21.6).
func TestSame(t *testing.T) {
	house, ann, bob := api.Account{Name: "house", Least: -100}, api.Account{Name: "ann"}, api.Account{Name: "bob", Least: -1}
	with := func(accounts []api.Account, lists ...[]api.Entry) *ledger.Ledger {
		t.Helper()
		l := opened(t, accounts...)
		for i, list := range lists {
			wantPost(t, l, list, int64(i), api.OK)
		}
		return l
	}
	three := []api.Account{house, ann, bob}
	one, two := move("house", "ann", 5), []api.Entry{e("house", -4), e("ann", 3), e("bob", 1)}
	l := with(three, one, two)
	wantSame(t, l, l, true)
	wantSame(t, l, with(three, one, two), true)
	for _, other := range []*ledger.Ledger{
		nil,
		{},
		opened(t),
		with(three),
		with(three, one),
		with(three, two, one),
		with(three, one, two, one),
		with(three, slices.Concat(one, two)),
		with(three, one, []api.Entry{two[1], two[0], two[2]}),
		with(three, one, []api.Entry{two[0], two[2], two[1]}),
		with(three, one, []api.Entry{e("house", -4), e("bob", 3), e("ann", 1)}),
		with(three, one, []api.Entry{e("house", -2), e("house", -2), e("ann", 3), e("bob", 1)}),
		with(three, one, []api.Entry{e("house", -5), e("ann", 4), e("bob", 1)}),
		with([]api.Account{house, bob, ann}, one, two),
		with([]api.Account{ann, house, bob}, one, two),
		with([]api.Account{house, ann, {Name: "bob"}}, one, two),
		with([]api.Account{{Name: "house", Least: -101}, ann, bob}, one, two),
		with([]api.Account{house, ann, bob, {Name: "cid"}}, one, two),
	} {
		wantSame(t, l, other, false)
	}
	for _, accounts := range [][]api.Account{{bob, house, ann}, {house, ann, {Name: "bob", Least: -2}}, {house, ann}, {house, ann, {Name: "Bob", Least: -1}}} {
		wantSame(t, opened(t, three...), opened(t, accounts...), false)
	}
	wantSame(t, opened(t), opened(t), true)
}

// TestSameBehindRefusals: what is refused leaves nothing in which two ledgers differ (P21.6, P21.7).
func TestSameBehindRefusals(t *testing.T) {
	l, o := pair(t), pair(t)
	wantOpen(t, o, "bob", 1, 0, api.ErrArg)
	wantOpen(t, o, "ann", -5, 0, api.ErrThere)
	wantPost(t, o, move("ann", "house", 1), 0, api.ErrLow)
	wantPost(t, o, move("ann", "bob", 1), 0, api.ErrNone)
	wantPost(t, o, move("house", "", 1), 0, api.ErrArg)
	wantBack(t, o, 0, 0, api.ErrNone)
	wantSame(t, l, o, true)
	wantPost(t, l, move("house", "ann", 1), 0, api.OK)
	wantPost(t, o, move("house", "ann", 1), 0, api.OK)
	wantSame(t, l, o, true)
}

// TestNothing: a ledger that is not there, and one that no call has made (P21.1 to P21.6).
func TestNothing(t *testing.T) {
	for _, l := range []*ledger.Ledger{nil, {}} {
		wantOpen(t, l, "ann", 0, 0, api.ErrNil)
		wantOpen(t, l, "", 1, 0, api.ErrNil)
		wantPost(t, l, move("house", "ann", 1), 0, api.ErrNil)
		wantPost(t, l, nil, 0, api.ErrNil)
		wantPost(t, l, many(maxEntries+1, ""), 0, api.ErrNil)
		wantBack(t, l, 0, 0, api.ErrNil)
		wantBack(t, l, -1, 0, api.ErrNil)
		wantHas(t, l, "ann", 0, api.ErrNil)
		wantHas(t, l, "", 0, api.ErrNil)
		wantAccount(t, l, 0, api.Account{}, api.ErrNil)
		wantAccount(t, l, -1, api.Account{}, api.ErrNil)
		wantPosting(t, l, 0, nil, api.ErrNil)
		wantPosting(t, l, -1, nil, api.ErrNil)
		wantLen(t, l, 0, 0)
		if got := l.Copy(); got != nil {
			t.Errorf("Copy: %v", got)
		}
		for i, going := range goings(t, l) {
			if got := going(); got != nil {
				t.Errorf("going %d: %v", i, got)
			}
		}
		wantSame(t, l, nil, true)
		wantSame(t, l, &ledger.Ledger{}, true)
		wantSame(t, l, opened(t), false)
		wantSame(t, l, pair(t), false)
	}
}

// TestHandedIn: entries are neither changed, the room behind them included, nor kept.
func TestHandedIn(t *testing.T) {
	l := pair(t)
	room := []api.Entry{e("house", -50), e("ann", 50), e("behind", 1), e("it", 2)}
	was := slices.Clone(room)
	wantPost(t, l, room[:2], 0, api.OK)
	wantPost(t, l, room[:3], 0, api.ErrArg)
	if !slices.Equal(room, was) {
		t.Errorf("%v, not %v", room, was)
	}
	clear(room)
	wantPosting(t, l, 0, was[:2], api.OK)
	wantBack(t, l, 0, 1, api.OK)
	wantPosting(t, l, 0, was[:2], api.OK)
}

// TestNamesNotKept: names are not pieces of what was handed in.
func TestNamesNotKept(t *testing.T) {
	memory := []byte("annbob and more behind it")
	ann, bob := unsafe.String(&memory[0], 3), unsafe.String(&memory[3], 3)
	l := opened(t, api.Account{Name: ann}, api.Account{Name: bob, Least: -9})
	wantPost(t, l, move(bob, ann, 9), 0, api.OK)
	copy(memory, "xxxxxx")
	wantStands(t, l, []api.Account{{Name: "ann", Has: 9}, {Name: "bob", Least: -9, Has: -9}}, [][]api.Entry{move("bob", "ann", 9)})
}

// TestAnswersNew: what is answered may be written over, its spare room included, and changes no other answer.
func TestAnswersNew(t *testing.T) {
	l := pair(t)
	three := []api.Entry{e("house", -70), e("ann", 50), e("ann", 20)}
	wantPost(t, l, three, 0, api.OK)
	wantPost(t, l, three, 1, api.OK)
	c, all := l.Copy(), l.All()
	var lists [][]api.Entry
	for range 2 {
		for n := range int64(2) {
			a, _ := l.Posting(n)
			b, _ := c.Posting(n)
			lists = append(lists, a, b)
		}
		lists = append(lists, postings(t, all)...)
		lists = append(lists, postings(t, c.All())...)
	}
	for _, list := range lists {
		if !slices.Equal(list, three) {
			t.Fatalf("%v, not %v", list, three)
		}
		room := list[:cap(list)]
		for i := range room {
			room[i] = e("over", 1)
		}
	}
	wantPosting(t, l, 0, three, api.OK)
	wantPosting(t, c, 1, three, api.OK)
	if got := postings(t, all); !equal(got, [][]api.Entry{three, three}) {
		t.Errorf("All: %v", got)
	}
}

// TestTextsNew: no text that is answered lies where another one does.
func TestTextsNew(t *testing.T) {
	l := pair(t)
	wantPost(t, l, []api.Entry{e("house", -70), e("ann", 50), e("ann", 20)}, 0, api.OK)
	seen := map[*byte]string{} // which keeps them, so that no memory is taken again
	fresh := func(text string) {
		t.Helper()
		p := unsafe.StringData(text)
		if _, there := seen[p]; there {
			t.Errorf("%q is told twice in the same memory", text)
		}
		seen[p] = text
	}
	all, posted := l.Accounts(), l.All()
	for range 2 {
		for _, a := range all {
			fresh(a.Name)
		}
		for _, list := range posted {
			for _, entry := range list {
				fresh(entry.Who)
			}
		}
		list, _ := l.Posting(0)
		for _, entry := range list {
			fresh(entry.Who)
		}
		a, _ := l.Account(1)
		fresh(a.Name)
	}
}
