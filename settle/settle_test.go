package settle_test

import (
	"maps"
	"math"
	"runtime"
	"slices"
	"strconv"
	"strings"
	"testing"
	"unsafe"

	"gavel/api"
	"gavel/ledger"
	"gavel/settle"
)

const (
	maxEntries = 128
	moved      = int64(1) << 46
)

// someKeys are texts of all kinds, rising by their bytes.
var someKeys = []string{"", "\x00", "\x00\x00", " ", "A", "a", "a\x00", "aa", "b", "lot 10", "lot 2", strings.Repeat("x", 1<<16), "~", "\x7f", "\x80", "ä", "\xff", "\xff\xff"}

func e(who string, coins int64) api.Entry { return api.Entry{Who: who, Coins: coins} }

// give is entries by which one account gives coins to another one.
func give(from, to string, coins int64) []api.Entry {
	return []api.Entry{e(from, -coins), e(to, coins)}
}

// pair is the chapter's entries of a and b.
func pair(coins int64) []api.Entry { return give("a", "b", coins) }

func deal(key string, entries ...api.Entry) api.Deal { return api.Deal{Key: key, Entries: entries} }

func first(n int64) api.Settled { return api.Settled{Number: n, First: true} }

func again(n int64) api.Settled { return api.Settled{Number: n} }

func refused(err api.Errno) api.Settled { return api.Settled{Err: err} }

// opened is a ledger with the chapter's accounts a and b, which may go down to a least.
func opened(t *testing.T, least int64) *ledger.Ledger {
	t.Helper()
	l := ledger.New()
	for _, name := range []string{"a", "b"} {
		if _, err := l.Open(name, least); err != api.OK {
			t.Fatalf("Open(%q): %v", name, err)
		}
	}
	return l
}

func newOver(t *testing.T, l *ledger.Ledger) *settle.Settler {
	t.Helper()
	s, err := settle.New(l)
	if s == nil || err != api.OK {
		t.Fatalf("New: %v, %v", s, err)
	}
	return s
}

func fromOver(t *testing.T, l *ledger.Ledger, known ...api.Posted) *settle.Settler {
	t.Helper()
	s, err := settle.From(l, known...)
	if s == nil || err != api.OK {
		t.Fatalf("From(%.300v): %v, %v", known, s, err)
	}
	return s
}

// start is a settler over the chapter's ledger, and this one.
func start(t *testing.T) (*settle.Settler, *ledger.Ledger) {
	t.Helper()
	l := opened(t, -10)
	return newOver(t, l), l
}

func wantDo(t *testing.T, s *settle.Settler, key string, entries []api.Entry, want api.Settled) {
	t.Helper()
	if got := s.Do(key, entries...); got != want {
		t.Errorf("Do(%.70q, %.300v): %v, not %v", key, entries, got, want)
	}
}

func wantDone(t *testing.T, s *settle.Settler, key string, want int64, wantThere bool) {
	t.Helper()
	if got, there := s.Done(key); got != want || there != wantThere {
		t.Errorf("Done(%.70q): %d, %v, not %d, %v", key, got, there, want, wantThere)
	}
}

func wantFirsts(t *testing.T, s *settle.Settler, want int64) {
	t.Helper()
	if got := s.Firsts(); got != want {
		t.Errorf("Firsts: %d, not %d", got, want)
	}
}

// wantKnown asks it of Known, of All, and of Done.
func wantKnown(t *testing.T, s *settle.Settler, want ...api.Posted) {
	t.Helper()
	if got := s.Known(); !slices.Equal(got, want) {
		t.Errorf("Known: %.300v, not %.300v", got, want)
	}
	if got := gone(s); !slices.Equal(got, want) {
		t.Errorf("All: %.300v, not %.300v", got, want)
	}
	for _, p := range want {
		wantDone(t, s, p.Key, p.Number, true)
	}
}

// gone is what going over all of it tells.
func gone(s *settle.Settler) []api.Posted {
	var list []api.Posted
	for key, number := range s.All() {
		list = append(list, api.Posted{Key: key, Number: number})
	}
	return list
}

// wantPosted wants a ledger's postings to be these.
func wantPosted(t *testing.T, l *ledger.Ledger, want ...[]api.Entry) {
	t.Helper()
	var got [][]api.Entry
	for _, entries := range l.All() {
		got = append(got, entries)
	}
	if !slices.EqualFunc(got, want, slices.Equal) {
		t.Errorf("the ledger has %v, not %v", got, want)
	}
}

// wantHave wants to have a that many coins, and b.
func wantHave(t *testing.T, l *ledger.Ledger, a, b int64) {
	t.Helper()
	hasA, _ := l.Has("a")
	hasB, _ := l.Has("b")
	if hasA != a || hasB != b {
		t.Errorf("a and b have %d and %d, not %d and %d", hasA, hasB, a, b)
	}
}

func wantCrew(t *testing.T, s *settle.Settler, deals [][]api.Deal, want [][]api.Settled) {
	t.Helper()
	got, err := s.Crew(deals...)
	if err != api.OK || !slices.EqualFunc(got, want, slices.Equal) {
		t.Errorf("Crew: %v, %v, not %v", got, err, want)
	}
}

func wantLot(t *testing.T, lot int, sales []api.Sale, key string, entries ...api.Entry) {
	t.Helper()
	if got := settle.Lot(lot, sales...); got.Key != key || !slices.Equal(got.Entries, entries) {
		t.Errorf("Lot(%d, %.300v): %.300v, not %q, %.300v", lot, sales, got, key, entries)
	}
}

// The rows of the chapter's table 'Examples', one behind the other.
func TestExamples(t *testing.T) {
	if s, err := settle.New(nil); s != nil || err != api.ErrNil {
		t.Errorf("New(nil): %v, %v", s, err)
	}
	s, l := start(t)
	wantDo(t, s, "k", pair(3), first(0))
	wantDo(t, s, "k", pair(3), again(0))
	wantDo(t, s, "k", pair(4), refused(api.ErrOther))

	wantDo(t, s, "m", pair(30), refused(api.ErrLow))
	wantDone(t, s, "m", 0, false)
	wantDo(t, s, "m", pair(1), first(1))

	wantKnown(t, s, api.Posted{Key: "k"}, api.Posted{Key: "m", Number: 1})
	wantFirsts(t, s, 2)

	u := fromOver(t, l, s.Known()...)
	wantDo(t, u, "k", pair(3), again(0))
	wantFirsts(t, u, 0)

	sales := []api.Sale{{Bidder: 2, Coins: 5}, {Bidder: 0, Coins: 1}, {Bidder: 2, Coins: 2}}
	wantLot(t, 4, sales, "lot 4", e("bidder-2", -7), e("house", 7), e("bidder-0", -1), e("house", 1))
}

// TestNew: to a new settler no key is known, whatever the ledger has; its postings go to just that ledger (P22.1).
func TestNew(t *testing.T) {
	s, l := start(t)
	wantKnown(t, s)
	wantFirsts(t, s, 0)
	for _, key := range someKeys {
		wantDone(t, s, key, 0, false)
	}
	if _, err := l.Post(pair(2)...); err != api.OK {
		t.Fatal(err)
	}
	u := newOver(t, l)
	wantKnown(t, u)
	wantDo(t, u, "k", pair(2), first(1))
	wantPosted(t, l, pair(2), pair(2))
	wantHave(t, l, -4, 4)
	wantFirsts(t, s, 0)
	wantDone(t, s, "k", 0, false)
}

// TestNoLedger: neither one that is not there, nor one that no call has made, whatever else is wrong (P22.1).
func TestNoLedger(t *testing.T) {
	wrong := [][]api.Posted{nil, {{Key: "a"}}, {{Key: "b"}, {Key: "a"}}, {{Key: "a", Number: -1}}}
	for _, l := range []*ledger.Ledger{nil, {}, new(ledger.Ledger)} {
		if s, err := settle.New(l); s != nil || err != api.ErrNil {
			t.Errorf("New: %v, %v", s, err)
		}
		for _, known := range wrong {
			if s, err := settle.From(l, known...); s != nil || err != api.ErrNil {
				t.Errorf("From(%v): %v, %v", known, s, err)
			}
		}
	}
}

// filled is a ledger with n postings: the number i moves i and 1 coins.
func filled(t *testing.T, n int) *ledger.Ledger {
	t.Helper()
	l := opened(t, -moved)
	for i := range n {
		if _, err := l.Post(pair(int64(i + 1))...); err != api.OK {
			t.Fatal(err)
		}
	}
	return l
}

// TestFrom: keys are settled by what the ledger has, nothing is posted for them, and none was first (P22.1).
func TestFrom(t *testing.T) {
	l := filled(t, 3)
	known := []api.Posted{{Key: "", Number: 2}, {Key: "a", Number: 0}, {Key: "b", Number: 2}}
	s := fromOver(t, l, known...)
	wantKnown(t, s, known...)
	wantFirsts(t, s, 0)
	wantDo(t, s, "", pair(3), again(2))
	wantDo(t, s, "a", pair(1), again(0))
	wantDo(t, s, "a", pair(3), refused(api.ErrOther))
	wantDo(t, s, "b", pair(3), again(2))
	wantDo(t, s, "b", nil, refused(api.ErrOther))
	wantDone(t, s, "c", 0, false)
	wantPosted(t, l, pair(1), pair(2), pair(3))
	wantDo(t, s, "c", pair(2), first(3))
	wantDo(t, s, "c", pair(2), again(3))
	wantFirsts(t, s, 1)
	wantKnown(t, s, append(slices.Clone(known), api.Posted{Key: "c", Number: 3})...)

	wantKnown(t, fromOver(t, l))
	wantKnown(t, fromOver(t, l, []api.Posted{}...))
	wantKnown(t, fromOver(t, ledger.New()))
}

func wantNoFrom(t *testing.T, l *ledger.Ledger, want api.Errno, known ...api.Posted) {
	t.Helper()
	if s, err := settle.From(l, known...); s != nil || err != want {
		t.Errorf("From(%.300v): %v, %v, not %v", known, s, err, want)
	}
}

// TestKeysRise: keys rise by their bytes, whatever they are; one that comes twice, or falls, is refused wherever it stands, also where a number is none (P22.1).
func TestKeysRise(t *testing.T) {
	l := filled(t, 1)
	var all []api.Posted
	for _, key := range someKeys {
		all = append(all, api.Posted{Key: key})
	}
	wantKnown(t, fromOver(t, l, all...), all...)
	for i := range all {
		wantKnown(t, fromOver(t, l, all[i]), all[i])
		for j := range i + 1 {
			wantNoFrom(t, l, api.ErrArg, all[i], all[j])
			none := all[i]
			none.Number = 1
			wantNoFrom(t, l, api.ErrArg, none, all[j])
			wantNoFrom(t, l, api.ErrArg, all[i], api.Posted{Key: all[j].Key, Number: -1})
		}
		if i > 0 {
			turned := slices.Clone(all)
			turned[i], turned[i-1] = turned[i-1], turned[i]
			wantNoFrom(t, l, api.ErrArg, turned...)
			wantNoFrom(t, l, api.ErrArg, slices.Insert(slices.Clone(all), i, all[i])...)
		}
	}
	wantNoFrom(t, l, api.ErrArg, api.Posted{Key: "a"}, api.Posted{Key: "c"}, api.Posted{Key: "b"})
	wantNoFrom(t, l, api.ErrArg, api.Posted{Key: "b"}, api.Posted{Key: "a"}, api.Posted{Key: "c"})
	wantNoFrom(t, ledger.New(), api.ErrArg, api.Posted{Key: "b"}, api.Posted{Key: "a"})
	wantPosted(t, l, pair(1))
}

// TestNumbersGiven: the numbers at their bounds, and past them, wherever they stand (P22.1).
func TestNumbersGiven(t *testing.T) {
	for n := range 4 {
		l := filled(t, n)
		none := []int64{math.MinInt64, math.MinInt32, -2, -1, int64(n), int64(n) + 1, 1 << 32, 1<<32 + 1, math.MaxInt64}
		for _, number := range none {
			wrong := api.Posted{Key: "k", Number: number}
			wantNoFrom(t, l, api.ErrNone, wrong)
			if n > 0 {
				wantNoFrom(t, l, api.ErrNone, api.Posted{Key: "a"}, wrong)
				wantNoFrom(t, l, api.ErrNone, wrong, api.Posted{Key: "z"})
				wantNoFrom(t, l, api.ErrNone, api.Posted{Key: "a"}, wrong, api.Posted{Key: "z"})
			}
		}
		for number := range int64(n) {
			s := fromOver(t, l, api.Posted{Key: "k", Number: number})
			wantDo(t, s, "k", pair(number+1), again(number))
		}
	}
}

// TestAlike: of a key that is settled other entries are told apart by their number, by each Who and each Coins, and by their order, ahead of anything else that is wrong with them (P22.2).
func TestAlike(t *testing.T) {
	s, l := start(t)
	list := []api.Entry{e("a", -3), e("b", 1), e("b", 2)}
	wantDo(t, s, "k", list, first(0))
	for _, other := range [][]api.Entry{
		nil, {}, list[:1], list[:2], list[1:],
		{e("a", -3), e("b", 2), e("b", 1)},
		{e("b", 1), e("a", -3), e("b", 2)},
		{e("b", 1), e("b", 2), e("a", -3)},
		{e("a", -3), e("b", 3)},
		{e("a", -3), e("b", 1), e("b", 1)},
		{e("a", -3), e("b", 1), e("a", 2)},
		{e("b", -3), e("b", 1), e("b", 2)},
		{e("A", -3), e("b", 1), e("b", 2)},
		{e("", -3), e("b", 1), e("b", 2)},
		{e("a", 3), e("b", -1), e("b", -2)},
		{e("a", -3), e("b", 1), e("b", 2), e("a", -1), e("b", 1)},
		{e("a", -3), e("b", 1), e("b", 2), {}},
		{e("a", -99), e("b", 97), e("b", 2)},
		{e("a", -3), e("c", 1), e("b", 2)},
		slices.Repeat(list, 43),
		make([]api.Entry, 3),
	} {
		wantDo(t, s, "k", other, refused(api.ErrOther))
	}
	wantDo(t, s, "k", slices.Clone(list), again(0))
	wantPosted(t, l, list)
	wantFirsts(t, s, 1)
	wantKnown(t, s, api.Posted{Key: "k"})
}

// TestAgain: a key that is settled is told its number also where its entries could not be posted any more (P22.2).
func TestAgain(t *testing.T) {
	s, l := start(t)
	wantDo(t, s, "k", pair(8), first(0))
	for range 3 {
		wantDo(t, s, "k", pair(8), again(0))
	}
	wantDo(t, s, "m", pair(8), refused(api.ErrLow))
	wantDo(t, s, "n", give("b", "a", 8), first(1))
	wantDo(t, s, "m", pair(8), first(2))
	wantDo(t, s, "k", pair(8), again(0))
	wantDo(t, s, "n", give("b", "a", 8), again(1))
	wantDo(t, s, "m", pair(8), again(2))
	wantHave(t, l, -8, 8)
	wantFirsts(t, s, 3)
}

// TestRefused: each error of ledger.Post is told, beside nothing; the key stays unknown, the ledger as it was; these entries can be tried again, other ones, too (P22.2).
func TestRefused(t *testing.T) {
	for _, x := range []struct {
		want    api.Errno
		entries []api.Entry
	}{
		{api.ErrArg, nil},
		{api.ErrArg, []api.Entry{}},
		{api.ErrArg, []api.Entry{e("a", 1)}},
		{api.ErrArg, []api.Entry{e("a", 0), e("b", 0)}},
		{api.ErrArg, give("a", "", 1)},
		{api.ErrArg, give("a", strings.Repeat("x", api.MaxName+1), 1)},
		{api.ErrArg, give("a", "b", moved+1)},
		{api.ErrArg, []api.Entry{e("a", math.MinInt64), e("b", math.MinInt64)}},
		{api.ErrArg, slices.Repeat(give("a", "b", 1), maxEntries/2+1)},
		{api.ErrNone, give("a", "c", 1)},
		{api.ErrNone, give("a", "c", 99)},
		{api.ErrLow, pair(11)},
		{api.ErrLow, pair(moved)},
	} {
		for _, key := range []string{"k", ""} {
			s, l := start(t)
			wantDo(t, s, "m", pair(1), first(0))
			for range 3 {
				wantDo(t, s, key, x.entries, refused(x.want))
				wantDone(t, s, key, 0, false)
				wantKnown(t, s, api.Posted{Key: "m"})
				wantFirsts(t, s, 1)
				wantPosted(t, l, pair(1))
			}
			wantDo(t, s, key, pair(2), first(1))
			wantDo(t, s, key, x.entries, refused(api.ErrOther))
			wantDone(t, s, key, 1, true)
			wantFirsts(t, s, 2)
		}
	}
}

// TestTriedAgain: the very entries that were refused are posted, once they can be (P22.2).
func TestTriedAgain(t *testing.T) {
	s, l := start(t)
	wantDo(t, s, "k", give("b", "a", 15), refused(api.ErrLow))
	wantDo(t, s, "m", give("c", "a", 1), refused(api.ErrNone))
	wantDo(t, s, "n", pair(5), first(0))
	wantDo(t, s, "k", give("b", "a", 15), first(1))
	if _, err := l.Open("c", -1); err != api.OK {
		t.Fatal(err)
	}
	wantDo(t, s, "m", give("c", "a", 1), first(2))
	wantKnown(t, s, api.Posted{Key: "k", Number: 1}, api.Posted{Key: "m", Number: 2}, api.Posted{Key: "n"})
}

// TestGreatestDeals: as many entries as a posting may have, and coins as great as they may be (P22.2).
func TestGreatestDeals(t *testing.T) {
	l := opened(t, -moved)
	s := newOver(t, l)
	all := slices.Repeat(pair(1), maxEntries/2)
	wantDo(t, s, "k", all, first(0))
	wantDo(t, s, "k", all, again(0))
	wantDo(t, s, "k", all[2:], refused(api.ErrOther))
	last := slices.Clone(all)
	last[maxEntries-1].Coins++
	wantDo(t, s, "k", last, refused(api.ErrOther))
	wantDo(t, s, "m", give("b", "a", moved), first(1))
	wantDo(t, s, "m", give("b", "a", moved-1), refused(api.ErrOther))
	wantDo(t, s, "m", give("b", "a", moved), again(1))
}

// TestAnyKey: any text is a key, and each a key of its own (P22.2, P22.4).
func TestAnyKey(t *testing.T) {
	l := opened(t, -moved)
	s := newOver(t, l)
	turned := slices.Clone(someKeys)
	slices.Reverse(turned)
	var want []api.Posted
	for i, key := range turned {
		wantDone(t, s, key, 0, false)
		wantDo(t, s, key, pair(int64(i+1)), first(int64(i)))
		wantDo(t, s, key, pair(int64(i+2)), refused(api.ErrOther))
		want = append(want, api.Posted{Key: key, Number: int64(i)})
	}
	slices.Reverse(want)
	wantKnown(t, s, want...)
	wantFirsts(t, s, int64(len(someKeys)))
	for i, key := range turned {
		wantDo(t, s, key, pair(int64(i+1)), again(int64(i)))
	}
	for _, key := range []string{"\x00\x00\x00", "B", "ab", "a ", "lot 1", "ÿ", "\xff\xff\xff", strings.Repeat("x", 1<<16-1)} {
		wantDone(t, s, key, 0, false)
	}
}

// TestApart: settlers know nothing of one another, also over one ledger.
func TestApart(t *testing.T) {
	l := opened(t, -10)
	one, other := newOver(t, l), newOver(t, l)
	wantDo(t, one, "k", pair(1), first(0))
	wantDone(t, other, "k", 0, false)
	wantFirsts(t, other, 0)
	wantDo(t, other, "k", pair(2), first(1))
	wantDo(t, one, "k", pair(1), again(0))
	wantDo(t, other, "k", pair(2), again(1))
}

// TestCopiedByValue: a settler that is copied by value is the same one.
func TestCopiedByValue(t *testing.T) {
	s, _ := start(t)
	c := *s
	wantDo(t, &c, "k", pair(1), first(0))
	wantDo(t, s, "k", pair(1), again(0))
	wantFirsts(t, s, 1)
	wantKnown(t, s, c.Known()...)
}

// TestCrewOfOne: a list by itself is done in its order, by Do (P22.3).
func TestCrewOfOne(t *testing.T) {
	s, l := start(t)
	list := []api.Deal{
		deal("k", pair(3)...), deal("k", pair(3)...), deal("k", pair(4)...), deal("k"),
		deal("m", pair(30)...), deal("m"), deal("m", give("a", "c", 1)...), deal("m", pair(7)...), deal("n", pair(1)...),
		deal("", give("b", "a", 1)...), deal("n", pair(1)...),
	}
	wantCrew(t, s, [][]api.Deal{list}, [][]api.Settled{{
		first(0), again(0), refused(api.ErrOther), refused(api.ErrOther),
		refused(api.ErrLow), refused(api.ErrArg), refused(api.ErrNone), first(1), refused(api.ErrLow),
		first(2), first(3),
	}})
	wantFirsts(t, s, 4)
	wantPosted(t, l, pair(3), pair(7), give("b", "a", 1), pair(1))
	wantKnown(t, s, api.Posted{Key: "", Number: 2}, api.Posted{Key: "k"}, api.Posted{Key: "m", Number: 1}, api.Posted{Key: "n", Number: 3})
}

// TestCrewLists: no list, lists without deals, as many as there may be, and one more (P22.3).
func TestCrewLists(t *testing.T) {
	s, l := start(t)
	for _, n := range []int{0, 1, 2, api.MaxCrew - 1, api.MaxCrew} {
		told, err := s.Crew(make([][]api.Deal, n)...)
		if err != api.OK || len(told) != n || len(slices.Concat(told...)) != 0 {
			t.Errorf("%d empty lists: %v, %v", n, told, err)
		}
	}
	some := []api.Deal{deal("k", pair(1)...)}
	for _, n := range []int{api.MaxCrew + 1, 2 * api.MaxCrew, 1 << 16} {
		if told, err := s.Crew(slices.Repeat([][]api.Deal{some}, n)...); told != nil || err != api.ErrArg {
			t.Errorf("%d lists: %v, %v", n, told, err)
		}
	}
	wantKnown(t, s)
	wantFirsts(t, s, 0)
	wantPosted(t, l)
	wantCrew(t, s, [][]api.Deal{nil, some, {}}, [][]api.Settled{nil, {first(0)}, nil})
}

// TestCrewInTheListsOrder: what is told stands where its deal stands (P22.3).
func TestCrewInTheListsOrder(t *testing.T) {
	l := opened(t, -moved)
	s := newOver(t, l)
	deals := make([][]api.Deal, api.MaxCrew)
	for g := range deals {
		for i := range g % 7 {
			deals[g] = append(deals[g], deal("key "+strconv.Itoa(100*g+i), pair(int64(100*g+i+1))...))
		}
	}
	told, err := s.Crew(deals...)
	if err != api.OK || len(told) != len(deals) {
		t.Fatalf("Crew: %v, %v", told, err)
	}
	for g, list := range told {
		if len(list) != len(deals[g]) {
			t.Fatalf("%d answers of %d deals", len(list), len(deals[g]))
		}
		for i, x := range list {
			posted, _ := l.Posting(x.Number)
			if x != first(x.Number) || !slices.Equal(posted, deals[g][i].Entries) {
				t.Errorf("%v is told %v, which is %v", deals[g][i], x, posted)
			}
			if i > 0 && x.Number <= list[i-1].Number {
				t.Errorf("%v: not in the list's order", list)
			}
		}
	}
}

// TestAllBegins: All tells what is settled when going over it begins, and that each time (P22.4).
func TestAllBegins(t *testing.T) {
	s, _ := start(t)
	all := s.All()
	wantDo(t, s, "m", pair(1), first(0))
	wantDo(t, s, "k", pair(1), first(1))
	list := func() []string {
		var keys []string
		for key, number := range all {
			keys = append(keys, key)
			if want, there := s.Done(key); !there || want != number {
				t.Errorf("All: %q %d, not %d", key, number, want)
			}
			// Settled while it is gone over: it is told the next time.
			for _, later := range []string{"z", "l", "a"} {
				s.Do(later, pair(1)...)
			}
		}
		return keys
	}
	if got := list(); !slices.Equal(got, []string{"k", "m"}) {
		t.Errorf("All: %q", got)
	}
	for range 2 {
		if got := list(); !slices.Equal(got, []string{"a", "k", "l", "m", "z"}) {
			t.Errorf("All: %q", got)
		}
	}
	if got := maps.Collect(all); len(got) != 5 || got["k"] != 1 || got["a"] != 4 {
		t.Errorf("All: %v", got)
	}
}

// TestAllLeft: it may be left anywhere, and gone over again, also within itself (P22.4).
func TestAllLeft(t *testing.T) {
	s, _ := start(t)
	all := s.All()
	for i, key := range []string{"d", "b", "c", "a"} {
		wantDo(t, s, key, pair(1), first(int64(i)))
	}
	for stop := range 6 {
		seen := ""
		for key := range all {
			if len(seen) == stop {
				break
			}
			seen += key
		}
		if want := "abcd"[:min(stop, 4)]; seen != want {
			t.Errorf("left behind %d: %q", stop, seen)
		}
	}
	told := 0
	all(func(string, int64) bool {
		told++
		return false
	})
	if told != 1 {
		t.Errorf("told %d behind false", told)
	}
	seen := ""
	for outer := range all {
		for inner := range all {
			seen += outer + inner
			if inner == outer {
				break
			}
		}
	}
	if seen != "aababbcacbccdadbdcdd" {
		t.Errorf("within itself: %q", seen)
	}
	wantKnown(t, s, api.Posted{Key: "a", Number: 3}, api.Posted{Key: "b", Number: 1}, api.Posted{Key: "c", Number: 2}, api.Posted{Key: "d"})
}

// TestFirsts: how many were told First, of Do and of Crew; not those that were refused, or told again (P22.4).
func TestFirsts(t *testing.T) {
	s, _ := start(t)
	for i, x := range []struct {
		key   string
		coins int64
		want  int64
	}{{"k", 1, 1}, {"k", 1, 1}, {"k", 2, 1}, {"m", 99, 1}, {"m", 0, 1}, {"m", 1, 2}, {"n", 1, 3}, {"m", 1, 3}} {
		s.Do(x.key, pair(x.coins)...)
		if got := s.Firsts(); got != x.want {
			t.Errorf("%d: Firsts %d, not %d", i, got, x.want)
		}
	}
	s.Crew([]api.Deal{deal("k", pair(1)...), deal("o", pair(1)...)}, []api.Deal{deal("o", pair(1)...), deal("p", pair(99)...), deal("q", pair(1)...)})
	wantFirsts(t, s, 5)
}

// TestLot: P22.5
func TestLot(t *testing.T) {
	sale := func(bidder int, coins int64) api.Sale { return api.Sale{Bidder: bidder, Coins: coins} }
	wantLot(t, 0, nil, "lot 0")
	wantLot(t, 7, []api.Sale{}, "lot 7")
	wantLot(t, 4095, []api.Sale{sale(4095, api.MaxCoins)}, "lot 4095", e("bidder-4095", -api.MaxCoins), e("house", api.MaxCoins))

	// The order in which they come first, whatever their numbers, and whatever comes to 0 in between.
	wantLot(t, 1, []api.Sale{sale(3, 1), sale(1, 2), sale(2, 4), sale(1, 8), sale(3, 16)}, "lot 1",
		e("bidder-3", -17), e("house", 17), e("bidder-1", -10), e("house", 10), e("bidder-2", -4), e("house", 4))
	wantLot(t, 1, []api.Sale{sale(3, 0), sale(1, 2), sale(3, 1)}, "lot 1", e("bidder-3", -1), e("house", 1), e("bidder-1", -2), e("house", 2))
	wantLot(t, 1, []api.Sale{sale(3, 5), sale(1, 2), sale(3, -5), sale(2, 1), sale(3, 6)}, "lot 1",
		e("bidder-3", -6), e("house", 6), e("bidder-1", -2), e("house", 2), e("bidder-2", -1), e("house", 1))

	// A sum of 0 has no entries: of none, of some that are 0, of some that come to it.
	wantLot(t, 2, []api.Sale{sale(5, 0)}, "lot 2")
	wantLot(t, 2, []api.Sale{sale(5, 0), sale(5, 0), sale(6, 0)}, "lot 2")
	wantLot(t, 2, []api.Sale{sale(5, 3), sale(6, 4), sale(5, -3)}, "lot 2", e("bidder-6", -4), e("house", 4))

	// Any numbers.
	wantLot(t, -1, []api.Sale{sale(-2, 3)}, "lot -1", e("bidder--2", -3), e("house", 3))
	wantLot(t, math.MinInt64, []api.Sale{sale(math.MaxInt64, -3)}, "lot -9223372036854775808", e("bidder-9223372036854775807", 3), e("house", -3))

	// Sums go round.
	wantLot(t, 3, []api.Sale{sale(0, math.MaxInt64), sale(0, 1)}, "lot 3", e("bidder-0", math.MinInt64), e("house", math.MinInt64))
	wantLot(t, 3, []api.Sale{sale(0, math.MaxInt64), sale(0, 3)}, "lot 3", e("bidder-0", math.MaxInt64-1), e("house", math.MinInt64+2))
	wantLot(t, 3, []api.Sale{sale(0, math.MinInt64), sale(1, 1), sale(0, math.MinInt64)}, "lot 3", e("bidder-1", -1), e("house", 1))
	wantLot(t, 3, []api.Sale{sale(0, math.MinInt64)}, "lot 3", e("bidder-0", math.MinInt64), e("house", math.MinInt64))
}

// TestLotLooksAtNothingElse: neither at the lot that stands in a sale, nor at what was sold when (P22.5).
func TestLotLooksAtNothingElse(t *testing.T) {
	sales := []api.Sale{
		{Number: 9, Lot: 4, Bidder: 1, Coins: 5, Goods: 3, Count: 2, Tick: 7},
		{Number: 1, Lot: 5, Bidder: 1, Coins: 6, Goods: 1, Count: 1, Tick: 1},
		{Number: -1, Lot: -6, Bidder: 0, Coins: 7, Goods: math.MaxInt16, Count: -1, Tick: math.MinInt64},
	}
	wantLot(t, 4, sales, "lot 4", e("bidder-1", -11), e("house", 11), e("bidder-0", -7), e("house", 7))
}

// TestLotIsSettled: a lot's deal can be done as it is, with as many winners as a lot may have; one without entries can't.
func TestLotIsSettled(t *testing.T) {
	l := ledger.New()
	l.Open("house", 0)
	var sales []api.Sale
	for i := range api.MaxCount {
		l.Open("bidder-"+strconv.Itoa(i), -moved)
		sales = append(sales, api.Sale{Bidder: api.MaxCount - 1 - i, Coins: api.MaxCoins})
	}
	s := newOver(t, l)
	d := settle.Lot(12, sales...)
	wantDo(t, s, d.Key, d.Entries, first(0))
	wantDo(t, s, "lot 12", settle.Lot(0, sales...).Entries, again(0))
	wantDo(t, s, d.Key, settle.Lot(12, sales[1:]...).Entries, refused(api.ErrOther))
	wantDo(t, s, "lot 13", settle.Lot(13).Entries, refused(api.ErrArg))
	if has, err := l.Has("house"); has != api.MaxCount*api.MaxCoins || err != api.OK {
		t.Errorf("the house has %d, %v", has, err)
	}
	wantKnown(t, s, api.Posted{Key: "lot 12"})
}

// TestNothing: a settler that is not there, one that no call has made, and one whose New refused (P22.2 to P22.4).
func TestNothing(t *testing.T) {
	no, _ := settle.New(nil)
	unknown, _ := settle.From(filled(t, 1), api.Posted{Number: 1})
	for _, s := range []*settle.Settler{nil, {}, new(settle.Settler), no, unknown} {
		for _, entries := range [][]api.Entry{nil, pair(1), {{}}} {
			wantDo(t, s, "k", entries, refused(api.ErrNil))
		}
		for _, n := range []int{0, 1, api.MaxCrew, api.MaxCrew + 1} {
			if told, err := s.Crew(make([][]api.Deal, n)...); told != nil || err != api.ErrNil {
				t.Errorf("Crew of %d: %v, %v", n, told, err)
			}
		}
		wantDone(t, s, "k", 0, false)
		wantDone(t, s, "", 0, false)
		wantKnown(t, s)
		wantFirsts(t, s, 0)
		if all := s.All(); all == nil {
			t.Error("All: none")
		}
		if known := s.Known(); known != nil {
			t.Errorf("Known: %v", known)
		}
	}
}

func TestErrOthersNumber(t *testing.T) {
	if api.ErrOther != 320 {
		t.Errorf("ErrOther: %d", api.ErrOther)
	}
}

// TestHandedIn: nothing that is handed in is changed, spare room behind it included.
func TestHandedIn(t *testing.T) {
	l := opened(t, -moved)
	room := []api.Entry{e("a", -1), e("b", 1), e("x", 7), e("y", 8)}
	s := newOver(t, l)
	for range 2 {
		s.Do("k", room[:2]...)
		s.Do("k", room[:1]...)
		s.Do("m", room[:1]...)
	}
	deals := []api.Deal{{Key: "k", Entries: room[:2]}, {Key: "n", Entries: room[:2]}, {Key: "spare", Entries: room[3:]}}
	lists := [][]api.Deal{deals[:2], deals[:1], nil, deals[2:]}
	s.Crew(lists[:2]...)
	known := []api.Posted{{Key: "a"}, {Key: "b", Number: 1}, {Key: "spare", Number: 9}}
	fromOver(t, l, known[:2]...)
	sales := []api.Sale{{Bidder: 1, Coins: 2}, {Bidder: 1, Coins: 3}, {Bidder: 9, Coins: 9}}
	settle.Lot(1, sales[:2]...)
	if want := []api.Entry{e("a", -1), e("b", 1), e("x", 7), e("y", 8)}; !slices.Equal(room, want) {
		t.Errorf("entries: %v", room)
	}
	if deals[0].Key != "k" || deals[1].Key != "n" || deals[2].Key != "spare" || len(deals[2].Entries) != 1 || lists[2] != nil || len(lists[3]) != 1 {
		t.Errorf("deals: %v", lists)
	}
	if want := []api.Posted{{Key: "a"}, {Key: "b", Number: 1}, {Key: "spare", Number: 9}}; !slices.Equal(known, want) {
		t.Errorf("known: %v", known)
	}
	if want := []api.Sale{{Bidder: 1, Coins: 2}, {Bidder: 1, Coins: 3}, {Bidder: 9, Coins: 9}}; !slices.Equal(sales, want) {
		t.Errorf("sales: %v", sales)
	}
}

// TestNotKept: what was handed in may be written over without a settler's knowing of it.
func TestNotKept(t *testing.T) {
	l := opened(t, -moved)
	s := newOver(t, l)
	entries := pair(1)
	s.Do("k", entries...)
	entries[0], entries[1] = e("x", 5), e("y", 6)
	wantDo(t, s, "k", pair(1), again(0))

	deals := [][]api.Deal{{deal("m", pair(2)...)}}
	s.Crew(deals...)
	deals[0][0].Entries[0] = e("x", 5)
	deals[0][0].Key = "x"
	wantDo(t, s, "m", pair(2), again(1))

	known := s.Known()
	u := fromOver(t, l, known...)
	known[0] = api.Posted{Key: "x", Number: 7}
	wantKnown(t, u, api.Posted{Key: "k"}, api.Posted{Key: "m", Number: 1})
	wantKnown(t, s, api.Posted{Key: "k"}, api.Posted{Key: "m", Number: 1})
}

// TestAnswersNew: answers may be written over, spare room included, and share nothing.
func TestAnswersNew(t *testing.T) {
	l := opened(t, -moved)
	s := newOver(t, l)
	list := []api.Deal{deal("k", pair(1)...), deal("m", pair(1)...), deal("n", pair(1)...)}
	told, _ := s.Crew(list, list, nil, list)
	for g, answers := range told {
		answers = answers[:cap(answers)]
		for i := range answers {
			answers[i].Number = int64(100 + g)
		}
	}
	for g, answers := range told {
		for _, x := range answers {
			if x.Number != int64(100+g) {
				t.Fatalf("Crew's lists share memory: %v", told)
			}
		}
	}
	one, other := s.Known(), s.Known()
	for i := range one[:cap(one)] {
		one[:cap(one)][i] = api.Posted{Key: "x", Number: 9}
	}
	want := []api.Posted{{Key: "k"}, {Key: "m", Number: 1}, {Key: "n", Number: 2}}
	if !slices.Equal(other, want) {
		t.Errorf("Known shares memory: %v", other)
	}
	wantKnown(t, s, want...)

	sales := []api.Sale{{Bidder: 1, Coins: 2}, {Bidder: 2, Coins: 3}}
	d := settle.Lot(1, sales...)
	clear(d.Entries[:cap(d.Entries)])
	wantLot(t, 1, sales, "lot 1", e("bidder-1", -2), e("house", 2), e("bidder-2", -3), e("house", 3))
}

// TestTextsNew: neither a key that is handed in, nor one that is answered, is shared.
func TestTextsNew(t *testing.T) {
	l := opened(t, -moved)
	key := strings.Repeat("k", 40)
	s := newOver(t, l)
	s.Do(key, pair(1)...)
	u := fromOver(t, l, api.Posted{Key: key})
	at := map[*byte]int{unsafe.StringData(key): 1}
	for _, x := range []*settle.Settler{s, u} {
		for range 2 {
			at[unsafe.StringData(x.Known()[0].Key)]++
			for told := range x.All() {
				at[unsafe.StringData(told)]++
			}
		}
	}
	if len(at) != 9 {
		t.Errorf("of 9 texts %d have memory of their own", len(at))
	}
}

// heap is how much memory is in use.
func heap() uint64 {
	var m runtime.MemStats
	runtime.GC()
	runtime.ReadMemStats(&m)
	return m.HeapAlloc
}

// TestNothingIsLeft: of keys whose entries are refused nothing is kept, nor of the long text out of which a key was cut.
func TestNothingIsLeft(t *testing.T) {
	s, _ := start(t)
	was := heap()
	for i := range 64 {
		s.Do(strings.Repeat(strconv.Itoa(i%10), 1<<20), pair(99)...)
		s.Do(strings.Repeat("x", 1<<20)[:1+i%10], pair(1)...)
	}
	if grown := int64(heap() - was); grown > 1<<22 {
		t.Errorf("%d bytes are kept", grown)
	}
	runtime.KeepAlive(s)
}
