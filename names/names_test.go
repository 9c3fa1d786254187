package names_test

import (
	"bytes"
	"math"
	"math/rand"
	"slices"
	"strconv"
	"strings"
	"testing"
	"unsafe"

	"gavel/api"
	"gavel/names"
)

const maxMost = 1 << 20

// table is a new table with that bound and those names.
func table(t *testing.T, most int, list ...string) *names.Names {
	t.Helper()
	c, err := names.New(most)
	if c == nil || err != api.OK {
		t.Fatalf("New(%d): %v", most, err)
	}
	for i, name := range list {
		wantAdd(t, c, name, i, api.OK)
	}
	return c
}

func wantAdd(t *testing.T, c *names.Names, name string, want int, wantErr api.Errno) {
	t.Helper()
	if got, err := c.Add(name); got != want || err != wantErr {
		t.Errorf("Add(%.70q): %d, %v, not %d, %v", name, got, err, want, wantErr)
	}
}

func wantFind(t *testing.T, c *names.Names, name string, want int) {
	t.Helper()
	if got, ok := c.Find(name); got != want || !ok {
		t.Errorf("Find(%.70q): %d, %v, not %d", name, got, ok, want)
	}
}

func wantNotFound(t *testing.T, c *names.Names, name string) {
	t.Helper()
	if got, ok := c.Find(name); got != 0 || ok {
		t.Errorf("Find(%.70q): %d, %v, not 0, false", name, got, ok)
	}
}

func wantName(t *testing.T, c *names.Names, n int, want string) {
	t.Helper()
	if got, ok := c.Name(n); got != want || !ok {
		t.Errorf("Name(%d): %q, %v, not %q", n, got, ok, want)
	}
}

// wantNoNumber asks for all that is told of a number that is not there.
func wantNoNumber(t *testing.T, c *names.Names, n int) {
	t.Helper()
	if got, ok := c.Name(n); got != "" || ok {
		t.Errorf("Name(%d): %q, %v, not none, false", n, got, ok)
	}
	if got, ok := c.Short(n); got != 0 || ok {
		t.Errorf("Short(%d): %d, %v, not 0, false", n, got, ok)
	}
}

func wantShort(t *testing.T, c *names.Names, n, want int) {
	t.Helper()
	if got, ok := c.Short(n); got != want || !ok {
		t.Errorf("Short(%d): %d, %v, not %d", n, got, ok, want)
	}
}

func wantList(t *testing.T, what string, got []int, want ...int) {
	t.Helper()
	if !slices.Equal(got, want) {
		t.Errorf("%s: %v, not %v", what, got, want)
	}
}

// wantAll wants just these names to be told, from 0 on, by all that tells them.
func wantAll(t *testing.T, c *names.Names, want ...string) {
	t.Helper()
	if got := told(t, c.All()); !slices.Equal(got, want) {
		t.Errorf("All: %q, not %q", got, want)
	}
	if c.Len() != len(want) {
		t.Errorf("Len: %d, not %d", c.Len(), len(want))
	}
	for n, name := range want {
		wantFind(t, c, name, n)
		wantName(t, c, n, name)
	}
	wantNoNumber(t, c, len(want))
}

// told are the names that All goes over; their numbers must be those from 0 on.
func told(t *testing.T, all func(func(int, string) bool)) []string {
	t.Helper()
	var list []string
	for n, name := range all {
		if n != len(list) {
			t.Errorf("All: the number %d at the place %d", n, len(list))
		}
		list = append(list, name)
	}
	return list
}

func wantSame(t *testing.T, a, b *names.Names, want bool) {
	t.Helper()
	if a.Same(b) != want || b.Same(a) != want {
		t.Errorf("Same: %v, and the other way round %v, not %v", a.Same(b), b.Same(a), want)
	}
}

// noNames are texts that are no names.
func noNames() []string {
	return []string{"", strings.Repeat("x", api.MaxName+1), strings.Repeat("\x00", api.MaxName+1), strings.Repeat("é", 33), strings.Repeat("x", 1<<20)}
}

// oddNames are names at the bounds, and of odd bytes.
func oddNames() []string {
	list := []string{strings.Repeat("x", api.MaxName), strings.Repeat("x", api.MaxName-1), strings.Repeat("\xff", api.MaxName), strings.Repeat("é", 32), "\x00\x00", " ", "  ", "é", "\xc3", "\xff\xfe", "a b", "\"\\", "Ann", "ann", "ANN"}
	for b := range 256 {
		if one := string([]byte{byte(b)}); !slices.Contains(list, one) {
			list = append(list, one)
		}
	}
	return list
}

func TestExamples(t *testing.T) {
	c := table(t, 3)
	wantAdd(t, c, "bob", 0, api.OK)
	wantAdd(t, c, "ann", 1, api.OK)
	wantAdd(t, c, "bob", 0, api.ErrThere)
	wantAdd(t, c, "", 0, api.ErrArg)
	wantAdd(t, c, "bo", 2, api.OK)
	wantAdd(t, c, "x", 0, api.ErrLong)

	wantList(t, "Sorted", c.Sorted(), 1, 2, 0)
	wantList(t, "Begins(bo)", c.Begins("bo"), 2, 0)
	wantList(t, "Begins(z)", c.Begins("z"))
	wantShort(t, c, 0, 3)
	wantShort(t, c, 1, 1)
	wantShort(t, c, 2, 2)
	wantNoNumber(t, c, 3)

	wantFind(t, c, "ann", 1)
	wantNotFound(t, c, "zoe")
	wantName(t, c, 2, "bo")
	wantNoNumber(t, c, -1)

	text, spelling := string([]byte{'a', 34, 10, 200}), `"a\x22\x0a\xc8"`
	if got := names.Spell(text); got != spelling {
		t.Errorf("Spell(%q): %s", text, got)
	}
	wantUnspell(t, spelling, text)
	wantNoSpelling(t, `"\x61"`)
	wantNoSpelling(t, "a")

	wantNoTable(t, -1)
	wantNoTable(t, 1<<20+1)
	wantAdd(t, table(t, 0), "a", 0, api.ErrLong)
}

func wantNoTable(t *testing.T, most int) {
	t.Helper()
	if c, err := names.New(most); c != nil || err != api.ErrArg {
		t.Errorf("New(%d): %v, %v, not nil, %v", most, c, err, api.ErrArg)
	}
}

// P6.1: what is a name.
func TestCheck(t *testing.T) {
	for _, name := range oddNames() {
		if err := names.Check(name); err != api.OK {
			t.Errorf("Check(%q): %v", name, err)
		}
	}
	for _, name := range noNames() {
		if err := names.Check(name); err != api.ErrArg {
			t.Errorf("Check(%.70q): %v", name, err)
		}
	}
	for n := range 2 * api.MaxName {
		want := api.OK
		if n == 0 || n > api.MaxName {
			want = api.ErrArg
		}
		if err := names.Check(strings.Repeat("n", n)); err != want {
			t.Errorf("Check of %d bytes: %v, not %v", n, err, want)
		}
	}
}

// P6.1: bounds that may be, and that may not.
func TestNew(t *testing.T) {
	for _, most := range []int{0, 1, 2, 4096, maxMost - 1, maxMost} {
		wantAll(t, table(t, most))
	}
	for _, most := range []int{-1, -2, -maxMost, math.MinInt, math.MinInt + 1, maxMost + 1, 2 * maxMost, math.MaxInt - 1, math.MaxInt} {
		wantNoTable(t, most)
	}
}

// P6.1: of several errors the first one; P6.7: of a refused Add nothing is left.
func TestAddRefused(t *testing.T) {
	c := table(t, 3, "bob", "ann")
	for _, name := range noNames() {
		wantAdd(t, c, name, 0, api.ErrArg)
		wantNotFound(t, c, name)
	}
	wantAdd(t, c, "ann", 0, api.ErrThere)
	wantAll(t, c, "bob", "ann")

	wantAdd(t, c, "cid", 2, api.OK)
	for _, name := range noNames() {
		wantAdd(t, c, name, 0, api.ErrArg)
	}
	wantAdd(t, c, "bob", 0, api.ErrThere)
	wantAdd(t, c, "cid", 0, api.ErrThere)
	wantAdd(t, c, "dan", 0, api.ErrLong)
	wantAdd(t, c, "dan", 0, api.ErrLong)
	wantNotFound(t, c, "dan")
	wantAll(t, c, "bob", "ann", "cid")
	wantList(t, "Sorted", c.Sorted(), 1, 0, 2)

	var none *names.Names
	for _, name := range append(noNames(), "a") {
		wantAdd(t, none, name, 0, api.ErrNil)
		wantAdd(t, new(names.Names), name, 0, api.ErrNil)
	}

	empty := table(t, 0)
	wantAdd(t, empty, "", 0, api.ErrArg)
	wantAdd(t, empty, "a", 0, api.ErrLong)
	wantAll(t, empty)
}

// P6.1: each bound is reached, and not passed.
func TestBound(t *testing.T) {
	for most := range 20 {
		c := table(t, most)
		for n := range most {
			wantAdd(t, c, strconv.Itoa(n), n, api.OK)
		}
		wantAdd(t, c, "one more", 0, api.ErrLong)
		if c.Len() != most {
			t.Errorf("Len: %d, not %d", c.Len(), most)
		}
	}
}

// P6.1: the greatest bound.
func TestGreatestBound(t *testing.T) {
	c := table(t, maxMost)
	for n := range maxMost {
		if got, err := c.Add(strconv.Itoa(n)); got != n || err != api.OK {
			t.Fatalf("Add(%d): %d, %v", n, got, err)
		}
	}
	wantAdd(t, c, "one more", 0, api.ErrLong)
	wantAdd(t, c, "1048575", 0, api.ErrThere)
	wantFind(t, c, "1048575", maxMost-1)
	wantName(t, c, maxMost-1, "1048575")
	wantNoNumber(t, c, maxMost)
	wantShort(t, c, maxMost-1, 7)
	wantShort(t, c, 1, 1)
	wantList(t, "Begins(104857)", c.Begins("104857"), 104857, 1048570, 1048571, 1048572, 1048573, 1048574, 1048575)
	sorted := c.Sorted()
	if len(sorted) != maxMost || !slices.IsSortedFunc(sorted, func(a, b int) int { return strings.Compare(strconv.Itoa(a), strconv.Itoa(b)) }) {
		t.Errorf("Sorted: %d numbers, or in another order", len(sorted))
	}
	d := c.Copy()
	wantSame(t, c, d, true)
	wantAdd(t, d, "one more", 0, api.ErrLong)
}

// P6.2: found by name and by number, or not.
func TestFindAndName(t *testing.T) {
	list := oddNames()
	c := table(t, len(list), list...)
	wantAll(t, c, list...)
	for _, name := range append(noNames(), "an", "anna", "aNN", "\x00\x00\x00", strings.Repeat("x", api.MaxName-2)) {
		wantNotFound(t, c, name)
	}
	for _, n := range []int{-1, -2, math.MinInt, math.MinInt + 1, len(list), len(list) + 1, maxMost, math.MaxInt} {
		wantNoNumber(t, c, n)
	}
	wantNotFound(t, table(t, 3), "a")
	wantNoNumber(t, table(t, 3), 0)
}

// P6.3: All goes over what was there when it was called.
func TestAllAsThen(t *testing.T) {
	c := table(t, 100, "bob", "ann")
	elder := c.All()
	for i := range 90 {
		wantAdd(t, c, strconv.Itoa(i), 2+i, api.OK)
	}
	for range 3 {
		if got := told(t, elder); !slices.Equal(got, []string{"bob", "ann"}) {
			t.Errorf("All of then: %q", got)
		}
	}
	if got := told(t, c.All()); len(got) != 92 {
		t.Errorf("All of now: %q", got)
	}

	empty := table(t, 1)
	nothing := empty.All()
	wantAdd(t, empty, "a", 0, api.OK)
	if got := told(t, nothing); got != nil {
		t.Errorf("All of an empty one: %q", got)
	}
}

// P6.3: names that come while All is gone through are not told.
func TestAddWithinAll(t *testing.T) {
	c := table(t, 100, "a", "b", "c")
	for n, name := range c.All() {
		wantAdd(t, c, name+name, 3+n, api.OK)
		wantFind(t, c, name, n)
	}
	wantAll(t, c, "a", "b", "c", "aa", "bb", "cc")
}

// P6.3: All may be left at any time, gone through again, and within itself.
func TestAllLeft(t *testing.T) {
	list := []string{"d", "a", "c", "b"}
	c := table(t, 9, list...)
	all := c.All()
	for leave := range list {
		var got []string
		for n, name := range all {
			got = append(got, name)
			if n == leave {
				break
			}
		}
		if !slices.Equal(got, list[:leave+1]) {
			t.Errorf("All, left at %d: %q", leave, got)
		}
	}
	var got []string
	for _, a := range all {
		for _, b := range all {
			got = append(got, a+b)
		}
	}
	if len(got) != 16 || got[0] != "dd" || got[15] != "bb" || got[6] != "ac" {
		t.Errorf("All within All: %q", got)
	}
}

// P6.3: the order is by bytes.
func TestSorted(t *testing.T) {
	c := table(t, 20, "b", "a", "ab", "a\x00", "\xff", "B", "é", "z", "aa", "\x00", "10", "9")
	wantList(t, "Sorted", c.Sorted(), 9, 10, 11, 5, 1, 3, 8, 2, 0, 7, 6, 4)
	wantList(t, "Sorted of none", table(t, 5).Sorted())

	list := oddNames()
	odd := table(t, len(list), list...)
	sorted := odd.Sorted()
	for i, n := range sorted[1:] {
		if bytes.Compare([]byte(list[sorted[i]]), []byte(list[n])) >= 0 {
			t.Errorf("Sorted: %q ahead of %q", list[sorted[i]], list[n])
		}
	}
	if len(sorted) != len(list) {
		t.Errorf("Sorted: %d numbers of %d", len(sorted), len(list))
	}
}

// P6.3: who begins with a text, at its bounds.
func TestBegins(t *testing.T) {
	long := strings.Repeat("x", api.MaxName)
	c := table(t, 20, "bob", "ann", "bo", "boby", "b", long, "\xc3\xa9", "Bob")
	wantList(t, "Begins of no bytes", c.Begins(""), 7, 1, 4, 2, 0, 3, 5, 6)
	wantList(t, "Begins(b)", c.Begins("b"), 4, 2, 0, 3)
	wantList(t, "Begins(bob)", c.Begins("bob"), 0, 3)
	wantList(t, "Begins(boby)", c.Begins("boby"), 3)
	wantList(t, "Begins(bobys)", c.Begins("bobys"))
	wantList(t, "Begins(ob)", c.Begins("ob"))
	wantList(t, "Begins of a piece of a letter", c.Begins("\xc3"), 6)
	wantList(t, "Begins of 64 bytes", c.Begins(long), 5)
	wantList(t, "Begins of 65 bytes", c.Begins(long+"x"))
	wantList(t, "Begins of very many bytes", c.Begins(strings.Repeat(long, 1000)))
	wantList(t, "Begins in an empty one", table(t, 5).Begins(""))
}

// P6.3: how much of a name is enough.
func TestShort(t *testing.T) {
	long := strings.Repeat("x", api.MaxName)
	for _, x := range []struct {
		list []string
		want []int
	}{
		{[]string{"a"}, []int{1}},
		{[]string{"alone"}, []int{1}},
		{[]string{long}, []int{1}},
		{[]string{"a", "b"}, []int{1, 1}},
		{[]string{"a", "ab"}, []int{1, 2}},
		{[]string{"ab", "a"}, []int{2, 1}},
		{[]string{"abc", "abd"}, []int{3, 3}},
		{[]string{"abc", "abd", "x"}, []int{3, 3, 1}},
		{[]string{"abcde", "ab", "abcxx", "a"}, []int{4, 2, 4, 1}},
		{[]string{"abcxx", "a", "abcde", "ab"}, []int{4, 1, 4, 2}},
		{[]string{"ab", "abc", "abcd", "zz"}, []int{2, 3, 4, 1}},
		{[]string{"abcd", "xabcd", "bcd"}, []int{1, 1, 1}},
		{[]string{"é", "è"}, []int{2, 2}},
		{[]string{"a\x00", "a", "a\x00\x00"}, []int{2, 1, 3}},
		{[]string{long, long[1:]}, []int{64, 63}},
		{[]string{long, long[1:] + "y"}, []int{64, 64}},
		{[]string{long[1:] + "y", "x", long}, []int{64, 1, 64}},
	} {
		c := table(t, len(x.list), x.list...)
		for n, want := range x.want {
			if got, ok := c.Short(n); got != want || !ok {
				t.Errorf("Short(%d) in %q: %d, %v, not %d", n, x.list, got, ok, want)
			}
		}
	}
}

// P6.3: what is enough grows as names come.
func TestShortGrows(t *testing.T) {
	c := table(t, 9, "abcd")
	for i, x := range []struct {
		name string
		want int
	}{{"zz", 1}, {"ax", 2}, {"b", 2}, {"abcx", 4}, {"a", 4}, {"abcde", 4}, {"abcd!", 4}} {
		wantAdd(t, c, x.name, i+1, api.OK)
		wantShort(t, c, 0, x.want)
	}
}

// P6.4: a copy has the names and the bound, and goes on apart.
func TestCopy(t *testing.T) {
	c := table(t, 4, "bob", "ann")
	d := c.Copy()
	wantAll(t, d, "bob", "ann")
	wantSame(t, c, d, true)

	wantAdd(t, c, "cid", 2, api.OK)
	wantAll(t, d, "bob", "ann")
	wantSame(t, c, d, false)
	wantAdd(t, d, "dan", 2, api.OK)
	wantAdd(t, d, "eve", 3, api.OK)
	wantAdd(t, d, "fay", 0, api.ErrLong)
	wantAdd(t, c, "gus", 3, api.OK)
	wantAdd(t, c, "hal", 0, api.ErrLong)
	wantAll(t, c, "bob", "ann", "cid", "gus")
	wantAll(t, d, "bob", "ann", "dan", "eve")

	full := c.Copy()
	wantAdd(t, full, "bob", 0, api.ErrThere)
	wantAdd(t, full, "ivy", 0, api.ErrLong)
	wantAll(t, full, "bob", "ann", "cid", "gus")

	empty := table(t, 1).Copy()
	wantAll(t, empty)
	wantAdd(t, empty, "a", 0, api.OK)
	wantAdd(t, empty, "b", 0, api.ErrLong)
}

// P6.4: of any length: who goes on first writes nothing into the room behind the other one's names.
func TestCopyApart(t *testing.T) {
	var list []string
	for n := range 40 {
		c := table(t, 50, list...)
		d := c.Copy()
		all := d.All()
		wantAdd(t, c, "c", n, api.OK)
		wantAdd(t, d, "d", n, api.OK)
		wantAdd(t, c, "e", n+1, api.OK)
		wantAll(t, c, append(slices.Clone(list), "c", "e")...)
		wantAll(t, d, append(slices.Clone(list), "d")...)
		wantNotFound(t, c, "d")
		wantNotFound(t, d, "c")
		if got := told(t, all); !slices.Equal(got, list) {
			t.Errorf("All of then: %q, not %q", got, list)
		}
		list = append(list, strconv.Itoa(n))
	}
}

// P6.4: what is the same, and what is not.
func TestSame(t *testing.T) {
	c := table(t, 3, "bob", "ann")
	wantSame(t, c, c, true)
	wantSame(t, c, table(t, 3, "bob", "ann"), true)
	wantSame(t, c, table(t, 2, "bob", "ann"), true)
	wantSame(t, c, table(t, maxMost, "bob", "ann"), true)
	wantSame(t, c, table(t, 3, "ann", "bob"), false)
	wantSame(t, c, table(t, 3, "bob"), false)
	wantSame(t, c, table(t, 3, "ann"), false)
	wantSame(t, c, table(t, 3, "bob", "ann", "cid"), false)
	wantSame(t, c, table(t, 3, "bob", "anna"), false)
	wantSame(t, c, table(t, 3, "Bob", "ann"), false)
	wantSame(t, c, table(t, 3), false)
	wantSame(t, table(t, 3), table(t, 0), true)
	// A name that is not there has no number, and 0 is none.
	wantSame(t, table(t, 3, "a"), table(t, 3, "b"), false)
}

// P6.4, P6.6: one that is not there, and one that no call made.
func TestNone(t *testing.T) {
	var none *names.Names
	refused, _ := names.New(-1)
	for _, c := range []*names.Names{none, refused, new(names.Names), {}} {
		wantAdd(t, c, "a", 0, api.ErrNil)
		wantNotFound(t, c, "a")
		wantNotFound(t, c, "")
		for _, n := range []int{math.MinInt, -1, 0, 1, math.MaxInt} {
			wantNoNumber(t, c, n)
		}
		if c.Len() != 0 || c.Sorted() != nil || c.Begins("") != nil || c.Begins("a") != nil || c.Copy() != nil {
			t.Error("one that is not there tells something")
		}
		if all := c.All(); all == nil || told(t, all) != nil {
			t.Error("All of one that is not there: nil, or it tells something")
		}
		wantSame(t, c, c, true)
		wantSame(t, c, nil, true)
		wantSame(t, c, new(names.Names), true)
		wantSame(t, c, table(t, 0), false)
		wantSame(t, c, table(t, 3, "a"), false)
	}
}

// What is handed in is not kept: a name may stand in memory that is another one later, or be a piece of a long text.
func TestNamesNotKept(t *testing.T) {
	memory := []byte("annbob and more behind it")
	c := table(t, 3)
	wantAdd(t, c, unsafe.String(&memory[0], 3), 0, api.OK)
	wantAdd(t, c, unsafe.String(&memory[3], 3), 1, api.OK)
	copy(memory, "xxxxxx")
	wantAll(t, c, "ann", "bob")
	wantList(t, "Sorted", c.Sorted(), 0, 1)
	wantNotFound(t, c, "xxx")
}

// An answer is new memory.
func TestAnswersNew(t *testing.T) {
	c := table(t, 9, "bob", "ann", "bo")
	d := c.Copy()
	seen := map[*byte]bool{}
	fresh := func(text string) {
		t.Helper()
		if p := unsafe.StringData(text); seen[p] {
			t.Errorf("%q is told twice in the same memory", text)
		} else {
			seen[p] = true
		}
	}
	var alive []string // so that no memory is taken again
	all := c.All()
	for range 3 {
		for n := range 3 {
			a, _ := c.Name(n)
			b, _ := d.Name(n)
			alive = append(alive, a, b)
		}
		for _, name := range all {
			alive = append(alive, name)
		}
	}
	for _, text := range alive {
		fresh(text)
	}
	spelling := `"abc"`
	text, _ := names.Unspell(spelling)
	if p := unsafe.StringData(text); p == unsafe.StringData(spelling[1:]) {
		t.Error("Unspell answers a piece of what was handed in")
	}

	for _, ask := range []func() []int{c.Sorted, func() []int { return c.Begins("b") }} {
		got, want := ask(), ask()
		kept := slices.Clone(want)
		for i := range got[:cap(got)] {
			got[:cap(got)][i] = -1
		}
		if !slices.Equal(want, kept) || !slices.Equal(ask(), kept) {
			t.Errorf("a list that was answered is changed with another one: %v, %v", want, ask())
		}
	}
}

// model is a table as a plain list.
type model struct {
	most int
	list []string
}

func (m *model) add(name string) (int, api.Errno) {
	switch {
	case len(name) == 0 || len(name) > 64:
		return 0, api.ErrArg
	case slices.Contains(m.list, name):
		return 0, api.ErrThere
	case len(m.list) == m.most:
		return 0, api.ErrLong
	}
	m.list = append(m.list, name)
	return len(m.list) - 1, api.OK
}

func (m *model) begins(with string) []int {
	var found []int
	for n, name := range m.list {
		if len(name) >= len(with) && name[:len(with)] == with {
			at := 0
			for at < len(found) && m.list[found[at]] < name {
				at++
			}
			found = slices.Insert(found, at, n)
		}
	}
	return found
}

func (m *model) short(n int) int {
	for k := 1; k < len(m.list[n]); k++ {
		if len(m.begins(m.list[n][:k])) == 1 {
			return k
		}
	}
	return len(m.list[n])
}

// P6.1 to P6.4, P6.7: long runs of names of few letters, held against a plain list.
func TestRunsAgainstModel(t *testing.T) {
	rnd := rand.New(rand.NewSource(6))
	word := func() string {
		b := make([]byte, rnd.Intn(6))
		for i := range b {
			b[i] = "ab\x00\xff"[rnd.Intn(4)]
		}
		if rnd.Intn(30) == 0 {
			return strings.Repeat("a", rnd.Intn(70))
		}
		return string(b)
	}
	for range 150 {
		m := &model{most: rnd.Intn(60)}
		c := table(t, m.most)
		for range 80 {
			name := word()
			want, wantErr := m.add(name)
			wantAdd(t, c, name, want, wantErr)
			if rnd.Intn(10) == 0 {
				c = c.Copy()
			}
			with := word()
			wantList(t, "Begins", c.Begins(with), m.begins(with)...)
			if n := slices.Index(m.list, with); n >= 0 {
				wantFind(t, c, with, n)
			} else {
				wantNotFound(t, c, with)
			}
		}
		wantAll(t, c, m.list...)
		wantList(t, "Sorted", c.Sorted(), m.begins("")...)
		for n := range m.list {
			wantShort(t, c, n, m.short(n))
		}
		wantSame(t, c, table(t, m.most, m.list...), true)
		wantShortIsEnough(t, c)
	}
}

// wantShortIsEnough: P6.7: a name's first Short bytes are those of that name alone, unless another one begins with all of it; and fewer are not enough.
func wantShortIsEnough(t *testing.T, c *names.Names) {
	t.Helper()
	for n, name := range c.All() {
		k, _ := c.Short(n)
		if len(c.Begins(name)) > 1 {
			if k != len(name) {
				t.Errorf("Short(%d) of %q, with which others begin: %d", n, name, k)
			}
		} else {
			wantList(t, "Begins of Short", c.Begins(name[:k]), n)
		}
		if k > 1 && len(c.Begins(name[:k-1])) < 2 {
			t.Errorf("Short(%d) of %q: %d, though less is enough", n, name, k)
		}
	}
}
