package goods_test

import (
	"iter"
	"math"
	"math/rand"
	"slices"
	"strconv"
	"strings"
	"testing"

	"gavel/api"
	"gavel/goods"
)

const (
	full = api.Goods(math.MaxUint32)
	last = api.Goods(1) << 31
)

// oddNumbers are numbers that are no good's.
var oddNumbers = []int{-1, -2, -31, -32, -33, 32, 33, 63, 64, 65, 99, 256, 1 << 32, 1<<32 + 3, math.MinInt, math.MaxInt}

func wantOf(t *testing.T, want api.Goods, wantErr api.Errno, l ...int) {
	t.Helper()
	if got, err := goods.Of(l...); got != want || err != wantErr {
		t.Errorf("Of(%v): %d, %v, not %d, %v", l, got, err, want, wantErr)
	}
}

func wantAll(t *testing.T, n int, want api.Goods, wantErr api.Errno) {
	t.Helper()
	if got, err := goods.All(n); got != want || err != wantErr {
		t.Errorf("All(%d): %d, %v, not %d, %v", n, got, err, want, wantErr)
	}
}

func wantApart(t *testing.T, want api.Goods, wantOK bool, l ...api.Goods) {
	t.Helper()
	if got, ok := goods.Apart(l...); got != want || ok != wantOK {
		t.Errorf("Apart(%v): %d, %v, not %d, %v", l, got, ok, want, wantOK)
	}
}

func wantNext(t *testing.T, s, of, want api.Goods, wantOK bool) {
	t.Helper()
	if got, ok := goods.Next(s, of); got != want || ok != wantOK {
		t.Errorf("Next(%d, %d): %d, %v, not %d, %v", s, of, got, ok, want, wantOK)
	}
}

func wantParse(t *testing.T, text string, want api.Goods, wantErr api.Errno) {
	t.Helper()
	if got, err := goods.Parse(text); got != want || err != wantErr {
		t.Errorf("Parse(%.100q): %d, %v, not %d, %v", text, got, err, want, wantErr)
	}
}

func wantTold[T comparable](t *testing.T, what string, all iter.Seq[T], want ...T) {
	t.Helper()
	if got := slices.Collect(all); !slices.Equal(got, want) {
		t.Errorf("%s: %v, not %v", what, got, want)
	}
}

// listOf is a set's goods, asked bit by bit.
func listOf(s api.Goods) []int {
	var l []int
	for good := range 32 {
		if uint64(s)/uint64(math.Pow(2, float64(good)))%2 == 1 {
			l = append(l, good)
		}
	}
	return l
}

// textOf is the text of a list of goods.
func textOf(l []int) string {
	if len(l) == 0 {
		return "-"
	}
	text := strconv.Itoa(l[0])
	for _, good := range l[1:] {
		text += " " + strconv.Itoa(good)
	}
	return text
}

// someSets are sets at the bounds, and some in between.
func someSets() []api.Goods {
	sets := []api.Goods{0, 1, 2, 3, 5, 9, full, full - 1, last, last + 1, last - 1, 0x55555555, 0xaaaaaaaa}
	r := rand.New(rand.NewSource(7))
	for range 300 {
		sets = append(sets, api.Goods(r.Uint32()), api.Goods(r.Uint32()&r.Uint32()&r.Uint32()))
	}
	return sets
}

// sparse is a set of some goods, of so few that all its subsets are soon told.
func sparse(r *rand.Rand, most int) api.Goods {
	var s api.Goods
	for range r.Intn(most + 1) {
		s |= 1 << r.Intn(32)
	}
	return s
}

func TestExamplesOfSets(t *testing.T) {
	wantOf(t, 9, api.OK, 0, 3, 3)
	wantOf(t, 0, api.OK)
	wantOf(t, 0, api.ErrArg, 32)
	wantAll(t, 3, 7, api.OK)
	wantAll(t, 33, 0, api.ErrArg)
	if !goods.Has(9, 3) || goods.Has(9, -1) || goods.Has(9, 99) {
		t.Error("Has")
	}
	if !goods.Within(1, 9) || goods.Within(2, 9) {
		t.Error("Within")
	}
	if goods.Count(9) != 2 {
		t.Error("Count")
	}
	wantApart(t, 7, true, 1, 6)
	wantApart(t, 0, false, 1, 3)
	wantApart(t, 0, true)
	wantTold(t, "Each(9)", goods.Each(9), 0, 3)
	wantTold(t, "Subsets(5)", goods.Subsets(5), 0, 1, 4, 5)
	wantNext(t, 1, 5, 4, true)
	wantNext(t, 5, 5, 0, false)
	wantNext(t, 2, 5, 0, false)
	if goods.Text(9) != "0 3" || goods.Text(0) != "-" {
		t.Error("Text")
	}
	wantParse(t, "0 3", 9, api.OK)
	wantParse(t, "3 0", 0, api.ErrText)
	wantParse(t, "-", 0, api.OK)
	wantParse(t, "", 0, api.ErrText)
	wantParse(t, "32", 0, api.ErrText)
}

// P7.1

func TestOf(t *testing.T) {
	var everyGood []int
	for good := range 32 {
		want := api.Goods(math.Pow(2, float64(good)))
		wantOf(t, want, api.OK, good)
		wantOf(t, want, api.OK, good, good, good)
		everyGood = append(everyGood, good)
	}
	wantOf(t, full, api.OK, everyGood...)
	wantOf(t, full, api.OK, append(everyGood, everyGood...)...)
	slices.Reverse(everyGood)
	wantOf(t, full, api.OK, everyGood...)
	wantOf(t, last+1, api.OK, 31, 0)
	wantOf(t, 0, api.OK, []int{}...)
	for _, odd := range oddNumbers {
		wantOf(t, 0, api.ErrArg, odd)
		wantOf(t, 0, api.ErrArg, 0, 31, odd)
		wantOf(t, 0, api.ErrArg, odd, 5)
	}
	for _, s := range someSets() {
		wantOf(t, s, api.OK, listOf(s)...)
	}
}

func TestAll(t *testing.T) {
	var want api.Goods
	for n := range 33 {
		wantAll(t, n, want, api.OK)
		want = want*2 + 1
	}
	for _, n := range []int{-1, -2, -31, -32, 33, 34, 64, 1 << 32, 1<<32 + 1, math.MinInt, math.MaxInt} {
		wantAll(t, n, 0, api.ErrArg)
	}
}

func TestHas(t *testing.T) {
	for _, s := range someSets() {
		l := listOf(s)
		for good := range 32 {
			if got := goods.Has(s, good); got != slices.Contains(l, good) {
				t.Errorf("Has(%d, %d): %v", s, good, got)
			}
		}
		for _, odd := range oddNumbers {
			if goods.Has(s, odd) {
				t.Errorf("Has(%d, %d)", s, odd)
			}
		}
	}
}

func TestWithin(t *testing.T) {
	plain := func(a, b api.Goods) bool {
		of := listOf(b)
		return !slices.ContainsFunc(listOf(a), func(good int) bool { return !slices.Contains(of, good) })
	}
	for a := range api.Goods(16) {
		for b := range api.Goods(16) {
			if got := goods.Within(a, b); got != plain(a, b) {
				t.Errorf("Within(%d, %d): %v", a, b, got)
			}
			if got := goods.Within(a<<28, b<<28); got != plain(a, b) {
				t.Errorf("Within(%d, %d): %v", a<<28, b<<28, got)
			}
		}
	}
	for _, s := range someSets() {
		if !goods.Within(s, s) || !goods.Within(0, s) || !goods.Within(s, full) {
			t.Errorf("Within of %d, or of nothing, or in all", s)
		}
		if goods.Within(s, 0) != (s == 0) || goods.Within(full, s) != (s == full) {
			t.Errorf("Within(%d, 0), or of all in it", s)
		}
	}
}

func TestCount(t *testing.T) {
	for _, s := range someSets() {
		if got := goods.Count(s); got != len(listOf(s)) {
			t.Errorf("Count(%d): %d", s, got)
		}
	}
	if goods.Count(0) != 0 || goods.Count(full) != 32 || goods.Count(last) != 1 {
		t.Error("Count at the bounds")
	}
}

// P7.2

func TestApart(t *testing.T) {
	for _, s := range someSets() {
		wantApart(t, s, true, s)
		wantApart(t, s, true, s, 0)
		wantApart(t, s, true, 0, 0, s, 0)
		wantApart(t, full, true, s, ^s)
		if s != 0 {
			wantApart(t, 0, false, s, s)
			wantApart(t, 0, false, s, ^s, s)
			wantApart(t, 0, false, s, full)
		}
	}
	for good := range 32 {
		one := api.Goods(1) << good
		wantApart(t, 0, false, one, one)
		wantApart(t, 0, false, ^one, one, 0, one)
		wantApart(t, 0, false, full, 0, one)
	}
	wantApart(t, 0, true, nil...)
	wantApart(t, 0, true, []api.Goods{}...)
	wantApart(t, 0, true, make([]api.Goods, 1<<20)...)
}

func TestApartOfEachGood(t *testing.T) {
	var each []api.Goods
	for good := range 32 {
		each = append(each, 1<<good)
	}
	wantApart(t, full, true, each...)
	wantApart(t, 0, false, append(each, last)...)
	wantApart(t, 0, false, append(each, 1)...)
}

// twice says whether a good stands in two of the sets: a plain look at each two of them.
func twice(l []api.Goods) bool {
	for i, a := range l {
		for _, b := range l[:i] {
			if slices.ContainsFunc(listOf(a), func(good int) bool { return slices.Contains(listOf(b), good) }) {
				return true
			}
		}
	}
	return false
}

// P7.8
func TestApartInAnyOrder(t *testing.T) {
	r := rand.New(rand.NewSource(71))
	var apart, not int
	for range 3000 {
		l := make([]api.Goods, r.Intn(6))
		for i := range l {
			l[i] = sparse(r, 5)
		}
		together := 0
		var list []int
		for _, s := range l {
			together += goods.Count(s)
			list = append(list, listOf(s)...)
		}
		before := slices.Clone(l)
		all, ok := goods.Apart(l...)
		if !slices.Equal(l, before) {
			t.Fatalf("Apart changed %v to %v", before, l)
		}
		if ok == twice(l) {
			t.Fatalf("Apart(%v): %v", l, ok)
		}
		if want, _ := goods.Of(list...); ok && (all != want || goods.Count(all) != together) || !ok && all != 0 {
			t.Fatalf("Apart(%v): %d, %v", l, all, ok)
		}
		r.Shuffle(len(l), func(i, j int) { l[i], l[j] = l[j], l[i] })
		wantApart(t, all, ok, l...)
		if ok {
			apart++
		} else {
			not++
		}
	}
	if apart < 300 || not < 300 {
		t.Errorf("%d were apart, %d were not", apart, not)
	}
}

// P7.3

func TestEach(t *testing.T) {
	for _, s := range someSets() {
		each := goods.Each(s)
		wantTold(t, "Each", each, listOf(s)...)
		wantTold(t, "Each again", each, listOf(s)...)
	}
	for good := range 32 {
		wantTold(t, "Each of one", goods.Each(1<<good), good)
	}
	wantTold(t, "Each of none", goods.Each(0))
}

// leave goes over as many as n, and tells what it met.
func leave[T any](all iter.Seq[T], n int) []T {
	var met []T
	for x := range all {
		met = append(met, x)
		if len(met) == n {
			break
		}
	}
	return met
}

func TestLeftAnywhereAndGoneOverAgain(t *testing.T) {
	s := last | 1<<17 | 1<<4 | 1
	wantEach := listOf(s)
	each := goods.Each(s)
	for n := 1; n <= len(wantEach); n++ {
		if got := leave(each, n); !slices.Equal(got, wantEach[:n]) {
			t.Errorf("Each left at %d: %v", n, got)
		}
	}
	wantTold(t, "Each, gone over again", each, wantEach...)
	subsets := goods.Subsets(s)
	wantSubsets := slowSubsets(s)
	for n := 1; n <= len(wantSubsets); n++ {
		if got := leave(subsets, n); !slices.Equal(got, wantSubsets[:n]) {
			t.Errorf("Subsets left at %d: %v", n, got)
		}
	}
	wantTold(t, "Subsets, gone over again", subsets, wantSubsets...)
}

func TestGoneOverWithinItself(t *testing.T) {
	subsets, each := goods.Subsets(5), goods.Each(5)
	var met []api.Goods
	for a := range subsets {
		for b := range subsets {
			met = append(met, a*10+b)
		}
	}
	if want := []api.Goods{0, 1, 4, 5, 10, 11, 14, 15, 40, 41, 44, 45, 50, 51, 54, 55}; !slices.Equal(met, want) {
		t.Errorf("Subsets within itself: %v", met)
	}
	var goodsMet []int
	for a := range each {
		for b := range each {
			goodsMet = append(goodsMet, a*10+b)
		}
	}
	if want := []int{0, 2, 20, 22}; !slices.Equal(goodsMet, want) {
		t.Errorf("Each within itself: %v", goodsMet)
	}
}

// slowSubsets makes the subsets good by good, and puts them in order.
func slowSubsets(s api.Goods) []api.Goods {
	all := []api.Goods{0}
	for _, good := range listOf(s) {
		for _, sub := range all {
			all = append(all, sub+api.Goods(math.Pow(2, float64(good))))
		}
	}
	slices.Sort(all)
	return all
}

// P7.8
func TestSubsetsAndNext(t *testing.T) {
	sets := []api.Goods{0, 1, last, last | 1, last | last>>1, 3 << 15, 0x80008001, 0xff, 0xff000000, 1023}
	r := rand.New(rand.NewSource(73))
	for range 300 {
		sets = append(sets, sparse(r, 9))
	}
	for _, s := range sets {
		want := slowSubsets(s)
		wantTold(t, "Subsets", goods.Subsets(s), want...)
		if len(want) != 1<<goods.Count(s) {
			t.Fatalf("%d subsets of %d", len(want), s)
		}
		var met []api.Goods
		for sub, ok := api.Goods(0), true; ok && len(met) <= len(want); sub, ok = goods.Next(sub, s) {
			if !goods.Within(sub, s) {
				t.Fatalf("%d is not within %d", sub, s)
			}
			met = append(met, sub)
		}
		if !slices.Equal(met, want) {
			t.Fatalf("by Next from nothing: %v, not %v", met, want)
		}
	}
}

func TestNextOfSmallSets(t *testing.T) {
	for of := range api.Goods(64) {
		subs := slowSubsets(of)
		for s := range api.Goods(128) {
			at := slices.Index(subs, s)
			if at < 0 || at == len(subs)-1 {
				wantNext(t, s, of, 0, false)
				wantNext(t, s<<25, of<<25, 0, false)
				continue
			}
			wantNext(t, s, of, subs[at+1], true)
			wantNext(t, s<<25, of<<25, subs[at+1]<<25, true)
		}
	}
}

func TestNextOfGreatSets(t *testing.T) {
	wantNext(t, 0, 0, 0, false)
	wantNext(t, full, full, 0, false)
	wantNext(t, full-1, full, full, true)
	wantNext(t, 0, full, 1, true)
	wantNext(t, last-1, full, last, true)
	wantNext(t, 0, last, last, true)
	wantNext(t, last, last, 0, false)
	wantNext(t, full, last, 0, false)
	wantNext(t, 1, 0, 0, false)
	wantNext(t, full, full-1, 0, false)
	wantNext(t, 1, full-1, 0, false)
}

func TestSubsetsOfAllGoodsLeft(t *testing.T) {
	if got := leave(goods.Subsets(full), 5); !slices.Equal(got, []api.Goods{0, 1, 2, 3, 4}) {
		t.Errorf("Subsets of all: %v", got)
	}
	if got := leave(goods.Subsets(full&^1), 4); !slices.Equal(got, []api.Goods{0, 2, 4, 6}) {
		t.Errorf("Subsets of all but the first: %v", got)
	}
}

// P7.4

func TestText(t *testing.T) {
	for _, s := range someSets() {
		text := goods.Text(s)
		if want := textOf(listOf(s)); text != want {
			t.Errorf("Text(%d): %q, not %q", s, text, want)
		}
		wantParse(t, text, s, api.OK)
	}
	want := "0 1 2 3 4 5 6 7 8 9 10 11 12 13 14 15 16 17 18 19 20 21 22 23 24 25 26 27 28 29 30 31"
	if got := goods.Text(full); got != want {
		t.Errorf("Text of all: %q", got)
	}
	wantParse(t, want, full, api.OK)
}

func TestParseWrong(t *testing.T) {
	for _, text := range []string{
		" ", "  ", "--", "- ", " -", "- -", "-0", "0 -", "- 0", "-1", "0 -1", "+0", "+1", "0 +1",
		"00", "01", "0 01", "001", "1 1", "0 0", "0 3 3", "3 3", "2 1", "10 9", "0 2 1", "9 10 9",
		"0  3", " 0 3", "0 3 ", "0\t3", "0\n3", "0 3\n", "\n", "0,3", "0 3,", "0\u00a03",
		"32", "33", "99", "0 32", "31 32", "40", "310", "0 310", "256", "4294967296", "4294967299",
		"18446744073709551616", "18446744073709551619", "99999999999999999999999", "9223372036854775808",
		"1_0", "0x1", "1e1", "1.0", "a", "0 a", "a 0", "０", "٣", "\x00", "0\x00", "\x000", "1\xff", "0 3\x00",
	} {
		wantParse(t, text, 0, api.ErrText)
	}
	long := strings.Repeat("0 ", 1<<20)
	wantParse(t, long, 0, api.ErrText)
	wantParse(t, long+"0", 0, api.ErrText)
	wantParse(t, strings.Repeat("1", 1<<20), 0, api.ErrText)
	wantParse(t, strings.Repeat("0", 1<<20), 0, api.ErrText)
	wantParse(t, strings.Repeat(" ", 1<<20), 0, api.ErrText)
	wantParse(t, strings.Repeat("-", 1<<20), 0, api.ErrText)
	wantParse(t, goods.Text(full)+" 32", 0, api.ErrText)
	wantParse(t, goods.Text(full)+" 31", 0, api.ErrText)
	wantParse(t, goods.Text(full)+" ", 0, api.ErrText)
}

// P7.8. Which short texts are a set's is told by making all texts that are.
func TestParseOfAllShortTexts(t *testing.T) {
	set := map[string]api.Goods{"-": 0}
	for a := range 32 {
		set[textOf([]int{a})] = 1 << a
		for b := a + 1; b < 32; b++ {
			set[textOf([]int{a, b})] = 1<<a | 1<<b
			for c := b + 1; c < 32; c++ {
				set[textOf([]int{a, b, c})] = 1<<a | 1<<b | 1<<c
			}
		}
	}
	read := 0
	var try func(text string)
	try = func(text string) {
		got, err := goods.Parse(text)
		want, ok := set[text]
		if (err == api.OK) != ok || got != want || !ok && err != api.ErrText {
			t.Fatalf("Parse(%q): %d, %v, not %d, %v", text, got, err, want, ok)
		}
		if ok {
			read++
			if back := goods.Text(got); back != text {
				t.Fatalf("Text of Parse(%q): %q", text, back)
			}
		}
		if len(text) == 5 {
			return
		}
		for _, b := range []byte("-+ _0123459\n") {
			try(text + string(b))
		}
	}
	try("")
	if read < 300 {
		t.Errorf("just %d were read", read)
	}
}
