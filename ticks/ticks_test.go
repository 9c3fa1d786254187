package ticks_test

import (
	"cmp"
	"maps"
	"math"
	"math/rand"
	"slices"
	"testing"

	"gavel/api"
	"gavel/ticks"
)

const last = int64(api.MaxTick)

func due(tick, number int64) api.Due { return api.Due{Tick: tick, Number: number} }

// noTicks are numbers that are no ticks.
func noTicks() []int64 {
	return []int64{-1, -2, -last, math.MinInt64, math.MinInt64 + 1, last + 1, last * 2, math.MaxInt64 - 1, math.MaxInt64}
}

// noNumbers are numbers that no calendar has.
func noNumbers() []int64 { return []int64{-1, -2, -last, math.MinInt64 + 1, math.MinInt64} }

func calendar(t *testing.T, now int64, list ...api.Due) *ticks.Ticks {
	t.Helper()
	c, err := ticks.Of(now, list...)
	if c == nil || err != api.OK {
		t.Fatalf("Of(%d, %v): %v", now, list, err)
	}
	return c
}

func wantErr(t *testing.T, what string, got, want api.Errno) {
	t.Helper()
	if got != want {
		t.Errorf("%s: %v, not %v", what, got, want)
	}
}

func wantNext(t *testing.T, c *ticks.Ticks, want api.Due) {
	t.Helper()
	if got, ok := c.Next(); got != want || !ok {
		t.Errorf("next: %v %v, not %v", got, ok, want)
	}
}

func wantNoNext(t *testing.T, c *ticks.Ticks) {
	t.Helper()
	if got, ok := c.Next(); got != due(0, 0) || ok {
		t.Errorf("next: %v %v, not nothing", got, ok)
	}
}

func wantAt(t *testing.T, c *ticks.Ticks, number, want int64) {
	t.Helper()
	if got, err := c.At(number); got != want || err != api.OK {
		t.Errorf("%d is at %d, %v, not at %d", number, got, err, want)
	}
}

func wantNone(t *testing.T, c *ticks.Ticks, number int64) {
	t.Helper()
	if got, err := c.At(number); got != 0 || err != api.ErrNone {
		t.Errorf("%d is at %d, %v", number, got, err)
	}
}

func wantUpto(t *testing.T, c *ticks.Ticks, tick int64, want ...api.Due) {
	t.Helper()
	got, err := c.Upto(tick)
	if !slices.Equal(got, want) || err != api.OK || c.Now() != tick {
		t.Errorf("up to %d: %v %v, now %d, not %v", tick, got, err, c.Now(), want)
	}
}

func wantRefused(t *testing.T, c *ticks.Ticks, tick int64, want api.Errno) {
	t.Helper()
	if got, err := c.Upto(tick); got != nil || err != want {
		t.Errorf("up to %d: %v %v, not %v", tick, got, err, want)
	}
}

// wantAll asks for all that a calendar tells of what it has.
func wantAll(t *testing.T, c *ticks.Ticks, now int64, want ...api.Due) {
	t.Helper()
	if got := slices.Collect(c.All()); !slices.Equal(got, want) {
		t.Fatalf("all: %v, not %v", got, want)
	}
	if c.Now() != now || c.Len() != len(want) {
		t.Fatalf("now %d, %d numbers, not %d, %d", c.Now(), c.Len(), now, len(want))
	}
	for _, d := range want {
		wantAt(t, c, d.Number, d.Tick)
	}
	if len(want) == 0 {
		wantNoNext(t, c)
		return
	}
	wantNext(t, c, want[0])
}

func TestExamples(t *testing.T) {
	c, err := ticks.New(5)
	wantErr(t, "New(5)", err, api.OK)
	wantErr(t, "Set(1, 9)", c.Set(1, 9), api.OK)
	wantErr(t, "Set(2, 7)", c.Set(2, 7), api.OK)
	wantErr(t, "Set(3, 7)", c.Set(3, 7), api.OK)
	wantErr(t, "Set(4, 4)", c.Set(4, 4), api.ErrTime)
	wantErr(t, "Set(-1, 9)", c.Set(-1, 9), api.ErrArg)

	wantNext(t, c, due(7, 2))
	wantErr(t, "Set(2, 12)", c.Set(2, 12), api.OK)
	wantNext(t, c, due(7, 3))
	wantAt(t, c, 2, 12)
	if c.Len() != 3 {
		t.Error(c.Len())
	}

	wantUpto(t, c, 9, due(7, 3), due(9, 1))
	if c.Now() != 9 {
		t.Error(c.Now())
	}
	wantRefused(t, c, 8, api.ErrTime)
	wantUpto(t, c, 12, due(12, 2))
	if c.Len() != 0 {
		t.Error(c.Len())
	}

	if c, err := ticks.New(-1); c != nil || err != api.ErrArg {
		t.Error(c, err)
	}
	if c, err := ticks.New(1 << 40); c == nil || err != api.OK {
		t.Error(c, err)
	}
	if c, err := ticks.New(1<<40 + 1); c != nil || err != api.ErrArg {
		t.Error(c, err)
	}
	wantErr(t, "Drop(7)", c.Drop(7), api.ErrNone)
}

func TestNew(t *testing.T) {
	for _, now := range []int64{0, 1, 5, last - 1, last} {
		c, err := ticks.New(now)
		if c == nil || err != api.OK {
			t.Fatalf("New(%d): %v", now, err)
		}
		wantAll(t, c, now)
		wantErr(t, "a number at now", c.Set(0, now), api.OK)
		wantAll(t, c, now, due(now, 0))
	}
	for _, now := range noTicks() {
		if c, err := ticks.New(now); c != nil || err != api.ErrArg {
			t.Errorf("New(%d): %v %v", now, c, err)
		}
	}
}

func TestOf(t *testing.T) {
	wantAll(t, calendar(t, 7), 7)
	wantAll(t, calendar(t, 7, []api.Due{}...), 7)
	wantAll(t, calendar(t, 3, due(9, 1), due(4, 2), due(9, 0), due(5, 1)), 3, due(4, 2), due(5, 1), due(9, 0))
	wantAll(t, calendar(t, 3, due(4, 1), due(9, 1)), 3, due(9, 1))
	wantAll(t, calendar(t, 3, due(9, 1), due(9, 1), due(9, 1)), 3, due(9, 1))
	wantAll(t, calendar(t, 0, due(last, math.MaxInt64), due(0, math.MaxInt64-1), due(0, 0)), 0,
		due(0, 0), due(0, math.MaxInt64-1), due(last, math.MaxInt64))
	wantAll(t, calendar(t, last, due(last, 2), due(last, 1)), last, due(last, 1), due(last, 2))
}

func TestOfRefuses(t *testing.T) {
	refused := func(want api.Errno, now int64, list ...api.Due) {
		t.Helper()
		if c, err := ticks.Of(now, list...); c != nil || err != want {
			t.Errorf("Of(%d, %v): %v %v, not %v", now, list, c, err, want)
		}
	}
	for _, bad := range noTicks() {
		refused(api.ErrArg, bad)
		refused(api.ErrArg, bad, due(0, 0))
		refused(api.ErrArg, bad, due(last, 0))
		refused(api.ErrArg, 3, due(bad, 1))
		refused(api.ErrArg, 3, due(5, 1), due(bad, 2), due(6, 3))
		refused(api.ErrArg, 3, due(bad, 1), due(5, 1)) // it is asked of those, too, that another one stands for
		refused(api.ErrArg, 3, due(2, 1), due(bad, 2))
		refused(api.ErrArg, 3, due(bad, 2), due(2, 1))
	}
	for _, bad := range noNumbers() {
		refused(api.ErrArg, 3, due(5, bad))
		refused(api.ErrArg, 3, due(2, bad))
		refused(api.ErrArg, 3, due(2, 1), due(5, bad))
		refused(api.ErrArg, 3, due(5, bad), due(2, 1))
	}
	refused(api.ErrTime, 3, due(2, 1))
	refused(api.ErrTime, 3, due(0, 1))
	refused(api.ErrTime, last, due(last-1, 1))
	refused(api.ErrTime, 3, due(2, 1), due(5, 1))
	refused(api.ErrTime, 3, due(5, 1), due(2, 1))
	refused(api.ErrTime, 3, due(5, 1), due(2, 2), due(6, 3))
}

// A list that is handed in has spare room behind it; neither is changed, and neither is kept.
func TestOfKeepsNothing(t *testing.T) {
	room := []api.Due{due(9, 1), due(4, 2), due(5, 3), due(77, 77), due(77, 77)}
	was := slices.Clone(room)
	c := calendar(t, 3, room[:3]...)
	c.Set(4, 3)
	c.Set(2, 20)
	c.Drop(3)
	if !slices.Equal(room, was) {
		t.Error(room)
	}
	clear(room)
	wantAll(t, c, 3, due(3, 4), due(9, 1), due(20, 2))
}

func TestSet(t *testing.T) {
	c := calendar(t, 5)
	for _, number := range []int64{0, 1, last, last + 1, math.MaxInt64} {
		wantErr(t, "a number", c.Set(number, 8), api.OK)
		wantAt(t, c, number, 8)
	}
	wantAll(t, c, 5, due(8, 0), due(8, 1), due(8, last), due(8, last+1), due(8, math.MaxInt64))
	for _, tick := range []int64{5, 6, last - 1, last, 9, 8, 8, 7, 5} { // up, down, and where it is
		wantErr(t, "a tick", c.Set(1, tick), api.OK)
		wantAt(t, c, 1, tick)
		if c.Len() != 5 {
			t.Errorf("%d numbers", c.Len())
		}
	}
	wantAll(t, c, 5, due(5, 1), due(8, 0), due(8, last), due(8, last+1), due(8, math.MaxInt64))
}

func TestSetRefuses(t *testing.T) {
	c := calendar(t, 5, due(9, 1), due(7, 2))
	refused := func(number, tick int64, want api.Errno) {
		t.Helper()
		if err := c.Set(number, tick); err != want {
			t.Errorf("Set(%d, %d): %v, not %v", number, tick, err, want)
		}
		wantAll(t, c, 5, due(7, 2), due(9, 1))
	}
	for _, bad := range noTicks() {
		refused(1, bad, api.ErrArg)
		refused(3, bad, api.ErrArg)
		refused(-1, bad, api.ErrArg)
	}
	for _, bad := range noNumbers() {
		refused(bad, 9, api.ErrArg)
		refused(bad, 5, api.ErrArg)
		refused(bad, 4, api.ErrArg) // too late as well, but that comes behind
	}
	for _, late := range []int64{4, 1, 0} {
		refused(1, late, api.ErrTime)
		refused(2, late, api.ErrTime)
		refused(3, late, api.ErrTime)
	}
}

func TestDropAndAt(t *testing.T) {
	c := calendar(t, 5, due(9, 1), due(7, 2), due(7, 0), due(8, math.MaxInt64))
	for _, number := range append(noNumbers(), 3, 5, 7, 8, last, math.MaxInt64-1) {
		wantNone(t, c, number)
		wantErr(t, "not there", c.Drop(number), api.ErrNone)
	}
	wantAll(t, c, 5, due(7, 0), due(7, 2), due(8, math.MaxInt64), due(9, 1))
	wantErr(t, "drop 2", c.Drop(2), api.OK)
	wantErr(t, "drop 2 again", c.Drop(2), api.ErrNone)
	wantNone(t, c, 2)
	wantAll(t, c, 5, due(7, 0), due(8, math.MaxInt64), due(9, 1))
	wantErr(t, "drop the first one", c.Drop(0), api.OK)
	wantErr(t, "drop the greatest number", c.Drop(math.MaxInt64), api.OK)
	wantAll(t, c, 5, due(9, 1))
	wantErr(t, "drop the only one", c.Drop(1), api.OK)
	wantAll(t, c, 5)
	wantErr(t, "set it again", c.Set(1, 6), api.OK)
	wantAll(t, c, 5, due(6, 1))
}

// Each one of a calendar of each small size is dropped, and the others stand.
func TestDropEach(t *testing.T) {
	for size := range 40 {
		var list []api.Due
		for i := range size {
			list = append(list, due(int64(i*7%11), int64(i)))
		}
		sorted := inOrder(list)
		for i, d := range sorted {
			c := calendar(t, 0, list...)
			wantErr(t, "drop", c.Drop(d.Number), api.OK)
			wantNone(t, c, d.Number)
			wantAll(t, c, 0, slices.Delete(slices.Clone(sorted), i, i+1)...)
			wantUpto(t, c, last, slices.Delete(slices.Clone(sorted), i, i+1)...)
		}
	}
}

// inOrder: by tick, of one tick by number.
func inOrder(list []api.Due) []api.Due {
	sorted := slices.Clone(list)
	slices.SortFunc(sorted, func(a, b api.Due) int {
		return cmp.Or(cmp.Compare(a.Tick, b.Tick), cmp.Compare(a.Number, b.Number))
	})
	return sorted
}

func TestNext(t *testing.T) {
	c := calendar(t, 5)
	wantNoNext(t, c)
	c.Set(3, 9)
	wantNext(t, c, due(9, 3))
	wantNext(t, c, due(9, 3)) // it is told, not taken
	c.Set(2, 9)
	wantNext(t, c, due(9, 2))
	c.Set(7, 8)
	wantNext(t, c, due(8, 7))
	c.Set(7, 10)
	wantNext(t, c, due(9, 2))
	c.Drop(2)
	wantNext(t, c, due(9, 3))
	wantUpto(t, c, 9, due(9, 3))
	wantNext(t, c, due(10, 7))
	wantUpto(t, c, 10, due(10, 7))
	wantNoNext(t, c)
}

func TestAllIsLeftAndGoneOverAgain(t *testing.T) {
	c := calendar(t, 0, due(4, 1), due(3, 2), due(4, 0), due(1, 9))
	want := []api.Due{due(1, 9), due(3, 2), due(4, 0), due(4, 1)}
	all := c.All()
	for n := range want {
		var got []api.Due
		for d := range all {
			if got = append(got, d); len(got) > n {
				break
			}
		}
		if !slices.Equal(got, want[:n+1]) {
			t.Error(got)
		}
	}
	for range 2 {
		if got := slices.Collect(all); !slices.Equal(got, want) {
			t.Error(got)
		}
	}
	for d := range all { // one within another one
		if got := slices.Collect(all); !slices.Equal(got, want) {
			t.Error(d, got)
		}
	}
	wantAll(t, c, 0, want...)
}

func TestAllIsAsAtItsCall(t *testing.T) {
	c := calendar(t, 0, due(4, 1), due(3, 2), due(5, 3))
	was := []api.Due{due(3, 2), due(4, 1), due(5, 3)}
	all := c.All()
	c.Set(2, 9)
	c.Set(7, 1)
	c.Drop(3)
	if got := slices.Collect(all); !slices.Equal(got, was) {
		t.Error("set and dropped:", got)
	}
	all = c.All()
	c.Upto(last)
	if got := slices.Collect(all); !slices.Equal(got, []api.Due{due(1, 7), due(4, 1), due(9, 2)}) {
		t.Error("time went on:", got)
	}
	empty := c.All()
	c.Set(1, last)
	if got := slices.Collect(empty); got != nil {
		t.Error("there was nothing:", got)
	}
}

// Whoever goes over all may change the calendar meanwhile.
func TestAllWhileTheCalendarGoesOn(t *testing.T) {
	c := calendar(t, 0, due(4, 1), due(3, 2), due(5, 3))
	var got []api.Due
	for d := range c.All() {
		got = append(got, d)
		wantErr(t, "drop", c.Drop(d.Number), api.OK)
		wantErr(t, "set", c.Set(d.Number+10, d.Tick), api.OK)
	}
	if !slices.Equal(got, []api.Due{due(3, 2), due(4, 1), due(5, 3)}) {
		t.Error(got)
	}
	wantAll(t, c, 0, due(3, 12), due(4, 11), due(5, 13))
}

func TestUpto(t *testing.T) {
	c := calendar(t, 5, due(5, 3), due(9, 1), due(5, 2), due(9, 0), due(10, 4), due(last, 5))
	wantUpto(t, c, 5, due(5, 2), due(5, 3))
	wantUpto(t, c, 5)
	wantErr(t, "set at now", c.Set(2, 5), api.OK)
	wantUpto(t, c, 5, due(5, 2))
	wantNone(t, c, 2)
	wantErr(t, "drop what is told", c.Drop(2), api.ErrNone)
	wantUpto(t, c, 8)
	wantErr(t, "set below now", c.Set(2, 7), api.ErrTime)
	wantErr(t, "set at now", c.Set(2, 8), api.OK)
	wantAll(t, c, 8, due(8, 2), due(9, 0), due(9, 1), due(10, 4), due(last, 5))
	wantUpto(t, c, 9, due(8, 2), due(9, 0), due(9, 1))
	wantUpto(t, c, last-1, due(10, 4))
	wantUpto(t, c, last, due(last, 5))
	wantUpto(t, c, last)
	wantErr(t, "at the last tick", c.Set(1, last), api.OK)
	wantUpto(t, c, last, due(last, 1))
	wantAll(t, c, last)
}

func TestUptoRefuses(t *testing.T) {
	c := calendar(t, 5, due(5, 1), due(9, 2))
	for _, bad := range noTicks() {
		wantRefused(t, c, bad, api.ErrArg)
		wantAll(t, c, 5, due(5, 1), due(9, 2))
	}
	for _, late := range []int64{4, 1, 0} {
		wantRefused(t, c, late, api.ErrTime)
		wantAll(t, c, 5, due(5, 1), due(9, 2))
	}
}

// What Upto tells is memory of its own, its spare room too.
func TestUptoKeepsNothing(t *testing.T) {
	c := calendar(t, 0, due(1, 1), due(2, 2), due(3, 3), due(4, 4), due(5, 5))
	told, _ := c.Upto(3)
	room := told[:cap(told)]
	for i := range room {
		room[i] = due(77, 77)
	}
	wantAll(t, c, 3, due(4, 4), due(5, 5))
	second, _ := c.Upto(4)
	third, _ := c.Upto(5)
	_ = append(second, due(77, 77))
	for i := range second {
		second[i] = due(77, 77)
	}
	if !slices.Equal(third, []api.Due{due(5, 5)}) {
		t.Error(third)
	}
}

func TestCopy(t *testing.T) {
	c := calendar(t, 5, due(9, 1), due(7, 2), due(8, 3))
	d := c.Copy()
	wantAll(t, d, 5, due(7, 2), due(8, 3), due(9, 1))
	c.Set(1, 6)
	c.Drop(3)
	c.Set(4, 20)
	wantAll(t, d, 5, due(7, 2), due(8, 3), due(9, 1))
	d.Set(2, 30)
	d.Set(5, 6)
	wantUpto(t, d, 9, due(6, 5), due(8, 3), due(9, 1))
	wantAll(t, d, 9, due(30, 2))
	wantAll(t, c, 5, due(6, 1), due(7, 2), due(20, 4))
	wantUpto(t, c, last, due(6, 1), due(7, 2), due(20, 4))
	wantAll(t, d, 9, due(30, 2))
	wantAll(t, d.Copy().Copy(), 9, due(30, 2))
	wantAll(t, c.Copy(), last)
	empty := calendar(t, 0).Copy()
	wantAll(t, empty, 0)
	wantErr(t, "set in a copy of an empty one", empty.Set(1, 0), api.OK)
	wantAll(t, empty, 0, due(0, 1))
}

func TestNilAndZero(t *testing.T) {
	var none *ticks.Ticks
	refused, _ := ticks.New(-1)
	for _, c := range []*ticks.Ticks{none, refused, {}, new(ticks.Ticks)} {
		for _, x := range append(noTicks(), 0, 1, last) {
			wantErr(t, "Set", c.Set(1, x), api.ErrNil)
			wantErr(t, "Set", c.Set(x, 1), api.ErrNil)
			wantErr(t, "Drop", c.Drop(x), api.ErrNil)
			if tick, err := c.At(x); tick != 0 || err != api.ErrNil {
				t.Error(tick, err)
			}
			wantRefused(t, c, x, api.ErrNil)
		}
		if c.Now() != 0 || c.Len() != 0 || c.Copy() != nil {
			t.Error(c.Now(), c.Len(), c.Copy())
		}
		wantNoNext(t, c)
		all := c.All()
		if all == nil {
			t.Fatal("no iterator")
		}
		for d := range all {
			t.Error(d)
		}
	}
}

// A calendar that is copied by value has what the other one has, and nothing panics.
func TestCopiedByValue(t *testing.T) {
	c := calendar(t, 0, due(4, 1))
	same := *c
	same.Set(2, 3)
	same.Set(3, 5)
	wantAll(t, c, 0, due(3, 2), due(4, 1), due(5, 3))
	wantUpto(t, c, 4, due(3, 2), due(4, 1))
	wantAll(t, &same, 4, due(5, 3))
}

// slow is a calendar as the chapter's words say it: each number's tick, and now.
type slow struct {
	now   int64
	ticks map[int64]int64
}

func (s *slow) all() []api.Due {
	var list []api.Due
	for number, tick := range s.ticks {
		list = append(list, due(tick, number))
	}
	return inOrder(list)
}

func (s *slow) set(number, tick int64) api.Errno {
	switch {
	case number < 0 || tick < 0 || tick > last:
		return api.ErrArg
	case tick < s.now:
		return api.ErrTime
	}
	s.ticks[number] = tick
	return api.OK
}

func (s *slow) drop(number int64) api.Errno {
	if _, there := s.ticks[number]; !there {
		return api.ErrNone
	}
	delete(s.ticks, number)
	return api.OK
}

func (s *slow) upto(tick int64) ([]api.Due, api.Errno) {
	switch {
	case tick < 0 || tick > last:
		return nil, api.ErrArg
	case tick < s.now:
		return nil, api.ErrTime
	}
	s.now = tick
	var told []api.Due
	for _, d := range s.all() {
		if d.Tick <= tick {
			told = append(told, d)
			delete(s.ticks, d.Number)
		}
	}
	return told, api.OK
}

// Calls by chance are answered as by the slow calendar; ticks and numbers are few, so that they meet often.
func TestAgainstSlow(t *testing.T) {
	for seed := range int64(60) {
		r := rand.New(rand.NewSource(seed))
		numbers := 1 + r.Int63n(60)
		c, s := calendar(t, 0), &slow{ticks: map[int64]int64{}}
		for range 400 {
			number, tick := r.Int63n(numbers+1)-1, s.now+r.Int63n(20)-2
			switch r.Intn(12) {
			case 0:
				wantErr(t, "drop", c.Drop(number), s.drop(number))
			case 1:
				got, err := c.Upto(tick - 12)
				want, wantErr := s.upto(tick - 12)
				if !slices.Equal(got, want) || err != wantErr {
					t.Fatalf("seed %d: up to %d: %v %v, not %v %v", seed, tick-12, got, err, want, wantErr)
				}
			case 2:
				c = c.Copy()
			default:
				wantErr(t, "set", c.Set(number, tick), s.set(number, tick))
			}
			wantAll(t, c, s.now, s.all()...)
			if t.Failed() {
				t.Fatalf("seed %d", seed)
			}
		}
	}
}

func someDues(r *rand.Rand, count int) map[int64]int64 {
	list := map[int64]int64{}
	for len(list) < count {
		list[r.Int63n(int64(4*count))] = r.Int63n(int64(count))
	}
	return list
}

// P3.6: time that goes on in several steps tells what it tells in one.
func TestStepsTellWhatOneTells(t *testing.T) {
	for seed := range int64(40) {
		r := rand.New(rand.NewSource(seed))
		c := calendar(t, 0)
		for number, tick := range someDues(r, 1+r.Intn(200)) {
			c.Set(number, tick)
		}
		end := r.Int63n(200)
		inSteps := c.Copy()
		whole, _ := c.Upto(end)
		var told []api.Due
		for inSteps.Now() < end {
			part, err := inSteps.Upto(min(end, inSteps.Now()+r.Int63n(30)))
			wantErr(t, "a step", err, api.OK)
			told = append(told, part...)
		}
		part, _ := inSteps.Upto(end)
		if told = append(told, part...); !slices.Equal(told, whole) {
			t.Fatalf("seed %d: %v, not %v", seed, told, whole)
		}
		wantAll(t, inSteps, end, slices.Collect(c.All())...)
	}
}

// P3.6: in which order numbers are set, and from where they are moved, changes nothing.
func TestOrderOfSettingChangesNothing(t *testing.T) {
	for seed := range int64(40) {
		r := rand.New(rand.NewSource(seed))
		var list []api.Due
		for number, tick := range someDues(r, 1+r.Intn(100)) {
			list = append(list, due(tick, number))
		}
		want := inOrder(list)
		for range 5 {
			r.Shuffle(len(list), func(i, j int) { list[i], list[j] = list[j], list[i] })
			c := calendar(t, 0)
			for _, d := range list {
				c.Set(d.Number, r.Int63n(100))
			}
			for _, d := range list {
				c.Set(d.Number, d.Tick)
			}
			wantAll(t, c, 0, want...)
			wantAll(t, calendar(t, 0, list...), 0, want...)
			wantUpto(t, c, last, want...)
		}
	}
}

// P3.6: what All tells is in order, each number once.
func TestAllInOrderEachOnce(t *testing.T) {
	r := rand.New(rand.NewSource(1))
	set := someDues(r, 3000)
	c := calendar(t, 0)
	for number, tick := range set {
		c.Set(number, r.Int63n(3000))
		c.Set(number, tick)
	}
	told := map[int64]int64{}
	before := due(-1, -1)
	for d := range c.All() {
		if d.Tick < before.Tick || d.Tick == before.Tick && d.Number <= before.Number {
			t.Fatalf("%v behind %v", d, before)
		}
		before = d
		told[d.Number] = d.Tick
	}
	if !maps.Equal(told, set) || len(set) != c.Len() {
		t.Error("others are told than were set")
	}
}

// A great calendar: a call goes over a few places of it, not over all.
func TestManyNumbers(t *testing.T) {
	const many = 1 << 17
	c := calendar(t, 0)
	for i := range int64(many) {
		wantErr(t, "set", c.Set(i, many-i), api.OK)
	}
	for i := range int64(many) {
		wantErr(t, "move", c.Set(i, i/2), api.OK)
		wantNext(t, c, due(0, 0))
	}
	for i := int64(1); i < many; i += 2 {
		wantErr(t, "drop", c.Drop(i), api.OK)
	}
	for i := range int64(many / 2) {
		wantUpto(t, c, i, due(i, 2*i))
	}
	wantAll(t, c, many/2-1)
}
