package once_test

import (
	"errors"
	"math"
	"math/rand"
	"slices"
	"strconv"
	"strings"
	"testing"
	"unsafe"

	"gavel/api"
	"gavel/once"
)

func job(x int64) func() int64 { return func() int64 { return x } }

// never is a job that must not be done.
func never(t *testing.T) func() int64 {
	return func() int64 {
		t.Error("a job is done that must not be")
		return -1
	}
}

func wantDo(t *testing.T, k *once.Keeper, key string, job func() int64, want int64, wantRan bool, wantErr api.Errno) {
	t.Helper()
	if got, ran, err := k.Do(key, job); got != want || ran != wantRan || err != wantErr {
		t.Errorf("Do(%.20q): %d, %v, %v, not %d, %v, %v", key, got, ran, err, want, wantRan, wantErr)
	}
}

func wantGet(t *testing.T, k *once.Keeper, key string, want int64, wantErr api.Errno) {
	t.Helper()
	if got, err := k.Get(key); got != want || err != wantErr {
		t.Errorf("Get(%.20q): %d, %v, not %d, %v", key, got, err, want, wantErr)
	}
}

func wantForget(t *testing.T, k *once.Keeper, key string, want api.Errno) {
	t.Helper()
	if err := k.Forget(key); err != want {
		t.Errorf("Forget(%.20q): %v, not %v", key, err, want)
	}
}

func wantRuns(t *testing.T, k *once.Keeper, want int64) {
	t.Helper()
	if got := k.Runs(); got != want {
		t.Errorf("Runs: %d, not %d", got, want)
	}
}

func wantKeys(t *testing.T, k *once.Keeper, want ...string) {
	t.Helper()
	if got := k.Keys(); !slices.Equal(got, want) {
		t.Errorf("Keys: %q, not %q", got, want)
	}
}

func wantValue(t *testing.T, l *once.Late, want int64, wantRan bool, wantErr api.Errno) {
	t.Helper()
	if got, ran, err := l.Value(); got != want || ran != wantRan || err != wantErr {
		t.Errorf("Value: %d, %v, %v, not %d, %v, %v", got, ran, err, want, wantRan, wantErr)
	}
}

func wantDone(t *testing.T, l *once.Late, want bool) {
	t.Helper()
	if got := l.Done(); got != want {
		t.Errorf("Done: %v", got)
	}
}

func late(t *testing.T, job func() int64) *once.Late {
	t.Helper()
	l, err := once.NewLate(job)
	if l == nil || err != api.OK {
		t.Fatalf("NewLate: %v, %v", l, err)
	}
	return l
}

// The rows of the chapter's table 'Examples', one behind the other.
func TestExamples(t *testing.T) {
	k := once.New()
	wantDo(t, k, "a", job(5), 5, true, api.OK)
	wantDo(t, k, "a", job(7), 5, false, api.OK)
	wantGet(t, k, "a", 5, api.OK)
	wantRuns(t, k, 1)

	wantDo(t, k, "b", once.Wrong(), 0, true, api.ErrBroken)
	wantDo(t, k, "b", job(3), 0, false, api.ErrBroken)
	wantGet(t, k, "b", 0, api.ErrBroken)
	wantKeys(t, k, "a", "b")

	wantForget(t, k, "b", api.OK)
	wantDo(t, k, "b", job(3), 3, true, api.OK)
	wantForget(t, k, "c", api.ErrNone)
	wantGet(t, k, "c", 0, api.ErrNone)
	wantRuns(t, k, 3)

	wantDo(t, k, "a", nil, 0, false, api.ErrNil)
	if told, err := k.Crew(make([][]api.OnceAsk, 65)...); told != nil || err != api.ErrArg {
		t.Errorf("a crew of 65: %v, %v", told, err)
	}

	told, err := k.Crew([]api.OnceAsk{{Key: "x", Value: 1}}, []api.OnceAsk{{Key: "x", Value: 2}}, []api.OnceAsk{{Key: "x", Value: 3}})
	if err != api.OK || len(told) != 3 {
		t.Fatalf("Crew: %v, %v", told, err)
	}
	ran := 0
	for i, list := range told {
		if len(list) != 1 || list[0].Value != told[0][0].Value || list[0].Err != api.OK {
			t.Fatalf("Crew: %v", told)
		}
		if list[0].Ran {
			ran++
			wantGet(t, k, "x", int64(i+1), api.OK)
		}
	}
	if ran != 1 {
		t.Errorf("%d ran", ran)
	}

	if l, err := once.NewLate(nil); l != nil || err != api.ErrNil {
		t.Errorf("NewLate(nil): %v, %v", l, err)
	}
	l := late(t, job(4))
	wantDone(t, l, false)
	wantValue(t, l, 4, true, api.OK)
	wantValue(t, l, 4, false, api.OK)
	wantDone(t, l, true)
}

// P5.0
func TestWrongPanicsEachTime(t *testing.T) {
	wrong := once.Wrong()
	for _, job := range []func() int64{wrong, wrong, once.Wrong()} {
		panicked := false
		func() {
			defer func() { panicked = recover() != nil }()
			job()
		}()
		if !panicked {
			t.Error("a job of Wrong has come back")
		}
	}
}

// P5.1: the values at their bounds, 0 among them, are kept as they are.
func TestDoKeepsTheValue(t *testing.T) {
	k := once.New()
	for i, x := range []int64{0, -1, 1, math.MinInt64, math.MaxInt64} {
		key := strings.Repeat("k", i)
		wantGet(t, k, key, 0, api.ErrNone)
		wantDo(t, k, key, job(x), x, true, api.OK)
		wantDo(t, k, key, never(t), x, false, api.OK)
		wantDo(t, k, key, once.Wrong(), x, false, api.OK)
		wantGet(t, k, key, x, api.OK)
		wantRuns(t, k, int64(i+1))
	}
	wantKeys(t, k, "", "k", "kk", "kkk", "kkkk")
}

// P5.1: whatever a job panics with, that is caught, and the key is broken.
func TestDoCatches(t *testing.T) {
	var list []int64
	var table map[string]int64
	var none *int64
	zero := int64(0)
	jobs := map[string]func() int64{
		"a text":      func() int64 { panic("no") },
		"an error":    func() int64 { panic(errors.New("no")) },
		"nothing":     func() int64 { panic(nil) },
		"an Errno":    func() int64 { panic(api.OK) },
		"no such":     func() int64 { return list[3] },
		"no map":      func() int64 { table["a"] = 1; return 1 },
		"no pointer":  func() int64 { return *none },
		"by nought":   func() int64 { return 1 / zero },
		"in the end":  func() (x int64) { defer func() { panic("late") }(); return 5 },
		"twice":       func() int64 { defer func() { panic("again") }(); panic("first") },
		"nested ones": func() int64 { once.New().Do("in", once.Wrong()); panic("out") },
	}
	k := once.New()
	n := int64(0)
	for key, job := range jobs {
		n++
		wantDo(t, k, key, job, 0, true, api.ErrBroken)
		wantDo(t, k, key, never(t), 0, false, api.ErrBroken)
		wantGet(t, k, key, 0, api.ErrBroken)
		wantRuns(t, k, n)

		l := late(t, job)
		wantDone(t, l, false)
		wantValue(t, l, 0, true, api.ErrBroken)
		wantValue(t, l, 0, false, api.ErrBroken)
		wantDone(t, l, true)
	}
	if len(k.Keys()) != len(jobs) {
		t.Errorf("Keys: %q", k.Keys())
	}
}

// A job that catches its own panic is not broken.
func TestAPanicThatTheJobCatches(t *testing.T) {
	k := once.New()
	wantDo(t, k, "a", func() (x int64) {
		defer func() {
			recover()
			x = 8
		}()
		panic("caught")
	}, 8, true, api.OK)
	wantGet(t, k, "a", 8, api.OK)
}

// P5.1: without a job nothing is done, of whatever key.
func TestDoWithoutAJob(t *testing.T) {
	k := once.New()
	wantDo(t, k, "new", nil, 0, false, api.ErrNil)
	wantGet(t, k, "new", 0, api.ErrNone)
	wantKeys(t, k)
	wantRuns(t, k, 0)
	wantDo(t, k, "done", job(1), 1, true, api.OK)
	wantDo(t, k, "broken", once.Wrong(), 0, true, api.ErrBroken)
	wantDo(t, k, "done", nil, 0, false, api.ErrNil)
	wantDo(t, k, "broken", nil, 0, false, api.ErrNil)
	wantRuns(t, k, 2)
	wantDo(t, k, "new", job(2), 2, true, api.OK)
}

// A job may ask the keeper that does it, for other keys.
func TestJobsWithinJobs(t *testing.T) {
	k := once.New()
	var deep func(n int) func() int64
	deep = func(n int) func() int64 {
		return func() int64 {
			if n == 0 {
				panic("the bottom")
			}
			wantKeys(t, k)
			x, ran, err := k.Do(strings.Repeat("i", n-1), deep(n-1))
			if !ran || (err == api.ErrBroken) != (n == 1) {
				t.Errorf("in the job %d: %d, %v, %v", n, x, ran, err)
			}
			k.Forget(strings.Repeat("i", n-1))
			return x + 1
		}
	}
	wantDo(t, k, strings.Repeat("i", 100), deep(100), 100, true, api.OK)
	wantRuns(t, k, 101)
	wantKeys(t, k, strings.Repeat("i", 100))
}

// P5.2: while a key is being done, nothing is told of it, and it can't be forgotten; nobody waits.
func TestWhileItIsBeingDone(t *testing.T) {
	k := once.New()
	wantDo(t, k, "b", job(1), 1, true, api.OK)
	var inner *once.Late
	inner = late(t, func() int64 {
		wantDone(t, inner, false)
		return 2
	})
	wantDo(t, k, "a", func() int64 {
		wantGet(t, k, "a", 0, api.ErrNone)
		wantForget(t, k, "a", api.ErrNone)
		wantKeys(t, k, "b")
		wantRuns(t, k, 1)
		wantGet(t, k, "b", 1, api.OK)
		wantDo(t, k, "b", never(t), 1, false, api.OK)
		wantForget(t, k, "b", api.OK)
		wantDo(t, k, "c", once.Wrong(), 0, true, api.ErrBroken)
		wantKeys(t, k, "c")
		wantRuns(t, k, 2)
		x, _, _ := inner.Value()
		return x
	}, 2, true, api.OK)
	wantKeys(t, k, "a", "c")
	wantRuns(t, k, 3)
	wantDone(t, inner, true)
}

// P5.2: a key that was forgotten is as one that there never was; others stay.
func TestForget(t *testing.T) {
	k := once.New()
	wantForget(t, k, "a", api.ErrNone)
	wantDo(t, k, "a", job(1), 1, true, api.OK)
	wantDo(t, k, "b", once.Wrong(), 0, true, api.ErrBroken)
	wantDo(t, k, "c", job(3), 3, true, api.OK)
	wantForget(t, k, "a", api.OK)
	wantForget(t, k, "a", api.ErrNone)
	wantGet(t, k, "a", 0, api.ErrNone)
	wantKeys(t, k, "b", "c")
	wantRuns(t, k, 3)
	wantForget(t, k, "b", api.OK)
	wantGet(t, k, "b", 0, api.ErrNone)
	wantDo(t, k, "a", once.Wrong(), 0, true, api.ErrBroken)
	wantDo(t, k, "b", job(2), 2, true, api.OK)
	wantGet(t, k, "c", 3, api.OK)
	wantKeys(t, k, "a", "b", "c")
	wantRuns(t, k, 5)
}

// P5.2: by their bytes, not by their letters or runes; a key that begins another one stands ahead of it.
func TestKeysRiseByTheirBytes(t *testing.T) {
	k := once.New()
	long := strings.Repeat("y", 1<<20)
	rising := []string{"", "\x00", "\x00\x00", "A", "Z", "a", "a\x00", "aZ", "ab", "b", long, long + "z", "z", "\x7f", "\x80", "é", "ﬀ", "\U0001F600", "\xff", "\xff\xff"}
	for _, i := range rand.New(rand.NewSource(5)).Perm(len(rising)) {
		wantDo(t, k, rising[i], job(int64(i)), int64(i), true, api.OK)
	}
	for range 3 {
		if !slices.Equal(k.Keys(), rising) {
			t.Error("the keys do not stand in the order of their bytes")
		}
	}
	for i, key := range rising {
		wantGet(t, k, key, int64(i), api.OK)
	}
}

func TestKeysAreNewMemory(t *testing.T) {
	k := once.New()
	for _, key := range []string{"c", "a", "b"} {
		k.Do(key, job(1))
	}
	one, other := k.Keys(), k.Keys()
	one[0] = "changed"
	_ = append(one[:1], "all", "changed", "too")
	if !slices.Equal(other, []string{"a", "b", "c"}) {
		t.Errorf("the other answer is %q", other)
	}
	wantKeys(t, k, "a", "b", "c")
}

// A key's text is neither kept nor handed out twice: it may be a piece of a long one.
func TestKeysTextsAreNewMemory(t *testing.T) {
	k := once.New()
	long := strings.Repeat("long", 1000)
	key := long[7:12]
	k.Do(key, job(1))
	one, other := k.Keys()[0], k.Keys()[0]
	if one != key || other != key {
		t.Fatalf("Keys: %q, %q", one, other)
	}
	at := []*byte{unsafe.StringData(key), unsafe.StringData(one), unsafe.StringData(other)}
	if at[0] == at[1] || at[0] == at[2] || at[1] == at[2] {
		t.Error("a key's text is shared")
	}
}

// Keepers know nothing of one another.
func TestKeepersApart(t *testing.T) {
	one, other := once.New(), once.New()
	wantDo(t, one, "a", job(1), 1, true, api.OK)
	wantGet(t, other, "a", 0, api.ErrNone)
	wantRuns(t, other, 0)
	wantDo(t, other, "a", once.Wrong(), 0, true, api.ErrBroken)
	wantGet(t, one, "a", 1, api.OK)
}

// P5.3: one list is done in its order, each ask told what Do tells.
func TestCrewOfOne(t *testing.T) {
	k := once.New()
	wantDo(t, k, "there", job(9), 9, true, api.OK)
	wantDo(t, k, "gone", once.Wrong(), 0, true, api.ErrBroken)
	asks := []api.OnceAsk{
		{Key: "x", Value: 1}, {Key: "x", Value: 2}, {Key: "y", Value: 3, Fails: true}, {Key: "y", Value: 4},
		{Key: "there", Value: 5}, {Key: "there", Fails: true}, {Key: "gone", Value: 6}, {Key: "", Value: math.MinInt64}, {},
		{Key: "x", Value: 7, Fails: true}, {Key: "n", Value: 0},
	}
	before := slices.Clone(asks)
	told, err := k.Crew(asks)
	want := []api.OnceTold{
		{Value: 1, Ran: true}, {Value: 1}, {Ran: true, Err: api.ErrBroken}, {Err: api.ErrBroken},
		{Value: 9}, {Value: 9}, {Err: api.ErrBroken}, {Value: math.MinInt64, Ran: true}, {Value: math.MinInt64},
		{Value: 1}, {Ran: true},
	}
	if err != api.OK || len(told) != 1 || !slices.Equal(told[0], want) {
		t.Errorf("told: %v, %v", told, err)
	}
	if !slices.Equal(asks, before) {
		t.Error("the asks have changed")
	}
	wantKeys(t, k, "", "gone", "n", "there", "x", "y")
	wantRuns(t, k, 6)
}

// P5.3: crews of nobody, of lists without asks, and of as many as there may be.
func TestCrewsBounds(t *testing.T) {
	k := once.New()
	if told, err := k.Crew(); len(told) != 0 || err != api.OK {
		t.Errorf("nobody: %v, %v", told, err)
	}
	told, err := k.Crew(nil, []api.OnceAsk{}, []api.OnceAsk{{Key: "a", Value: 3}}, nil)
	if err != api.OK || len(told) != 4 || len(told[0])+len(told[1])+len(told[3]) != 0 || !slices.Equal(told[2], []api.OnceTold{{Value: 3, Ran: true}}) {
		t.Errorf("lists without asks: %v, %v", told, err)
	}
	asks := make([][]api.OnceAsk, api.MaxCrew)
	for i := range asks {
		asks[i] = []api.OnceAsk{{Key: "own" + strconv.Itoa(i), Value: int64(i)}, {Key: "all", Value: int64(i)}}
	}
	told, err = k.Crew(asks...)
	if err != api.OK || len(told) != api.MaxCrew {
		t.Fatalf("the greatest crew: %d, %v", len(told), err)
	}
	for i, list := range told {
		if len(list) != 2 || list[0] != (api.OnceTold{Value: int64(i), Ran: true}) || list[1].Ran != (list[1].Value == int64(i)) {
			t.Errorf("the list %d was told %v", i, list)
		}
	}
	runs, keys := k.Runs(), k.Keys()
	over := append(asks, []api.OnceAsk{{Key: "new", Value: 1}})
	if told, err := k.Crew(over...); told != nil || err != api.ErrArg {
		t.Errorf("one too many: %v, %v", told, err)
	}
	if runs != api.MaxCrew+2 {
		t.Errorf("Runs: %d", runs)
	}
	wantRuns(t, k, runs)
	wantKeys(t, k, keys...)
}

func TestCrewsAnswersAreNewMemory(t *testing.T) {
	k := once.New()
	told, _ := k.Crew([]api.OnceAsk{{Key: "a", Value: 1}}, nil, []api.OnceAsk{{Key: "b", Value: 2}})
	for i := range told {
		_ = append(told[i], api.OnceTold{Value: 77}, api.OnceTold{Value: 78})
	}
	if told[0][0].Value != 1 || told[2][0].Value != 2 || len(told[1]) != 0 {
		t.Errorf("lists of one answer share memory: %v", told)
	}
	told[0][0].Value = 99
	again, _ := k.Crew([]api.OnceAsk{{Key: "a"}})
	if again[0][0].Value != 1 {
		t.Errorf("an answer is kept: %v", again)
	}
}

// P5.5
func TestLateIsDoneWhenItIsAskedFor(t *testing.T) {
	times := 0
	l := late(t, func() int64 {
		times++
		return math.MinInt64
	})
	for range 3 {
		wantDone(t, l, false)
	}
	if times != 0 {
		t.Error("it was done ahead")
	}
	for i := range 3 {
		wantValue(t, l, math.MinInt64, i == 0, api.OK)
		wantDone(t, l, true)
	}
	if times != 1 {
		t.Errorf("it was done %d times", times)
	}
	other := late(t, job(0))
	wantDone(t, other, false)
	wantValue(t, other, 0, true, api.OK)
	wantValue(t, other, 0, false, api.OK)
}

// P5.6, and the rules for what is not there.
func TestNothing(t *testing.T) {
	for _, k := range []*once.Keeper{nil, {}} {
		wantDo(t, k, "a", never(t), 0, false, api.ErrNil)
		wantDo(t, k, "a", nil, 0, false, api.ErrNil)
		wantGet(t, k, "a", 0, api.ErrNil)
		wantForget(t, k, "a", api.ErrNil)
		wantRuns(t, k, 0)
		wantKeys(t, k)
		for _, many := range []int{0, 1, api.MaxCrew, api.MaxCrew + 1} {
			if told, err := k.Crew(make([][]api.OnceAsk, many)...); told != nil || err != api.ErrNil {
				t.Errorf("a crew of %d: %v, %v", many, told, err)
			}
		}
		wantRuns(t, k, 0)
		wantGet(t, k, "a", 0, api.ErrNil)
	}
	refused, _ := once.NewLate(nil)
	for _, l := range []*once.Late{nil, {}, refused} {
		wantValue(t, l, 0, false, api.ErrNil)
		wantDone(t, l, false)
	}
}

func TestErrBrokensNumber(t *testing.T) {
	if api.ErrBroken != 150 {
		t.Errorf("ErrBroken is %d", int(api.ErrBroken))
	}
}

// plain is a keeper for one goroutine, in the plainest way: known has a key's value, or that it is broken.
type plain struct {
	known map[string]api.OnceTold
	runs  int64
}

func (p *plain) do(ask api.OnceAsk) api.OnceTold {
	if told, there := p.known[ask.Key]; there {
		return told
	}
	p.runs++
	told := api.OnceTold{Value: ask.Value}
	if ask.Fails {
		told = api.OnceTold{Err: api.ErrBroken}
	}
	p.known[ask.Key] = told
	told.Ran = true
	return told
}

func (p *plain) get(key string) (int64, api.Errno) {
	told, there := p.known[key]
	if !there {
		return 0, api.ErrNone
	}
	return told.Value, told.Err
}

func (p *plain) forget(key string) api.Errno {
	if _, there := p.known[key]; !there {
		return api.ErrNone
	}
	delete(p.known, key)
	return api.OK
}

func (p *plain) keys() []string {
	var keys []string
	for key := range p.known {
		keys = append(keys, key)
	}
	slices.Sort(keys)
	return keys
}

func TestAgainstAPlainOne(t *testing.T) {
	r := rand.New(rand.NewSource(55))
	for range 200 {
		k, p := once.New(), &plain{known: map[string]api.OnceTold{}}
		for range 100 {
			key := string(rune('a' + r.Intn(6)))
			ask := api.OnceAsk{Key: key, Value: r.Int63n(9) - 4, Fails: r.Intn(3) == 0}
			switch r.Intn(5) {
			case 0:
				want := p.do(ask)
				of := job(ask.Value)
				if ask.Fails {
					of = once.Wrong()
				}
				wantDo(t, k, key, of, want.Value, want.Ran, want.Err)
			case 1:
				want := p.do(ask)
				if told, err := k.Crew([]api.OnceAsk{ask}); err != api.OK || !slices.Equal(told[0], []api.OnceTold{want}) {
					t.Errorf("Crew(%v): %v, %v, not %v", ask, told, err, want)
				}
			case 2:
				want, err := p.get(key)
				wantGet(t, k, key, want, err)
			default:
				wantForget(t, k, key, p.forget(key))
			}
			wantKeys(t, k, p.keys()...)
			wantRuns(t, k, p.runs)
		}
	}
}
