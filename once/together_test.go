package once_test

import (
	"math/rand"
	"runtime"
	"slices"
	"strconv"
	"strings"
	"sync"
	"sync/atomic"
	"testing"
	"time"
	"unsafe"
	"weak"

	"gavel/api"
	"gavel/once"
)

// meet lets goroutines begin at a time, each spinning till all are there, and waits for their ends.
func meet(goroutines int64, do func(g int)) {
	var all sync.WaitGroup
	var missing atomic.Int64
	missing.Store(goroutines)
	for g := range int(goroutines) {
		all.Go(func() {
			for missing.Add(-1); missing.Load() > 0; {
				runtime.Gosched()
			}
			do(g)
		})
	}
	all.Wait()
}

// P5.1: of all calls for a key that come at a time, one does its job; the others wait till that is over.
func TestOneDoesTheJob(t *testing.T) {
	for round := range 300 {
		k := once.New()
		fails := round%3 == 0
		var begun, over, ran, first atomic.Int64
		meet(16, func(g int) {
			value, mine, err := k.Do("a", func() int64 {
				begun.Add(1)
				for range 20 {
					runtime.Gosched()
				}
				first.Store(int64(g) + 1)
				over.Add(1)
				if fails {
					panic("as asked")
				}
				return int64(g) + 1
			})
			if over.Load() != 1 {
				t.Error("one has not waited till the job was over")
			}
			if mine {
				ran.Add(1)
			}
			want, wantErr := first.Load(), api.OK
			if fails {
				want, wantErr = 0, api.ErrBroken
			}
			if value != want || err != wantErr || mine != (first.Load() == int64(g)+1) {
				t.Errorf("told: %d, %v, %v, not %d, %v", value, mine, err, want, wantErr)
			}
			if x, err := k.Get("a"); x != want || err != wantErr {
				t.Errorf("then Get: %d, %v", x, err)
			}
			if k.Runs() != 1 {
				t.Errorf("then Runs: %d", k.Runs())
			}
		})
		if begun.Load() != 1 || ran.Load() != 1 {
			t.Fatalf("%d jobs were done, %d were told so", begun.Load(), ran.Load())
		}
	}
}

// P5.5: the same of a Late.
func TestOneDoesTheLateJob(t *testing.T) {
	for round := range 300 {
		fails := round%3 == 0
		var begun, over, ran atomic.Int64
		l := late(t, func() int64 {
			begun.Add(1)
			for range 20 {
				runtime.Gosched()
			}
			over.Add(1)
			if fails {
				panic("as asked")
			}
			return 6
		})
		meet(16, func(g int) {
			if g%4 == 0 {
				if done := l.Done(); done && over.Load() == 0 {
					t.Error("done ahead of its end")
				}
			}
			value, mine, err := l.Value()
			if over.Load() != 1 || !l.Done() {
				t.Error("one has not waited till the job was over")
			}
			if mine {
				ran.Add(1)
			}
			if fails && (value != 0 || err != api.ErrBroken) || !fails && (value != 6 || err != api.OK) {
				t.Errorf("told: %d, %v, %v", value, mine, err)
			}
		})
		if begun.Load() != 1 || ran.Load() != 1 {
			t.Fatalf("%d jobs were done, %d were told so", begun.Load(), ran.Load())
		}
	}
}

// While a job is held up, no call waits but who asks for its key.
func TestNobodyElseWaits(t *testing.T) {
	k := once.New()
	wantDo(t, k, "there", job(1), 1, true, api.OK)
	begun, goOn := make(chan int), make(chan int)
	var all sync.WaitGroup
	all.Go(func() {
		wantDo(t, k, "held", func() int64 {
			close(begun)
			<-goOn
			return 2
		}, 2, true, api.OK)
	})
	<-begun
	var over atomic.Bool
	for range 4 {
		all.Go(func() {
			wantDo(t, k, "held", never(t), 2, false, api.OK)
			if !over.Load() {
				t.Error("one has not waited")
			}
		})
	}
	for range 50 {
		wantGet(t, k, "held", 0, api.ErrNone)
		wantForget(t, k, "held", api.ErrNone)
		wantKeys(t, k, "there")
		runtime.Gosched()
	}
	wantRuns(t, k, 1)
	wantDo(t, k, "other", once.Wrong(), 0, true, api.ErrBroken)
	if told, err := k.Crew([]api.OnceAsk{{Key: "crew", Value: 3}}, []api.OnceAsk{{Key: "there"}}); err != api.OK || told[0][0].Value != 3 || told[1][0].Value != 1 {
		t.Errorf("Crew: %v, %v", told, err)
	}
	wantForget(t, k, "there", api.OK)
	wantKeys(t, k, "crew", "other")
	over.Store(true)
	close(goOn)
	all.Wait()
	wantKeys(t, k, "crew", "held", "other")
	wantRuns(t, k, 4)
}

// Done of a Late never waits, nor does it tell of a job that goes on.
func TestDoneDoesNotWait(t *testing.T) {
	begun, goOn := make(chan int), make(chan int)
	l := late(t, func() int64 {
		close(begun)
		<-goOn
		return 2
	})
	var all sync.WaitGroup
	all.Go(func() { wantValue(t, l, 2, true, api.OK) })
	<-begun
	wantDone(t, l, false)
	close(goOn)
	all.Wait()
	wantDone(t, l, true)
}

// P5.4, with keys of which nothing is known, that are done, and that are broken ahead.
func TestWhatHoldsOfCrewsInAnyOrder(t *testing.T) {
	r := rand.New(rand.NewSource(54))
	for range 300 {
		k := once.New()
		k.Do("done", job(-5))
		k.Do("broken", once.Wrong())
		keys := []string{"done", "broken", "new", "newer", "newest", ""}
		asks := make([][]api.OnceAsk, 1+r.Intn(12))
		for i := range asks {
			for range r.Intn(12) {
				asks[i] = append(asks[i], api.OnceAsk{Key: keys[r.Intn(len(keys))], Value: r.Int63n(1000), Fails: r.Intn(2) == 0})
			}
		}
		runs := k.Runs()
		told, err := k.Crew(asks...)
		if err != api.OK || len(told) != len(asks) {
			t.Fatalf("Crew: %v, %v", told, err)
		}
		ran := map[string]api.OnceAsk{}
		for i, list := range told {
			if len(list) != len(asks[i]) {
				t.Fatalf("%d asks were told %d things", len(asks[i]), len(list))
			}
			for j, one := range list {
				ask := asks[i][j]
				if _, twice := ran[ask.Key]; one.Ran && twice {
					t.Errorf("two have done the job of %q", ask.Key)
				}
				if one.Ran {
					ran[ask.Key] = ask
				}
			}
		}
		if k.Runs() != runs+int64(len(ran)) {
			t.Errorf("Runs: %d, from %d on, with %d that ran", k.Runs(), runs, len(ran))
		}
		if _, there := ran["done"]; there {
			t.Error("a key was done again")
		}
		if _, there := ran["broken"]; there {
			t.Error("a broken key was done again")
		}
		ran["done"], ran["broken"] = api.OnceAsk{Value: -5}, api.OnceAsk{Fails: true}
		wantAllTold(t, k, asks, told, ran)
	}
}

// wantAllTold wants that all were told what the ask that ran makes of its key, and that it stands there.
func wantAllTold(t *testing.T, k *once.Keeper, asks [][]api.OnceAsk, told [][]api.OnceTold, ran map[string]api.OnceAsk) {
	t.Helper()
	for i, list := range asks {
		for j, ask := range list {
			by, there := ran[ask.Key]
			want := api.OnceTold{Value: by.Value, Ran: told[i][j].Ran}
			if by.Fails {
				want = api.OnceTold{Ran: told[i][j].Ran, Err: api.ErrBroken}
			}
			if !there || told[i][j] != want {
				t.Errorf("of %q was told %v, not %v", ask.Key, told[i][j], want)
			}
			wantGet(t, k, ask.Key, want.Value, want.Err)
		}
	}
}

// A crew's asks are done at a time: two lists go on though a third one is held up.
func TestCrewsListsGoByThemselves(t *testing.T) {
	k := once.New()
	begun, goOn := make(chan int), make(chan int)
	var all sync.WaitGroup
	all.Go(func() {
		k.Do("held", func() int64 {
			close(begun)
			<-goOn
			return 2
		})
	})
	<-begun
	all.Go(func() {
		told, err := k.Crew([]api.OnceAsk{{Key: "held", Value: 9}, {Key: "behind", Value: 5}}, []api.OnceAsk{{Key: "free", Value: 7}})
		if err != api.OK || told[0][0] != (api.OnceTold{Value: 2}) || told[0][1] != (api.OnceTold{Value: 5, Ran: true}) || told[1][0] != (api.OnceTold{Value: 7, Ran: true}) {
			t.Errorf("Crew: %v, %v", told, err)
		}
	})
	for range 10000 {
		if _, err := k.Get("free"); err == api.OK {
			break
		}
		time.Sleep(time.Millisecond)
	}
	wantGet(t, k, "free", 7, api.OK)
	wantGet(t, k, "behind", 0, api.ErrNone)
	close(goOn)
	all.Wait()
	wantGet(t, k, "behind", 5, api.OK)
}

// P5.3: no goroutine of a crew is left.
func TestCrewsGoroutinesHaveEnded(t *testing.T) {
	before := runtime.NumGoroutine()
	k := once.New()
	for range 50 {
		asks := make([][]api.OnceAsk, api.MaxCrew)
		for i := range asks {
			asks[i] = []api.OnceAsk{{Key: "a", Fails: true}, {Key: "b"}}
		}
		k.Crew(asks...)
		k.Forget("a")
	}
	// One that has told its end may still have to be taken away.
	for range 1000 {
		if runtime.NumGoroutine() <= before {
			return
		}
		time.Sleep(time.Millisecond)
	}
	t.Errorf("%d goroutines, %d ahead", runtime.NumGoroutine(), before)
}

// What a job holds is not kept behind its end.
func TestJobsAreNotKept(t *testing.T) {
	type big struct{ room [1 << 16]int64 }
	k := once.New()
	lates := make([]*once.Late, 2)
	var left []weak.Pointer[big]
	func() {
		for i := range lates {
			held := &big{}
			left = append(left, weak.Make(held))
			use := func() int64 {
				if i == 1 {
					panic(held)
				}
				return held.room[7]
			}
			k.Do(strconv.Itoa(i), use)
			lates[i] = late(t, use)
			lates[i].Value()
		}
	}()
	for range 100 {
		runtime.GC()
		if left[0].Value() == nil && left[1].Value() == nil {
			break
		}
	}
	if left[0].Value() != nil || left[1].Value() != nil {
		t.Error("what a job held is held still")
	}
	wantGet(t, k, "0", 0, api.OK)
	wantGet(t, k, "1", 0, api.ErrBroken)
	wantDone(t, lates[0], true)
	wantDone(t, lates[1], true)
}

// Of a key that is a piece of a long text that text is not kept.
func TestALongTextIsNotKept(t *testing.T) {
	k := once.New()
	left := func() weak.Pointer[byte] {
		long := strings.Repeat("long", 1<<18)
		k.Do(long[1:4], job(1))
		return weak.Make(unsafe.StringData(long))
	}()
	for range 100 {
		if runtime.GC(); left.Value() == nil {
			break
		}
	}
	if left.Value() != nil {
		t.Error("the long text is held still")
	}
	wantKeys(t, k, "ong")
}

// The keeper's calls by many at a time, held against all orders of them.

type call struct {
	name string
	ask  api.OnceAsk
}

type answer struct {
	told api.OnceTold
	keys string
}

const (
	nothing = iota
	isDone
	isBroken
)

// state is what a keeper knows of the keys a and b.
type state struct {
	what  [2]int
	value [2]int64
	runs  int64
}

func place(key string) int { return int(key[0] - 'a') }

// alone does one call, with nobody else there.
func (s state) alone(c call) (state, answer) {
	switch c.name {
	case "runs":
		return s, answer{told: api.OnceTold{Value: s.runs}}
	case "keys":
		keys := ""
		for i, what := range s.what {
			if what != nothing {
				keys += string(rune('a' + i))
			}
		}
		return s, answer{keys: keys}
	}
	at := place(c.ask.Key)
	if s.what[at] == nothing && c.name != "do" {
		return s, answer{told: api.OnceTold{Err: api.ErrNone}}
	}
	ran := s.what[at] == nothing
	if ran {
		s.runs++
		s.what[at], s.value[at] = isDone, c.ask.Value
		if c.ask.Fails {
			s.what[at], s.value[at] = isBroken, 0
		}
	}
	told := api.OnceTold{Value: s.value[at], Ran: ran}
	if s.what[at] == isBroken {
		told.Err = api.ErrBroken
	}
	if c.name == "forget" {
		s.what[at], s.value[at] = nothing, 0
		told = api.OnceTold{}
	}
	return s, answer{told: told}
}

// ask does a call at a keeper.
func ask(k *once.Keeper, c call) answer {
	var a answer
	switch c.name {
	case "runs":
		a.told.Value = k.Runs()
	case "keys":
		for _, key := range k.Keys() {
			a.keys += key
		}
	case "get":
		a.told.Value, a.told.Err = k.Get(c.ask.Key)
	case "forget":
		a.told.Err = k.Forget(c.ask.Key)
	default:
		a.told.Value, a.told.Ran, a.told.Err = k.Do(c.ask.Key, func() int64 {
			runtime.Gosched()
			if c.ask.Fails {
				panic("as asked")
			}
			return c.ask.Value
		})
	}
	return a
}

// ordered says whether some order of the calls, each list's own in theirs, is told the answers, and leaves the end.
func ordered(calls [][]call, answers [][]answer, end state) bool {
	type point struct {
		done  [4]int
		state state
	}
	dead := map[point]bool{}
	var from func(point) bool
	from = func(p point) bool {
		if dead[p] {
			return false
		}
		left := false
		for g, list := range calls {
			i := p.done[g]
			if i == len(list) {
				continue
			}
			left = true
			next := p
			var a answer
			next.state, a = p.state.alone(list[i])
			next.done[g]++
			if a == answers[g][i] && from(next) {
				return true
			}
		}
		if !left {
			return p.state == end
		}
		dead[p] = true
		return false
	}
	return from(point{})
}

// endOf is what a keeper knows.
func endOf(k *once.Keeper) state {
	var s state
	s.runs = k.Runs()
	for i, key := range []string{"a", "b"} {
		x, err := k.Get(key)
		s.value[i] = x
		s.what[i] = map[api.Errno]int{api.OK: isDone, api.ErrBroken: isBroken, api.ErrNone: nothing}[err]
	}
	return s
}

func TestAsIfOneBehindTheOther(t *testing.T) {
	r := rand.New(rand.NewSource(51))
	rounds := 10000
	if testing.Short() {
		rounds = 500
	}
	names := []string{"do", "do", "do", "get", "forget", "forget", "runs", "keys"}
	for round := range rounds {
		calls, answers := make([][]call, 4), make([][]answer, 4)
		for g := range calls {
			for i := range 5 {
				c := call{name: names[r.Intn(len(names))]}
				c.ask = api.OnceAsk{Key: string(rune('a' + r.Intn(1+round%2))), Value: int64(10*g + i + 1), Fails: r.Intn(4) == 0}
				calls[g] = append(calls[g], c)
			}
		}
		k := once.New()
		meet(4, func(g int) {
			for _, c := range calls[g] {
				answers[g] = append(answers[g], ask(k, c))
			}
		})
		if end := endOf(k); !ordered(calls, answers, end) {
			t.Fatalf("there is no such order: %v: %v; in the end %v", calls, answers, end)
		}
	}
}

// The check of orders itself sees what can't be.
func TestNoOrderIsSeen(t *testing.T) {
	do := func(x int64) call { return call{"do", api.OnceAsk{Key: "a", Value: x}} }
	calls := [][]call{{do(1), {name: "runs"}}, {do(2), {name: "get", ask: api.OnceAsk{Key: "a"}}}}
	told := func(x int64, ran bool) answer { return answer{told: api.OnceTold{Value: x, Ran: ran}} }
	right := [][]answer{{told(1, true), told(1, false)}, {told(1, false), told(1, false)}}
	end := state{what: [2]int{isDone, nothing}, value: [2]int64{1, 0}, runs: 1}
	if !ordered(calls, right, end) {
		t.Error("an order is not found")
	}
	for _, wrong := range [][][]answer{
		{{told(1, true), told(1, false)}, {told(2, true), told(1, false)}},
		{{told(1, false), told(1, false)}, {told(1, false), told(1, false)}},
		{{told(1, true), told(0, false)}, {told(1, false), told(1, false)}},
		{{told(1, true), told(1, false)}, {told(1, false), told(2, false)}},
	} {
		if ordered(calls, wrong, end) {
			t.Errorf("an order is found for %v", wrong)
		}
	}
	if end.runs = 2; ordered(calls, right, end) {
		t.Error("an order is found with another end")
	}
}

// A job is over and counted in one step: who sees its key done, sees it counted, and the other way round.
func TestOverAndCountedAtOnce(t *testing.T) {
	const keys = 20000
	k := once.New()
	var over atomic.Bool
	meet(4, func(g int) {
		if g == 0 {
			for i := range keys {
				k.Do(strconv.Itoa(i), job(int64(i)))
			}
			over.Store(true)
			return
		}
		for !over.Load() {
			n := k.Runs()
			if n > 0 {
				if _, err := k.Get(strconv.FormatInt(n-1, 10)); err != api.OK {
					t.Errorf("the job %d is counted, but not over", n)
					return
				}
			}
			if _, err := k.Get(strconv.FormatInt(n, 10)); err == api.OK && k.Runs() <= n {
				t.Errorf("the job %d is over, but not counted", n+1)
				return
			}
		}
	})
	wantRuns(t, k, keys)
	if !slices.IsSorted(k.Keys()) || len(k.Keys()) != keys {
		t.Errorf("%d keys", len(k.Keys()))
	}
}
