package purse_test

import (
	"bytes"
	"math/rand"
	"runtime"
	"slices"
	"sync"
	"sync/atomic"
	"testing"
	"time"

	"gavel/api"
	"gavel/purse"
)

// together lets goroutines do something at a time, and waits for them. They spin till all are there, so that they really meet.
func together(goroutines int, do func(g int)) {
	var all sync.WaitGroup
	var there atomic.Int64
	for g := range goroutines {
		all.Go(func() {
			there.Add(1)
			for there.Load() < int64(goroutines) {
				runtime.Gosched()
			}
			do(g)
		})
	}
	all.Wait()
}

// wantMayBe asks whether the three numbers may stand so (P0.5).
func wantMayBe(t *testing.T, c api.Coins) {
	t.Helper()
	if c.Held < 0 || c.Spent < 0 || c.Held+c.Spent > c.Budget || c.Budget > api.MaxCoins {
		t.Errorf("seen at one time: %v", c)
	}
}

// A model of the chapter's words, done alone: what would come is made first, and then asked whether it may be.

// asked is a call of a purse: of 'l' and 'r' it looks, of 'p' it pays held and c, else it does a step.
type asked struct {
	call    byte
	kind    api.PurseKind
	held, c int64
}

// told is what a call is answered: an error, numbers, what is free.
type told struct {
	err  api.Errno
	look api.Coins
	room int64
}

func free(c api.Coins) int64 { return c.Budget - c.Held - c.Spent }

func isCoins(c int64) bool { return 0 <= c && c <= api.MaxCoins }

// alone does a call to three numbers that nobody else turns.
func alone(now api.Coins, a asked) (api.Coins, told) {
	switch a.call {
	case 'l':
		return now, told{look: now}
	case 'r':
		return now, told{room: free(now)}
	case 'p':
		return aloneStep(now, api.Coins{Held: -a.held, Spent: a.c}, isCoins(a.held) && isCoins(a.c) && a.c <= a.held)
	}
	less := map[api.PurseKind]api.Coins{
		api.PurseHold:  {Held: a.c},
		api.PurseFree:  {Held: -a.c},
		api.PurseSpend: {Held: -a.c, Spent: a.c},
		api.PursePay:   {Held: -a.c, Spent: a.c},
		api.PurseBring: {Budget: a.c},
	}
	more, there := less[a.kind]
	return aloneStep(now, more, there && isCoins(a.c))
}

// aloneStep adds to each of the three numbers, if its arguments may be, and what comes of it may.
func aloneStep(now, more api.Coins, mayBe bool) (api.Coins, told) {
	then := coins(now.Budget+more.Budget, now.Held+more.Held, now.Spent+more.Spent)
	switch {
	case !mayBe:
		return now, told{err: api.ErrArg}
	case then.Budget > api.MaxCoins, then.Held >= 0 && free(then) < 0:
		return now, told{err: api.ErrBudget}
	case then.Held < 0:
		return now, told{err: api.ErrHeld}
	}
	return then, told{}
}

// ask does a call to a purse.
func ask(p *purse.Purse, a asked) told {
	switch a.call {
	case 'l':
		return told{look: p.Look()}
	case 'r':
		return told{room: p.Room()}
	case 'p':
		return told{err: p.Pay(a.held, a.c)}
	case 'd':
		return told{err: p.Do(op(a.kind, a.c))}
	}
	return told{err: byMethod(p, op(a.kind, a.c))}
}

// someCalls are all calls by some numbers.
func someCalls(numbers ...int64) []asked {
	calls := []asked{{call: 'l'}, {call: 'r'}}
	for _, c := range numbers {
		for kind := api.PurseKind(0); kind <= api.PurseBring+1; kind++ {
			calls = append(calls, asked{'m', kind, 0, c}, asked{'d', kind, 0, c})
		}
		for _, held := range numbers {
			calls = append(calls, asked{'p', 0, held, c})
		}
	}
	return calls
}

// TestEverySmallWalk: all walks of three calls with small numbers, against the model (P20.1, P20.2, P20.3).
func TestEverySmallWalk(t *testing.T) {
	calls := someCalls(-1, 0, 1, 2, 3, api.MaxCoins)
	var walk func(now api.Coins, left int)
	walk = func(now api.Coins, left int) {
		for _, a := range calls {
			p := stands(t, now.Budget, now.Held, now.Spent)
			then, want := alone(now, a)
			if got := ask(p, a); got != want || p.Look() != then {
				t.Fatalf("%v, %c %v: %v, %v, not %v, %v", now, a.call, a, got, p.Look(), want, then)
			}
			wantMayBe(t, p.Look())
			if left > 1 && then != now {
				walk(then, left-1)
			}
		}
	}
	for budget := range int64(5) {
		walk(coins(budget, 0, 0), 3)
		walk(coins(api.MaxCoins-budget, 2, 1), 2)
	}
}

// TestAnyWalk: purses of any size that go on for long, against the model.
func TestAnyWalk(t *testing.T) {
	r := rand.New(rand.NewSource(20))
	draw := func(now api.Coins) int64 {
		near := []int64{0, now.Held, free(now), api.MaxCoins, api.MaxCoins - now.Budget}
		switch r.Intn(5) {
		case 0, 1:
			return near[r.Intn(len(near))] + r.Int63n(3) - 1
		case 2:
			return noCoins[r.Intn(len(noCoins))]
		}
		return r.Int63n(int64(2) << r.Intn(41))
	}
	for range 400 {
		now := coins(r.Int63n(int64(2)<<r.Intn(40)), 0, 0)
		p := newPurse(t, now.Budget)
		for range 150 {
			a := asked{"lrpdm"[r.Intn(5)], api.PurseKind(r.Intn(7)), draw(now), draw(now)}
			then, want := alone(now, a)
			if got := ask(p, a); got != want || p.Look() != then {
				t.Fatalf("%v, %c %v: %v, %v, not %v, %v", now, a.call, a, got, p.Look(), want, then)
			}
			wantMayBe(t, then)
			now = then
		}
	}
}

// inSomeOrder says whether there is an order, with each list's own calls in theirs, in which the calls, done alone, are told all that, and come to that end (P20.2).
func inSomeOrder(begin, end api.Coins, asks [][]asked, tells [][]told) bool {
	type place struct {
		done [4]int
		now  api.Coins
	}
	dead := map[place]bool{}
	var from func(place) bool
	from = func(p place) bool {
		if dead[p] {
			return false
		}
		left := false
		for g := range asks {
			i := p.done[g]
			if i == len(asks[g]) {
				continue
			}
			left = true
			next := p
			var answer told
			next.now, answer = alone(p.now, asks[g][i])
			next.done[g]++
			if answer == tells[g][i] && from(next) {
				return true
			}
		}
		dead[p] = true
		return !left && p.now == end
	}
	return from(place{now: begin})
}

func TestAsIfOneBehindTheOther(t *testing.T) {
	calls := []asked{
		{call: 'l'}, {call: 'r'}, {'p', 0, 4, 1}, {'p', 0, 2, 2}, {'p', 0, 3, 0},
		{'m', api.PurseHold, 0, 3}, {'d', api.PurseHold, 0, 5}, {'m', api.PurseFree, 0, 2}, {'d', api.PurseFree, 0, 3},
		{'m', api.PurseSpend, 0, 1}, {'d', api.PursePay, 0, 2}, {'m', api.PurseBring, 0, 2}, {'m', api.PurseHold, 0, 4},
	}
	r := rand.New(rand.NewSource(21))
	for range 5000 {
		begin := coins(10, 2, 1)
		p := stands(t, 10, 2, 1)
		asks, tells := make([][]asked, 3), make([][]told, 3)
		for g := range asks {
			for range 6 {
				asks[g] = append(asks[g], calls[r.Intn(len(calls))])
			}
			tells[g] = make([]told, len(asks[g]))
		}
		together(len(asks), func(g int) {
			for i, a := range asks[g] {
				tells[g][i] = ask(p, a)
			}
		})
		if !inSomeOrder(begin, p.Look(), asks, tells) {
			t.Fatalf("there is no such order: %v: %v; in the end %v", asks, tells, p.Look())
		}
	}
}

// crewAsks draws lists of steps, and the same as calls.
func crewAsks(r *rand.Rand, lists, steps int) ([][]api.PurseOp, [][]asked) {
	ops, asks := make([][]api.PurseOp, lists), make([][]asked, lists)
	for g := range ops {
		for range steps {
			o := op(api.PurseKind(1+r.Intn(5)), r.Int63n(7))
			ops[g] = append(ops[g], o)
			asks[g] = append(asks[g], asked{'d', o.Kind, 0, o.Coins})
		}
	}
	return ops, asks
}

// TestCrewAsIfOneBehindTheOther: the same of a crew's goroutines, each list in its order (P20.4); in the end all that was answered OK is added up (P20.6).
func TestCrewAsIfOneBehindTheOther(t *testing.T) {
	r := rand.New(rand.NewSource(22))
	for range 5000 {
		p := stands(t, 10, 2, 1)
		ops, asks := crewAsks(r, 1+r.Intn(4), 5)
		answers, err := p.Crew(ops...)
		if err != api.OK || len(answers) != len(ops) {
			t.Fatalf("Crew: %v, %v", answers, err)
		}
		tells := make([][]told, len(answers))
		sum := coins(10, 2, 1)
		for g, list := range answers {
			if len(list) != len(ops[g]) {
				t.Fatalf("Crew: %v of %v", answers, ops)
			}
			for i, e := range list {
				tells[g] = append(tells[g], told{err: e})
				if e == api.OK {
					sum = addedUp(sum, ops[g][i])
				}
			}
		}
		if p.Look() != sum {
			t.Fatalf("%v: %v: added up %v, not %v", ops, answers, sum, p.Look())
		}
		if !inSomeOrder(coins(10, 2, 1), p.Look(), asks, tells) {
			t.Fatalf("there is no such order: %v: %v; in the end %v", ops, answers, p.Look())
		}
	}
}

// addedUp is three numbers and a step that was done.
func addedUp(c api.Coins, o api.PurseOp) api.Coins {
	switch o.Kind {
	case api.PurseHold:
		c.Held += o.Coins
	case api.PurseFree:
		c.Held -= o.Coins
	case api.PurseSpend, api.PursePay:
		c.Held -= o.Coins
		c.Spent += o.Coins
	case api.PurseBring:
		c.Budget += o.Coins
	}
	return c
}

// The checker of orders itself: answers and ends that no order could have are seen.
func TestNoOrderIsSeen(t *testing.T) {
	hold := asked{'m', api.PurseHold, 0, 6}
	asks := [][]asked{{hold, {call: 'l'}}, {hold}}
	tells := [][]told{{{}, {look: coins(10, 6, 0)}}, {{err: api.ErrBudget}}}
	if !inSomeOrder(coins(10, 0, 0), coins(10, 6, 0), asks, tells) {
		t.Error("an order is not found")
	}
	if inSomeOrder(coins(10, 0, 0), coins(10, 0, 0), asks, tells) {
		t.Error("nothing is held in the end?")
	}
	tells[1][0].err = api.OK
	if inSomeOrder(coins(10, 0, 0), coins(10, 6, 0), asks, tells) {
		t.Error("both hold 6 of 10?")
	}
	tells[0][1].look.Held, tells[0][0].err, tells[1][0].err = 0, api.ErrBudget, api.OK
	if inSomeOrder(coins(10, 0, 0), coins(10, 6, 0), asks, tells) {
		t.Error("nothing is held behind a Hold that was refused since 6 are?")
	}
}

// watch looks at a purse as long as goroutines do something.
func watch(p *purse.Purse, see func(c api.Coins, room int64), goroutines int, do func(g int)) {
	var doing atomic.Int64
	doing.Store(int64(goroutines))
	together(goroutines+2, func(g int) {
		if g < goroutines {
			do(g)
			doing.Add(-1)
			return
		}
		for doing.Load() > 0 {
			see(p.Look(), p.Room())
		}
	})
}

// P20.2, P20.3: nobody sees a step half done. What is spent of what is held leaves both together what they were; what is paid in part frees the rest at the same time.
func TestNobodySeesAStepHalfDone(t *testing.T) {
	const goroutines, each = 4, 5000
	all := int64(goroutines * each)
	p := stands(t, all, all, 0)
	watch(p, func(c api.Coins, room int64) {
		if c.Budget != all || c.Held+c.Spent != all || room != 0 {
			t.Errorf("seen: %v, %d", c, room)
		}
	}, goroutines, func(g int) {
		for i := range each {
			if i%2 == g%2 {
				wantErr(t, "Spend", p.Spend(1), api.OK)
			} else {
				wantErr(t, "Pay", p.Pay(1, 1), api.OK)
			}
		}
	})
	wantLook(t, p, all, 0, all)

	p = stands(t, 3*all, 3*all, 0)
	watch(p, func(c api.Coins, room int64) {
		if c.Budget != 3*all || c.Held != 3*all-3*c.Spent || room%2 != 0 {
			t.Errorf("seen: %v, %d", c, room)
		}
	}, goroutines, func(int) {
		for range each {
			wantErr(t, "Pay", p.Pay(3, 1), api.OK)
		}
	})
	wantLook(t, p, 3*all, 0, all)
}

// P20.6, P0.5: whatever many do at a time, whenever one looks held and spent are at most the budget.
func TestBudgetsWhoeverIsFirst(t *testing.T) {
	const goroutines, steps = 8, 4000
	p := newPurse(t, 50)
	sums := make([]api.Coins, goroutines)
	watch(p, func(c api.Coins, room int64) {
		wantMayBe(t, c)
		if room < 0 {
			t.Errorf("free: %d", room)
		}
	}, goroutines, func(g int) {
		r := rand.New(rand.NewSource(int64(g)))
		for range steps {
			o := op(api.PurseKind(1+r.Intn(5)), r.Int63n(30))
			if o.Kind == api.PurseBring {
				o.Coins %= 3
			}
			if p.Do(o) == api.OK {
				sums[g] = addedUp(sums[g], o)
			}
		}
	})
	want := coins(50, 0, 0)
	for _, s := range sums {
		want = coins(want.Budget+s.Budget, want.Held+s.Held, want.Spent+s.Spent)
	}
	if p.Look() != want {
		t.Errorf("in the end %v, added up %v", p.Look(), want)
	}
}

// P20.6: of a crew of Holds alone, who was refused asks for more than is free in the end.
func TestCrewOfHolds(t *testing.T) {
	r := rand.New(rand.NewSource(23))
	for range 500 {
		budget := r.Int63n(400)
		p := newPurse(t, budget)
		ops := make([][]api.PurseOp, 1+r.Intn(api.MaxCrew))
		for g := range ops {
			for range r.Intn(6) {
				ops[g] = append(ops[g], op(api.PurseHold, r.Int63n(20)))
			}
		}
		answers, err := p.Crew(ops...)
		if err != api.OK {
			t.Fatal(err)
		}
		held := int64(0)
		for g, list := range answers {
			for i, e := range list {
				switch {
				case e == api.OK:
					held += ops[g][i].Coins
				case e != api.ErrBudget || ops[g][i].Coins <= p.Room():
					t.Errorf("%d: %v of %d, with %d free in the end", g, e, ops[g][i].Coins, p.Room())
				}
			}
		}
		wantLook(t, p, budget, held, 0)
		wantMayBe(t, p.Look())
	}
}

// P20.6: of a crew whose lists only hold, and then free, spend or pay just what they held, nothing is refused, if no Hold is.
func TestCrewThatHoldsFirst(t *testing.T) {
	r := rand.New(rand.NewSource(24))
	for range 300 {
		ops := make([][]api.PurseOp, 1+r.Intn(api.MaxCrew))
		var all, spent int64
		for g := range ops {
			for range 1 + r.Intn(8) {
				c, kind := r.Int63n(50), api.PurseFree+api.PurseKind(r.Intn(3))
				ops[g] = append(ops[g], op(api.PurseHold, c), op(kind, c))
				all += c
				if kind != api.PurseFree {
					spent += c
				}
			}
		}
		p := newPurse(t, all)
		answers, err := p.Crew(ops...)
		if err != api.OK {
			t.Fatal(err)
		}
		for g, list := range answers {
			for i, e := range list {
				if e != api.OK {
					t.Errorf("%d, %v: %v", g, ops[g][i], e)
				}
			}
		}
		wantLook(t, p, all, 0, spent)
	}
}

// crewNow is how many goroutines there are that the package has begun. The stacks are written while all else stands still, so that it is just as many as there were at one time.
func crewNow() int {
	room := make([]byte, 1<<20)
	return bytes.Count(room[:runtime.Stack(room, true)], []byte("created by gavel/purse."))
}

// P20.4: all goroutines have ended when Crew answers: nothing turns the purse any more, and none is left. (A goroutine that has told that it is done may need a moment to be gone.)
func TestCrewHasEnded(t *testing.T) {
	for range 100 {
		p := newPurse(t, api.MaxCoins)
		list := slices.Repeat([]api.PurseOp{op(api.PurseHold, 1)}, 50)
		if _, err := p.Crew(slices.Repeat([][]api.PurseOp{list}, api.MaxCrew)...); err != api.OK {
			t.Fatal(err)
		}
		wantLook(t, p, api.MaxCoins, 50*api.MaxCrew, 0)
	}
	for tries := 0; crewNow() > 0; tries++ {
		if tries == 500 {
			t.Fatalf("%d goroutines are left", crewNow())
		}
		time.Sleep(10 * time.Millisecond)
	}
}

// P20.4: a goroutine for each list: some time more than half of them are seen, while all have much to do. (Not all: on a machine that is busy the first ones may be done ahead of a look.)
func TestCrewIsAsManyAsLists(t *testing.T) {
	defer runtime.GOMAXPROCS(runtime.GOMAXPROCS(4))
	p := newPurse(t, api.MaxCoins)
	lists := slices.Repeat([][]api.PurseOp{slices.Repeat([]api.PurseOp{op(api.PurseHold, 1)}, 2000)}, api.MaxCrew)
	seen := 0
	for tries := 0; tries < 1000 && seen <= api.MaxCrew/2; tries++ {
		var ended atomic.Bool
		go func() {
			defer ended.Store(true)
			p.Crew(lists...)
		}()
		for !ended.Load() {
			seen = max(seen, crewNow())
		}
	}
	if seen <= api.MaxCrew/2 {
		t.Errorf("%d goroutines were seen at most", seen)
	}
}

// Several crews at one purse at a time.
func TestCrewsTogether(t *testing.T) {
	const crews = 4
	p := newPurse(t, 1000)
	taken := make([]int64, crews)
	watch(p, func(c api.Coins, _ int64) { wantMayBe(t, c) }, crews, func(g int) {
		answers, err := p.Crew(slices.Repeat([][]api.PurseOp{slices.Repeat([]api.PurseOp{op(api.PurseHold, 3)}, 20)}, 16)...)
		wantErr(t, "Crew", err, api.OK)
		for _, list := range answers {
			for _, e := range list {
				if e == api.OK {
					taken[g]++
				}
			}
		}
	})
	if sum := taken[0] + taken[1] + taken[2] + taken[3]; sum != 333 {
		t.Errorf("%v are taken", taken)
	}
	wantLook(t, p, 1000, 999, 0)
}

// P20.5, P0.5: what many move to and fro is nowhere lost or made: what is not spent of all budgets is what it was.
func TestManyMove(t *testing.T) {
	const goroutines, moves, each = 8, 3000, 100
	purses := []*purse.Purse{newPurse(t, each), newPurse(t, each), newPurse(t, each), newPurse(t, each)}
	watch(purses[0], func(c api.Coins, _ int64) {
		for _, p := range purses {
			wantMayBe(t, p.Look())
		}
		wantMayBe(t, c)
	}, goroutines, func(g int) {
		r := rand.New(rand.NewSource(int64(g)))
		for range moves {
			from, to := purses[r.Intn(len(purses))], purses[r.Intn(len(purses))]
			if err := purse.Move(from, to, r.Int63n(60)); err != api.OK && err != api.ErrBudget {
				t.Errorf("Move: %v", err)
			}
		}
	})
	var unspent int64
	for _, p := range purses {
		unspent += p.Room()
	}
	if unspent != each*int64(len(purses)) {
		t.Errorf("%d are left", unspent)
	}
}

// P20.5: Moves that are refused by the other purse, at a time: each gives back what it took, and the first purse stands as ahead.
func TestManyMoveToAFullOne(t *testing.T) {
	const goroutines, moves = 8, 3000
	from, to := stands(t, 20, 8, 5), stands(t, api.MaxCoins-1, 4, 4)
	watch(from, func(c api.Coins, room int64) {
		wantMayBe(t, c)
		if c.Budget != 20 || c.Held != 8 || c.Spent < 5 || (c.Spent-5)%3 != 0 || room < 1 || (room-1)%3 != 0 || to.Look() != coins(api.MaxCoins-1, 4, 4) {
			t.Errorf("seen: %v, %d, %v", c, room, to.Look())
		}
	}, goroutines, func(int) {
		for range moves {
			wantErr(t, "Move", purse.Move(from, to, 3), api.ErrBudget)
		}
	})
	wantLook(t, from, 20, 8, 5)
	wantLook(t, to, api.MaxCoins-1, 4, 4)
}

// Where there is room for one Move alone, one of many is done, and the others give back what they took.
func TestOneMoveFits(t *testing.T) {
	for range 300 {
		from, to := newPurse(t, 100), newPurse(t, api.MaxCoins-7)
		var moved atomic.Int64
		together(8, func(int) {
			if purse.Move(from, to, 5) == api.OK {
				moved.Add(1)
			}
		})
		if moved.Load() != 1 {
			t.Fatalf("%d have moved", moved.Load())
		}
		wantLook(t, from, 100, 0, 5)
		wantLook(t, to, api.MaxCoins-2, 0, 0)
	}
}
