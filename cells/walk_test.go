package cells_test

import (
	"cmp"
	"math"
	"math/rand"
	"runtime"
	"slices"
	"testing"
	"time"

	"gavel/api"
	"gavel/cells"
)

func add(x int64) api.CellOp   { return api.CellOp{Kind: api.CellAdd, X: x} }
func raise(x int64) api.CellOp { return api.CellOp{Kind: api.CellRaise, X: x} }
func offer(x int64) api.CellOp { return api.CellOp{Kind: api.CellOffer, X: x} }
func arrive() api.CellOp       { return api.CellOp{Kind: api.CellArrive} }
func take() api.CellOp         { return api.CellOp{Kind: api.CellTake} }

func answer(a int64, yes bool, at int) api.CellAnswer { return api.CellAnswer{A: a, Yes: yes, At: at} }

// start is one at which every cell takes something.
func start() api.CellStart { return api.CellStart{Mark: 0, Gate: 1, Tickets: 1} }

type workers [][]api.CellOp
type answers [][]api.CellAnswer

func sameAnswers(a, b [][]api.CellAnswer) bool {
	return slices.EqualFunc(a, b, func(x, y []api.CellAnswer) bool { return slices.Equal(x, y) })
}

func wantWalk(t *testing.T, s api.CellStart, ops workers, picks []int, want answers, wantEnd api.CellEnd) {
	t.Helper()
	got, end, err := cells.Walk(s, ops, picks)
	if !sameAnswers(got, want) || end != wantEnd || err != api.OK {
		t.Errorf("Walk(%v, %v, %v): %v, %v, %v, not %v, %v", s, ops, picks, got, end, err, want, wantEnd)
	}
}

func TestExamplesOfWalk(t *testing.T) {
	wantWalk(t, start(), workers{{take()}, {take()}}, []int{0, 1, 1, 0},
		answers{{answer(0, false, 3)}, {answer(0, true, 2)}}, api.CellEnd{Taken: 1})
	wantWalk(t, start(), workers{{raise(5)}, {raise(7)}}, []int{0, 1, 1, 0, 0},
		answers{{answer(7, false, 3)}, {answer(0, true, 2)}}, api.CellEnd{Mark: 7})
}

// How many steps each op has, and what it is answered, if nobody comes in between.
func TestStepsAlone(t *testing.T) {
	s := api.CellStart{Mark: 3, Gate: 2, Tickets: 1}
	ops := workers{{add(5), add(-6), raise(3), raise(4), offer(-9), offer(-9), offer(-8), arrive(), arrive(), take(), take(), {Kind: 0, X: 4}, {Kind: 6, X: 4}}}
	want := answers{{
		answer(5, true, 0), answer(-1, true, 1),
		answer(3, false, 2), answer(3, true, 4),
		answer(-9, true, 6), answer(-9, false, 7), answer(-8, true, 9),
		answer(0, false, 10), answer(1, true, 11),
		answer(0, true, 13), answer(0, false, 14),
		answer(0, false, 15), answer(0, false, 16),
	}}
	wantWalk(t, s, ops, make([]int, 17), want, api.CellEnd{Sum: -1, Mark: 4, Who: 0, Best: -8, Any: true, Arrived: 2, Open: true, Taken: 1})
	wantWalk(t, s, ops, make([]int, 40), want, api.CellEnd{Sum: -1, Mark: 4, Who: 0, Best: -8, Any: true, Arrived: 2, Open: true, Taken: 1})
}

// An op of which only the look was done has no answer, and has done nothing.
func TestHalfDone(t *testing.T) {
	for _, op := range []api.CellOp{raise(9), offer(9), take()} {
		wantWalk(t, start(), workers{{op}}, []int{0}, answers{{}}, api.CellEnd{})
	}
	wantWalk(t, start(), workers{{add(2), raise(9)}, {arrive()}}, []int{0, 0}, answers{{answer(2, true, 0)}, {}}, api.CellEnd{Sum: 2})
}

func TestStepsOfSeveral(t *testing.T) {
	three := api.CellStart{Mark: 0, Gate: 3, Tickets: 3}
	// A put that fails looks, within the same step; the one behind it puts.
	wantWalk(t, three, workers{{take()}, {take()}}, []int{0, 1, 1, 0, 0},
		answers{{answer(1, true, 4)}, {answer(0, true, 2)}}, api.CellEnd{Taken: 2})
	wantWalk(t, three, workers{{raise(7)}, {raise(5)}}, []int{0, 1, 1, 0, 0},
		answers{{answer(5, true, 4)}, {answer(0, true, 2)}}, api.CellEnd{Mark: 7})
	// It may fail again and again.
	wantWalk(t, three, workers{{raise(9)}, {raise(5), raise(6), raise(7)}}, []int{0, 1, 1, 0, 1, 1, 0, 1, 1, 0, 0},
		answers{{answer(7, true, 10)}, {answer(0, true, 2), answer(5, true, 5), answer(6, true, 8)}}, api.CellEnd{Mark: 9})
	// Of offers of one number the lesser worker's takes the place, whoever is first.
	wantWalk(t, three, workers{{offer(4)}, {offer(4)}}, []int{0, 1, 1, 0, 0},
		answers{{answer(4, true, 4)}, {answer(4, true, 2)}}, api.CellEnd{Who: 0, Best: 4, Any: true})
	wantWalk(t, three, workers{{offer(4)}, {offer(4)}}, []int{0, 1, 0, 1},
		answers{{answer(4, true, 2)}, {answer(4, false, 3)}}, api.CellEnd{Who: 0, Best: 4, Any: true})
	wantWalk(t, three, workers{{offer(4)}, {offer(5)}, {offer(5)}}, []int{0, 1, 2, 2, 0, 1, 1},
		answers{{answer(4, false, 4)}, {answer(5, true, 6)}, {answer(5, true, 3)}}, api.CellEnd{Who: 1, Best: 5, Any: true})
	// Stripes are the workers' own; those who arrive are counted together.
	wantWalk(t, three, workers{{add(1), arrive()}, {add(10), arrive()}, {add(100), add(100), arrive()}}, []int{2, 1, 0, 0, 2, 2, 1},
		answers{{answer(1, true, 2), answer(0, false, 3)}, {answer(10, true, 1), answer(2, true, 6)}, {answer(100, true, 0), answer(200, true, 4), answer(1, false, 5)}},
		api.CellEnd{Sum: 211, Arrived: 3, Open: true})
}

func TestPicks(t *testing.T) {
	ops := workers{{add(1)}, {add(2)}, {add(3)}}
	for _, x := range []struct{ pick, worker int }{
		{0, 0}, {1, 1}, {2, 2}, {3, 0}, {4, 1}, {5, 2}, {300, 0}, {-1, 2}, {-2, 1}, {-3, 0}, {-4, 2}, {-300, 0},
		{math.MaxInt, 1}, {math.MaxInt - 1, 0}, {math.MinInt, 1}, {math.MinInt + 1, 2}, {math.MinInt + 2, 0},
	} {
		want := make(answers, 3)
		sum := int64(x.worker) + 1
		want[x.worker] = []api.CellAnswer{answer(sum, true, 0)}
		wantWalk(t, start(), ops, []int{x.pick}, want, api.CellEnd{Sum: sum})
	}
	// Whose ops are done is passed by, and At counts the picks all the same.
	wantWalk(t, start(), ops, []int{0, 0, 3, 1, -3, 2}, answers{{answer(1, true, 0)}, {answer(2, true, 3)}, {answer(3, true, 5)}}, api.CellEnd{Sum: 6})
	wantWalk(t, start(), workers{{}, nil, {add(4)}}, []int{0, 1, 0, 2, 1}, answers{{}, {}, {answer(4, true, 3)}}, api.CellEnd{Sum: 4})
}

func TestNothingIsPicked(t *testing.T) {
	s := api.CellStart{Mark: -7, Gate: 2, Tickets: 5}
	for _, picks := range [][]int{nil, {}} {
		wantWalk(t, s, workers{{add(1)}, {take()}}, picks, answers{{}, {}}, api.CellEnd{Mark: -7})
	}
	for n := 1; n <= api.MaxCrew; n++ {
		wantWalk(t, s, make(workers, n), []int{0, 1, 2}, make(answers, n), api.CellEnd{Mark: -7})
	}
}

func TestBoundsOfStart(t *testing.T) {
	s := api.CellStart{Mark: least, Gate: math.MaxInt, Tickets: greatest}
	wantWalk(t, s, workers{{raise(greatest), arrive(), take()}}, make([]int, 5), answers{{answer(least, true, 1), answer(0, false, 2), answer(0, true, 4)}},
		api.CellEnd{Mark: greatest, Arrived: 1, Taken: 1})
	wantWalk(t, api.CellStart{Mark: greatest, Gate: 1}, workers{{raise(greatest), arrive(), take()}}, make([]int, 3), answers{{answer(greatest, false, 0), answer(0, true, 1), answer(0, false, 2)}},
		api.CellEnd{Mark: greatest, Arrived: 1, Open: true})
	wantWalk(t, start(), workers{{add(greatest), add(1), add(least)}, {add(-1)}}, []int{0, 0, 0, 1}, answers{{answer(greatest, true, 0), answer(least, true, 1), answer(0, true, 2)}, {answer(-1, true, 3)}},
		api.CellEnd{Sum: -1})
	wantWalk(t, start(), workers{{offer(least)}}, []int{0, 0}, answers{{answer(least, true, 1)}}, api.CellEnd{Best: least, Any: true})
}

func TestRefused(t *testing.T) {
	one := workers{{add(1)}}
	for _, x := range []struct {
		s   api.CellStart
		ops workers
	}{
		{start(), nil},
		{start(), workers{}},
		{start(), make(workers, api.MaxCrew+1)},
		{start(), make(workers, 1000)},
		{api.CellStart{}, one},
		{api.CellStart{Gate: 0, Tickets: 1}, one},
		{api.CellStart{Gate: -1, Tickets: 1}, one},
		{api.CellStart{Gate: math.MinInt, Tickets: 1}, one},
		{api.CellStart{Gate: 1, Tickets: -1}, one},
		{api.CellStart{Gate: 1, Tickets: least}, one},
		{api.CellStart{Gate: 0, Tickets: -1}, nil},
	} {
		if got, end, err := cells.Walk(x.s, x.ops, []int{0, 1}); got != nil || end != (api.CellEnd{}) || err != api.ErrArg {
			t.Errorf("Walk(%v) of %d: %v, %v, %v", x.s, len(x.ops), got, end, err)
		}
		if got, end, err := cells.Storm(x.s, x.ops); got != nil || end != (api.CellEnd{}) || err != api.ErrArg {
			t.Errorf("Storm(%v) of %d: %v, %v, %v", x.s, len(x.ops), got, end, err)
		}
	}
}

func TestOtherKinds(t *testing.T) {
	var list []api.CellOp
	var want []api.CellAnswer
	for i, k := range []api.CellKind{0, -1, 6, 7, 100, math.MinInt, math.MaxInt} {
		list = append(list, api.CellOp{Kind: k, X: 9})
		want = append(want, answer(0, false, i))
	}
	wantWalk(t, start(), workers{list}, make([]int, len(list)), answers{want}, api.CellEnd{})
	got, end, err := cells.Storm(start(), workers{list, list})
	none := make([]api.CellAnswer, len(list))
	if !sameAnswers(got, answers{none, none}) || end != (api.CellEnd{}) || err != api.OK {
		t.Errorf("Storm: %v, %v, %v", got, end, err)
	}
}

// plain does ops whole, one behind the other, as the chapter's table says.
type plain struct {
	s       api.CellStart
	stripes map[int]int64
	end     api.CellEnd
}

func newPlain(s api.CellStart) *plain {
	return &plain{s, map[int]int64{}, api.CellEnd{Mark: s.Mark}}
}

func (p *plain) better(w int, x int64) bool {
	return !p.end.Any || x > p.end.Best || x == p.end.Best && w < p.end.Who
}

func (p *plain) do(w int, op api.CellOp) (int64, bool) {
	switch op.Kind {
	case api.CellAdd:
		p.end.Sum += op.X
		p.stripes[w] += op.X
		return p.stripes[w], true
	case api.CellRaise:
		ahead := p.end.Mark
		p.end.Mark = max(ahead, op.X)
		return ahead, op.X > ahead
	case api.CellOffer:
		if !p.better(w, op.X) {
			return op.X, false
		}
		p.end.Any, p.end.Best, p.end.Who = true, op.X, w
		return op.X, true
	case api.CellArrive:
		p.end.Arrived++
		p.end.Open = p.end.Arrived >= p.s.Gate
		return int64(p.end.Arrived - 1), p.end.Open
	case api.CellTake:
		if p.end.Taken == p.s.Tickets {
			return 0, false
		}
		p.end.Taken++
		return p.end.Taken - 1, true
	}
	return 0, false
}

// seen is what a look of a plain walker saw: of an op that has nothing to be done that is not kept.
type seen struct {
	looked bool
	mark   int64
	who    int
	best   int64
	any    bool
	taken  int64
}

// idle says whether there is nothing to be done for an op, as all stands.
func (p *plain) idle(w int, op api.CellOp) bool {
	switch op.Kind {
	case api.CellRaise:
		return p.end.Mark >= op.X
	case api.CellOffer:
		return !p.better(w, op.X)
	case api.CellTake:
		return p.end.Taken >= p.s.Tickets
	}
	return true
}

// still says whether what was looked at stands there still.
func (p *plain) still(op api.CellOp, was seen) bool {
	switch op.Kind {
	case api.CellRaise:
		return p.end.Mark == was.mark
	case api.CellOffer:
		return p.end.Who == was.who && p.end.Best == was.best && p.end.Any == was.any
	}
	return p.end.Taken == was.taken
}

// plainWalk is Walk by the chapter's words, over plain numbers.
func plainWalk(s api.CellStart, ops workers, picks []int) (answers, api.CellEnd) {
	p := newPlain(s)
	got := make(answers, len(ops))
	looks := make([]seen, len(ops))
	for at, pick := range picks {
		w := pick % len(ops)
		if w < 0 {
			w += len(ops)
		}
		if len(got[w]) == len(ops[w]) {
			continue
		}
		op := ops[w][len(got[w])]
		if looks[w].looked && p.still(op, looks[w]) || p.idle(w, op) {
			a, yes := p.do(w, op)
			got[w] = append(got[w], answer(a, yes, at))
			looks[w] = seen{}
			continue
		}
		looks[w] = seen{true, p.end.Mark, p.end.Who, p.end.Best, p.end.Any, p.end.Taken}
	}
	return got, p.end
}

func someOps(r *rand.Rand, many int, kinds ...api.CellKind) []api.CellOp {
	list := make([]api.CellOp, many)
	for i := range list {
		list[i] = api.CellOp{Kind: kinds[r.Intn(len(kinds))], X: int64(r.Intn(12) - 4)}
	}
	return list
}

func someKinds(r *rand.Rand) []api.CellKind {
	all := []api.CellKind{api.CellAdd, api.CellRaise, api.CellOffer, api.CellArrive, api.CellTake, 0, 9}
	if r.Intn(3) == 0 {
		return all
	}
	return []api.CellKind{all[r.Intn(len(all))], all[r.Intn(len(all))]}
}

func someWalk(r *rand.Rand) (api.CellStart, workers, []int) {
	s := api.CellStart{Mark: int64(r.Intn(6) - 5), Gate: 1 + r.Intn(8), Tickets: int64(r.Intn(8))}
	ops := make(workers, 1+r.Intn(5))
	kinds := someKinds(r)
	for w := range ops {
		ops[w] = someOps(r, r.Intn(6), kinds...)
	}
	picks := make([]int, r.Intn(60))
	for i := range picks {
		picks[i] = r.Intn(40) - 20
	}
	return s, ops, picks
}

func TestWalkAgainstPlain(t *testing.T) {
	r := rand.New(rand.NewSource(45))
	for range 20000 {
		s, ops, picks := someWalk(r)
		want, wantEnd := plainWalk(s, ops, picks)
		wantWalk(t, s, ops, picks, want, wantEnd)
		if t.Failed() {
			return
		}
	}
}

// In the order of At the ops, done whole, answer the same, and come to the same end.
func TestWalkIsInTheOrderOfAt(t *testing.T) {
	type done struct {
		w      int
		op     api.CellOp
		answer api.CellAnswer
	}
	r := rand.New(rand.NewSource(47))
	for range 5000 {
		s, ops, picks := someWalk(r)
		got, end, err := cells.Walk(s, ops, picks)
		if err != api.OK {
			t.Fatalf("Walk: %v", err)
		}
		var all []done
		for w, list := range got {
			for i, a := range list {
				all = append(all, done{w, ops[w][i], a})
			}
		}
		slices.SortFunc(all, func(a, b done) int { return cmp.Compare(a.answer.At, b.answer.At) })
		p := newPlain(s)
		for _, d := range all {
			if a, yes := p.do(d.w, d.op); a != d.answer.A || yes != d.answer.Yes {
				t.Fatalf("%v: done whole: %d, %v", d, a, yes)
			}
		}
		if end != p.end {
			t.Fatalf("the end is %v, done whole %v", end, p.end)
		}
	}
}

func TestWalkChangesAndKeepsNothing(t *testing.T) {
	r := rand.New(rand.NewSource(48))
	for range 300 {
		s, ops, picks := someWalk(r)
		room := make(workers, len(ops), len(ops)+2)
		kept := make(workers, len(ops))
		for w := range ops {
			room[w] = append(make([]api.CellOp, 0, len(ops[w])+3), ops[w]...)
			kept[w] = slices.Clone(ops[w])
		}
		keptPicks := slices.Clone(picks)
		got, end, _ := cells.Walk(s, room, picks)
		storm, _, _ := cells.Storm(s, room)
		for w := range room {
			spare := room[w][:cap(room[w])]
			if !slices.Equal(room[w], kept[w]) || slices.ContainsFunc(spare[len(room[w]):], func(op api.CellOp) bool { return op != api.CellOp{} }) {
				t.Fatalf("the ops %v have become %v", kept[w], spare)
			}
			for i := range spare {
				spare[i] = api.CellOp{Kind: 99, X: 99}
			}
		}
		if !slices.Equal(picks, keptPicks) || len(room[:cap(room)][len(ops)]) != 0 {
			t.Fatalf("the picks %v have become %v", keptPicks, picks)
		}
		want, wantEnd := plainWalk(s, kept, picks)
		if !sameAnswers(got, want) || end != wantEnd {
			t.Fatalf("the answers %v have become %v", want, got)
		}
		wantApart(t, got)
		wantApart(t, storm)
	}
}

// wantApart wants no two lists of an answer to share memory, spare room included.
func wantApart(t *testing.T, lists [][]api.CellAnswer) {
	t.Helper()
	for w, list := range lists {
		full := list[:cap(list)]
		for i := range full {
			full[i] = answer(int64(w), true, i)
		}
	}
	for w, list := range lists {
		for i, a := range list[:cap(list)] {
			if a != answer(int64(w), true, i) {
				t.Fatalf("the answers of %d are shared with others", w)
			}
		}
	}
}

func TestManySteps(t *testing.T) {
	r := rand.New(rand.NewSource(49))
	ops := make(workers, api.MaxCrew)
	for w := range ops {
		ops[w] = someOps(r, 2000, api.CellAdd, api.CellRaise, api.CellOffer, api.CellArrive, api.CellTake)
	}
	picks := make([]int, 300000)
	for i := range picks {
		picks[i] = r.Int()
	}
	s := api.CellStart{Mark: -100, Gate: 5000, Tickets: 9000}
	want, wantEnd := plainWalk(s, ops, picks)
	got, end, err := cells.Walk(s, ops, picks)
	if !sameAnswers(got, want) || end != wantEnd || err != api.OK {
		t.Errorf("Walk ends as %v, %v, not %v", end, err, wantEnd)
	}
}

// wantStorm wants of a storm all that follows of its ops, whoever was first.
func wantStorm(t *testing.T, s api.CellStart, ops workers) {
	t.Helper()
	got, end, err := cells.Storm(s, ops)
	if err != api.OK || len(got) != len(ops) {
		t.Fatalf("Storm: %d lists, %v", len(got), err)
	}
	want := newPlain(s)
	var arrived, taken, stripes = make([][]int64, len(ops)), make([][]int64, len(ops)), make([]int64, len(ops))
	var raised [][2]int64
	takes := int64(0)
	for w, list := range ops {
		if len(got[w]) != len(list) {
			t.Fatalf("worker %d has %d answers of %d", w, len(got[w]), len(list))
		}
		for i, op := range list {
			want.do(w, op)
			a := got[w][i]
			yes, known := false, true
			switch op.Kind {
			case api.CellAdd:
				stripes[w] += op.X
				yes, known = true, a.A == stripes[w]
			case api.CellRaise:
				yes = op.X > a.A
				if yes {
					raised = append(raised, [2]int64{a.A, op.X})
				}
			case api.CellOffer:
				yes, known = a.Yes, a.A == op.X
			case api.CellArrive:
				yes = a.A+1 >= int64(s.Gate)
				arrived[w] = append(arrived[w], a.A)
			case api.CellTake:
				takes++
				yes, known = a.Yes, a.Yes || a.A == 0
				if a.Yes {
					taken[w] = append(taken[w], a.A)
				}
			default:
				known = a.A == 0
			}
			if !known || a.Yes != yes || a.At != 0 {
				t.Errorf("%v of worker %d is answered %v", op, w, a)
			}
		}
	}
	if end != want.end {
		t.Errorf("Storm ends as %v, not %v", end, want.end)
	}
	wantEachOnce(t, arrived, 0, int64(end.Arrived))
	wantEachOnce(t, taken, 0, min(s.Tickets, takes))
	slices.SortFunc(raised, func(a, b [2]int64) int { return cmp.Compare(a[0], b[0]) })
	at := s.Mark
	for _, x := range raised {
		if x[0] != at {
			t.Fatalf("a mark was raised from %d, not from %d", x[0], at)
		}
		at = x[1]
	}
	if at != end.Mark {
		t.Errorf("the raises lead to %d, not to %d", at, end.Mark)
	}
}

func TestStorm(t *testing.T) {
	r := rand.New(rand.NewSource(46))
	for range 300 {
		s := api.CellStart{Mark: int64(r.Intn(6) - 5), Gate: 1 + r.Intn(300), Tickets: int64(r.Intn(300))}
		ops := make(workers, 1+r.Intn(10))
		kinds := someKinds(r)
		for w := range ops {
			ops[w] = someOps(r, r.Intn(100), kinds...)
		}
		wantStorm(t, s, ops)
		if t.Failed() {
			return
		}
	}
}

func TestStormAtItsBound(t *testing.T) {
	r := rand.New(rand.NewSource(50))
	ops := make(workers, api.MaxCrew)
	for w := range ops {
		for i := range int64(300) {
			ops[w] = append(ops[w], add(r.Int63()-r.Int63()), raise(i*api.MaxCrew+int64(w)), offer(i/3), arrive(), take())
		}
	}
	wantStorm(t, api.CellStart{Mark: least, Gate: 64 * 300, Tickets: 64*300 - 1}, ops)
	wantStorm(t, api.CellStart{Mark: greatest, Gate: 64*300 + 1, Tickets: 0}, ops)
	wantStorm(t, api.CellStart{Mark: 5, Gate: math.MaxInt, Tickets: greatest}, ops)
	wantStorm(t, start(), make(workers, api.MaxCrew))
	wantStorm(t, start(), workers{nil})
}

// One worker's storm hangs on nothing: it is its ops, one behind the other.
func TestStormOfOne(t *testing.T) {
	r := rand.New(rand.NewSource(51))
	s := api.CellStart{Mark: -2, Gate: 40, Tickets: 30}
	list := someOps(r, 500, api.CellAdd, api.CellRaise, api.CellOffer, api.CellArrive, api.CellTake, 0)
	got, end, err := cells.Storm(s, workers{list})
	p := newPlain(s)
	for i, op := range list {
		if a, yes := p.do(0, op); got[0][i] != answer(a, yes, 0) {
			t.Fatalf("%v is answered %v", op, got[0][i])
		}
	}
	if end != p.end || err != api.OK {
		t.Errorf("Storm ends as %v, %v, not %v", end, err, p.end)
	}
}

// All workers have ended when Storm answers; what the runtime still counts of them is gone at once.
func TestStormLeavesNobody(t *testing.T) {
	before := runtime.NumGoroutine()
	ops := make(workers, api.MaxCrew)
	for w := range ops {
		ops[w] = []api.CellOp{add(1), take(), raise(int64(w))}
	}
	for range 50 {
		cells.Storm(start(), ops)
	}
	for range 100 {
		if runtime.NumGoroutine() <= before {
			return
		}
		time.Sleep(time.Millisecond)
	}
	t.Errorf("there are %d goroutines, ahead of it %d", runtime.NumGoroutine(), before)
}
