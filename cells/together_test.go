package cells_test

import (
	"math/rand"
	"runtime"
	"slices"
	"sync"
	"sync/atomic"
	"testing"

	"gavel/api"
	"gavel/cells"
)

// together lets goroutines do something at a time, and waits for them. They spin till all are there, so that they really meet.
func together(goroutines int, do func(g int)) {
	var all sync.WaitGroup
	var there atomic.Int64
	for g := range goroutines {
		all.Go(func() {
			there.Add(1)
			for there.Load() < int64(goroutines) {
				runtime.Gosched()
			}
			do(g)
		})
	}
	all.Wait()
}

// asked is a call of a cell, told what it answers, stood what a cell has: so much that all kinds find room in it.
type asked struct {
	name string
	who  int
	x    int64
}

type told struct {
	who int
	x   int64
	yes bool
}

type stood [3]int64

// kind is a kind of cells: which calls there are, how they are done to a new one, and what one call does, alone.
type kind struct {
	name  string
	calls []asked
	made  func() func(asked) told
	alone func(stood, asked) (stood, told)
}

func kinds() []kind {
	return []kind{
		{"count", []asked{{"add", 0, 5}, {"add", 1, 3}, {"add", 0, -7}, {"add", 2, 1}, {"sum", 0, 0}}, madeCount, countAlone},
		{"mark", []asked{{"raise", 0, 1}, {"raise", 0, 2}, {"raise", 0, 3}, {"raise", 0, 9}, {"get", 0, 0}}, madeMark, markAlone},
		{"best", []asked{{"offer", 1, 4}, {"offer", 0, 4}, {"offer", 2, 4}, {"offer", 2, 5}, {"get", 0, 0}}, madeBest, bestAlone},
		{"gate", []asked{{"arrive", 0, 0}, {"arrived", 0, 0}, {"open", 0, 0}}, madeGate, gateAlone},
		{"tickets", []asked{{"take", 0, 0}, {"take", 0, 0}, {"left", 0, 0}}, madeTickets, ticketsAlone},
	}
}

func madeCount() func(asked) told {
	c, _ := cells.NewCount(3)
	return func(a asked) told {
		if a.name == "sum" {
			return told{x: c.Sum()}
		}
		x, err := c.Add(a.who, a.x)
		return told{x: x, yes: err == api.OK}
	}
}

func countAlone(s stood, a asked) (stood, told) {
	if a.name == "sum" {
		return s, told{x: s[0] + s[1] + s[2]}
	}
	s[a.who] += a.x
	return s, told{x: s[a.who], yes: true}
}

func madeMark() func(asked) told {
	m := cells.NewMark(0)
	return func(a asked) told {
		if a.name == "get" {
			return told{x: m.Get()}
		}
		x, up := m.Raise(a.x)
		return told{x: x, yes: up}
	}
}

func markAlone(s stood, a asked) (stood, told) {
	was := s[0]
	if a.name == "get" || a.x <= was {
		return s, told{x: was}
	}
	s[0] = a.x
	return s, told{x: was, yes: true}
}

func madeBest() func(asked) told {
	b := cells.NewBest()
	return func(a asked) told {
		if a.name == "offer" {
			return told{yes: b.Offer(a.who, a.x)}
		}
		who, x, there := b.Get()
		return told{who, x, there}
	}
}

func bestAlone(s stood, a asked) (stood, told) {
	if a.name == "get" {
		return s, told{int(s[1]), s[0], s[2] == 1}
	}
	if s[2] == 1 && (a.x < s[0] || a.x == s[0] && int64(a.who) >= s[1]) {
		return s, told{}
	}
	return stood{a.x, int64(a.who), 1}, told{yes: true}
}

func madeGate() func(asked) told {
	g, _ := cells.NewGate(4)
	return func(a asked) told {
		switch a.name {
		case "arrived":
			return told{who: g.Arrived()}
		case "open":
			return told{yes: g.Open()}
		}
		n, open := g.Arrive()
		return told{who: n, yes: open}
	}
}

func gateAlone(s stood, a asked) (stood, told) {
	switch a.name {
	case "arrived":
		return s, told{who: int(s[0])}
	case "open":
		return s, told{yes: s[0] >= 4}
	}
	s[0]++
	return s, told{who: int(s[0] - 1), yes: s[0] >= 4}
}

func madeTickets() func(asked) told {
	k, _ := cells.NewTickets(5)
	return func(a asked) told {
		if a.name == "left" {
			return told{x: k.Left()}
		}
		x, ok := k.Take()
		return told{x: x, yes: ok}
	}
}

func ticketsAlone(s stood, a asked) (stood, told) {
	if a.name == "left" {
		return s, told{x: 5 - s[0]}
	}
	if s[0] == 5 {
		return s, told{}
	}
	s[0]++
	return s, told{x: s[0] - 1, yes: true}
}

const (
	histGoroutines = 3
	histCalls      = 5
)

// history is what each goroutine asked and was told, in its order, and what is told of all in the end.
type history struct {
	asked [histGoroutines][histCalls]asked
	told  [histGoroutines][histCalls]told
	ends  []asked
	end   []told
}

// inSomeOrder says whether there is an order, with each goroutine's own calls in theirs, in which the calls, done alone, are told all that.
func (h *history) inSomeOrder(k kind) bool {
	type place struct {
		done  [histGoroutines]int
		stood stood
	}
	dead := map[place]bool{}
	var from func(place) bool
	from = func(p place) bool {
		if dead[p] {
			return false
		}
		left := false
		for g := range histGoroutines {
			i := p.done[g]
			if i == histCalls {
				continue
			}
			left = true
			next := p
			var answer told
			next.stood, answer = k.alone(p.stood, h.asked[g][i])
			next.done[g]++
			if answer == h.told[g][i] && from(next) {
				return true
			}
		}
		if !left {
			fits := true
			for i, a := range h.ends {
				_, answer := k.alone(p.stood, a)
				fits = fits && answer == h.end[i]
			}
			return fits
		}
		dead[p] = true
		return false
	}
	return from(place{})
}

func TestAsIfOneBehindTheOther(t *testing.T) {
	r := rand.New(rand.NewSource(4))
	rounds := 3000
	if testing.Short() {
		rounds = 300
	}
	for _, k := range kinds() {
		for range rounds {
			var h history
			for g := range h.asked {
				for i := range h.asked[g] {
					h.asked[g][i] = k.calls[r.Intn(len(k.calls))]
				}
			}
			do := k.made()
			together(histGoroutines, func(g int) {
				for i, a := range h.asked[g] {
					h.told[g][i] = do(a)
				}
			})
			for _, a := range k.calls {
				if slices.Contains([]string{"sum", "get", "arrived", "open", "left"}, a.name) {
					h.ends, h.end = append(h.ends, a), append(h.end, do(a))
				}
			}
			if !h.inSomeOrder(k) {
				t.Fatalf("%s: there is no such order: %v: %v; in the end %v", k.name, h.asked, h.told, h.end)
			}
		}
	}
}

// The checker of histories itself: sums that no order could tell are seen.
func TestNoOrderIsSeen(t *testing.T) {
	var h history
	for g := range h.asked {
		for i := range h.asked[g] {
			h.asked[g][i] = asked{"sum", 0, 0}
		}
	}
	h.asked[0][0], h.told[0][0] = asked{"add", 0, 5}, told{x: 5, yes: true}
	h.asked[0][1], h.told[0][1] = asked{"add", 1, 3}, told{x: 3, yes: true}
	for i := 2; i < histCalls; i++ {
		h.told[0][i] = told{x: 8}
	}
	h.ends, h.end = []asked{{"sum", 0, 0}}, []told{{x: 8}}
	k := kinds()[0]
	if !h.inSomeOrder(k) {
		t.Error("an order is not found")
	}
	h.told[1][4] = told{x: 3}
	if h.inSomeOrder(k) {
		t.Error("3 is no sum that there was")
	}
	h.told[1][4], h.end[0] = told{x: 5}, told{x: 5}
	if h.inSomeOrder(k) {
		t.Error("5 is no sum in the end")
	}
}

// Each goroutine adds 1 to one stripe, then takes 1 from another one: at no time is the sum below 0, or above how many they are.
func TestSumIsOfOneTime(t *testing.T) {
	const movers, readers, moves = 4, 3, 20000
	c := count(t, api.MaxCrew)
	var moving atomic.Int64
	moving.Store(movers)
	together(movers+readers, func(g int) {
		if g < movers {
			for i := range moves {
				c.Add((g+i)%api.MaxCrew, 1)
				c.Add((g+7*i)%api.MaxCrew, -1)
			}
			moving.Add(-1)
			return
		}
		for moving.Load() > 0 {
			if sum := c.Sum(); sum < 0 || sum > movers {
				t.Errorf("the sum was told as %d", sum)
				return
			}
		}
	})
	if c.Sum() != 0 {
		t.Errorf("the sum is %d in the end", c.Sum())
	}
}

func TestManyAdd(t *testing.T) {
	const goroutines, adds = 8, 5000
	c := count(t, goroutines+1)
	shared := make([][]int64, goroutines)
	together(goroutines, func(g int) {
		for i := range int64(adds) {
			if x, err := c.Add(g, 3); x != 3*(i+1) || err != api.OK {
				t.Errorf("its own stripe is told as %d, %v", x, err)
				return
			}
			x, _ := c.Add(goroutines, 1)
			shared[g] = append(shared[g], x)
		}
	})
	wantEachOnce(t, shared, 1, goroutines*adds)
	if want := int64(goroutines * adds * 4); c.Sum() != want {
		t.Errorf("the sum is %d, not %d", c.Sum(), want)
	}
}

// wantEachOnce wants each number from first on, as many as that, once, and those of each list rising.
func wantEachOnce(t *testing.T, lists [][]int64, first, many int64) {
	t.Helper()
	var all []int64
	for g, list := range lists {
		if !slices.IsSorted(list) {
			t.Errorf("those of %d do not rise", g)
		}
		all = append(all, list...)
	}
	slices.Sort(all)
	if int64(len(all)) != many {
		t.Fatalf("%d are told, not %d", len(all), many)
	}
	for i, x := range all {
		if x != first+int64(i) {
			t.Fatalf("%d at the place %d", x, i)
		}
	}
}

func TestManyRaise(t *testing.T) {
	const goroutines, raises = 8, 5000
	m := cells.NewMark(-1)
	ups := make([]map[int64]int64, goroutines)
	together(goroutines, func(g int) {
		ups[g] = map[int64]int64{}
		last := int64(-1)
		for i := range int64(raises) {
			x := i*goroutines + int64(g)
			was, up := m.Raise(x)
			if up != (x > was) || was < last {
				t.Errorf("Raise(%d): %d, %v, behind %d", x, was, up, last)
			}
			if up {
				ups[g][was] = x
			}
			last = max(was, x)
			if now := m.Get(); now < last {
				t.Errorf("the mark %d fell to %d", last, now)
			}
		}
	})
	from := map[int64]int64{}
	many := 0
	for _, l := range ups {
		many += len(l)
		for was, x := range l {
			from[was] = x
		}
	}
	at := int64(-1)
	for range many {
		x, there := from[at]
		if !there {
			t.Fatalf("nobody has raised the mark from %d", at)
		}
		at = x
	}
	if len(from) != many || at != goroutines*raises-1 {
		t.Errorf("%d raises from %d marks lead to %d", many, len(from), at)
	}
	wantMark(t, m, goroutines*raises-1)
}

func TestManyOffer(t *testing.T) {
	const goroutines, offers = 8, 5000
	b := cells.NewBest()
	took := make([]int, goroutines)
	together(goroutines, func(g int) {
		for i := range int64(offers) {
			if b.Offer(g, i/10) {
				took[g]++
			}
			if who, x, there := b.Get(); !there || x < i/10 || x == i/10 && who > g {
				t.Errorf("behind %d of %d the best is %d of %d", i/10, g, x, who)
			}
		}
	})
	wantBest(t, b, 0, offers/10-1, true)
	if took[0] == 0 {
		t.Error("the best offer took no place")
	}
}

func TestManyArrive(t *testing.T) {
	const goroutines, arrivals, opens = 8, 5000, 17777
	g := gate(t, opens)
	seen := make([][]int64, goroutines)
	together(goroutines, func(w int) {
		for range arrivals {
			n, open := g.Arrive()
			seen[w] = append(seen[w], int64(n))
			if open != (n+1 >= opens) || open && !g.Open() || g.Arrived() <= n {
				t.Errorf("arriving behind %d: %v, then %v, %d", n, open, g.Open(), g.Arrived())
			}
		}
	})
	wantEachOnce(t, seen, 0, goroutines*arrivals)
	wantGate(t, g, goroutines*arrivals, true)
}

func TestManyTake(t *testing.T) {
	const goroutines, takes, many = 8, 5000, 33333
	k := tickets(t, many)
	taken := make([][]int64, goroutines)
	together(goroutines, func(g int) {
		for range takes {
			x, ok := k.Take()
			left := k.Left()
			if ok {
				taken[g] = append(taken[g], x)
			}
			if left < 0 || left >= many-x || !ok && (x != 0 || left != 0) {
				t.Errorf("Take: %d, %v, with %d left", x, ok, left)
			}
		}
	})
	wantEachOnce(t, taken, 0, many)
	wantLeft(t, k, 0)
}
