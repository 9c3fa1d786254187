package purse_test

import (
	"math"
	"slices"
	"testing"

	"gavel/api"
	"gavel/purse"
)

const most = int64(api.MaxCoins)

// noCoins are numbers that are no coins.
var noCoins = []int64{math.MinInt64, math.MinInt64 + 1, -most, -1, most + 1, math.MaxInt64 - 1, math.MaxInt64}

// noKinds are numbers that no kind of step has.
var noKinds = []api.PurseKind{math.MinInt64, -1, 0, api.PurseBring + 1, math.MaxInt64}

func coins(budget, held, spent int64) api.Coins {
	return api.Coins{Budget: budget, Held: held, Spent: spent}
}

func op(kind api.PurseKind, c int64) api.PurseOp { return api.PurseOp{Kind: kind, Coins: c} }

func newPurse(t *testing.T, budget int64) *purse.Purse {
	t.Helper()
	p, err := purse.New(budget)
	if p == nil || err != api.OK {
		t.Fatalf("New(%d): %v, %v", budget, p, err)
	}
	return p
}

func stands(t *testing.T, budget, held, spent int64) *purse.Purse {
	t.Helper()
	p, err := purse.Of(coins(budget, held, spent))
	if p == nil || err != api.OK {
		t.Fatalf("Of(%d, %d, %d): %v, %v", budget, held, spent, p, err)
	}
	return p
}

func wantErr(t *testing.T, call string, got, want api.Errno) {
	t.Helper()
	if got != want {
		t.Errorf("%s: %v, not %v", call, got, want)
	}
}

// wantLook asks for the three numbers, and for what is free of them.
func wantLook(t *testing.T, p *purse.Purse, budget, held, spent int64) {
	t.Helper()
	if got, want := p.Look(), coins(budget, held, spent); got != want {
		t.Errorf("Look: %v, not %v", got, want)
	}
	if got, want := p.Room(), budget-held-spent; got != want {
		t.Errorf("Room: %d, not %d", got, want)
	}
}

// wantRefused does a call that must be refused, and asks whether the purse stands as ahead.
func wantRefused(t *testing.T, p *purse.Purse, call string, want api.Errno, do func() api.Errno) {
	t.Helper()
	ahead := p.Look()
	wantErr(t, call, do(), want)
	if got := p.Look(); got != ahead {
		t.Errorf("%s was refused, and turned %v into %v", call, ahead, got)
	}
}

// The rows of the chapter's table 'Examples'.
func TestExamples(t *testing.T) {
	if p, err := purse.New(-1); p != nil || err != api.ErrArg {
		t.Errorf("New(-1): %v, %v", p, err)
	}
	if p, err := purse.Of(coins(5, 3, 3)); p != nil || err != api.ErrArg {
		t.Errorf("Of({5, 3, 3}): %v, %v", p, err)
	}
	p := newPurse(t, 10)

	wantErr(t, "Hold(4)", p.Hold(4), api.OK)
	wantErr(t, "Hold(7)", p.Hold(7), api.ErrBudget)
	if p.Room() != 6 {
		t.Errorf("Room: %d, not 6", p.Room())
	}
	wantErr(t, "Free(5)", p.Free(5), api.ErrHeld)
	wantErr(t, "Spend(3)", p.Spend(3), api.OK)
	wantLook(t, p, 10, 1, 3)

	wantErr(t, "Pay(1, 2)", p.Pay(1, 2), api.ErrArg)
	wantErr(t, "Pay(1, 0)", p.Pay(1, 0), api.OK)
	wantLook(t, p, 10, 0, 3)

	wantErr(t, "Bring(2^40)", p.Bring(1<<40), api.ErrBudget)
	wantErr(t, "Bring(5)", p.Bring(5), api.OK)
	if p.Room() != 12 {
		t.Errorf("Room: %d, not 12", p.Room())
	}
}

func TestExampleCrew(t *testing.T) {
	p := newPurse(t, 10)
	told, err := p.Crew([]api.PurseOp{op(api.PurseHold, 6)}, []api.PurseOp{op(api.PurseHold, 6)})
	if err != api.OK || len(told) != 2 || len(told[0]) != 1 || len(told[1]) != 1 {
		t.Fatalf("Crew: %v, %v", told, err)
	}
	got := []api.Errno{told[0][0], told[1][0]}
	if !slices.Equal(got, []api.Errno{api.OK, api.ErrBudget}) && !slices.Equal(got, []api.Errno{api.ErrBudget, api.OK}) {
		t.Errorf("Crew: %v", told)
	}
	wantLook(t, p, 10, 6, 0)
}

func TestExampleMove(t *testing.T) {
	from, to := newPurse(t, 5), newPurse(t, 1<<40)
	wantErr(t, "Move", purse.Move(from, to, 3), api.ErrBudget)
	wantLook(t, from, 5, 0, 0)
	wantLook(t, to, 1<<40, 0, 0)
}

// The document's example 8: eight goroutines that hold 30 each of 100.
func TestEightHold(t *testing.T) {
	for range 200 {
		p := newPurse(t, 100)
		told, err := p.Crew(slices.Repeat([][]api.PurseOp{{op(api.PurseHold, 30)}}, 8)...)
		if err != api.OK {
			t.Fatal(err)
		}
		taken := 0
		for _, list := range told {
			if len(list) == 1 && list[0] == api.OK {
				taken++
			} else if len(list) != 1 || list[0] != api.ErrBudget {
				t.Errorf("told %v", list)
			}
		}
		if taken != 3 {
			t.Errorf("%d are taken", taken)
		}
		wantLook(t, p, 100, 90, 0)
	}
}

// P20.1.
func TestNew(t *testing.T) {
	for _, budget := range []int64{0, 1, 2, most - 1, most} {
		wantLook(t, newPurse(t, budget), budget, 0, 0)
	}
	for _, budget := range noCoins {
		if p, err := purse.New(budget); p != nil || err != api.ErrArg {
			t.Errorf("New(%d): %v, %v", budget, p, err)
		}
	}
}

func TestOf(t *testing.T) {
	for _, c := range []api.Coins{
		{}, coins(5, 2, 2), coins(5, 2, 3), coins(5, 5, 0), coins(5, 0, 5),
		coins(most, 0, 0), coins(most, most, 0), coins(most, 0, most), coins(most, most-1, 1), coins(most, 1, most-1),
	} {
		p, err := purse.Of(c)
		if err != api.OK || p == nil {
			t.Fatalf("Of(%v): %v", c, err)
		}
		wantLook(t, p, c.Budget, c.Held, c.Spent)
	}
	refused := []api.Coins{coins(0, 1, 0), coins(0, 0, 1), coins(5, 3, 3), coins(5, 6, 0), coins(5, 0, 6), coins(most, most, 1), coins(most, 1, most), coins(most, most, most)}
	for _, c := range noCoins {
		refused = append(refused, coins(c, 0, 0), coins(most, c, 0), coins(most, 0, c), coins(most, c, -c), coins(most, -c, c), coins(c, c, 0), coins(c, 0, c), coins(c, c, c))
	}
	// Sums that go round, and come out small.
	refused = append(refused, coins(5, math.MaxInt64, math.MinInt64), coins(5, math.MaxInt64, math.MaxInt64), coins(5, math.MinInt64, math.MinInt64))
	for _, c := range refused {
		if p, err := purse.Of(c); p != nil || err != api.ErrArg {
			t.Errorf("Of(%v): %v, %v", c, p, err)
		}
	}
}

// Two purses that were made alike go on apart.
func TestApart(t *testing.T) {
	c := coins(9, 2, 1)
	p, _ := purse.Of(c)
	q, _ := purse.Of(c)
	wantErr(t, "Hold", p.Hold(6), api.OK)
	wantErr(t, "Bring", q.Bring(1), api.OK)
	wantLook(t, p, 9, 8, 1)
	wantLook(t, q, 10, 2, 1)
	if c != coins(9, 2, 1) {
		t.Errorf("what was handed in is %v", c)
	}
}

// P20.2: each step at its bounds. What is done to {20, 8, 5}, of which 7 are free.
func TestStepsAtTheirBounds(t *testing.T) {
	for _, row := range []struct {
		kind api.PurseKind
		c    int64
		want api.Errno
		then api.Coins
	}{
		{api.PurseHold, 0, api.OK, coins(20, 8, 5)},
		{api.PurseHold, 1, api.OK, coins(20, 9, 5)},
		{api.PurseHold, 7, api.OK, coins(20, 15, 5)},
		{api.PurseHold, 8, api.ErrBudget, coins(20, 8, 5)},
		{api.PurseHold, most, api.ErrBudget, coins(20, 8, 5)},
		{api.PurseFree, 0, api.OK, coins(20, 8, 5)},
		{api.PurseFree, 1, api.OK, coins(20, 7, 5)},
		{api.PurseFree, 8, api.OK, coins(20, 0, 5)},
		{api.PurseFree, 9, api.ErrHeld, coins(20, 8, 5)},
		{api.PurseFree, most, api.ErrHeld, coins(20, 8, 5)},
		{api.PurseSpend, 0, api.OK, coins(20, 8, 5)},
		{api.PurseSpend, 1, api.OK, coins(20, 7, 6)},
		{api.PurseSpend, 8, api.OK, coins(20, 0, 13)},
		{api.PurseSpend, 9, api.ErrHeld, coins(20, 8, 5)},
		{api.PurseSpend, most, api.ErrHeld, coins(20, 8, 5)},
		{api.PursePay, 0, api.OK, coins(20, 8, 5)},
		{api.PursePay, 1, api.OK, coins(20, 7, 6)},
		{api.PursePay, 8, api.OK, coins(20, 0, 13)},
		{api.PursePay, 9, api.ErrHeld, coins(20, 8, 5)},
		{api.PursePay, most, api.ErrHeld, coins(20, 8, 5)},
		{api.PurseBring, 0, api.OK, coins(20, 8, 5)},
		{api.PurseBring, 1, api.OK, coins(21, 8, 5)},
		{api.PurseBring, most - 20, api.OK, coins(most, 8, 5)},
		{api.PurseBring, most - 19, api.ErrBudget, coins(20, 8, 5)},
		{api.PurseBring, most, api.ErrBudget, coins(20, 8, 5)},
	} {
		for name, do := range waysOf(op(row.kind, row.c)) {
			p := stands(t, 20, 8, 5)
			if got := do(p); got != row.want || p.Look() != row.then {
				t.Errorf("%s, kind %d of %d: %v, %v, not %v, %v", name, row.kind, row.c, got, p.Look(), row.want, row.then)
			}
		}
	}
}

// waysOf are the ways in which a step can be done: by its method, by Do, by a crew of one.
func waysOf(o api.PurseOp) map[string]func(*purse.Purse) api.Errno {
	return map[string]func(*purse.Purse) api.Errno{
		"method": func(p *purse.Purse) api.Errno { return byMethod(p, o) },
		"Do":     func(p *purse.Purse) api.Errno { return p.Do(o) },
		"Crew": func(p *purse.Purse) api.Errno {
			told, err := p.Crew([]api.PurseOp{o})
			if err != api.OK || len(told) != 1 || len(told[0]) != 1 {
				return err
			}
			return told[0][0]
		},
	}
}

// byMethod does a step by the method of its name; of another kind it answers what Do does.
func byMethod(p *purse.Purse, o api.PurseOp) api.Errno {
	switch o.Kind {
	case api.PurseHold:
		return p.Hold(o.Coins)
	case api.PurseFree:
		return p.Free(o.Coins)
	case api.PurseSpend:
		return p.Spend(o.Coins)
	case api.PursePay:
		return p.Pay(o.Coins, o.Coins)
	case api.PurseBring:
		return p.Bring(o.Coins)
	}
	return p.Do(o)
}

func TestPayAtItsBounds(t *testing.T) {
	for _, row := range []struct {
		held, c int64
		want    api.Errno
		then    api.Coins
	}{
		{0, 0, api.OK, coins(20, 8, 5)},
		{1, 0, api.OK, coins(20, 7, 5)},
		{1, 1, api.OK, coins(20, 7, 6)},
		{1, 2, api.ErrArg, coins(20, 8, 5)},
		{0, 1, api.ErrArg, coins(20, 8, 5)},
		{8, 0, api.OK, coins(20, 0, 5)},
		{8, 7, api.OK, coins(20, 0, 12)},
		{8, 8, api.OK, coins(20, 0, 13)},
		{8, 9, api.ErrArg, coins(20, 8, 5)},
		{9, 0, api.ErrHeld, coins(20, 8, 5)},
		{9, 9, api.ErrHeld, coins(20, 8, 5)},
		{9, 10, api.ErrArg, coins(20, 8, 5)},
		{most, 0, api.ErrHeld, coins(20, 8, 5)},
		{most, most, api.ErrHeld, coins(20, 8, 5)},
		{most - 1, most, api.ErrArg, coins(20, 8, 5)},
	} {
		p := stands(t, 20, 8, 5)
		if got := p.Pay(row.held, row.c); got != row.want || p.Look() != row.then {
			t.Errorf("Pay(%d, %d): %v, %v, not %v, %v", row.held, row.c, got, p.Look(), row.want, row.then)
		}
	}
}

// A purse that is as full as can be.
func TestGreatSteps(t *testing.T) {
	p := newPurse(t, most)
	wantErr(t, "Bring(0)", p.Bring(0), api.OK)
	wantErr(t, "Bring(1)", p.Bring(1), api.ErrBudget)
	wantErr(t, "Hold", p.Hold(most), api.OK)
	wantLook(t, p, most, most, 0)
	wantErr(t, "Hold(0)", p.Hold(0), api.OK)
	wantErr(t, "Hold(1)", p.Hold(1), api.ErrBudget)
	wantErr(t, "Pay", p.Pay(most, most), api.OK)
	wantLook(t, p, most, 0, most)
	wantErr(t, "Hold(1)", p.Hold(1), api.ErrBudget)
	wantErr(t, "Free(1)", p.Free(1), api.ErrHeld)
	wantErr(t, "Spend(0)", p.Spend(0), api.OK)
	wantLook(t, p, most, 0, most)
}

// What are no coins is told ahead of what is free or held, whatever stands there.
func TestNoCoins(t *testing.T) {
	for _, p := range []*purse.Purse{newPurse(t, 0), stands(t, 20, 8, 5), stands(t, most, most, 0), stands(t, most, 0, most)} {
		for _, c := range noCoins {
			wantRefused(t, p, "Hold", api.ErrArg, func() api.Errno { return p.Hold(c) })
			wantRefused(t, p, "Free", api.ErrArg, func() api.Errno { return p.Free(c) })
			wantRefused(t, p, "Spend", api.ErrArg, func() api.Errno { return p.Spend(c) })
			wantRefused(t, p, "Bring", api.ErrArg, func() api.Errno { return p.Bring(c) })
			for _, other := range append([]int64{0, 1, 9, most}, noCoins...) {
				wantRefused(t, p, "Pay", api.ErrArg, func() api.Errno { return p.Pay(c, other) })
				wantRefused(t, p, "Pay", api.ErrArg, func() api.Errno { return p.Pay(other, c) })
			}
			for kind := api.PurseHold; kind <= api.PurseBring; kind++ {
				wantRefused(t, p, "Do", api.ErrArg, func() api.Errno { return p.Do(op(kind, c)) })
			}
		}
	}
}

func TestNoKind(t *testing.T) {
	p := stands(t, 20, 8, 5)
	for _, kind := range noKinds {
		for _, c := range append([]int64{0, 1, 9, most}, noCoins...) {
			wantRefused(t, p, "Do", api.ErrArg, func() api.Errno { return p.Do(op(kind, c)) })
			wantRefused(t, p, "Crew", api.ErrArg, func() api.Errno { return waysOf(op(kind, c))["Crew"](p) })
		}
	}
}

// P20.2, P20.3, P20.4, P20.5 of objects that are not there, and of zero ones; ErrNil is told ahead of all else.
func TestNotThere(t *testing.T) {
	some := newPurse(t, 10)
	for _, p := range []*purse.Purse{nil, {}, new(purse.Purse)} {
		for _, c := range append([]int64{0, 1, most}, noCoins...) {
			wantErr(t, "Hold", p.Hold(c), api.ErrNil)
			wantErr(t, "Free", p.Free(c), api.ErrNil)
			wantErr(t, "Spend", p.Spend(c), api.ErrNil)
			wantErr(t, "Pay", p.Pay(c, c), api.ErrNil)
			wantErr(t, "Pay", p.Pay(0, c), api.ErrNil)
			wantErr(t, "Bring", p.Bring(c), api.ErrNil)
			for kind := api.PurseKind(-1); kind <= api.PurseBring+1; kind++ {
				wantErr(t, "Do", p.Do(op(kind, c)), api.ErrNil)
			}
			wantErr(t, "Move from none", purse.Move(p, some, c), api.ErrNil)
			wantErr(t, "Move to none", purse.Move(some, p, c), api.ErrNil)
			wantErr(t, "Move of none", purse.Move(p, p, c), api.ErrNil)
		}
		wantLook(t, p, 0, 0, 0)
		for _, lists := range []int{0, 1, api.MaxCrew, api.MaxCrew + 1} {
			if told, err := p.Crew(make([][]api.PurseOp, lists)...); told != nil || err != api.ErrNil {
				t.Errorf("Crew of %d lists: %v, %v", lists, told, err)
			}
		}
	}
	wantErr(t, "Move", purse.Move(nil, &purse.Purse{}, 1), api.ErrNil)
	wantLook(t, some, 10, 0, 0)
}

// A purse that New refused is as one that is not there.
func TestRefusedPurse(t *testing.T) {
	p, _ := purse.New(-1)
	wantErr(t, "Hold", p.Hold(0), api.ErrNil)
	wantLook(t, p, 0, 0, 0)
}

// P20.4: one list after the other, alone: what each step is answered.
func TestCrewOfOne(t *testing.T) {
	p := newPurse(t, 10)
	list := []api.PurseOp{
		op(api.PurseHold, 4), op(api.PurseHold, 7), op(api.PurseFree, 5), op(api.PurseSpend, 3), op(9, 1), op(api.PursePay, 2), op(api.PursePay, 1),
		op(api.PurseHold, -1), op(api.PurseBring, most), op(api.PurseBring, 5), op(api.PurseHold, 11), op(api.PurseFree, 1),
	}
	want := []api.Errno{
		api.OK, api.ErrBudget, api.ErrHeld, api.OK, api.ErrArg, api.ErrHeld, api.OK,
		api.ErrArg, api.ErrBudget, api.OK, api.OK, api.OK,
	}
	told, err := p.Crew(list)
	if err != api.OK || len(told) != 1 || !slices.Equal(told[0], want) {
		t.Errorf("Crew: %v, %v, not %v", told, err, want)
	}
	wantLook(t, p, 15, 10, 4)
}

func TestCrewLists(t *testing.T) {
	p := newPurse(t, 10)
	for _, lists := range []int{0, 1, 2, api.MaxCrew - 1, api.MaxCrew} {
		told, err := p.Crew(make([][]api.PurseOp, lists)...)
		if err != api.OK || len(told) != lists {
			t.Fatalf("Crew of %d empty lists: %v, %v", lists, told, err)
		}
		for _, list := range told {
			if len(list) != 0 {
				t.Errorf("an empty list was told %v", list)
			}
		}
	}
	for _, lists := range []int{api.MaxCrew + 1, 2 * api.MaxCrew, 1000} {
		ops := slices.Repeat([][]api.PurseOp{{op(api.PurseHold, 1)}}, lists)
		if told, err := p.Crew(ops...); told != nil || err != api.ErrArg {
			t.Errorf("Crew of %d lists: %v, %v", lists, told, err)
		}
	}
	wantLook(t, p, 10, 0, 0)
}

// Lists of different lengths, whose steps are answered alike whoever is first: each answer stands where its step does.
func TestCrewInTheListsOrder(t *testing.T) {
	for range 50 {
		p := stands(t, most, 1000, 0)
		ops := make([][]api.PurseOp, api.MaxCrew)
		want := make([][]api.Errno, len(ops))
		for i := range ops {
			for j := range i % 7 {
				ops[i] = append(ops[i], op(api.PurseSpend, int64(j%2)), op(api.PurseKind(j), -1), op(api.PurseBring, int64(1+i)), op(api.PurseFree, most))
				want[i] = append(want[i], api.OK, api.ErrArg, api.ErrBudget, api.ErrHeld)
			}
		}
		told, err := p.Crew(ops...)
		if err != api.OK || !slices.EqualFunc(told, want, slices.Equal) {
			t.Fatalf("Crew: %v, %v, not %v", told, err, want)
		}
	}
}

// What is handed in is as it was, spare room included; what is answered is new memory.
func TestCrewMemory(t *testing.T) {
	p := newPurse(t, 100)
	room := []api.PurseOp{op(api.PurseHold, 1), op(api.PurseHold, 2), op(api.PurseHold, 3), op(9, 9)}
	ahead := slices.Clone(room)
	lists := make([][]api.PurseOp, 2, 4)
	lists[0], lists[1] = room[:1], room[1:3]
	told, err := p.Crew(lists...)
	again, _ := p.Crew(lists...)
	if err != api.OK || !slices.Equal(room, ahead) || len(lists[0]) != 1 || len(lists[1]) != 2 || lists[:3][2] != nil {
		t.Errorf("%v: what was handed in is %v, in %v", err, room, lists[:4])
	}
	wantLook(t, p, 100, 12, 0)
	for _, l := range told {
		for i := range l[:cap(l)] {
			l[:cap(l)][i] = 77
		}
	}
	room[0], room[1] = op(9, 9), op(9, 9)
	if want := [][]api.Errno{{api.OK}, {api.OK, api.OK}}; !slices.EqualFunc(again, want, slices.Equal) {
		t.Errorf("another answer was turned into %v", again)
	}
	for i := range told[0] {
		told[0][i] = 5
	}
	if told[1][0] != 77 || told[1][1] != 77 {
		t.Errorf("two lists of one answer share memory: %v", told)
	}
}

// P20.5: what is brought is free in the other purse, spent in the first.
func TestMove(t *testing.T) {
	for _, row := range []struct {
		from, to  api.Coins
		c         int64
		want      api.Errno
		then, got api.Coins
	}{
		{coins(20, 8, 5), coins(3, 1, 1), 0, api.OK, coins(20, 8, 5), coins(3, 1, 1)},
		{coins(20, 8, 5), coins(3, 1, 1), 1, api.OK, coins(20, 8, 6), coins(4, 1, 1)},
		{coins(20, 8, 5), coins(3, 1, 1), 7, api.OK, coins(20, 8, 12), coins(10, 1, 1)},
		{coins(20, 8, 5), coins(3, 1, 1), 8, api.ErrBudget, coins(20, 8, 5), coins(3, 1, 1)},
		{coins(20, 8, 5), coins(3, 1, 1), most, api.ErrBudget, coins(20, 8, 5), coins(3, 1, 1)},
		{coins(20, 8, 5), coins(most-7, 1, 1), 7, api.OK, coins(20, 8, 12), coins(most, 1, 1)},
		{coins(20, 8, 5), coins(most-6, 1, 1), 7, api.ErrBudget, coins(20, 8, 5), coins(most-6, 1, 1)},
		{coins(20, 8, 5), coins(most, 0, most), 1, api.ErrBudget, coins(20, 8, 5), coins(most, 0, most)},
		{coins(20, 8, 5), coins(most, 0, 0), 0, api.OK, coins(20, 8, 5), coins(most, 0, 0)},
		{coins(most, 0, 0), coins(0, 0, 0), most, api.OK, coins(most, 0, most), coins(most, 0, 0)},
		{coins(most, 0, 0), coins(1, 0, 0), most, api.ErrBudget, coins(most, 0, 0), coins(1, 0, 0)},
		{coins(0, 0, 0), coins(0, 0, 0), 0, api.OK, coins(0, 0, 0), coins(0, 0, 0)},
		{coins(0, 0, 0), coins(9, 0, 0), 1, api.ErrBudget, coins(0, 0, 0), coins(9, 0, 0)},
		{coins(9, 9, 0), coins(9, 0, 0), 1, api.ErrBudget, coins(9, 9, 0), coins(9, 0, 0)},
	} {
		from, _ := purse.Of(row.from)
		to, _ := purse.Of(row.to)
		if err := purse.Move(from, to, row.c); err != row.want || from.Look() != row.then || to.Look() != row.got {
			t.Errorf("Move(%v, %v, %d): %v, %v, %v", row.from, row.to, row.c, err, from.Look(), to.Look())
		}
	}
}

func TestMoveNoCoins(t *testing.T) {
	from, to, full := stands(t, 20, 8, 5), newPurse(t, 3), newPurse(t, most)
	for _, c := range noCoins {
		wantErr(t, "Move", purse.Move(from, to, c), api.ErrArg)
		wantErr(t, "Move to a full one", purse.Move(from, full, c), api.ErrArg)
		wantErr(t, "Move to itself", purse.Move(from, from, c), api.ErrArg)
		wantErr(t, "Move from an empty one", purse.Move(newPurse(t, 0), to, c), api.ErrArg)
	}
	wantLook(t, from, 20, 8, 5)
	wantLook(t, to, 3, 0, 0)
	wantLook(t, full, most, 0, 0)
}

// From and to may be one: what is spent there is brought there again.
func TestMoveToItself(t *testing.T) {
	p := stands(t, 20, 8, 5)
	wantErr(t, "Move(7)", purse.Move(p, p, 7), api.OK)
	wantLook(t, p, 27, 8, 12)
	wantErr(t, "Move(8)", purse.Move(p, p, 8), api.ErrBudget)
	wantLook(t, p, 27, 8, 12)

	p = stands(t, most-3, 1, 2)
	wantErr(t, "Move(4)", purse.Move(p, p, 4), api.ErrBudget)
	wantLook(t, p, most-3, 1, 2)
	wantErr(t, "Move(3)", purse.Move(p, p, 3), api.OK)
	wantLook(t, p, most, 1, 5)
	wantErr(t, "Move(0)", purse.Move(p, p, 0), api.OK)
	wantLook(t, p, most, 1, 5)
}
