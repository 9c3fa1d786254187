package cells_test

import (
	"math"
	"slices"
	"testing"

	"gavel/api"
	"gavel/cells"
)

const (
	least    = int64(math.MinInt64)
	greatest = int64(math.MaxInt64)
)

func count(t *testing.T, stripes int) *cells.Count {
	t.Helper()
	c, err := cells.NewCount(stripes)
	if c == nil || err != api.OK {
		t.Fatalf("NewCount(%d): %v, %v", stripes, c, err)
	}
	return c
}

func gate(t *testing.T, n int) *cells.Gate {
	t.Helper()
	g, err := cells.NewGate(n)
	if g == nil || err != api.OK {
		t.Fatalf("NewGate(%d): %v, %v", n, g, err)
	}
	return g
}

func tickets(t *testing.T, n int64) *cells.Tickets {
	t.Helper()
	k, err := cells.NewTickets(n)
	if k == nil || err != api.OK {
		t.Fatalf("NewTickets(%d): %v, %v", n, k, err)
	}
	return k
}

func wantAdd(t *testing.T, c *cells.Count, stripe int, x, want int64, wantErr api.Errno) {
	t.Helper()
	if got, err := c.Add(stripe, x); got != want || err != wantErr {
		t.Errorf("Add(%d, %d): %d, %v, not %d, %v", stripe, x, got, err, want, wantErr)
	}
}

func wantStripes(t *testing.T, c *cells.Count, want ...int64) {
	t.Helper()
	var got []int64
	var sum int64
	for i, x := range c.All() {
		if i != len(got) {
			t.Errorf("All tells the stripe %d at the place %d", i, len(got))
		}
		got = append(got, x)
	}
	for _, x := range want {
		sum += x
	}
	if !slices.Equal(got, want) || c.Sum() != sum {
		t.Errorf("the stripes are %v, the sum %d, not %v and %d", got, c.Sum(), want, sum)
	}
}

func wantRaise(t *testing.T, m *cells.Mark, x, want int64, wantUp bool) {
	t.Helper()
	if got, up := m.Raise(x); got != want || up != wantUp {
		t.Errorf("Raise(%d): %d, %v, not %d, %v", x, got, up, want, wantUp)
	}
}

func wantMark(t *testing.T, m *cells.Mark, want int64) {
	t.Helper()
	if got := m.Get(); got != want {
		t.Errorf("the mark is %d, not %d", got, want)
	}
}

func wantOffer(t *testing.T, b *cells.Best, who int, x int64, want bool) {
	t.Helper()
	if got := b.Offer(who, x); got != want {
		t.Errorf("Offer(%d, %d): %v", who, x, got)
	}
}

func wantBest(t *testing.T, b *cells.Best, who int, x int64, any bool) {
	t.Helper()
	if gotWho, got, gotAny := b.Get(); gotWho != who || got != x || gotAny != any {
		t.Errorf("the best is %d, %d, %v, not %d, %d, %v", gotWho, got, gotAny, who, x, any)
	}
}

func wantArrive(t *testing.T, g *cells.Gate, want int, wantOpen bool) {
	t.Helper()
	if got, open := g.Arrive(); got != want || open != wantOpen {
		t.Errorf("Arrive: %d, %v, not %d, %v", got, open, want, wantOpen)
	}
}

func wantGate(t *testing.T, g *cells.Gate, want int, wantOpen bool) {
	t.Helper()
	if got, open := g.Arrived(), g.Open(); got != want || open != wantOpen {
		t.Errorf("the gate: %d, %v, not %d, %v", got, open, want, wantOpen)
	}
}

func wantTake(t *testing.T, k *cells.Tickets, want int64, wantOk bool) {
	t.Helper()
	if got, ok := k.Take(); got != want || ok != wantOk {
		t.Errorf("Take: %d, %v, not %d, %v", got, ok, want, wantOk)
	}
}

func wantLeft(t *testing.T, k *cells.Tickets, want int64) {
	t.Helper()
	if got := k.Left(); got != want {
		t.Errorf("%d are left, not %d", got, want)
	}
}

func TestExamplesAlone(t *testing.T) {
	for _, n := range []int{0, 65} {
		if c, err := cells.NewCount(n); c != nil || err != api.ErrArg {
			t.Errorf("NewCount(%d): %v, %v", n, c, err)
		}
	}
	c := count(t, 2)
	wantAdd(t, c, 1, 5, 5, api.OK)
	wantAdd(t, c, 1, -2, 3, api.OK)
	wantAdd(t, c, 2, 1, 0, api.ErrArg)
	wantStripes(t, c, 0, 3)

	m := cells.NewMark(4)
	wantRaise(t, m, 3, 4, false)
	wantRaise(t, m, 9, 4, true)
	wantRaise(t, m, 9, 9, false)
	wantMark(t, m, 9)

	b := cells.NewBest()
	wantOffer(t, b, 2, 5, true)
	wantOffer(t, b, 1, 5, true)
	wantOffer(t, b, 3, 5, false)
	wantOffer(t, b, 3, 6, true)
	wantBest(t, b, 3, 6, true)

	g := gate(t, 2)
	wantArrive(t, g, 0, false)
	wantArrive(t, g, 1, true)
	wantArrive(t, g, 2, true)
	wantGate(t, g, 3, true)

	k := tickets(t, 1)
	wantTake(t, k, 0, true)
	wantTake(t, k, 0, false)
	wantLeft(t, k, 0)
}

func TestNewCount(t *testing.T) {
	for _, n := range []int{0, -1, -64, math.MinInt, api.MaxCrew + 1, 1 << 20, math.MaxInt} {
		if c, err := cells.NewCount(n); c != nil || err != api.ErrArg {
			t.Errorf("NewCount(%d): %v, %v", n, c, err)
		}
	}
	for n := 1; n <= api.MaxCrew; n++ {
		wantStripes(t, count(t, n), make([]int64, n)...)
	}
}

func TestAdd(t *testing.T) {
	for _, n := range []int{1, 2, 63, api.MaxCrew} {
		c := count(t, n)
		want := make([]int64, n)
		for _, stripe := range []int{-1, math.MinInt, n, n + 1, math.MaxInt} {
			wantAdd(t, c, stripe, 1, 0, api.ErrArg)
		}
		for round := range int64(3) {
			for i := range want {
				x := round*int64(i) - 7
				want[i] += x
				wantAdd(t, c, i, x, want[i], api.OK)
				wantAdd(t, c, i, 0, want[i], api.OK)
			}
			wantStripes(t, c, want...)
		}
	}
}

func TestSumsGoRound(t *testing.T) {
	c := count(t, 3)
	wantAdd(t, c, 0, greatest, greatest, api.OK)
	wantAdd(t, c, 1, 1, 1, api.OK)
	if sum := c.Sum(); sum != least {
		t.Errorf("the sum is %d", sum)
	}
	wantAdd(t, c, 0, 1, least, api.OK)
	wantAdd(t, c, 2, least, least, api.OK)
	wantStripes(t, c, least, 1, least)
	if sum := c.Sum(); sum != 1 {
		t.Errorf("the sum is %d", sum)
	}
	wantAdd(t, c, 2, -1, greatest, api.OK)
	wantAdd(t, c, 2, greatest, -2, api.OK)
}

func TestAllIsLeftAndGoneOverAgain(t *testing.T) {
	c := count(t, 5)
	for i := range 5 {
		wantAdd(t, c, i, int64(i*i), int64(i*i), api.OK)
	}
	all := c.All()
	for stop := range 6 {
		told := 0
		for i, x := range all {
			if i != told || x != int64(i*i) {
				t.Errorf("at the place %d: %d, %d", told, i, x)
			}
			told++
			if told > stop {
				break
			}
		}
		if told != min(stop+1, 5) {
			t.Errorf("%d were told, left behind %d", told, stop)
		}
	}
}

// Each stripe is told as it is when All comes to it, not as it was when All was called or begun.
func TestAllTellsAsItComes(t *testing.T) {
	c := count(t, 4)
	all := c.All()
	wantAdd(t, c, 0, 10, 10, api.OK)
	var got []int64
	for i, x := range all {
		got = append(got, x)
		wantAdd(t, c, 0, 1, int64(11+i), api.OK)
		if i < 3 {
			wantAdd(t, c, i+1, int64(100+i), int64(100+i), api.OK)
		}
	}
	if want := []int64{10, 100, 101, 102}; !slices.Equal(got, want) {
		t.Errorf("told are %v, not %v", got, want)
	}
	wantStripes(t, c, 14, 100, 101, 102)
}

func TestAllWithinAll(t *testing.T) {
	c := count(t, 3)
	pairs := 0
	for i := range c.All() {
		for j := range c.All() {
			pairs += 10*i + j + 1
		}
	}
	if want := 9 + 10*9 + 9; pairs != want {
		t.Errorf("the pairs come to %d, not %d", pairs, want)
	}
}

func TestMark(t *testing.T) {
	numbers := []int64{least, least + 1, -5, -1, 0, 1, 5, 1 << 40, greatest - 1, greatest}
	for _, start := range numbers {
		for _, x := range numbers {
			m := cells.NewMark(start)
			wantMark(t, m, start)
			wantRaise(t, m, x, start, x > start)
			wantMark(t, m, max(start, x))
			wantRaise(t, m, x, max(start, x), false)
			wantRaise(t, m, greatest, max(start, x), max(start, x) != greatest)
			wantMark(t, m, greatest)
		}
	}
}

func TestBest(t *testing.T) {
	b := cells.NewBest()
	wantBest(t, b, 0, 0, false)
	wantOffer(t, b, math.MaxInt, least, true)
	wantBest(t, b, math.MaxInt, least, true)
	wantOffer(t, b, math.MaxInt, least, false)
	wantOffer(t, b, 7, least, true)
	wantOffer(t, b, 8, least, false)
	wantOffer(t, b, 9, least+1, true)
	wantOffer(t, b, 0, least, false)
	wantOffer(t, b, 0, 0, true)
	wantBest(t, b, 0, 0, true)
	wantOffer(t, b, -1, -1, false)
	wantOffer(t, b, -1, 0, true)
	wantOffer(t, b, math.MinInt, 0, true)
	wantOffer(t, b, -1, 0, false)
	wantBest(t, b, math.MinInt, 0, true)
	wantOffer(t, b, 3, greatest, true)
	wantOffer(t, b, 4, greatest, false)
	wantOffer(t, b, 2, greatest-1, false)
	wantOffer(t, b, 2, greatest, true)
	wantBest(t, b, 2, greatest, true)
}

func TestGate(t *testing.T) {
	for _, n := range []int{0, -1, math.MinInt} {
		if g, err := cells.NewGate(n); g != nil || err != api.ErrArg {
			t.Errorf("NewGate(%d): %v, %v", n, g, err)
		}
	}
	for _, n := range []int{1, 2, 3, 64, 65, 1000, math.MaxInt} {
		g := gate(t, n)
		for i := range min(n, 1000) + 3 {
			wantGate(t, g, i, i >= n)
			wantArrive(t, g, i, i+1 >= n)
		}
	}
}

func TestTickets(t *testing.T) {
	for _, n := range []int64{-1, -2, least} {
		if k, err := cells.NewTickets(n); k != nil || err != api.ErrArg {
			t.Errorf("NewTickets(%d): %v, %v", n, k, err)
		}
	}
	for _, n := range []int64{0, 1, 2, 65, greatest} {
		k := tickets(t, n)
		for i := range min(n, 100) {
			wantLeft(t, k, n-i)
			wantTake(t, k, i, true)
		}
		if n <= 100 {
			wantTake(t, k, 0, false)
			wantTake(t, k, 0, false)
			wantLeft(t, k, 0)
		}
	}
}

func wantNoCount(t *testing.T, c *cells.Count) {
	t.Helper()
	for _, stripe := range []int{0, 1, -1, 64, math.MaxInt} {
		wantAdd(t, c, stripe, 1, 0, api.ErrNil)
	}
	if c.All() == nil {
		t.Fatal("All is not there")
	}
	wantStripes(t, c)
}

func TestNilAndZero(t *testing.T) {
	wantNoCount(t, nil)
	wantNoCount(t, &cells.Count{})
	refused, _ := cells.NewCount(0)
	wantNoCount(t, refused)
	for _, m := range []*cells.Mark{nil, {}} {
		for _, x := range []int64{1, 0, -1, greatest} {
			wantRaise(t, m, x, 0, false)
			wantMark(t, m, 0)
		}
	}
	for _, b := range []*cells.Best{nil, {}} {
		wantOffer(t, b, 0, 5, false)
		wantOffer(t, b, 3, -5, false)
		wantBest(t, b, 0, 0, false)
	}
	noGate, _ := cells.NewGate(0)
	for _, g := range []*cells.Gate{nil, {}, noGate} {
		wantGate(t, g, 0, false)
		wantArrive(t, g, 0, false)
		wantArrive(t, g, 0, false)
		wantGate(t, g, 0, false)
	}
	noTickets, _ := cells.NewTickets(-1)
	for _, k := range []*cells.Tickets{nil, {}, noTickets} {
		wantLeft(t, k, 0)
		wantTake(t, k, 0, false)
		wantLeft(t, k, 0)
	}
}

// Two cells of one kind have nothing in common.
func TestApart(t *testing.T) {
	one, other := count(t, 2), count(t, 2)
	wantAdd(t, one, 0, 5, 5, api.OK)
	wantStripes(t, other, 0, 0)
	m, n := cells.NewMark(1), cells.NewMark(1)
	wantRaise(t, m, 2, 1, true)
	wantMark(t, n, 1)
	a, b := cells.NewBest(), cells.NewBest()
	wantOffer(t, a, 1, 1, true)
	wantBest(t, b, 0, 0, false)
	g, h := gate(t, 1), gate(t, 1)
	wantArrive(t, g, 0, true)
	wantGate(t, h, 0, false)
	k, l := tickets(t, 3), tickets(t, 3)
	wantTake(t, k, 0, true)
	wantLeft(t, l, 3)
}
