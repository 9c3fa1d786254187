package ladder_test

import (
	"math"
	"math/big"
	"math/rand"
	"slices"
	"sync"
	"testing"

	"gavel/api"
	"gavel/ladder"
)

// told is what All tells of one bid.
type told struct {
	r   api.Rise
	err api.Errno
}

// tellings gathers what an iterator tells, at most so much of it.
func tellings(all func(func(api.Rise, api.Errno) bool), most int) []told {
	var list []told
	if most == 0 {
		return list
	}
	for r, err := range all {
		list = append(list, told{r, err})
		if len(list) == most {
			break
		}
	}
	return list
}

// wantAll asks All and Run of the same bids, which none of them may change, the room behind them included.
func wantAll(t *testing.T, l api.Lot, bids []api.RiseBid, want []told) {
	t.Helper()
	before := slices.Clone(bids[:cap(bids)])
	if got := tellings(ladder.All(l, bids...), math.MaxInt); !slices.Equal(got, want) {
		t.Errorf("All(%+v, %v): %v, not %v", l, bids, got, want)
	}
	last, taken := rise(-1, 0, 0, l.Closes), 0
	for _, x := range want {
		last = x.r
		if x.err == api.OK {
			taken++
		}
	}
	if r, n, err := ladder.Run(l, bids...); r != last || n != taken || err != api.OK {
		t.Errorf("Run(%+v, %v): %+v, %d, %v, not %+v, %d", l, bids, r, n, err, last, taken)
	}
	if !slices.Equal(bids[:cap(bids)], before) {
		t.Errorf("%v became %v", before, bids[:cap(bids)])
	}
}

// house is bids of which some are taken, one of each error, and what All tells of them.
func house() ([]api.RiseBid, []told) {
	bids := make([]api.RiseBid, 0, 16)
	bids = append(bids, bid(1, 9, 99, 0), bid(1, 30, 30, 0), bid(2, 14, 99, 5), bid(2, 20, 19, 5), bid(2, 20, 99, 5), bid(-1, 50, 50, 5), bid(2, 40, 99, 95), bid(2, 41, 1, 104), bid(1, 50, 50, 114))
	return bids, []told{
		{rise(-1, 0, 0, 100), api.ErrLow},
		{rise(1, 30, 10, 100), api.OK},
		{rise(1, 30, 10, 100), api.ErrLow},
		{rise(1, 30, 10, 100), api.ErrBudget},
		{rise(1, 30, 25, 100), api.OK},
		{rise(1, 30, 25, 100), api.ErrArg},
		{rise(2, 40, 35, 105), api.OK},
		{rise(2, 41, 35, 114), api.OK},
		{rise(2, 41, 35, 114), api.ErrTime},
	}
}

// P9.5.
func TestAllAndRun(t *testing.T) {
	bids, want := house()
	wantAll(t, lot(), bids, want)
	for n := range bids {
		wantAll(t, lot(), bids[:n], want[:n])
	}
	wantAll(t, lot(), nil, nil)
	wantAll(t, lot(), []api.RiseBid{}, nil)
	wantAll(t, lot(), []api.RiseBid{{}}, []told{{rise(-1, 0, 0, 100), api.ErrLow}})
	wantAll(t, lot(), []api.RiseBid{bid(0, 10, 10, 0), bid(0, 10, 10, 0)}, []told{{rise(0, 10, 10, 100), api.OK}, {rise(0, 10, 10, 100), api.ErrLow}})
}

func TestAllAndRunOfALotThatMayNotBe(t *testing.T) {
	bids, _ := house()
	for _, l := range []api.Lot{{}, changed(lot(), func(l *api.Lot) { l.Kind = api.Falling }), changed(lot(), func(l *api.Lot) { l.Last = 99 }), changed(lot(), func(l *api.Lot) { l.Floor = 1 })} {
		for range ladder.All(l, bids...) {
			t.Errorf("All of %+v tells something", l)
		}
		for _, list := range [][]api.RiseBid{nil, {}, bids} {
			if r, n, err := ladder.Run(l, list...); r != (api.Rise{}) || n != 0 || err != api.ErrArg {
				t.Errorf("Run(%+v, %v): %+v, %d, %v", l, list, r, n, err)
			}
		}
	}
}

func TestAllKeepsTheBidsAsTheyWere(t *testing.T) {
	bids, want := house()
	all := ladder.All(lot(), bids...)
	for i := range bids[:cap(bids)] {
		bids[:cap(bids)][i] = bid(77, 777, 777, 0)
	}
	for round := range 3 {
		if got := tellings(all, math.MaxInt); !slices.Equal(got, want) {
			t.Errorf("round %d: %v, not %v", round, got, want)
		}
	}

	bids, want = house()
	i := 0
	for r, err := range ladder.All(lot(), bids...) {
		clear(bids)
		if (told{r, err}) != want[i] {
			t.Errorf("bid %d: %+v, %v, not %v", i, r, err, want[i])
		}
		i++
	}
}

func TestAllMayBeLeftAnywhere(t *testing.T) {
	bids, want := house()
	all := ladder.All(lot(), bids...)
	for most := range len(want) + 1 {
		if got := tellings(all, most); !slices.Equal(got, want[:most]) {
			t.Errorf("left behind %d: %v, not %v", most, got, want[:most])
		}
	}
	i := 0
	for r, err := range all {
		if inner := tellings(all, math.MaxInt); !slices.Equal(inner, want) || (told{r, err}) != want[i] {
			t.Errorf("gone over again at %d: %+v, %v; %v", i, r, err, inner)
		}
		i++
	}
}

func TestAllMayBeGoneOverAtATime(t *testing.T) {
	bids, want := house()
	all := ladder.All(lot(), bids...)
	var wg sync.WaitGroup
	for range 8 {
		wg.Go(func() {
			for range 50 {
				if got := tellings(all, math.MaxInt); !slices.Equal(got, want) {
					t.Errorf("%v, not %v", got, want)
				}
			}
		})
	}
	wg.Wait()
}

func TestManyBids(t *testing.T) {
	l := api.Lot{Kind: api.Rising, Closes: 1, Step: 1, Extend: 2, Last: 1 << 20}
	var bids []api.RiseBid
	for i := range 1 << 17 {
		bids = append(bids, bid(i%2, int64(i), int64(i), int64(i)))
	}
	r, n, err := ladder.Run(l, bids...)
	if r != rise(1, 1<<17-1, 1<<17-1, 1<<17+1) || n != len(bids) || err != api.OK {
		t.Errorf("%+v, %d, %v", r, n, err)
	}
}

// above says whether a is above the sum of some numbers, however great.
func above(a int64, of ...int64) bool {
	sum := new(big.Int)
	for _, x := range of {
		sum.Add(sum, big.NewInt(x))
	}
	return big.NewInt(a).Cmp(sum) > 0
}

// within says whether a number is one from a to b.
func within(x, a, b int64) bool { return a <= x && x <= b }

// mayBe is DOC.md's word on a lot, and the chapter's on a rise.
func mayBe(l api.Lot, r api.Rise) bool {
	if l.Kind != 1 || l.Floor != 0 || l.Fall != 0 || l.Count != 0 || l.Rule != 0 {
		return false
	}
	if l.Opens < 0 || l.Opens >= l.Closes || !within(l.Last, l.Closes, 1<<40) || !within(l.Extend, 0, 1<<40) || !within(l.Start, 0, 1<<40) || !within(l.Step, 1, 1<<40) {
		return false
	}
	if r.Leader == -1 {
		return r.Limit == 0 && r.Price == 0 && r.Closes == l.Closes
	}
	return r.Leader >= 0 && within(r.Price, l.Start, r.Limit) && r.Limit <= 1<<40 && within(r.Closes, l.Closes, l.Last)
}

// plainly answers what a bid makes of a rise by a rule of another kind: the price lies a step above the lesser one of two limits, within the greater one, whosever they are; and Closes is the later one of two.
func plainly(l api.Lot, r api.Rise, b api.RiseBid) (api.Rise, api.Errno) {
	if !mayBe(l, r) || b.Bidder < 0 || !within(b.Limit, 0, 1<<40) || b.Free < 0 || !within(b.Now, 0, 1<<40) {
		return api.Rise{}, api.ErrArg
	}
	if !within(b.Now, l.Opens, r.Closes-1) {
		return api.Rise{}, api.ErrTime
	}
	least, held := []int64{r.Price, l.Step}, int64(0)
	if r.Leader == -1 {
		least = []int64{l.Start}
	} else if r.Leader == b.Bidder {
		least, held = []int64{r.Limit, 1}, r.Limit
	}
	if !above(b.Limit, append(least, -1)...) {
		return api.Rise{}, api.ErrLow
	}
	if above(b.Limit, b.Free, held) {
		return api.Rise{}, api.ErrBudget
	}
	next := r
	next.Closes = max(r.Closes, min(b.Now+l.Extend, l.Last))
	next.Limit = max(r.Limit, b.Limit)
	if r.Leader == -1 || next.Limit != r.Limit {
		next.Leader = b.Bidder
	}
	if r.Leader == -1 {
		next.Price = l.Start
	} else if r.Leader != b.Bidder {
		next.Price = min(min(r.Limit, b.Limit)+l.Step, next.Limit)
	}
	return next, api.OK
}

// wantPlainly holds each call on a lot, a rise and a bid against the plain rule.
func wantPlainly(t *testing.T, l api.Lot, r api.Rise, b api.RiseBid) api.Errno {
	t.Helper()
	want, wantErr := plainly(l, r, b)
	if got, err := ladder.Bid(l, r, b); got != want || err != wantErr {
		t.Fatalf("Bid(%+v, %+v, %+v): %+v, %v, not %+v, %v", l, r, b, got, err, want, wantErr)
	}
	if got := ladder.Right(l, r); got != mayBe(l, r) {
		t.Fatalf("Right(%+v, %+v): %v", l, r, got)
	}
	if wantErr == api.OK {
		wantRisen(t, l, r, want)
	}
	return wantErr
}

// wantRisen is P9.6 of one bid that was taken.
func wantRisen(t *testing.T, l api.Lot, r, next api.Rise) {
	t.Helper()
	if !ladder.Right(l, next) || next.Leader < 0 || next.Price < r.Price || next.Limit < r.Limit || next.Closes < r.Closes || next.Closes > l.Last {
		t.Fatalf("%+v: %+v became %+v", l, r, next)
	}
	if who, pays, ok := ladder.End(l, next); who != next.Leader || pays != next.Price || !ok || pays > next.Limit {
		t.Fatalf("End(%+v, %+v): %d, %d, %v", l, next, who, pays, ok)
	}
}

// P9.3, P9.6: every bid of few coins and ticks, at every rise of some lots.
func TestEverySmallBid(t *testing.T) {
	lots := []api.Lot{
		{Kind: api.Rising, Closes: 2, Step: 1, Extend: 0, Last: 2},
		{Kind: api.Rising, Opens: 1, Closes: 2, Start: 1, Step: 2, Extend: 2, Last: 4},
		{Kind: api.Rising, Opens: 1, Closes: 3, Start: 2, Step: 1, Extend: 3, Last: 4},
		{Kind: api.Rising, Closes: 1, Start: 1, Step: 3, Extend: 1, Last: 3},
	}
	for _, l := range lots {
		rises := []api.Rise{rise(-1, 0, 0, l.Closes)}
		for limit := int64(-1); limit < 6; limit++ {
			for price := int64(-1); price < 7; price++ {
				for closes := l.Closes - 1; closes <= l.Last+1; closes++ {
					rises = append(rises, rise(0, limit, price, closes), rise(1, limit, price, closes))
				}
			}
		}
		for _, r := range rises {
			for i := range 2 * 9 * 9 * 6 {
				wantPlainly(t, l, r, bid(i%2, int64(i/2%9)-1, int64(i/18%9)-1, int64(i/162)))
			}
		}
	}
}

// P9.1 to P9.4: numbers about the bounds, in every field.
func TestBidsAboutTheBounds(t *testing.T) {
	random := rand.New(rand.NewSource(9))
	edges := []int64{math.MinInt64, -1 << 40, -1, 0, 1, 2, 1<<40 - 1, 1 << 40, 1<<40 + 1, 1 << 41, math.MaxInt64 - 1, math.MaxInt64}
	most := func() int64 { return edges[3+random.Intn(5)] }
	upset := func(x *int64) {
		if random.Intn(16) == 0 {
			*x = edges[random.Intn(len(edges))]
		}
	}
	counts := map[api.Errno]int{}
	for range 400000 {
		l := api.Lot{Kind: api.Rising, Opens: most(), Closes: most(), Start: most(), Step: most(), Extend: most(), Last: most()}
		l.Closes = max(l.Closes, l.Opens+1)
		l.Last = max(l.Last, l.Closes)
		r := rise(random.Intn(3)-1, most(), most(), most())
		if r.Leader == -1 {
			r = rise(-1, 0, 0, l.Closes)
		} else {
			r.Price = max(r.Price, l.Start)
			r.Limit = max(r.Limit, r.Price)
			r.Closes = min(max(r.Closes, l.Closes), l.Last)
		}
		b := bid(random.Intn(2), most(), edges[3+random.Intn(9)], most())
		for _, x := range []*int64{&l.Opens, &l.Closes, &l.Step, &l.Last, &r.Limit, &r.Price, &r.Closes, &b.Limit, &b.Free, &b.Now} {
			upset(x)
		}
		counts[wantPlainly(t, l, r, b)]++
	}
	for _, err := range []api.Errno{api.OK, api.ErrArg, api.ErrTime, api.ErrLow, api.ErrBudget} {
		if counts[err] < 1000 {
			t.Errorf("just %d of %v", counts[err], err)
		}
	}
}

// P9.5, P9.6: runs of bids by few bidders as time goes on, All and Run against the plain rule.
func TestRunsOfBids(t *testing.T) {
	random := rand.New(rand.NewSource(96))
	for range 3000 {
		l := api.Lot{Kind: api.Rising, Opens: int64(random.Intn(3)), Start: int64(random.Intn(5)), Step: int64(1 + random.Intn(4)), Extend: int64(random.Intn(8))}
		l.Closes = l.Opens + int64(1+random.Intn(20))
		l.Last = l.Closes + int64(random.Intn(20))
		r, now := rise(-1, 0, 0, l.Closes), int64(0)
		var bids []api.RiseBid
		var want []told
		for range random.Intn(30) {
			b := bid(random.Intn(4)-random.Intn(40)/39, r.Price+int64(random.Intn(9))-1, r.Price+int64(random.Intn(12)), now)
			next, err := plainly(l, r, b)
			if err == api.OK {
				wantRisen(t, l, r, next)
				r = next
			}
			bids, want = append(bids, b), append(want, told{r, err})
			now += int64(random.Intn(3))
		}
		wantAll(t, l, bids, want)
	}
}

// P9.6: of bids that are all taken, each one of another bidder.
func TestTheGreatestLimitLeads(t *testing.T) {
	random := rand.New(rand.NewSource(69))
	for range 3000 {
		l := changed(lot(), func(l *api.Lot) { l.Start, l.Step = int64(random.Intn(20)), int64(1+random.Intn(6)) })
		var bids []api.RiseBid
		r := rise(-1, 0, 0, l.Closes)
		for _, bidder := range random.Perm(1 + random.Intn(12)) {
			b := bid(bidder, int64(random.Intn(60)), api.MaxCoins, 50)
			if next, err := ladder.Bid(l, r, b); err == api.OK {
				bids, r = append(bids, b), next
			}
		}
		if len(bids) > 0 {
			wantGreatest(t, l, bids)
		}
	}
}

// wantGreatest asks of bids that are all taken for the first one with the greatest limit, and for a price that the others' limits bound.
func wantGreatest(t *testing.T, l api.Lot, bids []api.RiseBid) {
	t.Helper()
	r, n, err := ladder.Run(l, bids...)
	if n != len(bids) || err != api.OK {
		t.Fatalf("%v: %d taken, %v", bids, n, err)
	}
	first := 0
	for i, b := range bids {
		if b.Limit > bids[first].Limit {
			first = i
		}
	}
	if r.Leader != bids[first].Bidder || r.Limit != bids[first].Limit || r.Price > r.Limit {
		t.Errorf("%v: %+v", bids, r)
	}
	if len(bids) == 1 {
		if r.Price != l.Start {
			t.Errorf("%v: %+v, not at Start %d", bids, r, l.Start)
		}
		return
	}
	var others int64
	for i, b := range bids {
		if i != first {
			others = max(others, b.Limit)
		}
	}
	if r.Price > others+l.Step {
		t.Errorf("%v: %+v, above %d and %d", bids, r, others, l.Step)
	}
}
