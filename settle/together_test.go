package settle_test

import (
	"bytes"
	"math/rand"
	"runtime"
	"slices"
	"strconv"
	"strings"
	"sync"
	"sync/atomic"
	"testing"
	"time"

	"gavel/api"
	"gavel/ledger"
	"gavel/settle"
)

// together lets goroutines do something at a time, and waits for them. They spin till all are there, so that they really meet.
func together(goroutines int, do func(g int)) {
	var all sync.WaitGroup
	var there atomic.Int64
	for g := range goroutines {
		all.Go(func() {
			there.Add(1)
			for there.Load() < int64(goroutines) {
				runtime.Gosched()
			}
			do(g)
		})
	}
	all.Wait()
}

// A model of the chapter's words, done alone. It is just the deals that were posted, in their order, told by their places in someDeals: what is known of keys, and what accounts have, is made out of them anew whenever it is asked.

type posted string

// someDeals are deals over the accounts a, b and c (least -10, -10, 0), of few keys: some are alike, some can never be posted, some can be behind others alone.
var someDeals = []api.Deal{
	deal("k", pair(3)...),
	deal("k", pair(4)...),
	deal("k", pair(3)...),
	deal("m", pair(8)...),
	deal("m", give("b", "a", 12)...),
	deal("", give("b", "c", 2)...),
	deal("", give("c", "b", 2)...),
	deal("n", pair(99)...),
	deal("n", give("c", "a", 1)...),
	deal("n"),
	deal("k", give("a", "d", 3)...),
	deal("m", e("a", -2), e("b", 1), e("b", 1)),
}

func over(t *testing.T) (*settle.Settler, *ledger.Ledger) {
	t.Helper()
	l := opened(t, -10)
	if _, err := l.Open("c", 0); err != api.OK {
		t.Fatal(err)
	}
	return newOver(t, l), l
}

func (p posted) deals() []api.Deal {
	var list []api.Deal
	for _, c := range []byte(p) {
		list = append(list, someDeals[c-'A'])
	}
	return list
}

// do answers what stands behind someDeals[n], and what it is told.
func (p posted) do(n int) (posted, api.Settled) {
	d := someDeals[n]
	for number, old := range p.deals() {
		if old.Key == d.Key {
			if slices.Equal(old.Entries, d.Entries) {
				return p, again(int64(number))
			}
			return p, refused(api.ErrOther)
		}
	}
	if err := p.refusal(d.Entries); err != api.OK {
		return p, refused(err)
	}
	return p + posted([]byte{byte('A' + n)}), first(int64(len(p)))
}

// refusal is what the ledger says of entries. (Their sum is 0, if there are any.)
func (p posted) refusal(entries []api.Entry) api.Errno {
	if len(entries) == 0 {
		return api.ErrArg
	}
	has := map[string]int64{"a": 10, "b": 10, "c": 0}
	for _, d := range append(p.deals(), api.Deal{Entries: entries}) {
		for _, x := range d.Entries {
			if _, there := has[x.Who]; !there {
				return api.ErrNone
			}
			has[x.Who] += x.Coins
		}
	}
	for _, left := range has {
		if left < 0 {
			return api.ErrLow
		}
	}
	return api.OK
}

func (p posted) done(key string) (int64, bool) {
	n := slices.IndexFunc(p.deals(), func(d api.Deal) bool { return d.Key == key })
	return int64(max(n, 0)), n >= 0
}

func (p posted) known() []api.Posted {
	var list []api.Posted
	for n, d := range p.deals() {
		list = append(list, api.Posted{Key: d.Key, Number: int64(n)})
	}
	slices.SortFunc(list, func(x, y api.Posted) int { return strings.Compare(x.Key, y.Key) })
	return list
}

// asked is a call of a settler: of 'd' it does someDeals[n], of '?' it asks for that one's key, of 'k', 'a' and 'f' for Known, All and Firsts.
type asked struct {
	call byte
	n    int
}

// told is what a call is answered; what is known of keys stands as a text.
type told struct {
	settled api.Settled
	number  int64
	there   bool
	known   string
	firsts  int64
}

func text(known []api.Posted) string {
	var b strings.Builder
	for _, p := range known {
		b.WriteString(strconv.Quote(p.Key) + " " + strconv.FormatInt(p.Number, 10) + ",")
	}
	return b.String()
}

func ask(s *settle.Settler, a asked) told {
	switch a.call {
	case 'd':
		return told{settled: s.Do(someDeals[a.n].Key, someDeals[a.n].Entries...)}
	case '?':
		n, there := s.Done(someDeals[a.n].Key)
		return told{number: n, there: there}
	case 'k':
		return told{known: text(s.Known())}
	case 'a':
		return told{known: text(gone(s))}
	}
	return told{firsts: s.Firsts()}
}

// alone does a call to what was posted, where nobody else calls.
func (p posted) alone(a asked) (posted, told) {
	switch a.call {
	case 'd':
		then, x := p.do(a.n)
		return then, told{settled: x}
	case '?':
		n, there := p.done(someDeals[a.n].Key)
		return p, told{number: n, there: there}
	case 'k', 'a':
		return p, told{known: text(p.known())}
	}
	return p, told{firsts: int64(len(p))}
}

// wantModel asks for all that a settler tells, and what its ledger has (P22.6).
func wantModel(t *testing.T, s *settle.Settler, l *ledger.Ledger, p posted, firsts int64) {
	t.Helper()
	wantKnown(t, s, p.known()...)
	wantFirsts(t, s, firsts)
	var lists [][]api.Entry
	for _, d := range p.deals() {
		lists = append(lists, d.Entries)
	}
	wantPosted(t, l, lists...)
	for _, d := range someDeals {
		n, there := p.done(d.Key)
		wantDone(t, s, d.Key, n, there)
	}
}

// TestEverySmallWalk: all walks of four deals, against the model; behind each of them a settler that knows what this one knew, over a copy of the ledger, answers each further deal alike (P22.2, P22.6).
func TestEverySmallWalk(t *testing.T) {
	var walk func(steps []int)
	walk = func(steps []int) {
		s, l := over(t)
		var p posted
		for _, n := range steps {
			then, want := p.do(n)
			if got := s.Do(someDeals[n].Key, someDeals[n].Entries...); got != want {
				t.Fatalf("%v, then %d: %v, not %v", p, n, got, want)
			}
			p = then
		}
		wantModel(t, s, l, p, int64(len(p)))
		for n, d := range someDeals {
			c := l.Copy()
			u := fromOver(t, c, s.Known()...)
			then, want := p.do(n)
			wantDo(t, u, d.Key, d.Entries, want)
			wantModel(t, u, c, then, int64(len(then)-len(p)))
		}
		if len(steps) < 3 {
			for n := range someDeals {
				walk(append(slices.Clone(steps), n))
			}
		}
	}
	walk(nil)
}

// TestEverySmallFrom: all keys that settlers may be begun with over a ledger of two postings, and what they answer then (P22.1).
func TestEverySmallFrom(t *testing.T) {
	keys, numbers := []string{"", "a", "b"}, []int64{-1, 0, 1, 2}
	var lists [][]api.Posted
	var fill func(list []api.Posted)
	fill = func(list []api.Posted) {
		lists = append(lists, list)
		if len(list) < 3 {
			for _, key := range keys {
				for _, n := range numbers {
					fill(append(slices.Clone(list), api.Posted{Key: key, Number: n}))
				}
			}
		}
	}
	fill(nil)
	for _, known := range lists {
		l := filled(t, 2)
		unique := map[string]int64{}
		given := true
		for _, p := range known {
			unique[p.Key] = p.Number
			given = given && (p.Number == 0 || p.Number == 1)
		}
		sorted := slices.IsSortedFunc(known, func(x, y api.Posted) int { return strings.Compare(x.Key, y.Key) })
		switch {
		case !sorted || len(unique) < len(known):
			wantNoFrom(t, l, api.ErrArg, known...)
			continue
		case !given:
			wantNoFrom(t, l, api.ErrNone, known...)
			continue
		}
		s := fromOver(t, l, known...)
		wantKnown(t, s, known...)
		next := int64(2)
		for _, key := range keys {
			if n, there := unique[key]; there {
				wantDo(t, s, key, pair(2-n), refused(api.ErrOther))
				wantDo(t, s, key, pair(n+1), again(n))
			} else {
				wantDone(t, s, key, 0, false)
				wantDo(t, s, key, pair(9), first(next))
				next++
			}
		}
		wantFirsts(t, s, next-2)
	}
}

// TestAnyWalk: settlers that go on for long, all calls mixed, and are left for others that know what they knew, against the model (P22.6).
func TestAnyWalk(t *testing.T) {
	r := rand.New(rand.NewSource(22))
	for range 500 {
		s, l := over(t)
		var p posted
		ahead := 0
		for range 40 {
			if r.Intn(8) == 0 {
				s, ahead = fromOver(t, l, s.Known()...), len(p)
			}
			a := anyCall(r)
			then, want := p.alone(a)
			if a.call == 'f' {
				want.firsts -= int64(ahead)
			}
			if got := ask(s, a); got != want {
				t.Fatalf("%v, %c %d: %v, not %v", p, a.call, a.n, got, want)
			}
			p = then
		}
		wantModel(t, s, l, p, int64(len(p)-ahead))
	}
}

func anyCall(r *rand.Rand) asked { return asked{"dddddd?kaf"[r.Intn(10)], r.Intn(len(someDeals))} }

// inSomeOrder says whether there is an order, with each list's own calls in theirs, in which the calls, done alone, are told all that, and come to that end.
func inSomeOrder(end posted, asks [][]asked, tells [][]told) bool {
	type place struct {
		done [4]int
		now  posted
	}
	dead := map[place]bool{}
	var from func(place) bool
	from = func(p place) bool {
		if dead[p] {
			return false
		}
		left := false
		for g := range asks {
			i := p.done[g]
			if i == len(asks[g]) {
				continue
			}
			left = true
			next := p
			var answer told
			next.now, answer = p.now.alone(asks[g][i])
			next.done[g]++
			if answer == tells[g][i] && from(next) {
				return true
			}
		}
		dead[p] = true
		return !left && p.now == end
	}
	return from(place{})
}

// stands is what was posted to a ledger, as the model has it. Of deals that are alike the first one stands for all.
func stands(t *testing.T, s *settle.Settler, l *ledger.Ledger) posted {
	t.Helper()
	keys := map[int64]string{}
	for _, p := range s.Known() {
		keys[p.Number] = p.Key
	}
	var p posted
	for n, entries := range l.All() {
		which := slices.IndexFunc(someDeals, func(d api.Deal) bool { return d.Key == keys[n] && slices.Equal(d.Entries, entries) })
		if which < 0 {
			t.Fatalf("%v was posted for %q", entries, keys[n])
		}
		p += posted([]byte{byte('A' + which)})
	}
	return p
}

// alike is the same deals, those that are alike told by the first of them.
func alike(deals []asked) []asked {
	deals = slices.Clone(deals)
	for i, a := range deals {
		deals[i].n = slices.IndexFunc(someDeals, func(d api.Deal) bool {
			return d.Key == someDeals[a.n].Key && slices.Equal(d.Entries, someDeals[a.n].Entries)
		})
	}
	return deals
}

// TestAsIfOneBehindTheOther: whatever goroutines call at a time, it is as if they had called one behind the other; nobody is told of a key that another one's refusal is about to leave unknown.
func TestAsIfOneBehindTheOther(t *testing.T) {
	r := rand.New(rand.NewSource(23))
	for range 4000 {
		s, l := over(t)
		asks, tells := make([][]asked, 3), make([][]told, 3)
		for g := range asks {
			for range 6 {
				asks[g] = append(asks[g], anyCall(r))
			}
			asks[g] = alike(asks[g])
			tells[g] = make([]told, len(asks[g]))
		}
		together(len(asks), func(g int) {
			for i, a := range asks[g] {
				tells[g][i] = ask(s, a)
			}
		})
		if end := stands(t, s, l); !inSomeOrder(end, asks, tells) {
			t.Fatalf("there is no such order: %v: %v; in the end %v", asks, tells, end)
		}
	}
}

// TestCrewAsIfOneBehindTheOther: the same of a crew's goroutines, each list in its order; in the end as many were posted as were told First (P22.3, P22.6).
func TestCrewAsIfOneBehindTheOther(t *testing.T) {
	r := rand.New(rand.NewSource(24))
	for range 4000 {
		s, l := over(t)
		deals, asks := make([][]api.Deal, 1+r.Intn(4)), make([][]asked, 4)
		for g := range deals {
			for range 5 {
				asks[g] = append(asks[g], asked{'d', r.Intn(len(someDeals))})
			}
			asks[g] = alike(asks[g])
			for _, a := range asks[g] {
				deals[g] = append(deals[g], someDeals[a.n])
			}
		}
		answers, err := s.Crew(deals...)
		if err != api.OK || len(answers) != len(deals) {
			t.Fatalf("Crew: %v, %v", answers, err)
		}
		tells, firsts := make([][]told, 4), int64(0)
		for g, list := range answers {
			if len(list) != len(deals[g]) {
				t.Fatalf("Crew: %v of %v", answers, deals)
			}
			for _, x := range list {
				tells[g] = append(tells[g], told{settled: x})
				if x.First {
					firsts++
				}
			}
		}
		end := stands(t, s, l)
		if !inSomeOrder(end, asks, tells) {
			t.Fatalf("there is no such order: %v: %v; in the end %v", deals, answers, end)
		}
		wantModel(t, s, l, end, firsts)
	}
}

// The checker of orders itself: answers and ends that no order could have are seen.
func TestNoOrderIsSeen(t *testing.T) {
	asks := [][]asked{{{'d', 0}, {'f', 0}}, {{'d', 1}}}
	tells := [][]told{{{settled: first(0)}, {firsts: 1}}, {{settled: refused(api.ErrOther)}}}
	if !inSomeOrder("A", asks, tells) {
		t.Error("an order is not found")
	}
	if inSomeOrder("B", asks, tells) || inSomeOrder("AB", asks, tells) {
		t.Error("another end is taken")
	}
	tells[1][0].settled = first(0)
	if inSomeOrder("A", asks, tells) || inSomeOrder("B", asks, tells) {
		t.Error("both are first?")
	}
	tells[1][0].settled = again(0)
	if inSomeOrder("A", asks, tells) {
		t.Error("told again of other entries?")
	}
	tells[1][0].settled = refused(api.ErrOther)
	tells[0][1].firsts = 0
	if inSomeOrder("A", asks, tells) {
		t.Error("none was first behind one that was?")
	}
}

// wantOneFirst asks what is told of each key of a crew whose deals of one key are all alike, and can be posted: just one First, all the same number (P22.6).
func wantOneFirst(t *testing.T, l *ledger.Ledger, deals [][]api.Deal, answers [][]api.Settled) {
	t.Helper()
	numbers, firsts := map[string]int64{}, map[string]int{}
	for g, list := range answers {
		for i, x := range list {
			d := deals[g][i]
			if n, there := numbers[d.Key]; x.Err != api.OK || there && n != x.Number {
				t.Errorf("%q: %v, of the number %d", d.Key, x, n)
			}
			numbers[d.Key] = x.Number
			if x.First {
				firsts[d.Key]++
			}
			if posted, err := l.Posting(x.Number); err != api.OK || !slices.Equal(posted, d.Entries) {
				t.Errorf("%q: %v, which is %v, %v", d.Key, x, posted, err)
			}
		}
	}
	for key := range numbers {
		if firsts[key] != 1 {
			t.Errorf("%q: %d were first", key, firsts[key])
		}
	}
	if _, postings := l.Len(); postings != int64(len(numbers)) {
		t.Errorf("%d postings of %d keys", postings, len(numbers))
	}
}

// P22.6: of a crew whose deals of one key are all alike.
func TestCrewOfAlikeDeals(t *testing.T) {
	r := rand.New(rand.NewSource(25))
	for range 300 {
		l := opened(t, -moved)
		s := newOver(t, l)
		deals := make([][]api.Deal, 1+r.Intn(api.MaxCrew))
		keys := 1 + r.Intn(20)
		for g := range deals {
			for range r.Intn(12) {
				n := r.Intn(keys)
				deals[g] = append(deals[g], deal("key "+strconv.Itoa(n), pair(int64(n+1))...))
			}
		}
		answers, err := s.Crew(deals...)
		if err != api.OK || len(answers) != len(deals) {
			t.Fatalf("Crew: %v", err)
		}
		wantOneFirst(t, l, deals, answers)
		_, postings := l.Len()
		wantFirsts(t, s, postings)
		if known := s.Known(); int64(len(known)) != postings {
			t.Errorf("%d keys are known, of %d postings", len(known), postings)
		}
	}
}

// TestRefusedAtATime: many ask for one key, some by entries that are refused, one by some that are posted: each is told what holds of its own entries, or that the key was settled by others. None is lost.
func TestRefusedAtATime(t *testing.T) {
	for range 2000 {
		s, l := start(t)
		answers := make([]api.Settled, 8)
		together(len(answers), func(g int) {
			switch {
			case g == 3:
				answers[g] = s.Do("k", pair(5)...)
			case g%2 == 0:
				answers[g] = s.Do("k", pair(11)...)
			default:
				answers[g] = s.Do("k", give("a", "c", 1)...)
			}
		})
		for g, x := range answers {
			own := refused(api.ErrLow)
			if g%2 == 1 {
				own = refused(api.ErrNone)
			}
			if g == 3 && x != first(0) || g != 3 && x != own && x != refused(api.ErrOther) {
				t.Fatalf("%d is told %v: %v", g, x, answers)
			}
		}
		wantPosted(t, l, pair(5))
		wantKnown(t, s, api.Posted{Key: "k"})
		wantFirsts(t, s, 1)
	}
}

// TestSeenAtOneTime: who looks while many settle finds keys whose numbers are those of all postings up to one of them, never fewer than it found ahead, and as many firsts at least as keys were known ahead.
func TestSeenAtOneTime(t *testing.T) {
	const goroutines, each = 4, 300
	s := newOver(t, opened(t, -moved))
	var doing atomic.Int64
	doing.Store(goroutines)
	together(goroutines+2, func(g int) {
		if g < goroutines {
			defer doing.Add(-1)
			for i := range each {
				key := strconv.Itoa((7*i + 13*g) % each)
				s.Do(key, pair(1)...)
				s.Do("refused "+key, e("a", 1))
			}
			return
		}
		seen := 0
		for doing.Load() > 0 {
			known := s.Known()
			if g == goroutines {
				known = gone(s)
			}
			numbers := make([]bool, len(known))
			for _, p := range known {
				if p.Number < 0 || p.Number >= int64(len(known)) || numbers[p.Number] || strings.HasPrefix(p.Key, "refused") {
					t.Errorf("%d keys are known, one of them %v", len(known), p)
					return
				}
				numbers[p.Number] = true
			}
			if len(known) < seen || s.Firsts() < int64(len(known)) {
				t.Errorf("%d keys are known behind %d, %d were first", len(known), seen, s.Firsts())
			}
			seen = len(known)
			runtime.Gosched()
		}
	})
	wantFirsts(t, s, each)
}

// TestDoneIsCounted: a key that is done is counted among the firsts, whoever is asking while it becomes so.
func TestDoneIsCounted(t *testing.T) {
	const keys = 20000
	s := newOver(t, opened(t, -moved))
	together(4, func(g int) {
		for i := range keys {
			if g == 0 {
				wantDo(t, s, strconv.Itoa(i), pair(1), first(int64(i)))
				continue
			}
			key := strconv.Itoa(i)
			for {
				n, there := s.Done(key)
				if firsts := s.Firsts(); there && firsts <= n {
					t.Errorf("%q is done by %d, but %d were first", key, n, firsts)
				}
				if there {
					break
				}
				runtime.Gosched()
			}
		}
	})
}

// TestCrewsTogether: several crews of one settler at a time.
func TestCrewsTogether(t *testing.T) {
	const crews = 4
	l := opened(t, -moved)
	s := newOver(t, l)
	var list []api.Deal
	for i := range 50 {
		list = append(list, deal(strconv.Itoa(i), pair(int64(i+1))...))
	}
	lists := slices.Repeat([][]api.Deal{list}, 16)
	all := make([][][]api.Settled, crews)
	together(crews, func(c int) {
		answers, err := s.Crew(lists...)
		if err != api.OK {
			t.Errorf("Crew: %v", err)
		}
		all[c] = answers
	})
	wantOneFirst(t, l, slices.Repeat(lists, crews), slices.Concat(all...))
	wantFirsts(t, s, 50)
}

// crewNow is how many goroutines there are that the package has begun. The stacks are written while all else stands still, so that it is just as many as there were at one time.
func crewNow() int {
	room := make([]byte, 1<<20)
	return bytes.Count(room[:runtime.Stack(room, true)], []byte("created by gavel/settle."))
}

// TestCrewHasEnded: all goroutines have ended when Crew answers: nothing is posted any more, and none is left. (A goroutine that has told that it is done may need a moment to be gone.) (P22.3)
func TestCrewHasEnded(t *testing.T) {
	for range 30 {
		l := opened(t, -moved)
		s := newOver(t, l)
		lists := make([][]api.Deal, api.MaxCrew)
		for g := range lists {
			for i := range 10 {
				lists[g] = append(lists[g], deal(strconv.Itoa(10*g+i), pair(1)...))
			}
		}
		if _, err := s.Crew(lists...); err != api.OK {
			t.Fatal(err)
		}
		wantHave(t, l, -10*api.MaxCrew, 10*api.MaxCrew)
		wantFirsts(t, s, 10*api.MaxCrew)
	}
	for tries := 0; crewNow() > 0; tries++ {
		if tries == 500 {
			t.Fatalf("%d goroutines are left", crewNow())
		}
		time.Sleep(10 * time.Millisecond)
	}
}

// TestCrewIsAsManyAsLists: a goroutine for each list: some time more than half of them are seen, while all have much to do. (Not all: on a machine that is busy the first ones may be done ahead of a look.) (P22.3)
func TestCrewIsAsManyAsLists(t *testing.T) {
	defer runtime.GOMAXPROCS(runtime.GOMAXPROCS(4))
	s := newOver(t, opened(t, -moved))
	lists := slices.Repeat([][]api.Deal{slices.Repeat([]api.Deal{deal("k", pair(1)...)}, 500)}, api.MaxCrew)
	seen := 0
	for tries := 0; tries < 1000 && seen <= api.MaxCrew/2; tries++ {
		var ended atomic.Bool
		go func() {
			defer ended.Store(true)
			s.Crew(lists...)
		}()
		for !ended.Load() {
			seen = max(seen, crewNow())
		}
	}
	if seen <= api.MaxCrew/2 {
		t.Errorf("%d goroutines were seen at most", seen)
	}
}

// TestLotsAddUpToNothing: whatever was sold, the entries of a lot add up to nothing, name each bidder once, and the house behind it (P22.5, P22.6).
func TestLotsAddUpToNothing(t *testing.T) {
	r := rand.New(rand.NewSource(26))
	for range 5000 {
		var sales []api.Sale
		for range r.Intn(12) {
			coins := r.Int63n(int64(2)<<r.Intn(41)) - 1
			if r.Intn(4) == 0 {
				coins = int64(r.Uint64())
			}
			sales = append(sales, api.Sale{Lot: r.Intn(3), Bidder: r.Intn(6) - 1, Coins: coins})
		}
		var want []api.Entry
		sum := int64(0)
		for i, s := range sales {
			pays := int64(0)
			for _, o := range sales {
				if o.Bidder == s.Bidder {
					pays += o.Coins
				}
			}
			if pays != 0 && !slices.ContainsFunc(sales[:i], func(o api.Sale) bool { return o.Bidder == s.Bidder }) {
				want = append(want, e("bidder-"+strconv.Itoa(s.Bidder), -pays), e("house", pays))
			}
		}
		d := settle.Lot(9, sales...)
		for _, x := range d.Entries {
			sum += x.Coins
		}
		if d.Key != "lot 9" || sum != 0 || !slices.Equal(d.Entries, want) {
			t.Fatalf("Lot of %v: %v, not %v", sales, d, want)
		}
	}
}

// P0.6: lots are settled once, however often settling is begun anew, whatever many begin it, and by whichever settler that knows what was known.
func TestLotsOnce(t *testing.T) {
	r := rand.New(rand.NewSource(27))
	for range 100 {
		l := ledger.New()
		l.Open("house", 0)
		for i := range 10 {
			l.Open("bidder-"+strconv.Itoa(i), -moved)
		}
		var lots []api.Deal
		takings := int64(0)
		for lot := range 8 {
			var sales []api.Sale
			for range 1 + r.Intn(5) {
				sales = append(sales, api.Sale{Lot: lot, Bidder: r.Intn(10), Coins: 1 + r.Int63n(100)})
				takings += sales[len(sales)-1].Coins
			}
			lots = append(lots, settle.Lot(lot, sales...))
		}
		s := newOver(t, l)
		for range 4 {
			lists := make([][]api.Deal, 5)
			for g := range lists {
				lists[g] = slices.Clone(lots[:r.Intn(len(lots)+1)])
			}
			if _, err := s.Crew(lists...); err != api.OK {
				t.Fatal(err)
			}
			s = fromOver(t, l, s.Known()...)
		}
		s.Crew(slices.Repeat([][]api.Deal{lots}, 3)...)
		if has, err := l.Has("house"); has != takings || err != api.OK {
			t.Fatalf("the house has %d, %v, not %d", has, err, takings)
		}
		if _, postings := l.Len(); postings != int64(len(lots)) {
			t.Fatalf("%d postings of %d lots", postings, len(lots))
		}
	}
}
