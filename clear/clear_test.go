package clear_test

import (
	"iter"
	"math"
	"slices"
	"sync"
	"testing"

	"gavel/api"
	"gavel/clear"
)

// most is the most coins that there are.
const most = api.MaxCoins

// list makes offers of pairs: a set of goods, coins.
func list(pairs ...int64) []api.Offer {
	l := make([]api.Offer, 0, len(pairs)/2)
	for i := 0; i < len(pairs); i += 2 {
		l = append(l, api.Offer{Goods: api.Goods(pairs[i]), Coins: pairs[i+1]})
	}
	return l
}

// instance is one of so many goods.
func instance(n int, lists ...[]api.Offer) api.Instance {
	return api.Instance{Goods: n, Buyers: lists}
}

// full is an instance of as many goods and buyers as may be, each with these offers.
func full(l []api.Offer) api.Instance {
	x := instance(api.MaxGoods)
	for range api.MaxBuyers {
		x.Buyers = append(x.Buyers, slices.Clone(l))
	}
	return x
}

// example is the chapter's.
func example() api.Instance {
	return instance(3, list(1, 5, 3, 9), list(2, 6, 6, 7), list(2, 5))
}

// tie is the chapter's other one: two buyers who offer as much for one good.
func tie() api.Instance { return instance(1, list(1, 4), list(1, 4)) }

// of makes a choice.
func of(choice ...int) []int { return choice }

// none is a choice in which nobody gets anything.
func none(buyers int) []int { return slices.Repeat(of(-1), buyers) }

func wantClearing(t *testing.T, call string, x api.Instance, got api.Clearing, err api.Errno, choice []int, worth int64, wantErr api.Errno) {
	t.Helper()
	if !slices.Equal(got.Choice, choice) || got.Worth != worth || err != wantErr {
		t.Errorf("%s of %v: %v, %v, not %v, %d, %v", call, x, got, err, choice, worth, wantErr)
	}
	if err != api.OK && got.Choice != nil {
		t.Errorf("%s of %v: a list beside %v", call, x, err)
	}
}

func wantW(t *testing.T, x api.Instance, want int64, wantErr api.Errno) {
	t.Helper()
	if got, err := clear.W(x); got != want || err != wantErr {
		t.Errorf("W(%v): %d, %v, not %d, %v", x, got, err, want, wantErr)
	}
}

// wantBest asks Best, and W.
func wantBest(t *testing.T, x api.Instance, choice []int, worth int64) {
	t.Helper()
	got, err := clear.Best(x)
	wantClearing(t, "Best", x, got, err, choice, worth, api.OK)
	wantW(t, x, worth, api.OK)
}

// wantPart asks Part, and From.
func wantPart(t *testing.T, x api.Instance, k int, free api.Goods, choice []int, worth int64) {
	t.Helper()
	got, err := clear.Part(x, k, free)
	wantClearing(t, "Part", x, got, err, choice, worth, api.OK)
	if got, err := clear.From(x, k, free); got != worth || err != api.OK {
		t.Errorf("From(%v, %d, %b): %d, %v, not %d", x, k, free, got, err, worth)
	}
}

// wantNoPart asks Part and From what they refuse.
func wantNoPart(t *testing.T, x api.Instance, k int, free api.Goods, want api.Errno) {
	t.Helper()
	got, err := clear.Part(x, k, free)
	wantClearing(t, "Part", x, got, err, nil, 0, want)
	if got, err := clear.From(x, k, free); got != 0 || err != want {
		t.Errorf("From(%v, %d, %b): %d, %v, not %v", x, k, free, got, err, want)
	}
}

func wantWithout(t *testing.T, x api.Instance, buyer int, choice []int, worth int64, wantErr api.Errno) {
	t.Helper()
	got, err := clear.Without(x, buyer)
	wantClearing(t, "Without", x, got, err, choice, worth, wantErr)
}

// wantAll goes over All twice, by one function.
func wantAll(t *testing.T, x api.Instance, want ...[]int) {
	t.Helper()
	seq := clear.All(x)
	for range 2 {
		if got := slices.Collect(seq); !slices.EqualFunc(got, want, slices.Equal) {
			t.Errorf("All(%v): %v, not %v", x, got, want)
		}
	}
}

func wantRank(t *testing.T, x api.Instance, choice []int, want int64, wantErr api.Errno) {
	t.Helper()
	if got, err := clear.Rank(x, choice...); got != want || err != wantErr {
		t.Errorf("Rank(%v, %v): %d, %v, not %d, %v", x, choice, got, err, want, wantErr)
	}
}

// wantCompare asks both ways round.
func wantCompare(t *testing.T, a, b []int, want int) {
	t.Helper()
	if got := clear.Compare(a, b); got != want {
		t.Errorf("Compare(%v, %v): %d, not %d", a, b, got, want)
	}
	if got := clear.Compare(b, a); got != -want {
		t.Errorf("Compare(%v, %v): %d, not %d", b, a, got, -want)
	}
}

// wantRefused asks each call of an instance that may not be, with all else right, and wrong.
func wantRefused(t *testing.T, x api.Instance, want api.Errno) {
	t.Helper()
	got, err := clear.Best(x)
	wantClearing(t, "Best", x, got, err, nil, 0, want)
	wantW(t, x, 0, want)
	for _, k := range []int{0, len(x.Buyers), -1, len(x.Buyers) + 1, math.MinInt, math.MaxInt} {
		wantWithout(t, x, k, nil, 0, want)
		for _, free := range []api.Goods{0, 1, 1 << 31, math.MaxUint32} {
			wantNoPart(t, x, k, free, want)
		}
	}
	wantAll(t, x)
	for _, choice := range [][]int{nil, none(len(x.Buyers)), make([]int, len(x.Buyers)), of(-7), none(99)} {
		wantRank(t, x, choice, 0, want)
	}
}

// TestExamples: the rows of the chapter's table, in their order.
func TestExamples(t *testing.T) {
	x := example()
	wantBest(t, x, of(0, 1, -1), 12)

	wantPart(t, x, 1, 6, of(-1, 1, -1), 7)
	wantPart(t, x, 1, 1, of(-1, -1, -1), 0)
	wantPart(t, x, 3, 0, of(-1, -1, -1), 0)
	wantNoPart(t, x, 4, 0, api.ErrArg)

	wantWithout(t, x, 0, of(-1, 1, -1), 7, api.OK)
	wantWithout(t, x, 1, of(0, -1, 0), 10, api.OK)

	wantAll(t, x, of(0, 1, -1))
	wantRank(t, x, of(1, -1, -1), 3, api.OK)
	wantRank(t, x, of(0, 0, 0), 0, api.ErrChoice)
	wantRank(t, x, of(0), 0, api.ErrChoice)

	wantBest(t, tie(), of(0, -1), 4)
	wantAll(t, tie(), of(0, -1), of(-1, 0))

	wantCompare(t, of(0, -1), of(-1, 0), -1)
	wantCompare(t, of(-1), of(-5), 0)
	wantCompare(t, of(1), of(1, -1), -1)
}

// TestExampleOfTheWhole: the document's sixth one: two who want one good each, and one who wants both.
func TestExampleOfTheWhole(t *testing.T) {
	x := instance(2, list(1, 10), list(2, 10), list(3, 10))
	wantBest(t, x, of(0, 0, -1), 20)
	wantWithout(t, x, 0, of(-1, 0, -1), 10, api.OK)
	wantWithout(t, x, 1, of(0, -1, -1), 10, api.OK)
	wantWithout(t, x, 2, of(0, 0, -1), 20, api.OK)
}

// TestNobody: instances without buyers, and with buyers who offer nothing: the choice in which nobody gets anything is the only one.
func TestNobody(t *testing.T) {
	for n := 1; n <= api.MaxGoods; n++ {
		wantBest(t, instance(n), nil, 0)
		wantAll(t, instance(n), of())
		wantRank(t, instance(n), nil, 0, api.OK)
		wantPart(t, instance(n), 0, 1<<n-1, nil, 0)
		wantNoPart(t, instance(n), 1, 0, api.ErrArg)
		wantWithout(t, instance(n), 0, nil, 0, api.ErrArg)

		x := instance(n, nil, []api.Offer{})
		wantBest(t, x, of(-1, -1), 0)
		wantAll(t, x, of(-1, -1))
		wantRank(t, x, of(-1, -1), 0, api.OK)
		wantWithout(t, x, 1, of(-1, -1), 0, api.OK)
	}
	wantBest(t, full(nil), none(api.MaxBuyers), 0)
	wantAll(t, full(nil), none(api.MaxBuyers))
}

// TestOneBuyer: one of its offers at most, however many could be had together.
func TestOneBuyer(t *testing.T) {
	x := instance(3, list(1, 5, 2, 7, 4, 6, 3, 7))
	wantBest(t, x, of(1), 7)
	wantAll(t, x, of(1), of(3))
	wantPart(t, x, 0, 5, of(2), 6)
	wantPart(t, x, 0, 1, of(0), 5)
	wantPart(t, x, 0, 0, of(-1), 0)
	wantPart(t, x, 1, 7, of(-1), 0)
	wantWithout(t, x, 0, of(-1), 0, api.OK)
	for n, rank := range []int64{2, 0, 1, 0} {
		wantRank(t, x, of(n), rank, api.OK)
	}
	wantRank(t, x, of(-1), 7, api.OK)
	wantBest(t, instance(1, list(1, most)), of(0), most)
	wantBest(t, instance(10, list(1023, 1)), of(0), 1)
}

// TestFirst: of several that are worth as much the first one: the first buyer's lesser number goes ahead, whatever those behind it get; nothing is behind all numbers.
func TestFirst(t *testing.T) {
	wantAll(t, instance(1, list(1, 4, 1, 4), list(1, 4, 1, 3, 1, 4)), of(0, -1), of(1, -1), of(-1, 0), of(-1, 2))
	// The first buyer's two, or its one and another's.
	wantAll(t, instance(2, list(3, 6, 1, 4), list(2, 2)), of(0, -1), of(1, 0))
	wantAll(t, instance(2, list(1, 4, 3, 6), list(2, 2)), of(0, 0), of(1, -1))
	// A first buyer that gets nothing is behind one that gets something, if the worth is the same, and only then.
	wantBest(t, instance(2, list(3, 6), list(1, 3), list(2, 3)), of(0, -1, -1), 6)
	wantBest(t, instance(2, list(3, 6), list(1, 3), list(2, 4)), of(-1, 0, 0), 7)
	wantBest(t, instance(2, list(3, 7), list(1, 3), list(2, 3)), of(0, -1, -1), 7)
	// The first of the last buyers' choices, too.
	wantAll(t, instance(2, list(1, 5), list(2, 1), list(2, 1), list(2, 1, 3, 1)),
		of(0, 0, -1, -1), of(0, -1, 0, -1), of(0, -1, -1, 0))
	// A choice's later numbers count only where the earlier ones are the same.
	wantAll(t, instance(2, list(1, 2, 2, 2), list(1, 2, 2, 2)), of(0, 1), of(1, 0))
}

// TestPart: k and the free goods at their bounds and one past them.
func TestPart(t *testing.T) {
	x := example()
	for _, c := range []struct {
		k      int
		free   api.Goods
		choice []int
		worth  int64
	}{
		{0, 7, of(0, 1, -1), 12}, {0, 6, of(-1, 1, -1), 7}, {0, 5, of(0, -1, -1), 5}, {0, 4, of(-1, -1, -1), 0},
		{0, 3, of(0, 0, -1), 11}, {0, 2, of(-1, 0, -1), 6}, {0, 1, of(0, -1, -1), 5}, {0, 0, of(-1, -1, -1), 0},
		{1, 7, of(-1, 1, -1), 7}, {1, 5, of(-1, -1, -1), 0}, {1, 3, of(-1, 0, -1), 6}, {1, 2, of(-1, 0, -1), 6},
		{2, 7, of(-1, -1, 0), 5}, {2, 2, of(-1, -1, 0), 5}, {2, 5, of(-1, -1, -1), 0}, {2, 0, of(-1, -1, -1), 0},
		{3, 7, of(-1, -1, -1), 0}, {3, 1, of(-1, -1, -1), 0},
	} {
		wantPart(t, x, c.k, c.free, c.choice, c.worth)
	}
	for _, k := range []int{math.MinInt, -2, -1, 4, 5, 32, 33, math.MaxInt} {
		for free := range api.Goods(9) {
			wantNoPart(t, x, k, free, api.ErrArg)
		}
	}
	for k := range 4 {
		for _, free := range []api.Goods{8, 9, 15, 1 << 9, 1 << 10, 1 << 31, math.MaxUint32} {
			wantNoPart(t, x, k, free, api.ErrArg)
		}
	}
	ten := instance(10, list(512, 4), list(1023, 9))
	wantPart(t, ten, 0, 1023, of(-1, 0), 9)
	wantPart(t, ten, 0, 512, of(0, -1), 4)
	wantPart(t, ten, 0, 511, of(-1, -1), 0)
	wantPart(t, ten, 2, 1023, of(-1, -1), 0)
	wantNoPart(t, ten, 0, 1024, api.ErrArg)
	wantNoPart(t, ten, 2, 2047, api.ErrArg)
	wantNoPart(t, ten, 3, 0, api.ErrArg)
}

// TestWithout: each buyer, and those that there are not.
func TestWithout(t *testing.T) {
	x := example()
	wantWithout(t, x, 2, of(0, 1, -1), 12, api.OK)
	for _, buyer := range []int{math.MinInt, -2, -1, 3, 4, 32, math.MaxInt} {
		wantWithout(t, x, buyer, nil, 0, api.ErrArg)
	}
	wantWithout(t, tie(), 0, of(-1, 0), 4, api.OK)
	wantWithout(t, tie(), 1, of(0, -1), 4, api.OK)
	whole := full(list(1023, most))
	first, second := none(api.MaxBuyers), none(api.MaxBuyers)
	first[0], second[1] = 0, 0
	wantWithout(t, whole, 31, first, most, api.OK)
	wantWithout(t, whole, 0, second, most, api.OK)
	wantWithout(t, whole, 32, nil, 0, api.ErrArg)
}

// TestInstances: each bound of an instance, one past it; what offers says of it goes ahead of all else.
func TestInstances(t *testing.T) {
	nine := slices.Repeat(list(1, 1), api.MaxOffers+1)
	wrong := list(1, 1, 0, 1)
	for _, n := range []int{math.MinInt, -1, 0, 11, 32, 33, math.MaxInt} {
		wantRefused(t, instance(n), api.ErrArg)
		wantRefused(t, instance(n, list(1, 1)), api.ErrArg)
		wantRefused(t, instance(n, nine, wrong), api.ErrArg)
	}
	wantRefused(t, instance(1, make([][]api.Offer, api.MaxBuyers+1)...), api.ErrLong)
	wantRefused(t, instance(1, list(1, 1), nine), api.ErrLong)
	wantRefused(t, instance(1, wrong, nine), api.ErrLong)
	for _, l := range [][]api.Offer{wrong, list(1, 0), list(1, -1), list(1, most+1), list(2, 1), list(3, 1), list(1<<31, 1), list(1, math.MinInt64), list(1, math.MaxInt64)} {
		wantRefused(t, instance(1, l), api.ErrOffer)
		wantRefused(t, instance(1, list(1, 1), nil, l), api.ErrOffer)
	}
	wantRefused(t, instance(10, list(1024, 1)), api.ErrOffer)
}

// TestGreatest: as many goods, buyers and offers as may be, with the most coins; the sum is that of ten offers at most.
func TestGreatest(t *testing.T) {
	both := full(slices.Repeat(list(1023, most), api.MaxOffers))
	first := none(api.MaxBuyers)
	first[0] = 0
	wantBest(t, both, first, most)
	seq, n := clear.All(both), 0
	for choice := range seq {
		want := none(api.MaxBuyers)
		want[n/api.MaxOffers] = n % api.MaxOffers
		if !slices.Equal(choice, want) {
			t.Fatalf("the choice %d is %v, not %v", n, choice, want)
		}
		n++
	}
	if n != api.MaxBuyers*api.MaxOffers {
		t.Errorf("%d choices", n)
	}

	// Each buyer one good at most: the first ten get them, the first one the first good, and so on. The last two goods nobody else wants.
	singles := full(list(1, most, 2, most, 4, most, 8, most, 16, most, 32, most, 64, most, 128, most))
	singles.Buyers[30] = list(256, most, 768, most)
	singles.Buyers[31] = list(512, most)
	choice := none(api.MaxBuyers)
	for n := range 8 {
		choice[n] = n
	}
	choice[30], choice[31] = 0, 0
	wantBest(t, singles, choice, 10*most)
	wantPart(t, singles, 31, 1023, append(none(31), 0), most)
	wantPart(t, singles, 32, 1023, none(32), 0)
	choice[30] = 1
	wantRank(t, singles, choice, 0, api.ErrChoice)
	choice[31] = -1
	wantRank(t, singles, choice, most, api.OK)
	wantRank(t, singles, none(32), 10*most, api.OK)
}

// TestManyTies: more choices than anybody could go over are told one by one, each ahead of the next one; and it ends when it is left.
func TestManyTies(t *testing.T) {
	x := full(list(1, 1, 2, 1, 4, 1, 8, 1, 16, 1, 32, 1, 64, 1, 128, 1))
	var last []int
	n := 0
	for choice := range clear.All(x) {
		if n > 0 && clear.Compare(last, choice) != -1 {
			t.Fatalf("%v is told behind %v", choice, last)
		}
		if n%500 == 0 {
			wantRank(t, x, choice, 0, api.OK)
		}
		last = choice
		if n++; n == 20000 {
			break
		}
	}
	if n != 20000 {
		t.Errorf("%d choices", n)
	}
}

// TestRank: what are no choices, and what choices lack.
func TestRank(t *testing.T) {
	x := example()
	for _, choice := range [][]int{nil, {}, {0}, {0, 0}, {0, 0, -1, -1}, {1, 0, -1}, {1, -1, 0}, {-1, 0, 0}, {2, -1, -1}, {-1, 2, -1}, {-1, -1, 1}, {-2, -1, -1}, {-1, -1, -2}, {math.MinInt, -1, -1}, {-1, math.MaxInt, -1}} {
		wantRank(t, x, choice, 0, api.ErrChoice)
	}
	for _, c := range []struct {
		choice []int
		rank   int64
	}{
		{of(0, 1, -1), 0}, {of(0, 0, -1), 1}, {of(0, -1, 0), 2}, {of(0, -1, -1), 7},
		{of(1, -1, -1), 3}, {of(-1, 1, -1), 5}, {of(-1, 0, -1), 6}, {of(-1, -1, 0), 7}, {of(-1, -1, -1), 12},
	} {
		wantRank(t, x, c.choice, c.rank, api.OK)
	}
}

// TestCompare: any two lists.
func TestCompare(t *testing.T) {
	rising := [][]int{
		nil, {0}, {0, 0}, {0, 1}, {0, -1}, {0, -1, 5}, {1}, {1, 0}, {1, 2, 3}, {1, -1}, {2}, {7, -9},
		{math.MaxInt - 1}, {math.MaxInt}, {math.MaxInt, math.MaxInt}, {math.MaxInt, -1},
		{-1}, {-1, 0}, {-1, 0, 0}, {-1, math.MaxInt}, {-1, -1}, {-1, -1, -1},
	}
	for i, a := range rising {
		for j, b := range rising {
			want := 0
			if i < j {
				want = -1
			}
			if i > j {
				want = 1
			}
			wantCompare(t, a, b, want)
		}
	}
	wantCompare(t, nil, of(), 0)
	wantCompare(t, of(-1, 3), of(math.MinInt, 3), 0)
	wantCompare(t, of(-1, 3), of(math.MinInt, 4), -1)
	wantCompare(t, of(-7, 3), of(-2), 1)
	wantCompare(t, of(-7), of(math.MaxInt), 1)
	wantCompare(t, of(math.MinInt), of(0), 1)

	a, b := make([]int, 100000), make([]int, 100000)
	wantCompare(t, a, b, 0)
	b[99999] = -1
	wantCompare(t, a, b, -1)
}

// several is an instance of which many choices are worth the most.
func several() api.Instance {
	return instance(3, list(1, 2, 2, 2, 3, 4), list(1, 2, 4, 2, 6, 4), list(2, 2, 4, 2, 5, 4), list(7, 6))
}

// TestAllLeft: it may be left anywhere, gone over again, and within itself.
func TestAllLeft(t *testing.T) {
	seq := clear.All(several())
	all := slices.Collect(seq)
	if len(all) < 5 || !slices.IsSortedFunc(all, clear.Compare) {
		t.Fatalf("just %v", all)
	}
	for n := 1; n <= len(all); n++ {
		var got [][]int
		for choice := range seq {
			got = append(got, choice)
			if len(got) == n {
				break
			}
		}
		if !slices.EqualFunc(got, all[:n], slices.Equal) {
			t.Errorf("left behind %d: %v, not %v", n, got, all[:n])
		}
	}
	n := 0
	for choice := range seq {
		if !slices.Equal(choice, all[n]) || !slices.EqualFunc(slices.Collect(seq), all, slices.Equal) {
			t.Errorf("the choice %d, within: %v, not %v", n, choice, all[n])
		}
		n++
	}
}

// TestAllAtATime: several may go over one function at a time.
func TestAllAtATime(t *testing.T) {
	seq := clear.All(several())
	all := slices.Collect(seq)
	var crew sync.WaitGroup
	for range 8 {
		crew.Go(func() {
			for range 20 {
				if got := slices.Collect(seq); !slices.EqualFunc(got, all, slices.Equal) {
					t.Errorf("%v, not %v", got, all)
				}
			}
		})
	}
	crew.Wait()
}

// TestAllAsCalled: it tells of the instance as it was when it was called, also of one that may not be then.
func TestAllAsCalled(t *testing.T) {
	x := several()
	seq := clear.All(x)
	want := slices.Collect(seq)

	next, stop := iter.Pull(seq)
	defer stop()
	next()
	x.Buyers[0][0] = api.Offer{Goods: 1 << 31, Coins: -5}
	x.Buyers[1][1].Coins = most
	x.Buyers[2] = nil
	x.Buyers[3] = list(7, most)
	if choice, _ := next(); !slices.Equal(choice, want[1]) {
		t.Errorf("with changes in between: %v, not %v", choice, want[1])
	}
	if got := slices.Collect(seq); !slices.EqualFunc(got, want, slices.Equal) {
		t.Errorf("behind changes: %v, not %v", got, want)
	}

	y := instance(1, list(1, 0))
	seq = clear.All(y)
	y.Buyers[0][0].Coins = 3
	if got := slices.Collect(seq); got != nil {
		t.Errorf("of one that could not be: %v", got)
	}
}

// spoil writes over a list, and over its spare room.
func spoil(l []int) {
	l = l[:cap(l)]
	for i := range l {
		l[i] = 77
	}
}

// TestAnswersAreNew: an answer shares nothing with the next one, in its room neither.
func TestAnswersAreNew(t *testing.T) {
	want := slices.Collect(clear.All(several()))
	seq, n := clear.All(several()), 0
	for choice := range seq {
		if !slices.Equal(choice, want[n]) {
			t.Errorf("the choice %d is %v, not %v", n, choice, want[n])
		}
		spoil(choice)
		n++
	}
	if got := slices.Collect(seq); !slices.EqualFunc(got, want, slices.Equal) {
		t.Errorf("then: %v, not %v", got, want)
	}
	all := slices.Collect(seq)
	for i, choice := range all {
		if !slices.Equal(choice, want[i]) {
			t.Errorf("all together, the choice %d is %v, not %v", i, choice, want[i])
		}
		spoil(choice)
	}

	x := example()
	best, _ := clear.Best(x)
	part, _ := clear.Part(x, 0, 7)
	without, _ := clear.Without(x, 2)
	for _, c := range []api.Clearing{best, part, without} {
		wantClearing(t, "one of three", x, c, api.OK, of(0, 1, -1), 12, api.OK)
		spoil(c.Choice)
	}
	wantBest(t, x, of(0, 1, -1), 12)
}

// TestHandedIn: what is handed in is as it was, the room behind it too.
func TestHandedIn(t *testing.T) {
	l, m := list(1, 5, 3, 9, 77, 77), list(2, 6, 6, 7, 78, 78)
	lists := [][]api.Offer{l[:2], m[:2], list(2, 5), m}
	choice, other := of(1, -1, -1, 80), of(0, -5, 81)
	x := instance(3, lists[:3]...)

	wantBest(t, x, of(0, 1, -1), 12)
	wantPart(t, x, 1, 6, of(-1, 1, -1), 7)
	wantWithout(t, x, 0, of(-1, 1, -1), 7, api.OK)
	wantWithout(t, x, 1, of(0, -1, 0), 10, api.OK)
	wantAll(t, x, of(0, 1, -1))
	wantRank(t, x, choice[:3], 3, api.OK)
	wantCompare(t, choice[:3], other[:2], 1)

	if !slices.Equal(l, list(1, 5, 3, 9, 77, 77)) || !slices.Equal(m, list(2, 6, 6, 7, 78, 78)) {
		t.Errorf("the offers are %v, %v then", l, m)
	}
	if !slices.Equal(choice, of(1, -1, -1, 80)) || !slices.Equal(other, of(0, -5, 81)) {
		t.Errorf("the choices are %v, %v then", choice, other)
	}
	if len(lists[0]) != 2 || len(lists[1]) != 2 || len(lists[2]) != 1 || len(lists[3]) != 3 {
		t.Errorf("the lists are %v then", lists)
	}
}
