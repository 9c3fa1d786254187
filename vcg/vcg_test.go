package vcg_test

import (
	"iter"
	"math"
	"slices"
	"sync"
	"testing"

	"gavel/api"
	"gavel/vcg"
)

// most is the most coins that there are.
const most = api.MaxCoins

// list makes offers of pairs: a set of goods, coins.
func list(pairs ...int64) []api.Offer {
	l := make([]api.Offer, 0, len(pairs)/2)
	for i := 0; i < len(pairs); i += 2 {
		l = append(l, api.Offer{Goods: api.Goods(pairs[i]), Coins: pairs[i+1]})
	}
	return l
}

// instance is one of so many goods.
func instance(n int, lists ...[]api.Offer) api.Instance {
	return api.Instance{Goods: n, Buyers: lists}
}

// full is an instance of as many goods and buyers as may be, each with these offers.
func full(l []api.Offer) api.Instance {
	x := instance(api.MaxGoods)
	for range api.MaxBuyers {
		x.Buyers = append(x.Buyers, slices.Clone(l))
	}
	return x
}

// example is the chapter's.
func example() api.Instance {
	return instance(2, list(1, 6, 3, 9), list(2, 5), list(3, 10))
}

// of makes a choice, or other numbers.
func of(numbers ...int) []int { return numbers }

// coins makes payments, or gains.
func coins(numbers ...int64) []int64 { return numbers }

// none is a choice in which nobody gets anything.
func none(buyers int) []int { return slices.Repeat(of(-1), buyers) }

// turn is what Each tells at a time.
type turn struct {
	buyer int
	pays  int64
}

// turns are what a function of Each tells.
func turns(seq iter.Seq2[int, int64]) []turn {
	var l []turn
	for buyer, pays := range seq {
		l = append(l, turn{buyer, pays})
	}
	return l
}

func wantCosts(t *testing.T, x api.Instance, choice []int, worth int64, pays []int64) {
	t.Helper()
	got, err := vcg.Costs(x)
	if !slices.Equal(got.Choice, choice) || got.Worth != worth || !slices.Equal(got.Pays, pays) || err != api.OK {
		t.Errorf("Costs(%v): %v, %v, not %v, %d, %v", x, got, err, choice, worth, pays)
	}
}

func wantWithout(t *testing.T, x api.Instance, buyer int, want int64, wantErr api.Errno) {
	t.Helper()
	if got, err := vcg.Without(x, buyer); got != want || err != wantErr {
		t.Errorf("Without(%v, %d): %d, %v, not %d, %v", x, buyer, got, err, want, wantErr)
	}
}

func wantGains(t *testing.T, x api.Instance, want ...int64) {
	t.Helper()
	if got, err := vcg.Gains(x); !slices.Equal(got, want) || err != api.OK {
		t.Errorf("Gains(%v): %v, %v, not %v", x, got, err, want)
	}
}

func wantPivotal(t *testing.T, x api.Instance, want ...int) {
	t.Helper()
	if got, err := vcg.Pivotal(x); !slices.Equal(got, want) || err != api.OK {
		t.Errorf("Pivotal(%v): %v, %v, not %v", x, got, err, want)
	}
}

func wantIncome(t *testing.T, want int64, pays ...int64) {
	t.Helper()
	if got := vcg.Income(api.Paid{Pays: pays}); got != want {
		t.Errorf("Income of %v: %d, not %d", pays, got, want)
	}
}

// wantEach goes over Each twice, by one function.
func wantEach(t *testing.T, x api.Instance, want ...turn) {
	t.Helper()
	seq, err := vcg.Each(x)
	if err != api.OK || seq == nil {
		t.Fatalf("Each(%v): %v", x, err)
	}
	for range 2 {
		if got := turns(seq); !slices.Equal(got, want) {
			t.Errorf("Each(%v): %v, not %v", x, got, want)
		}
	}
}

// wantPaid asks all calls of an instance but Without: what they tell follows from the choice and the payments.
func wantPaid(t *testing.T, x api.Instance, choice []int, worth int64, pays []int64) {
	t.Helper()
	wantCosts(t, x, choice, worth, pays)
	var told []turn
	var pivotal []int
	var income int64
	gains := make([]int64, len(choice))
	for buyer, n := range choice {
		income += pays[buyer]
		if n < 0 {
			continue
		}
		told = append(told, turn{buyer, pays[buyer]})
		if gains[buyer] = x.Buyers[buyer][n].Coins - pays[buyer]; gains[buyer] > 0 {
			pivotal = append(pivotal, buyer)
		}
	}
	wantGains(t, x, gains...)
	wantPivotal(t, x, pivotal...)
	wantEach(t, x, told...)
	wantIncome(t, income, pays...)
}

// wantRefused asks each call of an instance that may not be; whatever the buyer is, the instance goes ahead.
func wantRefused(t *testing.T, x api.Instance, want api.Errno) {
	t.Helper()
	if got, err := vcg.Costs(x); got.Choice != nil || got.Worth != 0 || got.Pays != nil || err != want {
		t.Errorf("Costs(%v): %v, %v, not %v", x, got, err, want)
	}
	if got, err := vcg.Gains(x); got != nil || err != want {
		t.Errorf("Gains(%v): %v, %v, not %v", x, got, err, want)
	}
	if got, err := vcg.Pivotal(x); got != nil || err != want {
		t.Errorf("Pivotal(%v): %v, %v, not %v", x, got, err, want)
	}
	if seq, err := vcg.Each(x); seq != nil || err != want {
		t.Errorf("Each(%v): a function is there: %v, and %v, not %v", x, seq != nil, err, want)
	}
	for _, buyer := range []int{0, len(x.Buyers) - 1, len(x.Buyers), -1, math.MinInt, math.MaxInt} {
		wantWithout(t, x, buyer, 0, want)
	}
}

// TestExamples: the rows of the chapter's table, in their order.
func TestExamples(t *testing.T) {
	x := example()
	wantCosts(t, x, of(0, 0, -1), 11, coins(5, 4, 0))

	wantWithout(t, x, 0, 10, api.OK)
	wantWithout(t, x, 2, 11, api.OK)
	wantWithout(t, x, 3, 0, api.ErrArg)

	wantGains(t, x, 1, 1, 0)
	wantPivotal(t, x, 0, 1)
	paid, _ := vcg.Costs(x)
	if income := vcg.Income(paid); income != 9 {
		t.Errorf("Income(%v): %d, not 9", paid, income)
	}

	wantPaid(t, instance(1, list(1, 7), list(1, 9), list(1, 9)), of(-1, 0, -1), 9, coins(0, 9, 0))
	wantRefused(t, instance(0), api.ErrArg)

	wantEach(t, x, turn{0, 5}, turn{1, 4})
	wantWithout(t, x, 1, 10, api.OK)
}

// TestExampleOfTheWhole: the document's sixth one, by Costs.
func TestExampleOfTheWhole(t *testing.T) {
	x := instance(2, list(1, 10), list(2, 10), list(3, 10))
	wantPaid(t, x, of(0, 0, -1), 20, coins(0, 0, 0))
	wantGains(t, x, 10, 10, 0)
	wantPivotal(t, x, 0, 1)
	wantEach(t, x, turn{0, 0}, turn{1, 0})
	wantWithout(t, x, 0, 10, api.OK)
	wantWithout(t, x, 1, 10, api.OK)
	wantWithout(t, x, 2, 20, api.OK)
}

// TestNobody: without buyers, and with buyers who offer nothing, nobody wins, and nobody pays.
func TestNobody(t *testing.T) {
	for n := 1; n <= api.MaxGoods; n++ {
		wantPaid(t, instance(n), nil, 0, nil)
		wantWithout(t, instance(n), 0, 0, api.ErrArg)
		wantWithout(t, instance(n), -1, 0, api.ErrArg)

		x := instance(n, nil, []api.Offer{})
		wantPaid(t, x, of(-1, -1), 0, coins(0, 0))
		wantGains(t, x, 0, 0)
		wantPivotal(t, x)
		wantEach(t, x)
		wantWithout(t, x, 0, 0, api.OK)
		wantWithout(t, x, 1, 0, api.OK)
		wantWithout(t, x, 2, 0, api.ErrArg)
	}
	wantPaid(t, full(nil), none(api.MaxBuyers), 0, make([]int64, api.MaxBuyers))
	wantPaid(t, api.Instance{Goods: 1, Buyers: [][]api.Offer{}}, nil, 0, nil)
}

// TestOneBuyer: who is alone costs nobody anything, whatever it offers.
func TestOneBuyer(t *testing.T) {
	for _, c := range []int64{1, 2, most - 1, most} {
		x := instance(1, list(1, c))
		wantPaid(t, x, of(0), c, coins(0))
		wantGains(t, x, c)
		wantPivotal(t, x, 0)
		wantEach(t, x, turn{0, 0})
		wantWithout(t, x, 0, 0, api.OK)
	}
	wantPaid(t, instance(3, list(1, 5, 2, 7, 4, 6, 3, 7)), of(1), 7, coins(0))
	wantPaid(t, instance(10, nil, list(1023, 1), nil), of(-1, 0, -1), 1, coins(0, 0, 0))
}

// TestTwoForOne: a winner pays what the other one offers: from 1 coin to all of its own.
func TestTwoForOne(t *testing.T) {
	for _, c := range []struct{ first, second int64 }{{1, 1}, {2, 1}, {1, 2}, {most, 1}, {1, most}, {most, most}, {most, most - 1}, {most - 1, most}} {
		x := instance(1, list(1, c.first), list(1, c.second))
		wantWithout(t, x, 0, c.second, api.OK)
		wantWithout(t, x, 1, c.first, api.OK)
		if c.first >= c.second {
			wantPaid(t, x, of(0, -1), c.first, coins(c.second, 0))
			wantGains(t, x, c.first-c.second, 0)
			continue
		}
		wantPaid(t, x, of(-1, 0), c.second, coins(0, c.first))
		wantGains(t, x, 0, c.second-c.first)
	}
}

// TestTies: the first of those that offer as much wins, and gains nothing; nobody is pivotal then.
func TestTies(t *testing.T) {
	x := instance(1, list(1, 4), list(1, 4), list(1, 4))
	wantPaid(t, x, of(0, -1, -1), 4, coins(4, 0, 0))
	wantGains(t, x, 0, 0, 0)
	wantPivotal(t, x)
	wantEach(t, x, turn{0, 4})

	// The first one's two goods, or another one's for each: the others are not pivotal either, though both are needed for 6 then.
	x = instance(2, list(3, 6), list(1, 3), list(2, 3))
	wantPaid(t, x, of(0, -1, -1), 6, coins(6, 0, 0))
	wantPivotal(t, x)
	x = instance(2, list(1, 3), list(2, 3), list(3, 6))
	wantPaid(t, x, of(0, 0, -1), 6, coins(3, 3, 0))
	wantPivotal(t, x)

	// A winner by the first of two offers that are the same.
	wantPaid(t, instance(1, list(1, 4, 1, 4), list(1, 3)), of(0, -1), 4, coins(3, 0))
}

// TestOwnOffers: without a buyer none of its offers is there, so that they raise no payment of its own, but others'.
func TestOwnOffers(t *testing.T) {
	// The first one's other offer stands no one in the way; the second one pays what that keeps the first one from.
	x := instance(2, list(1, 6, 3, 9), list(2, 5))
	wantPaid(t, x, of(0, 0), 11, coins(0, 3))
	wantGains(t, x, 6, 2)
	wantWithout(t, x, 0, 5, api.OK)
	wantWithout(t, x, 1, 9, api.OK)

	// What a winner keeps from others may be several offers together.
	x = instance(3, list(7, 20), list(1, 5), list(2, 6), list(4, 7), list(3, 10))
	wantPaid(t, x, of(0, -1, -1, -1, -1), 20, coins(18, 0, 0, 0, 0))

	// Without a winner others win otherwise, and some that won no more: the second one gets nothing where the first one is not there.
	x = instance(3, list(1, 8), list(2, 4), list(3, 9), list(4, 1))
	wantPaid(t, x, of(0, 0, -1, 0), 13, coins(5, 1, 0, 0))
	wantWithout(t, x, 0, 10, api.OK)
	wantWithout(t, x, 1, 10, api.OK)
	wantWithout(t, x, 3, 12, api.OK)
}

// TestWithout: buyers that there are not.
func TestWithout(t *testing.T) {
	for _, buyer := range []int{math.MinInt, -2, -1, 3, 4, 32, 33, math.MaxInt} {
		wantWithout(t, example(), buyer, 0, api.ErrArg)
	}
	whole := full(list(1023, most))
	wantWithout(t, whole, 0, most, api.OK)
	wantWithout(t, whole, 31, most, api.OK)
	wantWithout(t, whole, 32, 0, api.ErrArg)
}

// TestInstances: each bound of an instance, one past it, in the order of the errors.
func TestInstances(t *testing.T) {
	nine := slices.Repeat(list(1, 1), api.MaxOffers+1)
	wrong := list(1, 1, 0, 1)
	for _, n := range []int{math.MinInt, -1, 0, 11, 32, 33, math.MaxInt} {
		wantRefused(t, instance(n), api.ErrArg)
		wantRefused(t, instance(n, list(1, 1)), api.ErrArg)
		wantRefused(t, instance(n, nine, wrong), api.ErrArg)
	}
	wantRefused(t, api.Instance{}, api.ErrArg)
	wantRefused(t, instance(1, make([][]api.Offer, api.MaxBuyers+1)...), api.ErrLong)
	wantRefused(t, instance(1, list(1, 1), nine), api.ErrLong)
	wantRefused(t, instance(1, wrong, nine), api.ErrLong)
	for _, l := range [][]api.Offer{wrong, list(1, 0), list(1, -1), list(1, most+1), list(2, 1), list(3, 1), list(1<<31, 1), list(1, math.MinInt64), list(1, math.MaxInt64)} {
		wantRefused(t, instance(1, l), api.ErrOffer)
		wantRefused(t, instance(1, list(1, 1), nil, l), api.ErrOffer)
	}
	wantRefused(t, instance(10, list(1024, 1)), api.ErrOffer)
}

// TestGreatest: as many goods, buyers and offers as may be, with the most coins.
func TestGreatest(t *testing.T) {
	x := full(slices.Repeat(list(1023, most), api.MaxOffers))
	choice, pays := none(api.MaxBuyers), make([]int64, api.MaxBuyers)
	choice[0], pays[0] = 0, most
	wantPaid(t, x, choice, most, pays)

	// The last one alone offers more.
	x = full(list(1023, most-1))
	x.Buyers[31] = list(1023, most)
	choice, pays = none(api.MaxBuyers), make([]int64, api.MaxBuyers)
	choice[31], pays[31] = 0, most-1
	wantPaid(t, x, choice, most, pays)
	wantPivotal(t, x, 31)

	// Ten winners, each of a good that another one would have for as much.
	x = full(nil)
	choice, pays = none(api.MaxBuyers), make([]int64, api.MaxBuyers)
	for good := range api.MaxGoods {
		x.Buyers[good], x.Buyers[good+20] = list(1<<good, most), list(1<<good, most)
		choice[good], pays[good] = 0, most
	}
	wantPaid(t, x, choice, 10*most, pays)
	wantPivotal(t, x)
	paid, _ := vcg.Costs(x)
	if income := vcg.Income(paid); income != 10*most {
		t.Errorf("Income: %d, not %d", income, int64(10*most))
	}

	// And without those others.
	for good := range api.MaxGoods {
		x.Buyers[good+20], pays[good] = nil, 0
	}
	wantPaid(t, x, choice, 10*most, pays)
	wantPivotal(t, x, 0, 1, 2, 3, 4, 5, 6, 7, 8, 9)
}

// TestIncome: of any numbers; what else is told of a choice does not count.
func TestIncome(t *testing.T) {
	wantIncome(t, 0)
	wantIncome(t, 0, 0)
	wantIncome(t, 7, 7)
	wantIncome(t, 9, 5, 4, 0)
	wantIncome(t, -3, 2, -5)
	wantIncome(t, math.MaxInt64, math.MaxInt64)
	wantIncome(t, math.MaxInt64, math.MaxInt64-1, 1)
	wantIncome(t, math.MinInt64, math.MaxInt64, 1)
	wantIncome(t, math.MaxInt64, math.MinInt64, -1)
	wantIncome(t, -2, math.MaxInt64, math.MaxInt64)
	wantIncome(t, 0, math.MinInt64, math.MinInt64)
	wantIncome(t, -1, math.MinInt64, math.MaxInt64)
	wantIncome(t, 1<<62, slices.Repeat(coins(most), 1<<22)...)
	wantIncome(t, 0, slices.Repeat(coins(most), 1<<24)...)
	for _, p := range []api.Paid{{Pays: coins(5, 4)}, {Choice: of(0, -1, 9), Worth: 77, Pays: coins(5, 4)}, {Choice: of(-1, -1), Worth: -1, Pays: coins(5, 4)}} {
		if got := vcg.Income(p); got != 9 {
			t.Errorf("Income(%v): %d, not 9", p, got)
		}
	}
	if got := vcg.Income(api.Paid{Choice: of(0, 0), Worth: 11}); got != 0 {
		t.Errorf("Income of no payments: %d", got)
	}
}

// several is an instance with many winners, not one behind the other, and what they pay.
func several() (api.Instance, []turn) {
	x := instance(6, list(1, 9), nil, list(2, 7), list(3, 8), list(4, 5, 8, 6), list(32, 1), list(16, 4), list(16, 4), list(12, 5))
	return x, []turn{{0, 1}, {2, 0}, {4, 5}, {5, 0}, {6, 4}}
}

// TestEachLeft: it may be left anywhere, gone over again, and within itself.
func TestEachLeft(t *testing.T) {
	x, _ := several()
	seq, err := vcg.Each(x)
	all := turns(seq)
	if len(all) < 4 || err != api.OK {
		t.Fatalf("just %v, %v", all, err)
	}
	for n := 1; n <= len(all); n++ {
		var got []turn
		for buyer, pays := range seq {
			got = append(got, turn{buyer, pays})
			if len(got) == n {
				break
			}
		}
		if !slices.Equal(got, all[:n]) {
			t.Errorf("left behind %d: %v, not %v", n, got, all[:n])
		}
	}
	n := 0
	for buyer, pays := range seq {
		if all[n] != (turn{buyer, pays}) || !slices.Equal(turns(seq), all) {
			t.Errorf("the winner %d, within: %d, %d, not %v", n, buyer, pays, all[n])
		}
		n++
	}
	if n != len(all) {
		t.Errorf("%d winners, not %d", n, len(all))
	}
}

// TestEachAtATime: several may go over one function at a time.
func TestEachAtATime(t *testing.T) {
	x, _ := several()
	seq, _ := vcg.Each(x)
	all := turns(seq)
	var crew sync.WaitGroup
	for range 8 {
		crew.Go(func() {
			for range 50 {
				if got := turns(seq); !slices.Equal(got, all) {
					t.Errorf("%v, not %v", got, all)
				}
			}
		})
	}
	crew.Wait()
}

// TestEachAsCalled: it tells of the instance as it was when it was called: that is not kept.
func TestEachAsCalled(t *testing.T) {
	x := example()
	seq, _ := vcg.Each(x)
	want := turns(seq)
	next, stop := iter.Pull2(seq)
	defer stop()
	next()
	x.Buyers[0][0] = api.Offer{Goods: 1 << 31, Coins: -5}
	x.Buyers[1] = nil
	x.Buyers[2][0].Coins = most
	if buyer, pays, ok := next(); !ok || want[1] != (turn{buyer, pays}) {
		t.Errorf("with changes in between: %d, %d, %v, not %v", buyer, pays, ok, want[1])
	}
	if got := turns(seq); !slices.Equal(got, want) {
		t.Errorf("behind changes: %v, not %v", got, want)
	}
}

// TestSeveral: winners and others in turn.
func TestSeveral(t *testing.T) {
	x, told := several()
	choice, pays := none(len(x.Buyers)), make([]int64, len(x.Buyers))
	choice[0], choice[2], choice[4], choice[5], choice[6] = 0, 0, 1, 0, 0
	for _, winner := range told {
		pays[winner.buyer] = winner.pays
	}
	wantPaid(t, x, choice, 27, pays)
	wantEach(t, x, told...)
}

// spoil writes over a list, and over its spare room.
func spoil[T int | int64](l []T) {
	l = l[:cap(l)]
	for i := range l {
		l[i] = 77
	}
}

// TestAnswersAreNew: an answer shares nothing with the next one, in its room neither.
func TestAnswersAreNew(t *testing.T) {
	x := example()
	seq, _ := vcg.Each(x)
	for range 2 {
		paid, _ := vcg.Costs(x)
		gains, _ := vcg.Gains(x)
		pivotal, _ := vcg.Pivotal(x)
		spoil(paid.Choice)
		if !slices.Equal(paid.Pays, coins(5, 4, 0)) {
			t.Errorf("the payments are %v, once the choice is written over", paid.Pays)
		}
		spoil(paid.Pays)
		spoil(gains)
		spoil(pivotal)
		wantPaid(t, x, of(0, 0, -1), 11, coins(5, 4, 0))
		if got := turns(seq); !slices.Equal(got, []turn{{0, 5}, {1, 4}}) {
			t.Errorf("Each then: %v", got)
		}
	}
}

// TestHandedIn: what is handed in is as it was, the room behind it too.
func TestHandedIn(t *testing.T) {
	l, m := list(1, 6, 3, 9, 77, 77), list(2, 5, 78, 78)
	lists := [][]api.Offer{l[:2], m[:1], list(3, 10), m}
	x := instance(2, lists[:3]...)
	wantPaid(t, x, of(0, 0, -1), 11, coins(5, 4, 0))
	for buyer, w := range coins(10, 10, 11) {
		wantWithout(t, x, buyer, w, api.OK)
	}
	wantWithout(t, x, 3, 0, api.ErrArg)
	if !slices.Equal(l, list(1, 6, 3, 9, 77, 77)) || !slices.Equal(m, list(2, 5, 78, 78)) || !slices.Equal(lists[2], list(3, 10)) {
		t.Errorf("the offers are %v, %v, %v then", l, m, lists[2])
	}
	if len(lists[0]) != 2 || len(lists[1]) != 1 || len(lists[2]) != 1 || len(lists[3]) != 2 {
		t.Errorf("the lists are %v then", lists)
	}

	p := api.Paid{Choice: of(0, 0, 7), Worth: 11, Pays: coins(5, 4, 88)[:2]}
	if vcg.Income(p) != 9 || !slices.Equal(p.Choice, of(0, 0, 7)) || !slices.Equal(p.Pays[:3], coins(5, 4, 88)) {
		t.Errorf("the payments are %v then", p)
	}
}

// TestAtATime: several may ask of one instance at a time.
func TestAtATime(t *testing.T) {
	x := example()
	var crew sync.WaitGroup
	for range 8 {
		crew.Go(func() {
			for range 20 {
				wantCosts(t, x, of(0, 0, -1), 11, coins(5, 4, 0))
				wantGains(t, x, 1, 1, 0)
				wantPivotal(t, x, 0, 1)
				wantWithout(t, x, 0, 10, api.OK)
			}
		})
	}
	crew.Wait()
}
