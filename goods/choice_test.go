package goods_test

import (
	"math"
	"math/rand"
	"reflect"
	"slices"
	"testing"

	"gavel/api"
	"gavel/goods"
)

// buyers are the lists of offers of an instance.
type buyers = [][]api.Offer

// instance is one of so many goods.
func instance(n int, lists ...[]api.Offer) api.Instance {
	return api.Instance{Goods: n, Buyers: lists}
}

// offers is a list of them: goods and coins in turn.
func offers(numbers ...int64) []api.Offer {
	var l []api.Offer
	for i := 0; i+1 < len(numbers); i += 2 {
		l = append(l, api.Offer{Goods: api.Goods(numbers[i]), Coins: numbers[i+1]})
	}
	return l
}

// deep is a plain copy, made by no call of the package.
func deep(x api.Instance) api.Instance {
	y := api.Instance{Goods: x.Goods}
	for _, list := range x.Buyers {
		y.Buyers = append(y.Buyers, append([]api.Offer{}, list...))
	}
	return y
}

func same(x, y api.Instance) bool {
	return x.Goods == y.Goods && slices.EqualFunc(x.Buyers, y.Buyers, slices.Equal)
}

func wantCheck(t *testing.T, x api.Instance, wantBuyer, wantOffer int, wantErr api.Errno) {
	t.Helper()
	before := deep(x)
	if buyer, offer, err := goods.Check(x); buyer != wantBuyer || offer != wantOffer || err != wantErr {
		t.Errorf("Check: %d, %d, %v, not %d, %d, %v", buyer, offer, err, wantBuyer, wantOffer, wantErr)
	}
	if !same(x, before) {
		t.Errorf("Check changed %v to %v", before, x)
	}
}

// wantChoice asks for a choice's worth, and for what it gives.
func wantChoice(t *testing.T, x api.Instance, worth int64, sets []api.Goods, choice ...int) {
	t.Helper()
	if got, err := goods.Worth(x, choice...); got != worth || err != api.OK {
		t.Errorf("Worth(%v): %d, %v, not %d", choice, got, err, worth)
	}
	if got, err := goods.Taken(x, choice...); !slices.Equal(got, sets) || err != api.OK {
		t.Errorf("Taken(%v): %v, %v, not %v", choice, got, err, sets)
	}
}

func wantNoChoice(t *testing.T, x api.Instance, want api.Errno, choice ...int) {
	t.Helper()
	if got, err := goods.Worth(x, choice...); got != 0 || err != want {
		t.Errorf("Worth(%v): %d, %v, not 0, %v", choice, got, err, want)
	}
	if got, err := goods.Taken(x, choice...); got != nil || err != want {
		t.Errorf("Taken(%v): %v, %v, not none, %v", choice, got, err, want)
	}
}

func TestExamplesOfInstances(t *testing.T) {
	wantCheck(t, instance(2, offers(1, 5), offers(3, 7)), 0, 0, api.OK)
	wantCheck(t, instance(2, offers(4, 5)), 0, 0, api.ErrArg)
	wantCheck(t, instance(0), 0, 0, api.ErrArg)
	wantCheck(t, instance(1, offers(1, 0)), 0, 0, api.ErrArg)
	x := instance(2, offers(1, 5, 3, 9), offers(2, 4))
	wantChoice(t, x, 9, []api.Goods{1, 2}, 0, 0)
	wantChoice(t, x, 9, []api.Goods{3, 0}, 1, -1)
	wantNoChoice(t, x, api.ErrChoice, 1, 0)
	wantNoChoice(t, x, api.ErrChoice, 0)
}

// P7.5

func TestCheckGoods(t *testing.T) {
	for n := 1; n <= api.MaxGoods; n++ {
		highest := int64(1) << (n - 1)
		wantCheck(t, instance(n), 0, 0, api.OK)
		wantCheck(t, instance(n, offers(highest, 1, highest*2-1, 1)), 0, 0, api.OK)
		wantCheck(t, instance(n, offers(highest, 1), offers(1, 1, highest*2, 1)), 1, 1, api.ErrArg)
		wantCheck(t, instance(n, offers(highest, 1), nil, offers(highest*2+1, 1)), 2, 0, api.ErrArg)
		wantCheck(t, instance(n, offers(1, 1, int64(last), 1)), 0, 1, api.ErrArg)
		wantCheck(t, instance(n, offers(1, 1, 1, 1, int64(full), 1)), 0, 2, api.ErrArg)
	}
	for _, n := range []int{0, -1, 11, 12, 31, 32, 33, 64, 1 << 32, 1<<32 + 1, math.MinInt, math.MaxInt} {
		wantCheck(t, instance(n), 0, 0, api.ErrArg)
		wantCheck(t, instance(n, offers(1, 1)), 0, 0, api.ErrArg)
	}
}

func TestCheckOffer(t *testing.T) {
	good, bad := offers(1, 1), []api.Offer(nil)
	for _, coins := range []int64{1, 2, api.MaxCoins - 1, api.MaxCoins} {
		good = append(good, api.Offer{Goods: 3, Coins: coins})
	}
	for _, coins := range []int64{0, -1, api.MaxCoins + 1, math.MinInt64, math.MaxInt64, -api.MaxCoins} {
		bad = append(bad, api.Offer{Goods: 3, Coins: coins})
	}
	bad = append(bad, api.Offer{}, api.Offer{Coins: 5}, api.Offer{Goods: 4, Coins: 5}, api.Offer{Goods: 7, Coins: 5})
	wantCheck(t, instance(2, good), 0, 0, api.OK)
	for _, offer := range bad {
		wantCheck(t, instance(2, []api.Offer{offer}), 0, 0, api.ErrArg)
		wantCheck(t, instance(2, good, append(slices.Clone(good), offer)), 1, len(good), api.ErrArg)
	}
}

// full32 is an instance with as many buyers and offers as may be.
func full32() api.Instance {
	x := api.Instance{Goods: api.MaxGoods}
	for buyer := range api.MaxBuyers {
		var list []api.Offer
		for n := range api.MaxOffers {
			list = append(list, api.Offer{Goods: api.Goods(1 + (buyer*8+n)%1023), Coins: api.MaxCoins})
		}
		x.Buyers = append(x.Buyers, list)
	}
	return x
}

func TestCheckEachPlace(t *testing.T) {
	x := full32()
	wantCheck(t, x, 0, 0, api.OK)
	for buyer := range api.MaxBuyers {
		for n := range api.MaxOffers {
			for _, wrong := range offers(0, 1, 1024, 1, 1, 0) {
				was := x.Buyers[buyer][n]
				x.Buyers[buyer][n] = wrong
				wantCheck(t, x, buyer, n, api.ErrArg)
				x.Buyers[buyer][n] = was
			}
		}
		was := x.Buyers[buyer]
		x.Buyers[buyer] = append(slices.Clone(was), was[0])
		wantCheck(t, x, buyer, api.MaxOffers, api.ErrArg)
		x.Buyers[buyer] = was
	}
}

func TestCheckLooksInOrder(t *testing.T) {
	wrong := offers(0, 0)
	many := make([]api.Offer, api.MaxOffers+1)
	// Too many buyers, too many offers and a wrong offer, and a number of goods ahead of all that.
	crowd := append(make(buyers, api.MaxBuyers), many)
	crowd[0] = wrong
	wantCheck(t, instance(11, crowd...), 0, 0, api.ErrArg)
	wantCheck(t, instance(0, crowd...), 0, 0, api.ErrArg)
	wantCheck(t, instance(2, crowd...), api.MaxBuyers, 0, api.ErrArg)
	wantCheck(t, instance(2, crowd[:api.MaxBuyers]...), 0, 0, api.ErrArg)
	wantCheck(t, instance(2, append(make(buyers, api.MaxBuyers-1), many)...), api.MaxBuyers-1, api.MaxOffers, api.ErrArg)
	wantCheck(t, instance(2, make(buyers, api.MaxBuyers+1)...), api.MaxBuyers, 0, api.ErrArg)
	wantCheck(t, instance(2, make(buyers, 1<<16)...), api.MaxBuyers, 0, api.ErrArg)
	// Within a buyer its number of offers comes first, then its offers; a buyer ahead comes ahead of both.
	wantCheck(t, instance(2, many), 0, api.MaxOffers, api.ErrArg)
	wantCheck(t, instance(2, nil, many, wrong), 1, api.MaxOffers, api.ErrArg)
	wantCheck(t, instance(2, offers(1, 1), wrong, many), 1, 0, api.ErrArg)
	wantCheck(t, instance(2, offers(1, 1, 0, 1, 4, 1), many), 0, 1, api.ErrArg)
	wantCheck(t, instance(2, make([]api.Offer, 1<<16)), 0, api.MaxOffers, api.ErrArg)
}

func TestCheckWithoutOffers(t *testing.T) {
	wantCheck(t, instance(1), 0, 0, api.OK)
	wantCheck(t, api.Instance{Goods: 1, Buyers: buyers{}}, 0, 0, api.OK)
	wantCheck(t, instance(1, nil, []api.Offer{}, nil), 0, 0, api.OK)
	wantCheck(t, instance(10, make(buyers, api.MaxBuyers)...), 0, 0, api.OK)
	wantCheck(t, api.Instance{}, 0, 0, api.ErrArg)
}

// P7.6

func TestChoiceWrong(t *testing.T) {
	x := instance(3, offers(1, 5, 3, 9), offers(2, 4, 6, 8, 4, 1), nil)
	wantChoice(t, x, 13, []api.Goods{1, 6, 0}, 0, 1, -1)
	wantChoice(t, x, 10, []api.Goods{3, 4, 0}, 1, 2, -1)
	wantChoice(t, x, 0, []api.Goods{0, 0, 0}, -1, -1, -1)
	for _, choice := range [][]int{
		nil, {}, {0}, {0, 0}, {-1, -1}, {0, 0, -1, -1}, {-1, -1, -1, -1},
		{-2, 0, -1}, {0, -2, -1}, {0, 0, -2}, {2, -1, -1}, {-1, 3, -1}, {-1, -1, 0}, {0, 0, 0},
		{math.MinInt, -1, -1}, {math.MaxInt, -1, -1}, {-1, math.MinInt, -1}, {-1, -1, math.MaxInt}, {1 << 32, -1, -1}, {-1 - 1<<32, -1, -1},
		{1, 0, -1}, {1, 1, -1},
	} {
		wantNoChoice(t, x, api.ErrChoice, choice...)
	}
	wantNoChoice(t, x, api.ErrChoice, make([]int, 1<<20)...)
}

func TestChoiceOfGoodsTwice(t *testing.T) {
	// The good that stands in two offers is each one, the buyers each two.
	for good := range api.MaxGoods {
		for a := range api.MaxBuyers {
			for b := range a {
				x := api.Instance{Goods: api.MaxGoods, Buyers: make(buyers, api.MaxBuyers)}
				choice := slices.Repeat([]int{-1}, api.MaxBuyers)
				x.Buyers[a], choice[a] = offers(1<<good, 1), 0
				x.Buyers[b], choice[b] = offers(1023, 1, int64(1)<<((good+1)%10), 1), 0
				wantNoChoice(t, x, api.ErrChoice, choice...)
				choice[b] = 1
				if worth, err := goods.Worth(x, choice...); worth != 2 || err != api.OK {
					t.Fatalf("Worth: %d, %v", worth, err)
				}
			}
		}
	}
}

func TestChoiceOfWrongInstance(t *testing.T) {
	for _, x := range []api.Instance{
		{},
		instance(0, offers(1, 5)), instance(11, offers(1, 5)), instance(-1), instance(math.MaxInt, nil),
		instance(2, offers(4, 5)), instance(2, offers(1, 0)), instance(2, offers(0, 5)), instance(2, offers(1, api.MaxCoins+1)),
		instance(2, make(buyers, api.MaxBuyers+1)...), instance(2, make([]api.Offer, api.MaxOffers+1)),
		instance(2, nil, offers(1, 5), offers(1, 5, 3, -1)),
	} {
		fits := slices.Repeat([]int{-1}, len(x.Buyers))
		wantNoChoice(t, x, api.ErrArg, fits...)
		// ErrArg goes ahead of ErrChoice.
		wantNoChoice(t, x, api.ErrArg, append(fits, -2, 7)...)
		wantNoChoice(t, x, api.ErrArg)
		wantNoChoice(t, x, api.ErrArg, 0)
	}
}

func TestChoiceAtTheBounds(t *testing.T) {
	x := instance(api.MaxGoods)
	wantChoice(t, x, 0, nil)
	wantNoChoice(t, x, api.ErrChoice, -1)
	wantNoChoice(t, x, api.ErrChoice, 0)
	// One good each, for the most coins, the rest of the buyers nothing.
	x.Buyers = make(buyers, api.MaxBuyers)
	choice := slices.Repeat([]int{-1}, api.MaxBuyers)
	sets := make([]api.Goods, api.MaxBuyers)
	for good := range api.MaxGoods {
		buyer := api.MaxBuyers - 1 - 3*good
		x.Buyers[buyer] = slices.Repeat(offers(1, 1), api.MaxOffers)
		x.Buyers[buyer][api.MaxOffers-1] = api.Offer{Goods: 1 << good, Coins: api.MaxCoins}
		choice[buyer], sets[buyer] = api.MaxOffers-1, 1<<good
	}
	wantChoice(t, x, api.MaxGoods*api.MaxCoins, sets, choice...)
	choice[api.MaxBuyers-1] = api.MaxOffers
	wantNoChoice(t, x, api.ErrChoice, choice...)
}

// slowWorth goes by what the document says of a choice, one word behind the other.
func slowWorth(x api.Instance, choice []int) (int64, []api.Goods, bool) {
	if len(choice) != len(x.Buyers) {
		return 0, nil, false
	}
	var worth int64
	var sets []api.Goods
	owner := map[int]int{}
	for buyer, n := range choice {
		if n == -1 {
			sets = append(sets, 0)
			continue
		}
		if n < -1 || n > len(x.Buyers[buyer])-1 {
			return 0, nil, false
		}
		for _, good := range listOf(x.Buyers[buyer][n].Goods) {
			if _, there := owner[good]; there {
				return 0, nil, false
			}
			owner[good] = buyer
		}
		worth += x.Buyers[buyer][n].Coins
		sets = append(sets, x.Buyers[buyer][n].Goods)
	}
	return worth, sets, true
}

// anyInstance is one that may be, with few goods in each offer.
func anyInstance(r *rand.Rand) api.Instance {
	x := api.Instance{Goods: 1 + r.Intn(api.MaxGoods)}
	for range r.Intn(6) {
		var list []api.Offer
		for range r.Intn(4) {
			set := api.Goods(1) << r.Intn(x.Goods)
			if r.Intn(3) == 0 {
				set |= 1 << r.Intn(x.Goods)
			}
			list = append(list, api.Offer{Goods: set, Coins: 1 + r.Int63n(api.MaxCoins)})
		}
		x.Buyers = append(x.Buyers, list)
	}
	return x
}

// P7.8: the sum over the buyers' parts, and buyers taken out one by one.
func TestChoicesAgainstPlainOnes(t *testing.T) {
	r := rand.New(rand.NewSource(78))
	taken := 0
	for range 20000 {
		x := anyInstance(r)
		wantCheck(t, x, 0, 0, api.OK)
		choice := make([]int, len(x.Buyers))
		for buyer := range choice {
			choice[buyer] = r.Intn(len(x.Buyers[buyer])+1) - 1
			if r.Intn(40) == 0 {
				choice[buyer] += r.Intn(7) - 3
			}
		}
		if r.Intn(20) == 0 {
			choice = append(choice, -1)
		}
		before, picked := deep(x), slices.Clone(choice)
		worth, sets, ok := slowWorth(x, choice)
		if ok {
			wantChoice(t, x, worth, sets, choice...)
			wantParts(t, x, worth, choice)
			taken++
		} else {
			wantNoChoice(t, x, api.ErrChoice, choice...)
		}
		if !same(x, before) || !slices.Equal(choice, picked) {
			t.Fatal("what was handed in was changed")
		}
	}
	if taken < 4000 || taken > 16000 {
		t.Errorf("%d of 20000 were choices", taken)
	}
}

// wantParts takes the buyers out of a choice one by one, and holds what is left against the sum of the buyers' parts alone.
func wantParts(t *testing.T, x api.Instance, worth int64, choice []int) {
	t.Helper()
	left := slices.Clone(choice)
	for buyer := range choice {
		alone := slices.Repeat([]int{-1}, len(choice))
		alone[buyer] = choice[buyer]
		part, err := goods.Worth(x, alone...)
		if err != api.OK {
			t.Fatalf("the part of %d alone: %v", buyer, err)
		}
		left[buyer] = -1
		worth -= part
		if rest, err := goods.Worth(x, left...); rest != worth || err != api.OK {
			t.Fatalf("Worth(%v): %d, %v, not %d", left, rest, err, worth)
		}
	}
	if worth != 0 {
		t.Fatalf("the parts of %v leave %d", choice, worth)
	}
}

func TestTakenIsNewMemory(t *testing.T) {
	x := instance(2, offers(1, 5, 3, 9), offers(2, 4))
	one, _ := goods.Taken(x, 0, 0)
	two, _ := goods.Taken(x, 0, 0)
	for i := range one[:cap(one)] {
		one[:cap(one)][i] = 99
	}
	if !slices.Equal(two, []api.Goods{1, 2}) {
		t.Errorf("two answers share memory: %v", two)
	}
	wantChoice(t, x, 9, []api.Goods{1, 2}, 0, 0)
}

// P7.7

// spoil writes over all of an instance's memory, spare room included.
func spoil(x api.Instance) {
	lists := x.Buyers[:cap(x.Buyers)]
	for i := range lists {
		list := lists[i][:cap(lists[i])]
		for j := range list {
			list[j] = api.Offer{Goods: 77, Coins: -77}
		}
		lists[i] = nil
	}
}

// roomy is an instance whose lists have spare room, with something in it.
func roomy() api.Instance {
	room := append(offers(1, 5, 3, 9), offers(2, 4, 1, 1, 2, 2)...)
	lists := buyers{room[:2], room[2:3:4], room[4:4], nil, {}, offers(2, 6), offers(1, 1)}
	return api.Instance{Goods: 2, Buyers: lists[:6]}
}

func TestCopyIsNewMemory(t *testing.T) {
	x := roomy()
	was := deep(x)
	y, z := goods.Copy(x), goods.Copy(x)
	if !same(y, x) || !same(z, x) || !same(x, was) {
		t.Fatalf("Copy: %v and %v, not %v", y, z, was)
	}
	spoil(y)
	if !same(x, was) || !same(z, was) {
		t.Fatalf("a copy that is written over changes the instance, or the other copy")
	}
	if spare := x.Buyers[:cap(x.Buyers)][6]; !slices.Equal(spare, offers(1, 1)) {
		t.Errorf("the room behind the buyers is changed: %v", spare)
	}
	if spare := x.Buyers[0][:5]; !slices.Equal(spare, offers(1, 5, 3, 9, 2, 4, 1, 1, 2, 2)) {
		t.Errorf("the room behind the offers is changed: %v", spare)
	}
	spoil(x)
	if !same(z, was) {
		t.Errorf("an instance that is written over changes its copy")
	}
}

func TestCopySharesNoneWithinItself(t *testing.T) {
	one := offers(1, 5, 2, 6)
	x := instance(2, one, one, one[:1])
	y := goods.Copy(x)
	for i := range y.Buyers {
		list := y.Buyers[i][:cap(y.Buyers[i])]
		for j := range list {
			list[j].Coins = int64(100 + i)
		}
	}
	for i, list := range y.Buyers {
		for _, offer := range list {
			if offer.Coins != int64(100+i) {
				t.Errorf("the lists of a copy share memory: %v", y)
			}
		}
	}
}

func TestCopyOfAny(t *testing.T) {
	for _, x := range []api.Instance{
		{}, instance(-5), instance(99, offers(0, -1), nil, []api.Offer{}), {Goods: 1, Buyers: buyers{}},
		instance(1, make(buyers, 1000)...), instance(1, make([]api.Offer, 1000)), full32(),
	} {
		if y := goods.Copy(x); !same(y, x) || !reflect.DeepEqual(y, x) {
			t.Errorf("Copy: %v, not %v", y, x)
		}
	}
}

// A list of no elements, too, is not handed out again.
func TestCopyOfListsWithRoomAlone(t *testing.T) {
	room := offers(1, 5, 2, 6)
	x := api.Instance{Goods: 2, Buyers: buyers{room[:0], nil}[:1]}
	y := goods.Copy(x)
	if cap(y.Buyers[0]) > 0 {
		y.Buyers[0][:1][0].Coins = 99
	}
	y.Buyers[0] = append(y.Buyers[0], api.Offer{Goods: 1, Coins: 77})
	if !slices.Equal(room, offers(1, 5, 2, 6)) {
		t.Errorf("the room behind a list is handed out: %v", room)
	}
	y.Buyers = append(y.Buyers, offers(1, 1))
	if x.Buyers[:2][1] != nil {
		t.Error("the room behind the buyers is handed out")
	}
}
