package offers_test

import (
	"math"
	"math/rand"
	"slices"
	"testing"

	"gavel/api"
	"gavel/goods"
	"gavel/offers"
)

// instance is one of so many goods.
func instance(n int, lists ...[]api.Offer) api.Instance {
	return api.Instance{Goods: n, Buyers: lists}
}

// twin is a plain copy, made by no call of the program, with the room behind each list.
func twin(x api.Instance) api.Instance {
	y := api.Instance{Goods: x.Goods}
	for _, l := range x.Buyers[:cap(x.Buyers)] {
		y.Buyers = append(y.Buyers, append([]api.Offer(nil), wholly(l)...)[:len(l)])
	}
	y.Buyers = y.Buyers[:len(x.Buyers)]
	return y
}

func alike(x, y api.Instance) bool {
	return x.Goods == y.Goods && slices.EqualFunc(x.Buyers, y.Buyers, slices.Equal)
}

// kept tells, when it is called, whether an instance has become another one since then, the room behind its lists included.
func kept(t *testing.T, call string, x api.Instance) func() {
	before := twin(x)
	return func() {
		t.Helper()
		whole := func(a, b []api.Offer) bool {
			return len(a) == len(b) && slices.Equal(wholly(a), wholly(b)[:cap(a)])
		}
		all := x.Buyers[:cap(x.Buyers)]
		if !alike(x, before) || !slices.EqualFunc(all, before.Buyers[:len(all)], whole) {
			t.Errorf("%s changed %v to %v", call, before, x)
		}
	}
}

func wantInstance(t *testing.T, x api.Instance, want api.Errno) {
	t.Helper()
	defer kept(t, "Instance", x)()
	if err := offers.Instance(x); err != want {
		t.Errorf("Instance(%v): %v, not %v", x, err, want)
	}
	if want == api.OK {
		return
	}
	if worth, err := offers.Choice(x, make([]int, len(x.Buyers))...); worth != 0 || err != want {
		t.Errorf("Choice of %v: %d, %v, not 0, %v", x, worth, err, want)
	}
	wantRefused(t, x, 0, nil, want)
	wantRefused(t, x, -1, make([]api.Offer, api.MaxOffers+1), want)
}

func wantChoice(t *testing.T, x api.Instance, want int64, wantErr api.Errno, choice ...int) {
	t.Helper()
	defer kept(t, "Choice", x)()
	before := slices.Clone(choice)
	if got, err := offers.Choice(x, choice...); got != want || err != wantErr {
		t.Errorf("Choice(%v, %v): %d, %v, not %d, %v", x, choice, got, err, want, wantErr)
	}
	if !slices.Equal(choice, before) {
		t.Errorf("Choice changed %v to %v", before, choice)
	}
}

// wantWith asks With, and Without where these are no offers.
func wantWith(t *testing.T, x api.Instance, buyer int, l []api.Offer, want api.Instance) {
	t.Helper()
	defer kept(t, "With", x)()
	defer unchanged(t, "With", l)()
	if got, err := offers.With(x, buyer, l...); !alike(got, want) || err != api.OK {
		t.Errorf("With(%v, %d, %v): %v, %v, not %v", x, buyer, l, got, err, want)
	}
	if len(l) > 0 {
		return
	}
	if got, err := offers.Without(x, buyer); !alike(got, want) || err != api.OK {
		t.Errorf("Without(%v, %d): %v, %v, not %v", x, buyer, got, err, want)
	}
}

// wantRefused asks With, and Without where these are no offers.
func wantRefused(t *testing.T, x api.Instance, buyer int, l []api.Offer, want api.Errno) {
	t.Helper()
	defer kept(t, "With", x)()
	defer unchanged(t, "With", l)()
	if got, err := offers.With(x, buyer, l...); got.Goods != 0 || got.Buyers != nil || err != want {
		t.Errorf("With(%v, %d, %v): %v, %v, not %v", x, buyer, l, got, err, want)
	}
	if len(l) > 0 {
		return
	}
	if got, err := offers.Without(x, buyer); got.Goods != 0 || got.Buyers != nil || err != want {
		t.Errorf("Without(%v, %d): %v, %v, not %v", x, buyer, got, err, want)
	}
}

func TestExamplesOfInstances(t *testing.T) {
	x := instance(2, list(1, 4, 3, 6), list(2, 4))
	wantChoice(t, x, 8, api.OK, 0, 0)
	wantChoice(t, x, 6, api.OK, 1, -1)
	wantChoice(t, x, 0, api.ErrChoice, 1, 0)
	wantChoice(t, x, 0, api.ErrChoice, 0)
}

// P8.5: each bound of an instance, at it and one past it.
func TestInstanceAtItsBounds(t *testing.T) {
	for _, n := range []int{math.MinInt, -1, 0, api.MaxGoods + 1, 32, 1<<32 + 2, math.MaxInt} {
		wantInstance(t, instance(n), api.ErrArg)
		wantInstance(t, instance(n, list(1, 1)), api.ErrArg)
	}
	for n := 1; n <= api.MaxGoods; n++ {
		all := int64(1)<<n - 1
		wantInstance(t, instance(n), api.OK)
		wantInstance(t, instance(n, nil, list(all, api.MaxCoins, 1, 1), []api.Offer{}), api.OK)
		wantInstance(t, instance(n, nil, list(all, 1, all+1, 1)), api.ErrOffer)
		wantInstance(t, instance(n, list(1<<31, 1)), api.ErrOffer)
	}
	for _, coins := range []int64{math.MinInt64, -1, 0, api.MaxCoins + 1, math.MaxInt64} {
		wantInstance(t, instance(2, list(1, 1), list(1, 1, 2, coins)), api.ErrOffer)
	}
	wantInstance(t, instance(2, list(1, 1), list(0, 1)), api.ErrOffer)

	eight := slices.Repeat(list(1, 1), api.MaxOffers)
	nine := slices.Repeat(list(1, 1), api.MaxOffers+1)
	wantInstance(t, api.Instance{Goods: 1, Buyers: slices.Repeat([][]api.Offer{eight}, api.MaxBuyers)}, api.OK)
	wantInstance(t, api.Instance{Goods: 1, Buyers: make([][]api.Offer, api.MaxBuyers)}, api.OK)
	wantInstance(t, api.Instance{Goods: 1, Buyers: make([][]api.Offer, api.MaxBuyers+1)}, api.ErrLong)
	wantInstance(t, instance(1, nine), api.ErrLong)
	wantInstance(t, instance(1, list(1, 1), eight, nine), api.ErrLong)
	wantInstance(t, api.Instance{}, api.ErrArg)
	wantInstance(t, api.Instance{Goods: 1, Buyers: [][]api.Offer{}}, api.OK)
}

func TestInstanceTellsErrorsInTheirOrder(t *testing.T) {
	nine := slices.Repeat(list(1, 1), api.MaxOffers+1)
	wrong := list(0, 0)
	many := slices.Repeat([][]api.Offer{wrong}, api.MaxBuyers+1)
	wantInstance(t, instance(1, wrong, nine), api.ErrLong)
	wantInstance(t, instance(1, nine, wrong), api.ErrLong)
	wantInstance(t, instance(1, make([]api.Offer, api.MaxOffers+1)), api.ErrLong)
	wantInstance(t, api.Instance{Goods: 1, Buyers: many}, api.ErrLong)
	wantInstance(t, api.Instance{Goods: 1, Buyers: many[1:]}, api.ErrOffer)
	wantInstance(t, api.Instance{Goods: 0, Buyers: many}, api.ErrArg)
	wantInstance(t, instance(11, wrong, nine), api.ErrArg)
}

func TestChoice(t *testing.T) {
	x := instance(3, list(1, 4, 3, 6), nil, list(2, 4, 4, api.MaxCoins, 7, 1))
	wantChoice(t, x, 0, api.OK, -1, -1, -1)
	wantChoice(t, x, 4+api.MaxCoins, api.OK, 0, -1, 1)
	wantChoice(t, x, 6+api.MaxCoins, api.OK, 1, -1, 1)
	wantChoice(t, x, 1, api.OK, -1, -1, 2)
	for _, choice := range [][]int{nil, {-1, -1}, {-1, -1, -1, -1}, {-1, 0, -1}, {2, -1, -1}, {-1, -1, 3}, {-2, -1, -1}, {math.MinInt, -1, -1}, {math.MaxInt, -1, -1}, {1, -1, 0}, {0, -1, 2}, {1, -1, 2}} {
		wantChoice(t, x, 0, api.ErrChoice, choice...)
	}
	wantChoice(t, instance(1), 0, api.OK)
	wantChoice(t, instance(1), 0, api.ErrChoice, -1)
	wantChoice(t, instance(0), 0, api.ErrArg, 5)
	wantChoice(t, instance(1, make([]api.Offer, 9)), 0, api.ErrLong, 7)
	wantChoice(t, instance(1, list(2, 1)), 0, api.ErrOffer, 7)
	wantChoice(t, instance(1, list(1, 1), list(1, 0)), 0, api.ErrOffer, -1, -1)
}

func TestChoiceOfTheGreatestWorth(t *testing.T) {
	x := api.Instance{Goods: api.MaxGoods}
	for good := range api.MaxGoods {
		x.Buyers = append(x.Buyers, list(1<<good, api.MaxCoins))
	}
	wantChoice(t, x, api.MaxGoods*api.MaxCoins, api.OK, make([]int, api.MaxGoods)...)
}

// P8.6.
func TestWithout(t *testing.T) {
	a, b, c := list(1, 4, 3, 6), list(2, 4), list(1, 1)
	x := instance(2, a, b, nil, c)
	wantWith(t, x, 0, nil, instance(2, nil, b, nil, c))
	wantWith(t, x, 1, nil, instance(2, a, nil, nil, c))
	wantWith(t, x, 2, nil, x)
	wantWith(t, x, 3, []api.Offer{}, instance(2, a, b, nil, nil))
	wantWith(t, instance(1, list(1, 1)), 0, list(), instance(1, nil))
	for _, buyer := range []int{math.MinInt, -2, -1, 4, 5, math.MaxInt} {
		wantRefused(t, x, buyer, nil, api.ErrArg)
	}
	wantRefused(t, instance(1), 0, nil, api.ErrArg)
}

func TestWith(t *testing.T) {
	a, b := list(1, 4, 3, 6), list(2, 4)
	x := instance(2, a, b)
	wantWith(t, x, 1, list(3, 9), instance(2, a, list(3, 9)))
	wantWith(t, x, 0, list(3, 9, 3, 9, 1, api.MaxCoins), instance(2, list(3, 9, 3, 9, 1, api.MaxCoins), b))
	wantWith(t, x, 0, b, instance(2, b, b))
	eight := slices.Repeat(list(3, 1), api.MaxOffers)
	wantWith(t, x, 0, eight, instance(2, eight, b))
	wantWith(t, instance(2, nil, nil), 1, eight, instance(2, nil, eight))
	full := api.Instance{Goods: 10, Buyers: make([][]api.Offer, api.MaxBuyers)}
	want := twin(full)
	want.Buyers[31] = list(1023, 5)
	wantWith(t, full, 31, list(1023, 5), want)
}

func TestWithTellsErrorsInTheirOrder(t *testing.T) {
	x := instance(2, list(1, 4, 3, 6), list(2, 4))
	nine := slices.Repeat(list(1, 1), api.MaxOffers+1)
	wrong := make([]api.Offer, api.MaxOffers+1)
	wantRefused(t, x, 0, nine, api.ErrLong)
	wantRefused(t, x, 1, wrong, api.ErrLong)
	wantRefused(t, x, 1, list(1, 1, 4, 1), api.ErrOffer)
	wantRefused(t, x, 1, list(0, 1), api.ErrOffer)
	wantRefused(t, x, 1, list(1, 0), api.ErrOffer)
	wantRefused(t, x, 1, list(1, api.MaxCoins+1), api.ErrOffer)
	wantRefused(t, x, 2, nine, api.ErrArg)
	wantRefused(t, x, -1, list(0, 1), api.ErrArg)
	wantRefused(t, instance(2, list(0, 1)), 0, list(1, 1), api.ErrOffer)
	wantRefused(t, instance(2, list(0, 1)), 5, nine, api.ErrOffer)
	wantRefused(t, instance(2, nine), 5, list(0, 1), api.ErrLong)
	wantRefused(t, instance(0, nine), 0, list(0, 1), api.ErrArg)
	wantRefused(t, instance(11), 0, nine, api.ErrArg)
}

// What is answered shares no memory with what was handed in, with another answer, or within itself.
func TestInstancesAnsweredAreNewMemory(t *testing.T) {
	shared := list(1, 4, 2, 5)
	given := list(3, 9)
	for _, call := range []func(api.Instance) (api.Instance, api.Errno){
		func(x api.Instance) (api.Instance, api.Errno) { return offers.Without(x, 1) },
		func(x api.Instance) (api.Instance, api.Errno) { return offers.With(x, 1, given...) },
		func(x api.Instance) (api.Instance, api.Errno) { return offers.With(x, 1, shared...) },
	} {
		x := api.Instance{Goods: 2, Buyers: append(make([][]api.Offer, 0, 7), shared, given, shared, list())}
		check, checkGiven := kept(t, "overwriting an answer", x), unchanged(t, "overwriting an answer", given)
		first, _ := call(x)
		second, _ := call(x)
		want := twin(second)
		for at, l := range first.Buyers {
			others := twin(first)
			overwrite(l)
			for other := range first.Buyers {
				if other != at && !slices.Equal(first.Buyers[other], others.Buyers[other]) {
					t.Errorf("the lists %d and %d of an answer share memory", at, other)
				}
			}
		}
		whole := first.Buyers[:cap(first.Buyers)]
		for at := range whole {
			whole[at] = list(1, 77)
		}
		check()
		checkGiven()
		again, _ := call(x)
		if !alike(second, want) || !alike(again, want) {
			t.Errorf("answers share memory: %v, %v, not %v", second, again, want)
		}
	}
}

func TestAnswersDoNotFollowWhatWasHandedIn(t *testing.T) {
	x := instance(2, list(1, 4), list(2, 5))
	l := list(3, 6)
	y, _ := offers.With(x, 0, l...)
	z, _ := offers.Without(x, 0)
	overwrite(l)
	overwrite(x.Buyers[1])
	x.Buyers[0], x.Buyers[1] = nil, nil
	if !alike(y, instance(2, list(3, 6), list(2, 5))) || !alike(z, instance(2, nil, list(2, 5))) {
		t.Errorf("answers follow what was handed in: %v, %v", y, z)
	}
}

func randomInstance(r *rand.Rand) api.Instance {
	x := api.Instance{Goods: 1 + r.Intn(4)}
	for range r.Intn(4) {
		x.Buyers = append(x.Buyers, randomOffers(r, x.Goods, 3, r.Intn(8) == 0))
	}
	return x
}

// slowInstance is the error of an instance, by its words.
func slowInstance(x api.Instance) api.Errno {
	for _, l := range x.Buyers {
		for _, offer := range l {
			if offer.Goods == 0 || offer.Goods>>x.Goods != 0 || offer.Coins < 1 || offer.Coins > api.MaxCoins {
				return api.ErrOffer
			}
		}
	}
	return api.OK
}

func TestInstancesAgainstTheirWords(t *testing.T) {
	r := rand.New(rand.NewSource(12))
	for range 6000 {
		x := randomInstance(r)
		wantErr := slowInstance(x)
		wantInstance(t, x, wantErr)
		for _, l := range x.Buyers {
			at, err := offers.Check(x.Goods, l...)
			if wrong := slowInstance(instance(x.Goods, l)); err != wrong {
				t.Errorf("Check(%d, %v): %v, not %v", x.Goods, l, err, wrong)
			}
			if err == api.ErrOffer && (slowInstance(instance(x.Goods, l[:at])) != api.OK || slowInstance(instance(x.Goods, l[at:at+1])) == api.OK) {
				t.Errorf("Check(%d, %v): %d is not the first one", x.Goods, l, at)
			}
		}
		if wantErr != api.OK {
			continue
		}
		choice := make([]int, len(x.Buyers))
		for buyer := range choice {
			choice[buyer] = r.Intn(5) - 2 + r.Intn(2)
		}
		worth, err := goods.Worth(x, choice...)
		wantChoice(t, x, worth, err, choice...)
		for buyer := range x.Buyers {
			l := randomOffers(r, x.Goods, 3, false)
			want := twin(x)
			want.Buyers[buyer] = l
			wantWith(t, x, buyer, l, want)
			want.Buyers[buyer] = nil
			wantWith(t, x, buyer, nil, want)
		}
		if t.Failed() {
			t.FailNow()
		}
	}
}
