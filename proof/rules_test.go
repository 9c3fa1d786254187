package proof_test

import (
	"math/rand"
	"slices"
	"testing"

	"gavel/api"
	"gavel/proof"
)

// The rules of another kind: claims stand in a table by buyer and set, good by good and offer by offer it is told what they say; and what buyers can have together is reckoned from the last one on.

// allClaims is how many claims a proof has at most.
const allClaims = 33 * 1024

// table has a number for each part of an instance, by buyers and free goods.
type table [api.MaxBuyers + 1][1 << api.MaxGoods]int64

// tableOf has W of all parts.
func tableOf(x api.Instance) *table {
	var w table
	for buyer := len(x.Buyers) - 1; buyer >= 0; buyer-- {
		for free := range api.Goods(1) << x.Goods {
			w[buyer][free] = w[buyer+1][free]
			for _, offer := range x.Buyers[buyer] {
				if offer.Goods|free == free {
					w[buyer][free] = max(w[buyer][free], offer.Coins+w[buyer+1][free-offer.Goods])
				}
			}
		}
	}
	return &w
}

// w is W of all.
func (w *table) w(x api.Instance) int64 { return w[0][1<<x.Goods-1] }

// everyClaim is the proof that has a claim for each part, without prices: W of it.
func (w *table) everyClaim(x api.Instance) api.Proof {
	var p api.Proof
	for buyer := range len(x.Buyers) + 1 {
		for free := range api.Goods(1) << x.Goods {
			p.Claims = append(p.Claims, claim(buyer, free, w[buyer][free]))
		}
	}
	return p
}

// slowBound is the sum by which a claim is right by prices.
func slowBound(x api.Instance, buyer int, free api.Goods, prices []int64) int64 {
	cost := func(set api.Goods) int64 {
		var sum int64
		for good, price := range prices {
			if set>>good%2 == 1 {
				sum += price
			}
		}
		return sum
	}
	sum := cost(free)
	for ; buyer < len(x.Buyers); buyer++ {
		gains := []int64{0}
		for _, offer := range x.Buyers[buyer] {
			if offer.Goods|free == free {
				gains = append(gains, offer.Coins-cost(offer.Goods))
			}
		}
		sum += slices.Max(gains)
	}
	return sum
}

// slowMayBe is the place of the first claim by which a proof may not be, or -1.
func slowMayBe(x api.Instance, p api.Proof) int {
	isFirstThere := false
	for place, c := range p.Claims {
		wrong := c.Buyer < 0 || c.Buyer > len(x.Buyers) || c.Free >= 1<<x.Goods || c.Most < 0 || c.Most > 1<<45
		wrong = wrong || len(c.Prices) != 0 && len(c.Prices) != x.Goods
		for _, price := range c.Prices {
			wrong = wrong || price < 0 || price > 1<<40
		}
		for _, ahead := range p.Claims[:place] {
			wrong = wrong || ahead.Buyer > c.Buyer || ahead.Buyer == c.Buyer && ahead.Free >= c.Free
		}
		if wrong {
			return place
		}
		isFirstThere = isFirstThere || c.Buyer == 0 && c.Free == 1<<x.Goods-1
	}
	if !isFirstThere {
		return len(p.Claims)
	}
	return -1
}

// slowLeans is what a claim without prices leans on, by places; and whether it is right by that. Of a proof that may be.
func slowLeans(x api.Instance, p api.Proof, c api.Claim) ([]int, bool) {
	if c.Buyer == len(x.Buyers) {
		return nil, true
	}
	var places []int
	isRight := true
	lean := func(free api.Goods, most int64) {
		for place, other := range p.Claims {
			if other.Buyer == c.Buyer+1 && other.Free == free {
				places = append(places, place)
				isRight = isRight && other.Most <= most
				return
			}
		}
		isRight = false
	}
	lean(c.Free, c.Most)
	for _, offer := range x.Buyers[c.Buyer] {
		if offer.Goods|c.Free == c.Free {
			lean(c.Free-offer.Goods, c.Most-offer.Coins)
		}
	}
	return places, isRight
}

func slowRight(x api.Instance, p api.Proof, c api.Claim) bool {
	if len(c.Prices) > 0 {
		return slowBound(x, c.Buyer, c.Free, c.Prices) <= c.Most
	}
	_, isRight := slowLeans(x, p, c)
	return isRight
}

// slowCheck is what Check answers, of an instance that may be.
func slowCheck(x api.Instance, p api.Proof) (int64, int, api.Errno) {
	if place := slowMayBe(x, p); place >= 0 {
		return 0, place, api.ErrClaims
	}
	var proves int64
	for place, c := range p.Claims {
		if !slowRight(x, p, c) {
			return 0, place, api.ErrProof
		}
		if c.Buyer == 0 && c.Free == 1<<x.Goods-1 {
			proves = c.Most
		}
	}
	return proves, 0, api.OK
}

// slowCut leaves out what is not wanted. Claims lean on ones behind them alone, so that one going over them is enough.
func slowCut(x api.Instance, p api.Proof) api.Proof {
	wanted := make([]int, len(p.Claims))
	var cut api.Proof
	for place, c := range p.Claims {
		if c.Buyer == 0 && c.Free == 1<<x.Goods-1 {
			wanted[place]++
		}
		if wanted[place] == 0 {
			continue
		}
		cut.Claims = append(cut.Claims, c)
		if len(c.Prices) == 0 {
			leans, _ := slowLeans(x, p, c)
			for _, place := range leans {
				wanted[place]++
			}
		}
	}
	return cut
}

// checkAny: what is told of a list of claims, a proof or not, is what the words say (P16.1, P16.3, P16.5).
func checkAny(t *testing.T, x api.Instance, w *table, p api.Proof) {
	t.Helper()
	proves, place, want := slowCheck(x, p)
	wantCheck(t, x, p, proves, place, want)
	for at, c := range p.Claims {
		wantRight(t, x, p, at, want != api.ErrClaims && slowRight(x, p, c))
		first := slices.IndexFunc(p.Claims, func(other api.Claim) bool { return other.Buyer == c.Buyer && other.Free == c.Free })
		wantFind(t, p, c.Buyer, c.Free, first, true)
	}
	wantRight(t, x, p, -1, false)
	wantRight(t, x, p, len(p.Claims), false)
	if want != api.OK {
		wantCut(t, x, p, of(), want)
		return
	}
	checkProof(t, x, w, p, proves)
}

// checkProof: of a proof no claim says too little; and what is left of it when it is cut is a proof of the same, and is cut no further (P16.5, P16.7).
func checkProof(t *testing.T, x api.Instance, w *table, p api.Proof, proves int64) {
	t.Helper()
	if len(p.Claims) > allClaims {
		t.Errorf("a proof of %d claims", len(p.Claims))
	}
	for _, c := range p.Claims {
		if c.Most < w[c.Buyer][c.Free] {
			t.Errorf("%v: %v is taken, though %d can be had", x, c, w[c.Buyer][c.Free])
		}
	}
	cut := slowCut(x, p)
	wantCut(t, x, p, cut, api.OK)
	wantCut(t, x, cut, cut, api.OK)
	wantCheck(t, x, cut, proves, 0, api.OK)
}

// checkMore: a claim that is right is so with a greater Most, too (P16.7).
func checkMore(t *testing.T, r *rand.Rand, x api.Instance, p api.Proof) {
	t.Helper()
	for place, c := range p.Claims {
		if !proof.Right(x, p, place) {
			continue
		}
		for _, more := range []int64{c.Most + 1, c.Most + r.Int63n(100), api.MaxWorth} {
			c.Most = min(more, api.MaxWorth)
			wantRight(t, x, with(p, place, c), place, true)
		}
	}
}

// checkMake: what Make makes proves W, and nothing less (P16.2, P0.1).
func checkMake(t *testing.T, x api.Instance, w *table) api.Proof {
	t.Helper()
	p, err := proof.Make(x)
	if err != api.OK {
		t.Fatalf("Make(%v): %v", x, err)
	}
	wantCheck(t, x, p, w.w(x), 0, api.OK)
	if first, _ := proof.Find(p, 0, 1<<x.Goods-1); w.w(x) > 0 {
		c := p.Claims[first]
		c.Most--
		wantCheck(t, x, with(p, first, c), 0, first, api.ErrProof)
	}
	checkProof(t, x, w, p, w.w(x))
	return p
}

// choices counts through all choices, with what each is worth.
func choices(x api.Instance, tell func(choice []int, worth int64)) {
	choice := make([]int, len(x.Buyers))
	var from func(buyer int, free api.Goods, worth int64)
	from = func(buyer int, free api.Goods, worth int64) {
		if buyer == len(choice) {
			tell(choice, worth)
			return
		}
		choice[buyer] = -1
		from(buyer+1, free, worth)
		for n, offer := range x.Buyers[buyer] {
			if offer.Goods|free == free {
				choice[buyer] = n
				from(buyer+1, free-offer.Goods, worth+offer.Coins)
			}
		}
	}
	from(0, 1<<x.Goods-1, 0)
}

// checkBest: just those choices are proved the best that are worth W, and none by what proves more (P16.4, P16.7).
func checkBest(t *testing.T, x api.Instance, w *table, p api.Proof) {
	t.Helper()
	first, _ := proof.Find(p, 0, 1<<x.Goods-1)
	c := p.Claims[first]
	c.Most++
	loose := with(p, first, c)
	choices(x, func(choice []int, worth int64) {
		want := api.OK
		if worth < w.w(x) {
			want = api.ErrWorth
		}
		wantBest(t, x, p, want, choice...)
		wantBest(t, x, loose, api.ErrWorth, choice...)
	})
}

// checkBounds: by any prices the sum is what the words say (P16.6).
func checkBounds(t *testing.T, r *rand.Rand, x api.Instance, w *table) {
	t.Helper()
	for buyer := range len(x.Buyers) + 1 {
		for free := range api.Goods(1) << x.Goods {
			prices := anyPrices(r, x)
			sum := slowBound(x, buyer, free, prices)
			wantBound(t, x, buyer, free, prices, sum, api.OK)
			if sum < w[buyer][free] {
				t.Errorf("Bound(%v, %d, %b, %v): %d, though %d can be had", x, buyer, free, prices, sum, w[buyer][free])
			}
		}
	}
}

// everyList is all lists of up to so many offers of so many goods and coins.
func everyList(length, goods int, coins int64) [][]api.Offer {
	all := [][]api.Offer{nil}
	for from := 0; length > 0; length-- {
		end := len(all)
		for _, l := range all[from:end] {
			for set := int64(1); set < 1<<goods; set++ {
				for c := int64(1); c <= coins; c++ {
					all = append(all, append(slices.Clone(l), list(set, c)...))
				}
			}
		}
		from = end
	}
	return all
}

// everyInstance is all instances of so many buyers with these lists.
func everyInstance(goods, buyers int, lists [][]api.Offer) []api.Instance {
	all := []api.Instance{instance(goods)}
	for range buyers {
		var longer []api.Instance
		for _, x := range all {
			for _, l := range lists {
				longer = append(longer, instance(goods, append(slices.Clone(x.Buyers), l)...))
			}
		}
		all = longer
	}
	return all
}

// TestEverySmallInstance: all that is promised, of every two and three buyers with few offers; and every claim of one good or two by few prices.
func TestEverySmallInstance(t *testing.T) {
	r := rand.New(rand.NewSource(16))
	for _, each := range []struct {
		goods, length, buyers int
		coins                 int64
	}{{1, 2, 2, 3}, {2, 1, 2, 3}, {2, 2, 2, 1}, {2, 1, 3, 2}, {3, 1, 3, 1}} {
		for _, x := range everyInstance(each.goods, each.buyers, everyList(each.length, each.goods, each.coins)) {
			w := tableOf(x)
			p := checkMake(t, x, w)
			checkBest(t, x, w, p)
			checkBounds(t, r, x, w)
			every := w.everyClaim(x)
			checkAny(t, x, w, every)
			checkLess(t, x, every)
			checkMore(t, r, x, p)
			checkPrices(t, x, w)
			if t.Failed() {
				t.FailNow()
			}
		}
	}
}

// checkLess: if each claim says just W of its part, none may say 1 less.
func checkLess(t *testing.T, x api.Instance, p api.Proof) {
	t.Helper()
	for place, c := range p.Claims {
		if c.Most--; c.Most >= 0 {
			wantCheck(t, x, with(p, place, c), 0, place, api.ErrProof)
		}
	}
}

// checkPrices: one claim by each few prices is taken from its sum on.
func checkPrices(t *testing.T, x api.Instance, w *table) {
	t.Helper()
	prices := make([]int64, x.Goods)
	for {
		sum := slowBound(x, 0, 1<<x.Goods-1, prices)
		checkAny(t, x, w, of(claim(0, 1<<x.Goods-1, sum, prices...)))
		if sum > 0 {
			checkAny(t, x, w, of(claim(0, 1<<x.Goods-1, sum-1, prices...)))
		}
		good := 0
		for good < x.Goods && prices[good] == 2 {
			prices[good] = 0
			good++
		}
		if good == x.Goods {
			return
		}
		prices[good]++
	}
}

// anyCoins draws coins of any size, and the bounds themselves often.
func anyCoins(r *rand.Rand) int64 {
	switch r.Intn(8) {
	case 0:
		return 1
	case 1:
		return most
	case 2:
		return most - 1 - r.Int63n(3)
	case 3, 4:
		return 1 + r.Int63n(6)
	}
	return 1 + r.Int63n(int64(1)<<r.Intn(41))
}

// anyPrices draws prices, most of them small.
func anyPrices(r *rand.Rand, x api.Instance) []int64 {
	var prices []int64
	small := r.Intn(3) > 0
	for range x.Goods {
		if price := anyCoins(r) - 1; !small {
			prices = append(prices, price)
		} else {
			prices = append(prices, r.Int63n(4))
		}
	}
	return prices
}

// kinds are ways to draw coins: of any size, a few that are often the same, by how many goods are wanted, and so that a set is worth more, or less, than its goods one by one.
func kinds(r *rand.Rand) []func(g api.Goods) int64 {
	count := func(g api.Goods) int64 {
		var n int64
		for ; g != 0; g &= g - 1 {
			n++
		}
		return n
	}
	return []func(g api.Goods) int64{
		func(api.Goods) int64 { return anyCoins(r) },
		func(api.Goods) int64 { return 1 + r.Int63n(3) },
		func(g api.Goods) int64 { return count(g) },
		func(g api.Goods) int64 { return 1000*count(g) + r.Int63n(200) },
		func(g api.Goods) int64 { return 10*count(g)*count(g) + r.Int63n(20) },
		func(g api.Goods) int64 { return 100 + 10*count(g) - count(g)*count(g)/2 + r.Int63n(5) },
	}
}

// anyList draws so many offers, of small sets more often than of great ones.
func anyList(r *rand.Rand, goods, length int, coins func(api.Goods) int64) []api.Offer {
	var l []api.Offer
	small := r.Intn(3)
	for len(l) < length {
		set := api.Goods(r.Intn(1 << goods))
		for range small {
			set &= api.Goods(r.Intn(1 << goods))
		}
		if set != 0 {
			l = append(l, api.Offer{Goods: set, Coins: coins(set)})
		}
	}
	return l
}

// anyClaim draws one that is about to be right, by prices or by offers.
func anyClaim(r *rand.Rand, x api.Instance, w *table) api.Claim {
	buyer, free := r.Intn(len(x.Buyers)+1), api.Goods(r.Intn(1<<x.Goods))
	if r.Intn(2) == 0 {
		return claim(buyer, free, w[buyer][free]+r.Int63n(3))
	}
	prices := anyPrices(r, x)
	return claim(buyer, free, max(slowBound(x, buyer, free, prices)+r.Int63n(4)-2, 0), prices...)
}

// spoilt is a proof with one thing of it another one.
func spoilt(r *rand.Rand, x api.Instance, w *table, p api.Proof) api.Proof {
	p = copyOf(p)
	if len(p.Claims) == 0 {
		return of(anyClaim(r, x, w))
	}
	c, other := &p.Claims[r.Intn(len(p.Claims))], p.Claims[r.Intn(len(p.Claims))]
	switch r.Intn(11) {
	case 0:
		c.Most += r.Int63n(5) - 2
	case 1:
		c.Most = r.Int63n(api.MaxWorth + 2)
	case 2:
		return without(p, r.Intn(len(p.Claims)))
	case 3:
		return of(slices.Insert(p.Claims, r.Intn(len(p.Claims)+1), anyClaim(r, x, w))...)
	case 4:
		*c = other
	case 5:
		c.Buyer += r.Intn(3) - 1
	case 6:
		c.Free ^= 1 << r.Intn(x.Goods+1)
	case 7:
		c.Prices = anyPrices(r, x)
	case 8:
		c.Prices = nil
	case 9:
		c.Prices = append(c.Prices, anyCoins(r))
	case 10:
		if len(c.Prices) > 0 {
			c.Prices[r.Intn(len(c.Prices))] += r.Int63n(3) - 1
		}
	}
	return p
}

// mixed is the proof of every claim, some of them by prices.
func mixed(r *rand.Rand, x api.Instance, w *table) api.Proof {
	p := w.everyClaim(x)
	for place, c := range p.Claims {
		prices := anyPrices(r, x)
		if sum := slowBound(x, c.Buyer, c.Free, prices); sum == c.Most || r.Intn(20) == 0 {
			p.Claims[place].Prices, p.Claims[place].Most = prices, sum
		}
	}
	return p
}

// TestAnyProofs: proofs, and what is nearly one, of instances that are small enough to count all choices through.
func TestAnyProofs(t *testing.T) {
	r := rand.New(rand.NewSource(17))
	for _, coins := range kinds(r) {
		for range 25 {
			x := api.Instance{Goods: 1 + r.Intn(4)}
			for range r.Intn(5) {
				x.Buyers = append(x.Buyers, anyList(r, x.Goods, r.Intn(4), coins))
			}
			w := tableOf(x)
			p := checkMake(t, x, w)
			checkBest(t, x, w, p)
			checkBounds(t, r, x, w)
			for _, p := range []api.Proof{p, w.everyClaim(x), mixed(r, x, w), of()} {
				for range 20 {
					checkAny(t, x, w, p)
					checkMore(t, r, x, p)
					p = spoilt(r, x, w, p)
				}
			}
		}
		if t.Failed() {
			t.FailNow()
		}
	}
}

// TestFullInstances: as many goods, buyers and offers as may be, of all kinds; and proofs of as many claims as may be.
func TestFullInstances(t *testing.T) {
	r := rand.New(rand.NewSource(18))
	for _, coins := range kinds(r) {
		for range 4 {
			x := api.Instance{Goods: api.MaxGoods}
			for range api.MaxBuyers {
				x.Buyers = append(x.Buyers, anyList(r, x.Goods, api.MaxOffers, coins))
			}
			w := tableOf(x)
			p, err := proof.Make(x)
			if err != api.OK || len(p.Claims) > allClaims {
				t.Fatalf("Make(%v): %d claims, %v", x, len(p.Claims), err)
			}
			wantCheck(t, x, p, w.w(x), 0, api.OK)
			checkFull(t, r, x, w)
		}
	}
}

// checkFull: the proof of every claim is one, cut or not; and it is none, if one of its claims says 1 less.
func checkFull(t *testing.T, r *rand.Rand, x api.Instance, w *table) {
	t.Helper()
	every := w.everyClaim(x)
	if len(every.Claims) != allClaims {
		t.Fatalf("%d claims", len(every.Claims))
	}
	cut, err := proof.Cut(x, every)
	if err != api.OK || len(cut.Claims) > len(every.Claims) {
		t.Fatalf("Cut(%v): %d claims, %v", x, len(cut.Claims), err)
	}
	if again, err := proof.Cut(x, cut); err != api.OK || !same(again, cut) {
		t.Errorf("Cut(%v) again: %d claims, %v, not %d", x, len(again.Claims), err, len(cut.Claims))
	}
	for _, p := range []api.Proof{every, cut} {
		if proves, place, err := proof.Check(x, p); proves != w.w(x) || place != 0 || err != api.OK {
			t.Errorf("Check(%v): %d, %d, %v, not %d", x, proves, place, err, w.w(x))
		}
		place := r.Intn(len(p.Claims))
		c := p.Claims[place]
		if c.Most--; c.Most < 0 {
			continue
		}
		if proves, at, err := proof.Check(x, with(p, place, c)); proves != 0 || at != place || err != api.ErrProof {
			t.Errorf("Check(%v): %d, %d, %v, though the claim %d says 1 less", x, proves, at, err, place)
		}
	}
}
