package proof_test

import (
	"math"
	"slices"
	"testing"

	"gavel/api"
	"gavel/clear"
	"gavel/proof"
)

// most is the most coins that there are.
const most = api.MaxCoins

// list makes offers of pairs: a set of goods, coins.
func list(pairs ...int64) []api.Offer {
	l := make([]api.Offer, 0, len(pairs)/2)
	for i := 0; i < len(pairs); i += 2 {
		l = append(l, api.Offer{Goods: api.Goods(pairs[i]), Coins: pairs[i+1]})
	}
	return l
}

// instance is one of so many goods.
func instance(n int, lists ...[]api.Offer) api.Instance {
	return api.Instance{Goods: n, Buyers: lists}
}

// full is an instance of as many goods and buyers as may be, each with these offers.
func full(l []api.Offer) api.Instance {
	x := instance(api.MaxGoods)
	for range api.MaxBuyers {
		x.Buyers = append(x.Buyers, slices.Clone(l))
	}
	return x
}

// example is the chapter's: W is 9.
func example() api.Instance { return instance(2, list(1, 5, 3, 9), list(2, 4)) }

// claim makes one.
func claim(buyer int, free api.Goods, most int64, prices ...int64) api.Claim {
	return api.Claim{Buyer: buyer, Free: free, Most: most, Prices: prices}
}

// of makes a proof.
func of(claims ...api.Claim) api.Proof { return api.Proof{Claims: claims} }

// short is the proof of the chapter's first row, long the one of its fourth row.
func short() api.Proof { return of(claim(0, 3, 9, 5, 4)) }
func long() api.Proof {
	return of(claim(0, 3, 9), claim(1, 0, 0, 0, 0), claim(1, 2, 4, 0, 4), claim(1, 3, 4, 0, 4))
}

// leaves is a proof of the example by offers alone.
func leaves() api.Proof {
	return of(claim(0, 3, 9), claim(1, 0, 0), claim(1, 2, 4), claim(1, 3, 4), claim(2, 0, 0), claim(2, 1, 0), claim(2, 2, 0), claim(2, 3, 0))
}

// with is a proof with one claim another one.
func with(p api.Proof, place int, c api.Claim) api.Proof {
	p.Claims = slices.Clone(p.Claims)
	p.Claims[place] = c
	return p
}

// without is a proof without one claim.
func without(p api.Proof, place int) api.Proof {
	return of(slices.Delete(slices.Clone(p.Claims), place, place+1)...)
}

func sameClaim(a, b api.Claim) bool {
	return a.Buyer == b.Buyer && a.Free == b.Free && a.Most == b.Most && slices.Equal(a.Prices, b.Prices)
}

func same(a, b api.Proof) bool { return slices.EqualFunc(a.Claims, b.Claims, sameClaim) }

// copyOf is a proof in memory of its own.
func copyOf(p api.Proof) api.Proof {
	p.Claims = slices.Clone(p.Claims)
	for place, c := range p.Claims {
		p.Claims[place].Prices = slices.Clone(c.Prices)
	}
	return p
}

func wantCheck(t *testing.T, x api.Instance, p api.Proof, proves int64, place int, want api.Errno) {
	t.Helper()
	if got, at, err := proof.Check(x, p); got != proves || at != place || err != want {
		t.Errorf("Check(%v, %v): %d, %d, %v, not %d, %d, %v", x, p, got, at, err, proves, place, want)
	}
}

func wantRight(t *testing.T, x api.Instance, p api.Proof, place int, want bool) {
	t.Helper()
	if got := proof.Right(x, p, place); got != want {
		t.Errorf("Right(%v, %v, %d): %v", x, p, place, got)
	}
}

func wantBest(t *testing.T, x api.Instance, p api.Proof, want api.Errno, choice ...int) {
	t.Helper()
	if err := proof.Best(x, p, choice...); err != want {
		t.Errorf("Best(%v, %v, %v): %v, not %v", x, p, choice, err, want)
	}
}

func wantFind(t *testing.T, p api.Proof, buyer int, free api.Goods, place int, want bool) {
	t.Helper()
	if at, ok := proof.Find(p, buyer, free); at != place || ok != want {
		t.Errorf("Find(%v, %d, %b): %d, %v, not %d, %v", p, buyer, free, at, ok, place, want)
	}
}

func wantCut(t *testing.T, x api.Instance, p, cut api.Proof, want api.Errno) {
	t.Helper()
	got, err := proof.Cut(x, p)
	if !same(got, cut) || err != want {
		t.Errorf("Cut(%v, %v): %v, %v, not %v, %v", x, p, got, err, cut, want)
	}
	if err != api.OK && got.Claims != nil {
		t.Errorf("Cut(%v, %v): a list beside %v", x, p, err)
	}
}

func wantBound(t *testing.T, x api.Instance, buyer int, free api.Goods, prices []int64, bound int64, want api.Errno) {
	t.Helper()
	if got, err := proof.Bound(x, buyer, free, prices...); got != bound || err != want {
		t.Errorf("Bound(%v, %d, %b, %v): %d, %v, not %d, %v", x, buyer, free, prices, got, err, bound, want)
	}
}

// made is what Make makes of an instance that may be, checked: it proves W.
func made(t *testing.T, x api.Instance) api.Proof {
	t.Helper()
	p, err := proof.Make(x)
	if err != api.OK {
		t.Fatalf("Make(%v): %v", x, err)
	}
	w, err := clear.W(x)
	if err != api.OK {
		t.Fatalf("W(%v): %v", x, err)
	}
	wantCheck(t, x, p, w, 0, api.OK)
	return p
}

// wantNoClaims: this proof may not be, by the claim at that place, whatever is asked of it.
func wantNoClaims(t *testing.T, x api.Instance, p api.Proof, place int, choice ...int) {
	t.Helper()
	wantCheck(t, x, p, 0, place, api.ErrClaims)
	wantCut(t, x, p, of(), api.ErrClaims)
	wantBest(t, x, p, api.ErrClaims, choice...)
	for at := range p.Claims {
		wantRight(t, x, p, at, false)
	}
}

// wantNoProof: this proof may be, but the claim at that place is the first one that is not right.
func wantNoProof(t *testing.T, x api.Instance, p api.Proof, place int, choice ...int) {
	t.Helper()
	wantCheck(t, x, p, 0, place, api.ErrProof)
	wantCut(t, x, p, of(), api.ErrProof)
	wantBest(t, x, p, api.ErrProof, choice...)
	for at := range place {
		wantRight(t, x, p, at, true)
	}
	wantRight(t, x, p, place, false)
}

// wantRefused asks each call of an instance that may not be, with all else right, and wrong.
func wantRefused(t *testing.T, x api.Instance) {
	t.Helper()
	if p, err := proof.Make(x); p.Claims != nil || err != api.ErrArg {
		t.Errorf("Make(%v): %v, %v", x, p, err)
	}
	for _, p := range []api.Proof{of(), short(), long(), of(claim(-1, 9, -1, 1)), of(claim(0, 1, 0)), of(claim(0, 1023, api.MaxWorth))} {
		wantCheck(t, x, p, 0, 0, api.ErrArg)
		wantCut(t, x, p, of(), api.ErrArg)
		wantBest(t, x, p, api.ErrArg)
		wantBest(t, x, p, api.ErrArg, 0, 0)
		wantBest(t, x, p, api.ErrArg, make([]int, len(x.Buyers))...)
		for place := -1; place <= len(p.Claims); place++ {
			wantRight(t, x, p, place, false)
		}
	}
	for _, buyer := range []int{0, len(x.Buyers), -1, len(x.Buyers) + 1, math.MinInt, math.MaxInt} {
		for _, free := range []api.Goods{0, 1, 1 << 31, math.MaxUint32} {
			wantBound(t, x, buyer, free, nil, 0, api.ErrArg)
			wantBound(t, x, buyer, free, []int64{0}, 0, api.ErrArg)
			wantBound(t, x, buyer, free, make([]int64, 10), 0, api.ErrArg)
		}
	}
}

// TestExamples: the rows of the chapter's table, in their order.
func TestExamples(t *testing.T) {
	x := example()
	wantCheck(t, x, of(claim(0, 3, 9, 5, 4)), 9, 0, api.OK)

	wantCheck(t, x, of(claim(0, 3, 8, 5, 4)), 0, 0, api.ErrProof)
	wantCheck(t, x, of(claim(0, 3, 9)), 0, 0, api.ErrProof)

	wantCheck(t, x, of(), 0, 0, api.ErrClaims)
	wantCheck(t, x, of(claim(0, 1, 9, 5, 4)), 0, 1, api.ErrClaims)
	wantCheck(t, x, of(claim(0, 3, -1)), 0, 0, api.ErrClaims)

	wantCheck(t, x, of(claim(0, 3, 9), claim(1, 0, 0, 0, 0), claim(1, 2, 4, 0, 4), claim(1, 3, 4, 0, 4)), 9, 0, api.OK)

	wantBound(t, x, 0, 3, []int64{5, 4}, 9, api.OK)
	wantBound(t, x, 1, 2, []int64{0, 1}, 4, api.OK)
	wantBound(t, x, 3, 0, []int64{0, 0}, 0, api.ErrArg)

	wantBest(t, x, short(), api.OK, 0, 0)
	wantBest(t, x, short(), api.OK, 1, -1)
	wantBest(t, x, short(), api.ErrWorth, 0, -1)
	wantBest(t, x, short(), api.ErrChoice, 1, 0)
}

// TestExampleOfTheWhole: the document's sixth and seventh ones: 20 is proved by the prices 10 and 10.
func TestExampleOfTheWhole(t *testing.T) {
	x := instance(2, list(1, 10), list(2, 10), list(3, 10))
	wantBound(t, x, 0, 3, []int64{10, 10}, 20, api.OK)
	wantCheck(t, x, of(claim(0, 3, 20, 10, 10)), 20, 0, api.OK)
	wantBest(t, x, of(claim(0, 3, 20, 10, 10)), api.OK, 0, 0, -1)
	wantBest(t, x, of(claim(0, 3, 20, 10, 10)), api.ErrWorth, -1, -1, 0)
	wantNoProof(t, x, of(claim(0, 3, 19, 10, 10)), 0, 0, 0, -1)
	wantBest(t, x, made(t, x), api.OK, 0, 0, -1)
}

// TestNumbersOfClaims: each number of a claim at its bounds, and one past them.
func TestNumbersOfClaims(t *testing.T) {
	x := example()
	wantCheck(t, x, leaves(), 9, 0, api.OK)
	for _, buyer := range []int{math.MinInt, -2, -1, 3, 4, 32, 33, math.MaxInt} {
		wantNoClaims(t, x, with(leaves(), 7, claim(buyer, 3, 0)), 7, 0, 0)
		wantNoClaims(t, x, of(claim(buyer, 3, 9, 5, 4)), 0, 0, 0)
	}
	for _, free := range []api.Goods{4, 5, 7, 1 << 9, 1 << 10, 1 << 31, math.MaxUint32} {
		wantNoClaims(t, x, with(leaves(), 7, claim(2, free, 0)), 7, 0, 0)
		wantNoClaims(t, x, with(leaves(), 7, claim(2, free, 0, 0, 0)), 7, 0, 0)
	}
	for _, n := range []int64{0, 1, api.MaxWorth - 1, api.MaxWorth} {
		wantCheck(t, x, of(slices.Insert(leaves().Claims, 2, claim(1, 1, n))...), 9, 0, api.OK)
	}
	wantCheck(t, x, with(short(), 0, claim(0, 3, api.MaxWorth, 5, 4)), api.MaxWorth, 0, api.OK)
	for _, n := range []int64{math.MinInt64, -2, -1, api.MaxWorth + 1, math.MaxInt64} {
		wantNoClaims(t, x, of(slices.Insert(leaves().Claims, 2, claim(1, 1, n))...), 2, 0, 0)
		wantNoClaims(t, x, with(short(), 0, claim(0, 3, n, 5, 4)), 0, 0, 0)
	}
}

// TestPricesOfClaims: how many there are, and each at its bounds.
func TestPricesOfClaims(t *testing.T) {
	x := example()
	for _, prices := range [][]int64{{5}, {5, 4, 0}, {5, 4, 0, 0}, make([]int64, 10), make([]int64, 32), {-1, 4}, {5, -1}, {most + 1, 4}, {5, most + 1}, {math.MinInt64, 0}, {0, math.MaxInt64}} {
		wantNoClaims(t, x, of(claim(0, 3, api.MaxWorth, prices...)), 0, 0, 0)
		wantNoClaims(t, x, with(leaves(), 4, claim(2, 0, 0, prices...)), 4, 0, 0)
	}
	wantCheck(t, x, of(claim(0, 3, 2*most, most, most)), 2*most, 0, api.OK)
	wantNoProof(t, x, of(claim(0, 3, 2*most-1, most, most)), 0, 0, 0)
	wantCheck(t, x, of(claim(0, 3, most, 0, most)), 0, 0, api.ErrProof)
	wantCheck(t, x, of(claim(0, 3, most+5, 0, most)), most+5, 0, api.OK)
	wantCheck(t, x, of(claim(0, 3, 13, 0, 0)), 13, 0, api.OK)
	wantCheck(t, x, of(claim(0, 3, 12, 0, 0)), 0, 0, api.ErrProof)
	wantCheck(t, x, with(leaves(), 0, api.Claim{Free: 3, Most: 9, Prices: []int64{}}), 9, 0, api.OK)
	ten, nobody := full(nil), slices.Repeat([]int{-1}, api.MaxBuyers)
	wantCheck(t, ten, of(claim(0, 1023, 10*most, slices.Repeat([]int64{most}, 10)...)), 10*most, 0, api.OK)
	wantNoClaims(t, ten, of(claim(0, 1023, 10*most, slices.Repeat([]int64{most}, 9)...)), 0, nobody...)
	wantNoClaims(t, ten, of(claim(0, 1023, 10*most, slices.Repeat([]int64{most}, 11)...)), 0, nobody...)
}

// TestRising: by Buyer, of one Buyer by Free; the place is that of the claim that does not rise behind the one ahead.
func TestRising(t *testing.T) {
	x := example()
	for place := 1; place < 8; place++ {
		twice := slices.Insert(leaves().Claims, place, leaves().Claims[place-1])
		wantNoClaims(t, x, of(twice...), place, 0, 0)
		swapped := leaves().Claims
		swapped[place], swapped[place-1] = swapped[place-1], swapped[place]
		wantNoClaims(t, x, of(swapped...), place, 0, 0)
		back := slices.Insert(leaves().Claims, place, claim(0, 0, 9, 0, 0))
		wantNoClaims(t, x, of(back...), place, 0, 0)
	}
	// The same part twice, with another Most and other prices, is twice still.
	wantNoClaims(t, x, of(claim(0, 3, 9, 5, 4), claim(0, 3, 10, 5, 5)), 1, 0, 0)
	// A greater Buyer goes ahead of a greater Free.
	wantCheck(t, x, of(claim(0, 1, 5, 5, 0), claim(0, 2, 4, 0, 4), claim(0, 3, 9, 5, 4), claim(1, 0, 0), claim(2, 0, 0)), 9, 0, api.OK)
	wantNoClaims(t, x, of(claim(0, 3, 9, 5, 4), claim(2, 0, 0), claim(1, 3, 4, 0, 4)), 2, 0, 0)
}

// TestFirstClaim: where only it wants, the place is how many claims there are; it need not stand first.
func TestFirstClaim(t *testing.T) {
	x := example()
	wantNoClaims(t, x, of(), 0, 0, 0)
	wantNoClaims(t, x, api.Proof{Claims: []api.Claim{}}, 0, 0, 0)
	wantNoClaims(t, x, without(leaves(), 0), 7, 0, 0)
	wantNoClaims(t, x, of(claim(0, 0, 0, 0, 0), claim(0, 1, 5, 5, 0), claim(0, 2, 4, 0, 4)), 3, 0, 0)
	wantNoClaims(t, x, of(claim(1, 3, 9, 5, 4)), 1, 0, 0)
	wantCheck(t, x, of(claim(0, 0, 0, 0, 0), claim(0, 1, 5, 5, 0), claim(0, 2, 4, 0, 4), claim(0, 3, 9, 5, 4), claim(2, 3, 7)), 9, 0, api.OK)
	// What may not be because of itself goes ahead, wherever it stands; and a proof that may not be ahead of a claim that is not right.
	wantNoClaims(t, x, of(claim(0, 1, 9, 5, 4), claim(1, 4, 0)), 1, 0, 0)
	wantNoClaims(t, x, of(claim(0, 1, 0, 5, 4)), 1, 0, 0)
	wantNoClaims(t, x, of(claim(0, 3, 0, 5, 4), claim(1, 3, -1)), 1, 0, 0)
	wantNoClaims(t, x, of(claim(0, 3, 0), claim(1, 4, 0), claim(0, 3, 0)), 1, 0, 0)
}

// TestByPrices: the sum is taken of the free goods, of the buyers from Buyer on, and of the offers within Free alone.
func TestByPrices(t *testing.T) {
	x := instance(3, list(1, 5, 6, 9), list(2, 4, 3, 7), list(4, 6))
	for _, c := range []struct {
		buyer  int
		free   api.Goods
		prices []int64
		sum    int64
	}{
		{0, 7, []int64{0, 0, 0}, 9 + 7 + 6},
		{0, 7, []int64{3, 4, 5}, 12 + 2 + 0 + 1},
		{0, 3, []int64{3, 4, 5}, 7 + 2 + 0},
		{0, 1, []int64{3, 4, 5}, 3 + 2},
		{0, 6, []int64{3, 1, 5}, 6 + 3 + 3 + 1},
		{0, 0, []int64{9, 9, 9}, 0},
		{1, 7, []int64{3, 4, 5}, 12 + 0 + 1},
		{1, 3, []int64{1, 1, 5}, 2 + 5},
		{1, 2, []int64{1, 1, 5}, 1 + 3},
		{2, 7, []int64{0, 0, 5}, 5 + 1},
		{2, 7, []int64{0, 0, 7}, 7},
		{2, 3, []int64{1, 2, 5}, 3},
		{3, 7, []int64{1, 2, 5}, 8},
		{3, 5, []int64{1, 2, 5}, 6},
		{3, 0, []int64{most, most, most}, 0},
	} {
		wantBound(t, x, c.buyer, c.free, c.prices, c.sum, api.OK)
		behind := claim(c.buyer, c.free, c.sum, c.prices...)
		p, place := of(claim(0, 7, 22, 0, 0, 0)), 0
		switch {
		case c.buyer > 0:
			p, place = of(p.Claims[0], behind), 1
		case c.free < 7:
			p = of(behind, p.Claims[0])
		default:
			p = of(behind)
		}
		wantRight(t, x, p, place, true)
		if c.sum > 0 {
			behind.Most--
			wantNoProof(t, x, with(p, place, behind), place, -1, -1, -1)
		}
	}
}

// TestByOffers: each claim that is leant on must be there, and say no more than is left to it; offers that do not fit ask for none.
func TestByOffers(t *testing.T) {
	x := example()
	for place := 1; place < 4; place++ {
		wantNoProof(t, x, without(leaves(), place), 0, 0, 0)
	}
	// The claim at 1 leans on that at 4; that at 2 on those at 6 and 4; that at 3 on those at 7 and 5.
	for place, leaning := range map[int]int{4: 1, 5: 3, 6: 2, 7: 3} {
		wantNoProof(t, x, without(leaves(), place), leaning, 0, 0)
	}
	// Each of them may say just so much: by the first offer 5 and 4, by the second one 9 and 0, without an offer 9.
	for place, bound := range map[int]int64{1: 0, 2: 4, 3: 9} {
		c := leaves().Claims[place]
		c.Most = bound
		wantCheck(t, x, with(leaves(), place, c), 9, 0, api.OK)
		c.Most++
		wantNoProof(t, x, with(leaves(), place, c), 0, 0, 0)
	}
	wantNoProof(t, x, with(leaves(), 0, claim(0, 3, 8)), 0, 0, 0)
	wantCheck(t, x, with(leaves(), 0, claim(0, 3, 10)), 10, 0, api.OK)
	// Nobody is left, and nothing is claimed: right without more. With prices they count there, too.
	wantRight(t, x, leaves(), 7, true)
	wantCheck(t, x, with(leaves(), 7, claim(2, 3, 0, 0, 0)), 9, 0, api.OK)
	wantNoProof(t, x, with(leaves(), 7, claim(2, 3, 0, 0, 1)), 7, 0, 0)
	wantCheck(t, x, with(leaves(), 7, claim(2, 3, 1, 0, 1)), 9, 0, api.OK)
	wantCheck(t, x, with(leaves(), 6, claim(2, 2, 0, 1, 0)), 9, 0, api.OK)
}

// TestOneWay: a claim with prices is right by them alone, although what it could lean on is there; one without prices never by any.
func TestOneWay(t *testing.T) {
	x := example()
	wantNoProof(t, x, with(leaves(), 0, claim(0, 3, 9, 0, 0)), 0, 0, 0)
	wantNoProof(t, x, with(leaves(), 2, claim(1, 2, 4, 0, 5)), 2, 0, 0)
	wantNoProof(t, x, of(claim(0, 3, api.MaxWorth)), 0, 0, 0)
	wantNoProof(t, instance(1, nil), of(claim(0, 1, 0)), 0, -1)
	wantCheck(t, instance(1, nil), of(claim(0, 1, 0), claim(1, 1, 0)), 0, 0, api.OK)
	wantCheck(t, instance(1), of(claim(0, 1, 0)), 0, 0, api.OK)
}

// TestRightPlaces: places that there are not; and one claim's being right does not hang on others that are not.
func TestRightPlaces(t *testing.T) {
	x := example()
	for _, place := range []int{math.MinInt, -2, -1, 8, 9, math.MaxInt} {
		wantRight(t, x, leaves(), place, false)
	}
	for place := range 8 {
		wantRight(t, x, leaves(), place, true)
	}
	wrong := with(leaves(), 3, claim(1, 3, 3))
	for place := range 8 {
		wantRight(t, x, wrong, place, place != 3)
	}
	// A claim may lean on one that is not right.
	wantCheck(t, x, wrong, 0, 3, api.ErrProof)
	wantCheck(t, x, with(wrong, 0, claim(0, 3, 8)), 0, 0, api.ErrProof)
}

// TestBestErrors: what is no choice goes ahead of what is no proof, and that ahead of another worth.
func TestBestErrors(t *testing.T) {
	x := example()
	none := [][]int{nil, {}, {0}, {0, 0, 0}, {0, 0, -1}, {1, 0}, {2, -1}, {-1, 1}, {-2, 0}, {0, -2}, {math.MinInt, -1}, {-1, math.MaxInt}}
	for _, p := range []api.Proof{short(), long(), leaves(), of(), of(claim(0, 1, 9)), of(claim(0, 3, 9)), of(claim(-1, 3, 9))} {
		for _, choice := range none {
			wantBest(t, x, p, api.ErrChoice, choice...)
		}
	}
	for _, choice := range [][]int{{0, 0}, {1, -1}, {0, -1}, {-1, 0}, {-1, -1}} {
		wantBest(t, x, of(), api.ErrClaims, choice...)
		wantBest(t, x, of(claim(0, 3, -1)), api.ErrClaims, choice...)
		wantBest(t, x, of(claim(0, 3, 0, 5, 4)), api.ErrProof, choice...)
		// What proves too much proves of no choice that it is the best.
		wantBest(t, x, of(claim(0, 3, 10, 5, 4)), api.ErrWorth, choice...)
	}
	for _, p := range []api.Proof{short(), long(), leaves()} {
		wantBest(t, x, p, api.OK, 0, 0)
		wantBest(t, x, p, api.OK, 1, -1)
		wantBest(t, x, p, api.ErrWorth, 0, -1)
		wantBest(t, x, p, api.ErrWorth, -1, 0)
		wantBest(t, x, p, api.ErrWorth, -1, -1)
	}
	wantBest(t, instance(3), of(claim(0, 7, 0)), api.OK)
	wantBest(t, instance(3), of(claim(0, 7, 1)), api.ErrWorth)
	wantBest(t, instance(3), of(claim(0, 7, 0)), api.ErrChoice, -1)
}

// TestFind: of claims that rise, and of any others.
func TestFind(t *testing.T) {
	for place, c := range leaves().Claims {
		wantFind(t, leaves(), c.Buyer, c.Free, place, true)
	}
	for _, p := range []api.Proof{of(), {Claims: []api.Claim{}}, short(), long(), leaves()} {
		for _, buyer := range []int{math.MinInt, -1, 3, math.MaxInt} {
			wantFind(t, p, buyer, 3, 0, false)
		}
		for _, free := range []api.Goods{4, 1 << 31, math.MaxUint32} {
			wantFind(t, p, 0, free, 0, false)
			wantFind(t, p, 2, free, 0, false)
		}
	}
	wantFind(t, of(), 0, 0, 0, false)
	wantFind(t, long(), 0, 0, 0, false)
	wantFind(t, long(), 1, 1, 0, false)
	others := of(claim(5, 3, 1), claim(1, 2, 2), claim(-7, math.MaxUint32, -3), claim(1, 2, 0, 5), claim(5, 2, 4), claim(1, 3, 2), claim(5, 3, 9), claim(0, 0, 0), claim(math.MaxInt, 0, 0), claim(0, 0, 0), claim(math.MinInt, 1<<31, 0))
	for _, c := range []struct {
		buyer int
		free  api.Goods
		place int
	}{{5, 3, 0}, {1, 2, 1}, {-7, math.MaxUint32, 2}, {5, 2, 4}, {1, 3, 5}, {0, 0, 7}, {math.MaxInt, 0, 8}, {math.MinInt, 1 << 31, 10}} {
		wantFind(t, others, c.buyer, c.free, c.place, true)
	}
	wantFind(t, others, 1, 1, 0, false)
	wantFind(t, others, -7, 0, 0, false)
	wantFind(t, others, 2, 2, 0, false)
	// Falling ones, of which each is found still.
	back := copyOf(leaves())
	slices.Reverse(back.Claims)
	for place, c := range back.Claims {
		wantFind(t, back, c.Buyer, c.Free, place, true)
	}
}

// TestCut: the first claim, what it leans on, what these lean on, and no other.
func TestCut(t *testing.T) {
	x := example()
	wantCut(t, x, short(), short(), api.OK)
	wantCut(t, x, long(), long(), api.OK)
	wantCut(t, x, leaves(), leaves(), api.OK)
	// With prices nothing is leant on.
	wantCut(t, x, with(leaves(), 0, short().Claims[0]), short(), api.OK)
	wantCut(t, x, with(leaves(), 3, claim(1, 3, 4, 0, 4)), of(claim(0, 3, 9), claim(1, 0, 0), claim(1, 2, 4), claim(1, 3, 4, 0, 4), claim(2, 0, 0), claim(2, 2, 0)), api.OK)
	// What is ahead of the first claim, and what nobody leans on.
	wantCut(t, x, of(claim(0, 0, 0, 0, 0), claim(0, 2, 4, 0, 4), claim(0, 3, 9, 5, 4), claim(2, 0, 0), claim(2, 3, 7)), short(), api.OK)
	wantCut(t, x, of(slices.Insert(leaves().Claims, 2, claim(1, 1, 0, 0, 9), claim(1, 1, 0))...), of(), api.ErrClaims)
	wantCut(t, x, of(slices.Insert(leaves().Claims, 2, claim(1, 1, 5))...), leaves(), api.OK)
	// A claim that nobody wants must be right, too.
	wantCut(t, x, of(claim(0, 3, 9, 5, 4), claim(1, 3, 0)), of(), api.ErrProof)
	wantCut(t, x, of(claim(0, 2, 0), claim(0, 3, 9, 5, 4)), of(), api.ErrProof)
	wantCut(t, x, of(), of(), api.ErrClaims)
	wantCut(t, x, of(claim(0, 3, 9)), of(), api.ErrProof)
	// What is proved need not be W.
	wantCut(t, x, with(leaves(), 0, claim(0, 3, 99)), with(leaves(), 0, claim(0, 3, 99)), api.OK)
}

// TestBound: each argument at its bounds, and one past them.
func TestBound(t *testing.T) {
	x := example()
	for _, buyer := range []int{math.MinInt, -2, -1, 3, 4, 32, math.MaxInt} {
		wantBound(t, x, buyer, 3, []int64{5, 4}, 0, api.ErrArg)
	}
	for _, free := range []api.Goods{4, 7, 1 << 10, 1 << 31, math.MaxUint32} {
		for buyer := range 3 {
			wantBound(t, x, buyer, free, []int64{5, 4}, 0, api.ErrArg)
		}
	}
	for _, prices := range [][]int64{nil, {}, {5}, {5, 4, 0}, make([]int64, 10), {-1, 0}, {0, -1}, {most + 1, 0}, {0, most + 1}, {math.MinInt64, 0}, {0, math.MaxInt64}} {
		wantBound(t, x, 0, 3, prices, 0, api.ErrArg)
		wantBound(t, x, 2, 0, prices, 0, api.ErrArg)
	}
	wantBound(t, x, 2, 3, []int64{5, 4}, 9, api.OK)
	wantBound(t, x, 2, 0, []int64{5, 4}, 0, api.OK)
	wantBound(t, x, 0, 3, []int64{most, most}, 2*most, api.OK)
	wantBound(t, instance(1), 0, 1, []int64{7}, 7, api.OK)
	wantBound(t, instance(1), 1, 1, []int64{7}, 0, api.ErrArg)
	all := full(slices.Repeat(list(1023, most), api.MaxOffers))
	wantBound(t, all, 0, 1023, make([]int64, 10), 32*most, api.OK)
	wantBound(t, all, 31, 1023, make([]int64, 10), most, api.OK)
	wantBound(t, all, 32, 1023, slices.Repeat([]int64{most}, 10), 10*most, api.OK)
	wantBound(t, all, 0, 1022, make([]int64, 10), 0, api.OK)
}

// TestInstances: each bound of an instance, one past it: ErrArg, whatever is wrong of it, and ahead of all else.
func TestInstances(t *testing.T) {
	nine := slices.Repeat(list(1, 1), api.MaxOffers+1)
	wrong := list(1, 1, 0, 1)
	for _, n := range []int{math.MinInt, -1, 0, 11, 32, 33, math.MaxInt} {
		wantRefused(t, instance(n))
		wantRefused(t, instance(n, list(1, 5, 3, 9), list(2, 4)))
		wantRefused(t, instance(n, nine, wrong))
	}
	wantRefused(t, instance(1, make([][]api.Offer, api.MaxBuyers+1)...))
	wantRefused(t, instance(10, make([][]api.Offer, api.MaxBuyers+1)...))
	wantRefused(t, instance(2, list(1, 1), nine))
	wantRefused(t, instance(1, wrong, nine))
	for _, l := range [][]api.Offer{wrong, list(1, 0), list(1, -1), list(1, most+1), list(2, 1), list(3, 1), list(1<<31, 1), list(1, math.MinInt64), list(1, math.MaxInt64)} {
		wantRefused(t, instance(1, l))
		wantRefused(t, instance(1, list(1, 1), nil, l))
	}
	wantRefused(t, instance(10, list(1024, 1)))
}

// TestMake: instances without buyers, without offers, with one, and as great as may be.
func TestMake(t *testing.T) {
	made(t, example())
	for n := 1; n <= api.MaxGoods; n++ {
		made(t, instance(n))
		made(t, instance(n, nil, []api.Offer{}))
		made(t, instance(n, list(1, 1)))
		made(t, instance(n, list(1<<n-1, most)))
	}
	made(t, full(nil))
	made(t, full(slices.Repeat(list(1023, most), api.MaxOffers)))
	made(t, full(list(1, most, 2, most, 4, most, 8, most, 16, most, 32, most, 64, most, 128, most)))
	made(t, full(list(3, 1, 6, 1, 12, 1, 24, 1, 48, 1, 96, 1, 192, 1, 384, 1)))
	tens := instance(10)
	for good := range 10 {
		tens.Buyers = append(tens.Buyers, list(1<<good, most))
	}
	wantCheck(t, tens, made(t, tens), 10*most, 0, api.OK)
}

// TestMakeByOffers: of these three buyers each two want one good in common, so that one alone gets its offer, but no prices prove it: what they leave is 3 at least. Offers must be gone through.
func TestMakeByOffers(t *testing.T) {
	x := instance(3, list(3, 2), list(6, 2), list(5, 2))
	for a := range int64(4) {
		for b := range int64(4) {
			for c := range int64(4) {
				wantCheck(t, x, of(claim(0, 7, 2, a, b, c)), 0, 0, api.ErrProof)
			}
		}
	}
	p := made(t, x)
	if at, ok := proof.Find(p, 0, 7); !ok || len(p.Claims[at].Prices) > 0 || p.Claims[at].Most != 2 {
		t.Errorf("Make(%v): %v", x, p)
	}
	for _, choice := range [][]int{{0, -1, -1}, {-1, 0, -1}, {-1, -1, 0}} {
		wantBest(t, x, p, api.OK, choice...)
	}
	wantBest(t, x, p, api.ErrWorth, -1, -1, -1)
}

// roomy is a proof, and an instance, with room behind each list, in which nothing may be written.
func roomy(x api.Instance, p api.Proof) (api.Instance, api.Proof) {
	x.Buyers = append(make([][]api.Offer, 0, len(x.Buyers)+3), x.Buyers...)
	for buyer, l := range x.Buyers {
		x.Buyers[buyer] = append(make([]api.Offer, 0, len(l)+3), l...)
	}
	p.Claims = append(make([]api.Claim, 0, len(p.Claims)+3), p.Claims...)
	for place, c := range p.Claims {
		p.Claims[place].Prices = append(make([]int64, 0, len(c.Prices)+3), c.Prices...)
	}
	return x, p
}

// written tells a list, and the room behind it.
func written[T any](l []T) []T { return l[:cap(l)] }

// wantUntouched: an instance and a proof with room behind their lists are as roomy makes them.
func wantUntouched(t *testing.T, x, wasX api.Instance, p, wasP api.Proof) {
	t.Helper()
	for buyer, l := range written(x.Buyers) {
		if buyer >= len(x.Buyers) && l != nil || buyer < len(x.Buyers) && !slices.Equal(written(l), written(wasX.Buyers[buyer])) {
			t.Errorf("the buyer %d: %v", buyer, l)
		}
	}
	for place, c := range written(p.Claims) {
		was := written(wasP.Claims)[place]
		if !sameClaim(c, was) || !slices.Equal(written(c.Prices), written(was.Prices)) {
			t.Errorf("the claim %d: %v, not %v", place, c, was)
		}
	}
}

// TestNothingIsChanged: what is handed in stays as it is, and the room behind it, too; and the same call is answered the same.
func TestNothingIsChanged(t *testing.T) {
	for _, given := range []api.Proof{short(), long(), leaves(), with(leaves(), 0, short().Claims[0]), with(leaves(), 3, claim(1, 3, 3)), without(leaves(), 0)} {
		x, p := roomy(example(), given)
		wasX, wasP := roomy(example(), given)
		choice := append(make([]int, 0, 5), 0, 0)
		prices := append(make([]int64, 0, 5), 5, 4)
		for range 2 {
			m, _ := proof.Make(x)
			n, _ := proof.Make(x)
			if !same(m, n) {
				t.Errorf("Make: %v, then %v", m, n)
			}
			proof.Check(x, p)
			proof.Right(x, p, 0)
			proof.Best(x, p, choice...)
			proof.Find(p, 1, 2)
			proof.Cut(x, p)
			proof.Bound(x, 0, 3, prices...)
			wantUntouched(t, x, wasX, p, wasP)
			if !slices.Equal(written(choice), []int{0, 0, 0, 0, 0}) || !slices.Equal(written(prices), []int64{5, 4, 0, 0, 0}) {
				t.Errorf("%v, %v", written(choice), written(prices))
			}
		}
	}
}

// spoil writes over all lists of a proof, and over their room.
func spoil(p api.Proof) {
	for _, c := range written(p.Claims) {
		for i := range written(c.Prices) {
			written(c.Prices)[i] = -77
		}
	}
	for i := range written(p.Claims) {
		written(p.Claims)[i] = claim(-77, 77, -77)
	}
}

// wantApart: no two lists of a proof share memory, their room included.
func wantApart(t *testing.T, p api.Proof) {
	t.Helper()
	for place, c := range p.Claims {
		for i := range written(c.Prices) {
			written(c.Prices)[i] = int64(1000 + place)
		}
	}
	for place, c := range p.Claims {
		if slices.ContainsFunc(written(c.Prices), func(n int64) bool { return n != int64(1000+place) }) {
			t.Errorf("the claim %d shares its prices: %v", place, c)
		}
	}
}

// TestAnswersAreNew: an answer shares nothing with what was handed in, with the next one, or within itself.
func TestAnswersAreNew(t *testing.T) {
	x := instance(3, list(3, 2), list(6, 2), list(5, 2), list(1, 1), list(2, 1))
	first := made(t, x)
	was := copyOf(first)
	wantApart(t, made(t, x))
	spoil(made(t, x))
	if !same(first, was) || !same(made(t, x), was) {
		t.Errorf("Make: %v, not %v", first, was)
	}

	_, given := roomy(example(), with(long(), 0, api.Claim{Free: 3, Most: 9, Prices: make([]int64, 0, 2)}))
	_, wasGiven := roomy(example(), given)
	cut, _ := proof.Cut(example(), given)
	wantApart(t, copyOf(cut))
	other, _ := proof.Cut(example(), given)
	wantApart(t, cut)
	spoil(cut)
	if !same(other, long()) || !same(given, wasGiven) || !slices.Equal(written(given.Claims[0].Prices), []int64{0, 0, 0}) {
		t.Errorf("Cut: %v, and %v was handed in", other, given)
	}
	spoil(given)
	if !same(other, long()) {
		t.Errorf("Cut: %v behind a change", other)
	}
}
