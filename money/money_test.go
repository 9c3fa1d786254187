package money_test

import (
	"math"
	"math/big"
	"math/rand"
	"slices"
	"strconv"
	"strings"
	"testing"

	"gavel/api"
	"gavel/money"
)

const (
	most      = int64(api.MaxCoins)
	manyBound = 1 << 20
)

var negativeNought = math.Copysign(0, -1)

// coinEdges are coins about which answers change.
func coinEdges() []int64 {
	l := []int64{0, 1, 2, 3, 5, 6, 7, 10, 100, 999, most - 2, most - 1, most}
	for shift := 4; shift < 40; shift += 7 {
		x := int64(1) << shift
		l = append(l, x-1, x, x+1)
	}
	slices.Sort(l)
	return slices.Compact(l)
}

// noCoins are numbers that are no coins.
func noCoins() []int64 {
	return []int64{-1, -2, -most, math.MinInt64, math.MinInt64 + 1, most + 1, most * 2, math.MaxInt64, math.MaxInt64 - 1}
}

// random numbers of all sizes, so that small ones come up as often as great ones.
func randomCoins(r *rand.Rand) int64 { return r.Int63n(1<<r.Intn(41) + 1) }

func repeated(x int64, n int) []int64 {
	l := make([]int64, n)
	for i := range l {
		l[i] = x
	}
	return l
}

func exactSum(l []int64) *big.Int {
	sum := new(big.Int)
	for _, x := range l {
		sum.Add(sum, big.NewInt(x))
	}
	return sum
}

// slowShare hands the coins that are left out one by one, as the chapter's words say.
func slowShare(c int64, weights []int64) []int64 {
	sum := exactSum(weights)
	shares := make([]int64, len(weights))
	rests := make([]*big.Int, len(weights))
	left := c
	for i, w := range weights {
		q, r := new(big.Int).QuoRem(new(big.Int).Mul(big.NewInt(c), big.NewInt(w)), sum, new(big.Int))
		shares[i], rests[i] = q.Int64(), r
		left -= shares[i]
	}
	given := make([]bool, len(weights))
	for ; left > 0; left-- {
		best := -1
		for i := range rests {
			if !given[i] && (best < 0 || rests[i].Cmp(rests[best]) > 0) {
				best = i
			}
		}
		given[best] = true
		shares[best]++
	}
	return shares
}

func TestAre(t *testing.T) {
	for _, c := range coinEdges() {
		if !money.Are(c) {
			t.Errorf("%d are coins", c)
		}
	}
	for _, c := range noCoins() {
		if money.Are(c) {
			t.Errorf("%d are no coins", c)
		}
	}
}

func TestSum(t *testing.T) {
	for i, row := range []struct {
		l    []int64
		want int64
		err  api.Errno
	}{
		{nil, 0, api.OK},
		{[]int64{}, 0, api.OK},
		{[]int64{3, 4}, 7, api.OK},
		{[]int64{0, 0}, 0, api.OK},
		{[]int64{most}, most, api.OK},
		{[]int64{most, 0}, most, api.OK},
		{[]int64{most - 1, 1}, most, api.OK},
		{[]int64{most, 1}, 0, api.ErrCoins},
		{[]int64{most - 1, 1, 1}, 0, api.ErrCoins},
		{[]int64{most, -1}, 0, api.ErrArg},
		{[]int64{most, 1, -1}, 0, api.ErrArg},
		{[]int64{most, most, most, most + 1}, 0, api.ErrArg},
		{[]int64{math.MaxInt64, math.MaxInt64, 2}, 0, api.ErrArg},
	} {
		if got, err := money.Sum(row.l...); got != row.want || err != row.err {
			t.Errorf("%d: %d %v", i, got, err)
		}
	}
	for _, bad := range noCoins() {
		if got, err := money.Sum(1, bad, 2); got != 0 || err != api.ErrArg {
			t.Errorf("%d: %d %v", bad, got, err)
		}
	}
}

// A sum that runs over 64 bits, and comes round to 0, is still more than MaxCoins.
func TestSumRunsOver(t *testing.T) {
	for _, n := range []int{1 << 23, 1 << 24} {
		l := repeated(most, n)
		if got, err := money.Sum(l...); got != 0 || err != api.ErrCoins {
			t.Errorf("%d: %d %v", n, got, err)
		}
		l[n-1] = -1
		if got, err := money.Sum(l...); got != 0 || err != api.ErrArg {
			t.Errorf("%d: %d %v", n, got, err)
		}
	}
}

func TestShareExamples(t *testing.T) {
	for i, row := range []struct {
		c       int64
		weights []int64
		want    []int64
	}{
		{10, []int64{1, 1, 1}, []int64{4, 3, 3}},
		{10, []int64{1, 2, 2}, []int64{2, 4, 4}},
		{1, []int64{1, 1}, []int64{1, 0}},
		{100, []int64{3, 3, 1}, []int64{43, 43, 14}},
		{0, []int64{5, 0, 7}, []int64{0, 0, 0}},
		{9, []int64{0, 1, 0}, []int64{0, 9, 0}},
		{7, []int64{3}, []int64{7}},
		{2, []int64{1, 1, 1, 1}, []int64{1, 1, 0, 0}},
		{10, []int64{1, 5, 1}, []int64{2, 7, 1}},
		{5, []int64{1, 3, 2}, []int64{1, 2, 2}},
		{most, []int64{most}, []int64{most}},
		{most, []int64{most, most, most}, []int64{366503875926, 366503875925, 366503875925}},
		{most, []int64{1, most}, []int64{1, most - 1}},
		{most, []int64{most - 1, most}, []int64{most / 2, most / 2}},
	} {
		got, err := money.Share(row.c, row.weights...)
		if !slices.Equal(got, row.want) || err != api.OK {
			t.Errorf("%d: %v %v, not %v", i, got, err, row.want)
		}
	}
}

func TestShareRefuses(t *testing.T) {
	refused := func(c int64, weights ...int64) {
		t.Helper()
		if got, err := money.Share(c, weights...); got != nil || err != api.ErrArg {
			t.Errorf("%d by %d weights: %d shares, %v", c, len(weights), len(got), err)
		}
	}
	refused(5)
	refused(5, []int64{}...)
	refused(5, 0)
	refused(5, 0, 0)
	refused(0, 0, 0)
	refused(5, repeated(0, manyBound)...)
	refused(5, repeated(1, manyBound+1)...)
	for _, bad := range noCoins() {
		refused(bad, 1)
		refused(5, bad)
		refused(5, 1, bad, 2)
		refused(5, bad, -bad) // together they may be 0, or wrap
	}
	refused(5, 3, -1)
}

func TestShareAtItsBound(t *testing.T) {
	for _, w := range []int64{1, most} {
		got, err := money.Share(manyBound+3, repeated(w, manyBound)...)
		if err != api.OK || len(got) != manyBound {
			t.Fatalf("%d shares, %v", len(got), err)
		}
		for i, x := range got {
			if want := int64(1); x != want && !(i < 3 && x == want+1) || i < 3 && x != 2 {
				t.Fatalf("%d: %d", i, x)
			}
		}
	}
	got, err := money.Share(most, repeated(most, manyBound)...)
	if err != api.OK || !slices.Equal(got, repeated(most/manyBound, manyBound)) {
		t.Error("the greatest weights, as many as may be", err)
	}
}

func randomWeights(r *rand.Rand) []int64 {
	l := make([]int64, 1+r.Intn(9))
	same := randomCoins(r)
	for i := range l {
		switch r.Intn(5) {
		case 0:
			l[i] = 0
		case 1, 2:
			l[i] = same // so that remainders are the same
		default:
			l[i] = randomCoins(r)
		}
	}
	return l
}

func TestShareIsExact(t *testing.T) {
	r := rand.New(rand.NewSource(2))
	for range 20000 {
		c, weights := randomCoins(r), randomWeights(r)
		kept := slices.Clone(weights)
		got, err := money.Share(c, weights...)
		if exactSum(weights).Sign() == 0 {
			if got != nil || err != api.ErrArg {
				t.Fatalf("%d by %v: %v %v", c, weights, got, err)
			}
			continue
		}
		if want := slowShare(c, weights); err != api.OK || !slices.Equal(got, want) {
			t.Fatalf("%d by %v: %v %v, not %v", c, weights, got, err, want)
		}
		if !slices.Equal(weights, kept) {
			t.Fatalf("the weights %v became %v", kept, weights)
		}
		checkShares(t, c, weights, got)
	}
}

// checkShares: what P2.2 and P2.7 say of shares.
func checkShares(t *testing.T, c int64, weights, got []int64) {
	t.Helper()
	sum := exactSum(weights)
	if exactSum(got).Cmp(big.NewInt(c)) != 0 {
		t.Fatalf("%d by %v: %v is another sum", c, weights, got)
	}
	one := big.NewRat(1, 1)
	for i, w := range weights {
		exact := new(big.Rat).SetFrac(new(big.Int).Mul(big.NewInt(c), big.NewInt(w)), sum)
		apart := new(big.Rat).Sub(new(big.Rat).SetInt64(got[i]), exact)
		if apart.Abs(apart).Cmp(one) >= 0 {
			t.Fatalf("%d by %v: share %d is %d, a coin away from %v", c, weights, i, got[i], exact)
		}
		for j, less := range weights {
			if w > less && got[i] < got[j] {
				t.Fatalf("%d by %v: the greater weight %d has less: %v", c, weights, i, got)
			}
		}
	}
}

func TestShareByWeightsTimesK(t *testing.T) {
	r := rand.New(rand.NewSource(3))
	for range 5000 {
		c, weights := randomCoins(r), randomWeights(r)
		greatest := slices.Max(weights)
		if greatest == 0 {
			continue
		}
		k := most / greatest
		times := make([]int64, len(weights))
		for i, w := range weights {
			times[i] = w * k
		}
		got, _ := money.Share(c, weights...)
		same, err := money.Share(c, times...)
		if err != api.OK || !slices.Equal(got, same) {
			t.Fatalf("%d by %v: %v, times %d: %v %v", c, weights, got, k, same, err)
		}
	}
}

// What is handed in has spare room behind it that is not to be touched, and an answer is not to be that room.
func TestShareKeepsItsMemory(t *testing.T) {
	room := []int64{1, 2, 3, 77, 77, 77}
	first, _ := money.Share(10, room[:3]...)
	second, _ := money.Share(10, room[:3]...)
	if !slices.Equal(room, []int64{1, 2, 3, 77, 77, 77}) {
		t.Error(room)
	}
	for i := range first {
		first[i] = -1
	}
	_ = append(first, -1, -1, -1)
	if want := slowShare(10, []int64{1, 2, 3}); !slices.Equal(second, want) || !slices.Equal(room, []int64{1, 2, 3, 77, 77, 77}) {
		t.Error(second, room)
	}
}

func evenly(c int64, parts int) []int64 {
	var l []int64
	for i, x := range money.Even(c, parts) {
		if i != len(l) {
			return nil
		}
		l = append(l, x)
	}
	return l
}

func TestEven(t *testing.T) {
	if got := evenly(7, 3); !slices.Equal(got, []int64{3, 2, 2}) {
		t.Error(got)
	}
	for _, c := range coinEdges() {
		for _, parts := range []int{1, 2, 3, 7, 64, 1000} {
			want, _ := money.Share(c, repeated(1, parts)...)
			if got := evenly(c, parts); !slices.Equal(got, want) {
				t.Errorf("%d in %d parts: %v, not %v", c, parts, got, want)
			}
		}
	}
}

func TestEvenTellsNothing(t *testing.T) {
	nothing := func(c int64, parts int) {
		t.Helper()
		each := money.Even(c, parts)
		if each == nil {
			t.Fatalf("%d, %d: no iterator", c, parts)
		}
		for i, x := range each {
			t.Fatalf("%d, %d: %d %d", c, parts, i, x)
		}
	}
	for _, parts := range []int{0, -1, math.MinInt} {
		nothing(7, parts)
		nothing(0, parts)
	}
	for _, bad := range noCoins() {
		nothing(bad, 1)
		nothing(bad, 3)
		nothing(bad, 0)
	}
}

// There may be more parts than Share has weights, and more than could ever be gone over.
func TestEvenOfManyParts(t *testing.T) {
	count, sum := 0, int64(0)
	for i, x := range money.Even(manyBound+6, manyBound+5) {
		want := int64(1)
		if i == 0 {
			want = 2
		}
		if i != count || x != want {
			t.Fatalf("part %d, the %d-th: %d", i, count, x)
		}
		count, sum = count+1, sum+x
	}
	if count != manyBound+5 || sum != manyBound+6 {
		t.Error(count, sum)
	}
	for i, x := range money.Even(2, math.MaxInt) {
		if want := int64(0); i < 2 && x != 1 || i >= 2 && x != want {
			t.Fatalf("part %d: %d", i, x)
		}
		if i == 5 {
			break
		}
	}
}

func TestEvenIsLeftAndGoneOverAgain(t *testing.T) {
	each := money.Even(7, 3)
	for range 3 {
		var got []int64
		for i, x := range each {
			got = append(got, x)
			if i == 1 {
				break
			}
		}
		if !slices.Equal(got, []int64{3, 2}) {
			t.Error(got)
		}
	}
	var whole []int64
	for _, x := range each {
		whole = append(whole, x)
	}
	if !slices.Equal(whole, []int64{3, 2, 2}) {
		t.Error(whole)
	}
}

func TestPartExamples(t *testing.T) {
	above, below := math.Nextafter(0.5, 1), math.Nextafter(0.5, 0)
	for i, row := range []struct {
		c    int64
		rate float64
		want int64
	}{
		{10, 0.25, 2}, {10, 0.75, 8}, {6, 0.25, 2}, {2, 0.25, 0}, {14, 0.25, 4},
		{10, negativeNought, 0}, {most, negativeNought, 0},
		{1, 0.5, 0}, {1, above, 1}, {1, below, 0}, {3, 0.5, 2}, {3, above, 2}, {3, below, 1}, {5, 0.5, 2}, {7, 0.5, 4},
		{most, 1, most}, {most, math.Nextafter(1, 0), most}, {most - 1, 0.5, most / 2},
		{most, math.SmallestNonzeroFloat64, 0}, {most, 0x1p-1022, 0}, {most, math.Nextafter(0x1p-1022, 0), 0},
		{most, 0x1p-40, 1}, {most, 0x1p-41, 0}, {most, math.Nextafter(0x1p-41, 1), 1}, {most, math.Nextafter(0x1p-41, 0), 0},
		{most, 0x1.8p-40, 2}, {most, 0x1.4p-39, 2}, {most, 0x1p-42, 0}, {most, 0x1.fffffffffffffp-43, 0},
	} {
		if got, err := money.Part(row.c, row.rate); got != row.want || err != api.OK {
			t.Errorf("%d: part of %d by %v: %d %v, not %d", i, row.c, row.rate, got, err, row.want)
		}
	}
}

func TestPartRefuses(t *testing.T) {
	for _, rate := range []float64{1.5, math.Nextafter(1, 2), 2, -0.1, -1, -math.SmallestNonzeroFloat64, math.NaN(), -math.NaN(), math.Inf(1), math.Inf(-1), math.MaxFloat64} {
		for _, c := range []int64{0, 10, most, -1} {
			if got, err := money.Part(c, rate); got != 0 || err != api.ErrArg {
				t.Errorf("part of %d by %v: %d %v", c, rate, got, err)
			}
		}
	}
	for _, bad := range noCoins() {
		for _, rate := range []float64{0, 0.5, 1} {
			if got, err := money.Part(bad, rate); got != 0 || err != api.ErrArg {
				t.Errorf("part of %d by %v: %d %v", bad, rate, got, err)
			}
		}
	}
}

// slowPart rounds the exact product: whole and remainder of twice the fraction against its divisor.
func slowPart(c int64, rate float64) int64 {
	exact := new(big.Rat).Mul(new(big.Rat).SetInt64(c), new(big.Rat).SetFloat64(rate))
	q, rest := new(big.Int).QuoRem(exact.Num(), exact.Denom(), new(big.Int))
	side := rest.Lsh(rest, 1).Cmp(exact.Denom())
	if side > 0 || side == 0 && q.Bit(0) == 1 {
		q.Add(q, big.NewInt(1))
	}
	return q.Int64()
}

// rates of all sizes, and those just beside halves and quarters.
func randomRate(r *rand.Rand) float64 {
	switch r.Intn(4) {
	case 0:
		return r.Float64()
	case 1:
		return math.Ldexp(r.Float64(), -r.Intn(60))
	case 2:
		x := float64(r.Intn(1<<10)) / (1 << 10)
		return math.Max(0, math.Nextafter(x, float64(r.Intn(2))))
	}
	return float64(r.Int63n(1<<r.Intn(41)+1)) / (1 << 40)
}

func TestPartIsNearest(t *testing.T) {
	r := rand.New(rand.NewSource(4))
	for range 100000 {
		c, rate := randomCoins(r), randomRate(r)
		if rate > 1 {
			t.Fatal(rate)
		}
		if got, err := money.Part(c, rate); err != api.OK || got != slowPart(c, rate) {
			t.Fatalf("part of %d by %v: %d %v, not %d", c, rate, got, err, slowPart(c, rate))
		}
	}
}

// Each exponent that a rate may have, with the fractions at both ends.
func TestPartAtEachExponent(t *testing.T) {
	for exponent := -1074; exponent < 0; exponent++ {
		low := math.Ldexp(1, exponent)
		for _, rate := range []float64{low, math.Nextafter(low, 1), math.Nextafter(low, 0), 1.5 * low, 1.25 * low} {
			for _, c := range []int64{0, 1, 2, 3, 5, most - 1, most} {
				if got, err := money.Part(c, rate); err != api.OK || got != slowPart(c, rate) {
					t.Fatalf("part of %d by %v: %d %v, not %d", c, rate, got, err, slowPart(c, rate))
				}
			}
		}
	}
}

func TestPartByOneAndNought(t *testing.T) {
	for _, c := range coinEdges() {
		if got, err := money.Part(c, 1); got != c || err != api.OK {
			t.Errorf("%d by 1: %d %v", c, got, err)
		}
		if got, err := money.Part(c, 0); got != 0 || err != api.OK {
			t.Errorf("%d by 0: %d %v", c, got, err)
		}
	}
}

func TestPartDoesNotFall(t *testing.T) {
	r := rand.New(rand.NewSource(5))
	for range 50 {
		c := randomCoins(r)
		rates := []float64{0, 1}
		for range 200 {
			x := randomRate(r)
			rates = append(rates, x, math.Nextafter(x, 1))
		}
		slices.Sort(rates)
		last := int64(0)
		for _, rate := range rates {
			got, _ := money.Part(c, rate)
			if got < last {
				t.Fatalf("part of %d by %v falls to %d from %d", c, rate, got, last)
			}
			last = got
		}
	}
}

func TestWhole(t *testing.T) {
	for x, want := range map[float64]int64{
		2.9: 2, 0: 0, negativeNought: 0, 0.5: 0, 1: 1, math.SmallestNonzeroFloat64: 0,
		math.Nextafter(1, 0): 0, math.Nextafter(3, 0): 2, math.Nextafter(3, 4): 3,
		1 << 40: most, math.Nextafter(1<<40, 0): most - 1, 1<<40 - 0.5: most - 1,
	} {
		if got, err := money.Whole(x); got != want || err != api.OK {
			t.Errorf("%v: %d %v", x, got, err)
		}
	}
	for _, x := range []float64{-0.5, -1, -math.SmallestNonzeroFloat64, 1<<40 + 0.5, math.Nextafter(1<<40, math.Inf(1)), 1<<40 + 1, 1 << 63, math.MaxFloat64, -math.MaxFloat64, math.Inf(1), math.Inf(-1), math.NaN()} {
		if got, err := money.Whole(x); got != 0 || err != api.ErrArg {
			t.Errorf("%v: %d %v", x, got, err)
		}
	}
	for _, c := range coinEdges() {
		if got, err := money.Whole(float64(c)); got != c || err != api.OK {
			t.Errorf("%d: %d %v", c, got, err)
		}
	}
}

// sameReal holds bits against each other: noughts have signs.
func sameReal(x, y float64) bool { return math.Float64bits(x) == math.Float64bits(y) }

func nearestReal(num, denom *big.Int) float64 {
	x, _ := new(big.Rat).SetFrac(num, denom).Float64()
	return x
}

func TestRate(t *testing.T) {
	for i, row := range []struct {
		part, whole int64
		want        float64
	}{{1, 3, 1.0 / 3}, {0, 5, 0}, {5, 5, 1}, {5, 2, 2.5}, {most, 1, 1 << 40}, {1, most, 0x1p-40}, {0, most, 0}, {most, most, 1}} {
		if got, err := money.Rate(row.part, row.whole); !sameReal(got, row.want) || err != api.OK {
			t.Errorf("%d: %v %v", i, got, err)
		}
	}
	r := rand.New(rand.NewSource(6))
	for range 20000 {
		part, whole := randomCoins(r), randomCoins(r)
		if whole == 0 {
			continue
		}
		want := nearestReal(big.NewInt(part), big.NewInt(whole))
		if got, err := money.Rate(part, whole); !sameReal(got, want) || err != api.OK {
			t.Fatalf("%d of %d: %v %v, not %v", part, whole, got, err, want)
		}
	}
}

func TestRateRefuses(t *testing.T) {
	refused := func(part, whole int64) {
		t.Helper()
		if got, err := money.Rate(part, whole); !sameReal(got, 0) || err != api.ErrArg {
			t.Errorf("%d of %d: %v %v", part, whole, got, err)
		}
	}
	refused(5, 0)
	refused(0, 0)
	for _, bad := range noCoins() {
		refused(bad, 1)
		refused(bad, 0)
		refused(1, bad)
		refused(bad, bad)
	}
}

func TestMean(t *testing.T) {
	for i, row := range []struct {
		l    []int64
		want float64
	}{
		{[]int64{1, 2}, 1.5}, {[]int64{0}, 0}, {[]int64{0, 0, 0}, 0}, {[]int64{most}, 1 << 40}, {[]int64{1, 0, 0}, 1.0 / 3}, {[]int64{most, most, most}, 1 << 40},
		{repeated(1, manyBound), 1}, {repeated(most, manyBound), 1 << 40}, {append(repeated(0, manyBound-1), 1), 0x1p-20},
	} {
		if got, err := money.Mean(row.l...); !sameReal(got, row.want) || err != api.OK {
			t.Errorf("%d: %v %v", i, got, err)
		}
	}
}

func TestMeanRefuses(t *testing.T) {
	refused := func(l ...int64) {
		t.Helper()
		if got, err := money.Mean(l...); !sameReal(got, 0) || err != api.ErrArg {
			t.Errorf("of %d: %v %v", len(l), got, err)
		}
	}
	refused()
	refused([]int64{}...)
	refused(repeated(1, manyBound+1)...)
	for _, bad := range noCoins() {
		refused(bad)
		refused(1, bad, 2)
		refused(bad, -bad)
	}
}

func checkMean(t *testing.T, l []int64) {
	t.Helper()
	want := nearestReal(exactSum(l), big.NewInt(int64(len(l))))
	got, err := money.Mean(l...)
	if !sameReal(got, want) || err != api.OK {
		t.Fatalf("of %d numbers with the sum %v: %v %v, not %v", len(l), exactSum(l), got, err, want)
	}
	if got < float64(slices.Min(l)) || got > float64(slices.Max(l)) {
		t.Fatalf("of %d numbers: %v is outside of them", len(l), got)
	}
}

func TestMeanIsNearest(t *testing.T) {
	r := rand.New(rand.NewSource(7))
	for range 3000 {
		l := make([]int64, 1+r.Intn(60))
		for i := range l {
			l[i] = randomCoins(r)
		}
		checkMean(t, l)
	}
}

// Sums above 2^53, which are no real numbers themselves: what is lost there would be rounded twice.
func TestMeanOfGreatSums(t *testing.T) {
	r := rand.New(rand.NewSource(8))
	for range 200 {
		l := repeated(most, 8192+r.Intn(1<<14))
		for i := range 16 {
			l[i] -= r.Int63n(1 << (1 + r.Intn(30)))
		}
		checkMean(t, l)
	}
}

// withSum makes n numbers, with that sum.
func withSum(sum int64, n int) []int64 {
	l := repeated(sum/int64(n), n)
	l[0] += sum % int64(n)
	return l
}

// Sums whose means lie halfway between two real numbers, and just beside: rounding the sum first would lose which. The mean is from 2^39 on, where real numbers are 2^-13 apart: halves of that are odd multiples of 2^-14.
func TestMeanBesideHalves(t *testing.T) {
	r := rand.New(rand.NewSource(9))
	for _, n := range []int{1 << 14, 1 << 15, 3 << 14, 1 << 17, 5 << 16, 1 << 20} {
		for range 6 {
			half := int64(1)<<53 + 2*r.Int63n(1<<51) + 1
			sum := half * int64(n>>14)
			for _, beside := range []int64{-1, 0, 1} {
				checkMean(t, withSum(sum+beside, n))
			}
		}
	}
	for _, sum := range []int64{1<<53 - 1, 1 << 53, 1<<53 + 1, 1<<53 + 2, 1<<53 + 3} {
		for _, n := range []int{8193, 9000, 1<<14 + 1, 1<<20 - 1, 1 << 20} {
			checkMean(t, withSum(sum, n))
		}
	}
}

func TestText(t *testing.T) {
	for c, want := range map[int64]string{0: "0", 12: "12", -1: "-1", -120: "-120", most: "1099511627776", math.MaxInt64: "9223372036854775807", math.MinInt64: "-9223372036854775808"} {
		if got := money.Text(c); got != want {
			t.Errorf("%d: %q", c, got)
		}
	}
}

func TestParse(t *testing.T) {
	for _, c := range coinEdges() {
		if got, err := money.Parse(money.Text(c)); got != c || err != api.OK {
			t.Errorf("%d: %d %v", c, got, err)
		}
	}
	for c := range int64(3000) {
		if got, err := money.Parse(strconv.FormatInt(c, 10)); got != c || err != api.OK {
			t.Errorf("%d: %d %v", c, got, err)
		}
	}
	r := rand.New(rand.NewSource(10))
	for range 3000 {
		c := randomCoins(r)
		if got, err := money.Parse(money.Text(c)); got != c || err != api.OK {
			t.Errorf("%d: %d %v", c, got, err)
		}
	}
}

func TestParseRefuses(t *testing.T) {
	l := []string{
		"", "012", "00", "000", "01", "-0", "+0", "-1", "+1", "-", "+", " 1", "1 ", "1\n", "1\x00", "\x001", "1.0", "1.", ".1", "1e3", "1_000", "_1", "0x1", "0b1", "0o7", "a", "12a", "a12", "1,000", "--1", "1-",
		"1099511627777", "1099511627786", "2099511627776", "9999999999999", "10995116277760", "01099511627776", "9223372036854775807", "9223372036854775808", "18446744073709551616", "18446744073709551628", "36893488147419103233",
		"\u0661", "\uff11", "1\u0661", "NaN", "Inf", "\xff", "\xc2\xb2", strings.Repeat("0", 13), strings.Repeat("0", 1000), strings.Repeat("1", 100000), strings.Repeat("9", 14),
	}
	for _, bad := range noCoins() {
		l = append(l, money.Text(bad))
	}
	for _, s := range l {
		if got, err := money.Parse(s); got != 0 || err != api.ErrDigits {
			t.Errorf("%.40q: %d %v", s, got, err)
		}
	}
	for _, b := range []byte("!/:\x00\x80\xffxX- +_.,") {
		for _, s := range []string{string([]byte{b}), "1" + string([]byte{b}), string([]byte{b}) + "1", "1" + string([]byte{b}) + "1"} {
			if got, err := money.Parse(s); got != 0 || err != api.ErrDigits {
				t.Errorf("%q: %d %v", s, got, err)
			}
		}
	}
}
