package wire_test

import (
	"bytes"
	"math"
	"math/rand"
	"slices"
	"strings"
	"testing"

	"gavel/api"
	"gavel/wire"
)

const leastInt64 = math.MinInt64

// edges are the numbers about which forms change.
func edges() []uint64 {
	l := []uint64{0, 1, 2, 5, 127, 128, 246, 247, 248, 249, 254, 255, 256, 257, math.MaxUint64 - 1, math.MaxUint64}
	for shift := 8; shift < 64; shift += 8 {
		x := uint64(1) << shift
		l = append(l, x-2, x-1, x, x+1, x+255, x<<7)
	}
	slices.Sort(l)
	return slices.Compact(l)
}

func signedEdges() []int64 {
	l := []int64{leastInt64, leastInt64 + 1, math.MaxInt64, math.MaxInt64 - 1}
	for _, x := range edges() {
		l = append(l, int64(x>>1), -int64(x>>1), int64(x>>1)+1, wire.Unfold(x))
	}
	slices.Sort(l)
	return slices.Compact(l)
}

// realBits are the bits of real numbers, quiet and signalling NaNs and both noughts among them.
func realBits() []uint64 {
	return []uint64{
		0, 1 << 63, math.Float64bits(1), math.Float64bits(-1), math.Float64bits(0.1),
		math.Float64bits(math.MaxFloat64), math.Float64bits(math.SmallestNonzeroFloat64),
		math.Float64bits(math.Inf(1)), math.Float64bits(math.Inf(-1)), math.Float64bits(math.NaN()),
		0x7ff8000000000123, 0xfff8000000000456, 0x7ff0000000000001, 0xfff4000000000000, math.MaxUint64,
	}
}

func texts() []string {
	return []string{"", "a", "ab", "ab\x00", "\x00", "\xff\xfe", "\u00e9", strings.Repeat("x", 247), strings.Repeat("y", 248), strings.Repeat("z", 255), strings.Repeat("u", 256), strings.Repeat("v", 70000)}
}

func written(put func(w *wire.Writer) api.Errno) []byte {
	w := wire.NewWriter()
	if err := put(w); err != api.OK {
		panic(err)
	}
	return w.Bytes()
}

func numberForm(x uint64) []byte {
	return written(func(w *wire.Writer) api.Errno { return w.Number(x) })
}

func signedForm(x int64) []byte {
	return written(func(w *wire.Writer) api.Errno { return w.Signed(x) })
}

func realForm(bits uint64) []byte {
	return written(func(w *wire.Writer) api.Errno { return w.Real(math.Float64frombits(bits)) })
}

func textForm(s string) []byte {
	return written(func(w *wire.Writer) api.Errno { return w.Text(s) })
}

func listForm(l []uint64) []byte {
	return written(func(w *wire.Writer) api.Errno { return wire.List(w, l, putNumber) })
}

func putNumber(w *wire.Writer, x uint64)               { w.Number(x) }
func takeNumber(r *wire.Reader) (uint64, api.Errno)    { return r.Number() }
func putNumbers(w *wire.Writer, l []uint64)            { wire.List(w, l, putNumber) }
func takeNumbers(r *wire.Reader) ([]uint64, api.Errno) { return wire.Take(r, math.MaxInt, takeNumber) }

// plainForm is a number's form by the document's words, reckoned otherwise than the program does.
func plainForm(x uint64) []byte {
	if x <= 247 {
		return []byte{byte(x)}
	}
	var digits []byte
	for ; x > 0; x /= 256 {
		digits = append(digits, byte(x%256))
	}
	slices.Reverse(digits)
	return append([]byte{byte(247 + len(digits))}, digits...)
}

func wantBytes(t *testing.T, what string, got, want []byte) {
	t.Helper()
	if !bytes.Equal(got, want) {
		t.Errorf("%s: %v, want %v", what, got, want)
	}
}

// P1.1

func TestExamplesOfWriting(t *testing.T) {
	most := bytes.Repeat([]byte{255}, 9)
	for x, want := range map[uint64][]byte{5: {5}, 247: {247}, 248: {248, 248}, 255: {248, 255}, 256: {249, 1, 0}, math.MaxUint64: most} {
		wantBytes(t, "Number", numberForm(x), want)
	}
	for x, want := range map[int64][]byte{0: {0}, -1: {1}, 1: {2}, 124: {248, 248}, leastInt64: most} {
		wantBytes(t, "Signed", signedForm(x), want)
	}
	wantBytes(t, "Flag of true", written(func(w *wire.Writer) api.Errno { return w.Flag(true) }), []byte{1})
	wantBytes(t, "Flag of false", written(func(w *wire.Writer) api.Errno { return w.Flag(false) }), []byte{0})
	wantBytes(t, "Real of 1", realForm(math.Float64bits(1)), []byte{63, 240, 0, 0, 0, 0, 0, 0})
	wantBytes(t, "Real of -0", realForm(1<<63), []byte{128, 0, 0, 0, 0, 0, 0, 0})
	wantBytes(t, "Text of ab", textForm("ab"), []byte{2, 97, 98})
	wantBytes(t, "List of 3 4", listForm([]uint64{3, 4}), []byte{2, 3, 4})
}

func TestFormsByTheirWords(t *testing.T) {
	for _, x := range edges() {
		wantBytes(t, "Number", numberForm(x), plainForm(x))
	}
	for _, x := range signedEdges() {
		folded := 2 * uint64(x)
		if x < 0 {
			folded = 2*uint64(-(x+1)) + 1
		}
		wantBytes(t, "Signed", signedForm(x), plainForm(folded))
	}
	for _, x := range realBits() {
		var want []byte
		for shift := 56; shift >= 0; shift -= 8 {
			want = append(want, byte(x>>shift))
		}
		wantBytes(t, "Real", realForm(x), want)
	}
	for _, s := range texts() {
		wantBytes(t, "Text", textForm(s), append(plainForm(uint64(len(s))), s...))
	}
}

func TestWritesStandBehindWhatIsThere(t *testing.T) {
	w := wire.NewWriter()
	if w == nil || w.Len() != 0 || len(w.Bytes()) != 0 {
		t.Fatal("a new writer has bytes")
	}
	var want []byte
	step := func(err api.Errno, form ...byte) {
		t.Helper()
		want = append(want, form...)
		if err != api.OK || w.Len() != len(want) {
			t.Errorf("%v, Len is %d, want %d", err, w.Len(), len(want))
		}
		wantBytes(t, "Bytes", w.Bytes(), want)
	}
	step(w.Number(300), 249, 1, 44)
	step(w.Signed(-3), 5)
	step(w.Flag(true), 1)
	step(w.Flag(false), 0)
	step(w.Real(-2), 192, 0, 0, 0, 0, 0, 0, 0)
	step(w.Text(""), 0)
	step(w.Text("\x00b"), 2, 0, 98)
	step(wire.List(w, []uint64{300}, putNumber), 1, 249, 1, 44)
}

func TestZeroWriterIsOne(t *testing.T) {
	var w wire.Writer
	if w.Len() != 0 || len(w.Bytes()) != 0 {
		t.Error("a zero writer has bytes")
	}
	if err := w.Text("ab"); err != api.OK {
		t.Error(err)
	}
	wantBytes(t, "a zero writer", w.Bytes(), []byte{2, 97, 98})
	var v wire.Writer
	if err := wire.List(&v, []uint64{7}, putNumber); err != api.OK {
		t.Error(err)
	}
	wantBytes(t, "a zero writer's list", v.Bytes(), []byte{1, 7})
}

func TestNilWriter(t *testing.T) {
	var w *wire.Writer
	called := false
	put := func(*wire.Writer, uint64) { called = true }
	for what, err := range map[string]api.Errno{
		"Number": w.Number(1), "Signed": w.Signed(1), "Flag": w.Flag(true), "Real": w.Real(math.NaN()), "Text": w.Text("a"),
		"List": wire.List(w, []uint64{1}, put), "List without put": wire.List[uint64](w, nil, nil),
	} {
		if err != api.ErrNil {
			t.Errorf("%s of a nil writer: %v", what, err)
		}
	}
	if called {
		t.Error("put was called without a writer")
	}
	if w.Len() != 0 || w.Bytes() != nil {
		t.Error("a nil writer has bytes")
	}
}

func TestListWithoutPutWritesNothing(t *testing.T) {
	w := wire.NewWriter()
	w.Number(9)
	for _, l := range [][]uint64{nil, {}, {1, 2}} {
		if err := wire.List(w, l, nil); err != api.ErrNil {
			t.Error(err)
		}
	}
	wantBytes(t, "behind a refused list", w.Bytes(), []byte{9})
}

func TestListCallsPutInOrder(t *testing.T) {
	wantBytes(t, "a nil list", listForm(nil), []byte{0})
	wantBytes(t, "an empty list", listForm([]uint64{}), []byte{0})
	wantBytes(t, "a list in a list", written(func(w *wire.Writer) api.Errno {
		return wire.List(w, [][]uint64{{1, 2}, nil, {300}}, putNumbers)
	}), []byte{3, 2, 1, 2, 0, 1, 249, 1, 44})

	w := wire.NewWriter()
	var seen []string
	err := wire.List(w, []string{"b", "a", "c"}, func(v *wire.Writer, s string) {
		if v != w {
			t.Error("put has another writer")
		}
		seen = append(seen, s)
	})
	if err != api.OK || !slices.Equal(seen, []string{"b", "a", "c"}) {
		t.Errorf("%v, put saw %v", err, seen)
	}
	wantBytes(t, "things of no byte", w.Bytes(), []byte{3})

	long := make([]uint64, 248)
	wantBytes(t, "a list of 248", listForm(long), append([]byte{248, 248}, make([]byte, 248)...))
}

func TestListLeavesItsArgument(t *testing.T) {
	room := []uint64{1, 2, 3, 4}
	listForm(room[:2])
	if !slices.Equal(room, []uint64{1, 2, 3, 4}) {
		t.Errorf("the list is %v now", room)
	}
}

func TestBytesAreNewMemory(t *testing.T) {
	w := wire.NewWriter()
	for x := range uint64(100) {
		w.Number(x)
		one, two := w.Bytes(), w.Bytes()
		want := slices.Clone(one)
		for _, b := range [][]byte{one, one[:cap(one)]} {
			for i := range b {
				b[i] = 99
			}
		}
		wantBytes(t, "another answer", two, want)
		wantBytes(t, "the writer", w.Bytes(), want)
		two = append(two, 77)
		w.Number(200)
		if two[len(two)-1] != 77 {
			t.Fatal("the writer wrote into an answer's spare room")
		}
	}
}

// P1.2

func TestExamplesOfReading(t *testing.T) {
	for _, x := range []struct {
		b    []byte
		want api.Errno
	}{{[]byte{248, 5}, api.ErrForm}, {[]byte{249, 0, 9}, api.ErrForm}, {[]byte{250, 1}, api.ErrEnd}} {
		if n, err := wire.NewReader(x.b).Number(); n != 0 || err != x.want {
			t.Errorf("Number of %v: %d, %v, want %v", x.b, n, err, x.want)
		}
	}
	if yes, err := wire.NewReader([]byte{2}).Flag(); yes || err != api.ErrForm {
		t.Errorf("Flag of 2: %v, %v", yes, err)
	}
	r := wire.NewReader([]byte{3, 97, 98})
	for _, x := range []struct {
		most int
		want api.Errno
	}{{9, api.ErrEnd}, {2, api.ErrLong}, {-1, api.ErrArg}} {
		if s, err := r.Text(x.most); s != "" || err != x.want {
			t.Errorf("Text(%d): %q, %v, want %v", x.most, s, err, x.want)
		}
	}
	if n, err := r.Number(); n != 3 || err != api.OK {
		t.Errorf("Number behind them: %d, %v", n, err)
	}
	r = wire.NewReader([]byte{2, 3, 4, 5})
	if l, err := wire.Take(r, 2, takeNumber); err != api.OK || !slices.Equal(l, []uint64{3, 4}) || r.Left() != 1 || r.End() != api.ErrLeft {
		t.Errorf("Take: %v, %v; %d left", l, err, r.Left())
	}
	r = wire.NewReader([]byte{2, 3, 248, 5})
	if l, err := wire.Take(r, 9, takeNumber); err != api.ErrForm || l != nil || r.Place() != 0 {
		t.Errorf("Take: %v, %v; place %d", l, err, r.Place())
	}
	if wire.Size(247) != 1 || wire.Size(248) != 2 || wire.Size(math.MaxUint64) != 9 || wire.Unfold(3) != -2 {
		t.Error("Size or Unfold")
	}
}

// call is a way of reading; it says whether all that was answered beside the error is zero.
type call struct {
	name string
	do   func(r *wire.Reader) (zero bool, err api.Errno)
}

func calls() []call {
	return []call{
		{"Number", func(r *wire.Reader) (bool, api.Errno) { x, err := r.Number(); return x == 0, err }},
		{"Signed", func(r *wire.Reader) (bool, api.Errno) { x, err := r.Signed(); return x == 0, err }},
		{"Flag", func(r *wire.Reader) (bool, api.Errno) { x, err := r.Flag(); return !x, err }},
		{"Real", func(r *wire.Reader) (bool, api.Errno) { x, err := r.Real(); return math.Float64bits(x) == 0, err }},
		{"Text", func(r *wire.Reader) (bool, api.Errno) { x, err := r.Text(math.MaxInt); return x == "", err }},
		{"Text(-1)", func(r *wire.Reader) (bool, api.Errno) { x, err := r.Text(-1); return x == "", err }},
		{"Text(0)", func(r *wire.Reader) (bool, api.Errno) { x, err := r.Text(0); return x == "", err }},
		{"Take", func(r *wire.Reader) (bool, api.Errno) {
			x, err := wire.Take(r, math.MaxInt, takeNumber)
			return x == nil, err
		}},
		{"Take(least)", func(r *wire.Reader) (bool, api.Errno) {
			x, err := wire.Take(r, math.MinInt, takeNumber)
			return x == nil, err
		}},
		{"Take(1)", func(r *wire.Reader) (bool, api.Errno) { x, err := wire.Take(r, 1, takeNumber); return x == nil, err }},
		{"Take of lists", func(r *wire.Reader) (bool, api.Errno) { x, err := wire.Take(r, 9, takeNumbers); return x == nil, err }},
	}
}

// wantRefused asks a call behind the two bytes 0 0, so that going back to the beginning is seen, too.
func wantRefused(t *testing.T, c call, b []byte, want api.Errno) {
	t.Helper()
	r := wire.NewReader(append([]byte{0, 0}, b...))
	r.Number()
	r.Flag()
	for range 2 {
		zero, err := c.do(r)
		if err != want || !zero || r.Place() != 2 || r.Left() != len(b) {
			t.Errorf("%s of %v: %v, want %v; zero %v, place %d", c.name, b, err, want, zero, r.Place())
		}
	}
}

func TestNumberEndsTooEarly(t *testing.T) {
	number, signed := calls()[0], calls()[1]
	for _, x := range edges() {
		form := plainForm(x)
		for n := range form {
			wantRefused(t, number, form[:n], api.ErrEnd)
			wantRefused(t, signed, form[:n], api.ErrEnd)
		}
	}
	for n := 1; n <= 8; n++ {
		for have := range n { // even if what is there could be of no form
			b := append([]byte{byte(247 + n)}, make([]byte, have)...)
			wantRefused(t, number, b, api.ErrEnd)
			wantRefused(t, signed, b, api.ErrEnd)
		}
	}
}

func TestNumberLongerThanItWantsBe(t *testing.T) {
	number, signed := calls()[0], calls()[1]
	for _, x := range edges() {
		form := plainForm(x)
		digits := form
		if len(form) > 1 {
			digits = form[1:]
		}
		for n := 1; n <= 8; n++ {
			if n < len(digits) || n == len(digits) && len(form) > 1 {
				continue
			}
			b := append([]byte{byte(247 + n)}, make([]byte, n-len(digits))...)
			b = append(b, digits...)
			wantRefused(t, number, b, api.ErrForm)
			wantRefused(t, signed, b, api.ErrForm)
			wantRefused(t, number, append(b, 1, 2), api.ErrForm)
		}
	}
}

func TestFlagReads(t *testing.T) {
	flag := calls()[2]
	wantRefused(t, flag, nil, api.ErrEnd)
	for b := 2; b < 256; b++ {
		wantRefused(t, flag, []byte{byte(b)}, api.ErrForm)
		wantRefused(t, flag, []byte{byte(b), 1}, api.ErrForm)
	}
	r := wire.NewReader([]byte{0, 1, 0})
	for _, want := range []bool{false, true, false} {
		if yes, err := r.Flag(); yes != want || err != api.OK {
			t.Errorf("%v, %v, want %v", yes, err, want)
		}
	}
}

func TestRealReads(t *testing.T) {
	for n := range 8 {
		wantRefused(t, calls()[3], bytes.Repeat([]byte{255}, n), api.ErrEnd)
	}
	for _, x := range realBits() {
		r := wire.NewReader(append(realForm(x), 1))
		if y, err := r.Real(); err != api.OK || math.Float64bits(y) != x || r.Place() != 8 || r.Left() != 1 {
			t.Errorf("%x, %v, want %x", math.Float64bits(y), err, x)
		}
	}
}

func TestTextErrorsInOrder(t *testing.T) {
	text := func(most int) call {
		return call{"Text", func(r *wire.Reader) (bool, api.Errno) { s, err := r.Text(most); return s == "", err }}
	}
	for _, most := range []int{-1, -2, math.MinInt} {
		for _, b := range [][]byte{nil, {0}, {248, 5}, {248}, {3, 97}} {
			wantRefused(t, text(most), b, api.ErrArg)
		}
	}
	for _, most := range []int{0, 1, math.MaxInt} {
		wantRefused(t, text(most), nil, api.ErrEnd)
		wantRefused(t, text(most), []byte{248}, api.ErrEnd)
		wantRefused(t, text(most), []byte{248, 5, 1, 2, 3, 4, 5}, api.ErrForm)
		wantRefused(t, text(most), numberForm(math.MaxUint64), api.ErrLong)
		wantRefused(t, text(most), numberForm(1<<63), api.ErrLong)
	}
	wantRefused(t, text(math.MaxInt), numberForm(math.MaxInt), api.ErrEnd)
	wantRefused(t, text(math.MaxInt), []byte{3, 97, 98}, api.ErrEnd)
	wantRefused(t, text(3), []byte{3, 97, 98}, api.ErrEnd)
	wantRefused(t, text(2), []byte{3, 97, 98}, api.ErrLong)
	wantRefused(t, text(2), []byte{3, 97, 98, 99}, api.ErrLong)
	wantRefused(t, text(0), []byte{1, 97}, api.ErrLong)
}

func TestTextReads(t *testing.T) {
	for _, s := range texts() {
		for _, most := range []int{len(s), len(s) + 1, math.MaxInt} {
			r := wire.NewReader(append(textForm(s), 7))
			if got, err := r.Text(most); got != s || err != api.OK || r.Left() != 1 {
				t.Errorf("a text of %d bytes comes back with %d, %v", len(s), len(got), err)
			}
		}
		if len(s) > 0 {
			if got, err := wire.NewReader(textForm(s)).Text(len(s) - 1); got != "" || err != api.ErrLong {
				t.Errorf("a text of %d bytes, one too many: %v", len(s), err)
			}
		}
	}
}

func TestNilReader(t *testing.T) {
	for _, c := range calls() {
		if zero, err := c.do(nil); err != api.ErrNil || !zero {
			t.Errorf("%s of a nil reader: %v, zero %v", c.name, err, zero)
		}
	}
	var r *wire.Reader
	if r.Left() != 0 || r.Place() != 0 || r.End() != api.ErrNil {
		t.Error("places of a nil reader")
	}
}

func TestReaderLeavesAndKeepsNothing(t *testing.T) {
	room := []byte{2, 97, 98, 1, 5, 9, 9}
	r := wire.NewReader(room[:5])
	was := slices.Clone(room)
	for i := range room {
		room[i] = 200
	}
	if s, err := r.Text(9); s != "ab" || err != api.OK {
		t.Errorf("%q, %v", s, err)
	}
	l, err := wire.Take(r, 9, takeNumber)
	if err != api.OK || !slices.Equal(l, []uint64{5}) || r.Left() != 0 {
		t.Errorf("%v, %v", l, err)
	}
	wantBytes(t, "what was handed in", room, bytes.Repeat([]byte{200}, len(was)))
}

// P1.3

func TestTakeErrorsInOrder(t *testing.T) {
	take := func(most int) call {
		return call{"Take", func(r *wire.Reader) (bool, api.Errno) {
			l, err := wire.Take(r, most, func(*wire.Reader) (int, api.Errno) {
				t.Error("take was called")
				return 1, api.OK
			})
			return l == nil, err
		}}
	}
	without := call{"Take without take", func(r *wire.Reader) (bool, api.Errno) {
		l, err := wire.Take[int](r, -1, nil)
		return l == nil, err
	}}
	for _, b := range [][]byte{nil, {0}, {248, 5}, {1, 1}} {
		wantRefused(t, without, b, api.ErrNil)
		wantRefused(t, take(-1), b, api.ErrArg)
		wantRefused(t, take(math.MinInt), b, api.ErrArg)
	}
	for _, most := range []int{0, 1, math.MaxInt} {
		wantRefused(t, take(most), nil, api.ErrEnd)
		wantRefused(t, take(most), []byte{249, 0}, api.ErrEnd)
		wantRefused(t, take(most), []byte{248, 5, 1, 2, 3, 4, 5}, api.ErrForm)
		wantRefused(t, take(most), numberForm(math.MaxUint64), api.ErrLong)
	}
	wantRefused(t, take(math.MaxInt), numberForm(math.MaxInt), api.ErrEnd)
	wantRefused(t, take(2), []byte{3, 1, 1, 1}, api.ErrLong)
	wantRefused(t, take(2), []byte{3}, api.ErrLong)
	wantRefused(t, take(3), []byte{3, 1, 1}, api.ErrEnd)
	wantRefused(t, take(0), []byte{1, 1}, api.ErrLong)
}

func TestTakeReads(t *testing.T) {
	for _, want := range [][]uint64{nil, {0}, {3, 4}, {248, 0, math.MaxUint64}, make([]uint64, 300)} {
		for _, most := range []int{len(want), len(want) + 1, math.MaxInt} {
			r := wire.NewReader(append(listForm(want), 9))
			l, err := wire.Take(r, most, takeNumber)
			if err != api.OK || !slices.Equal(l, want) || r.Left() != 1 {
				t.Errorf("%v, %v, want %v", l, err, want)
			}
		}
	}
}

func TestTakeIsCalledSoOften(t *testing.T) {
	r := wire.NewReader([]byte{3, 9, 9, 9})
	n := 0
	l, err := wire.Take(r, 3, func(v *wire.Reader) (int, api.Errno) {
		if v != r || v.Place() != 1 {
			t.Error("take has another reader, or one of another place")
		}
		n++
		return n, api.OK
	})
	if err != api.OK || !slices.Equal(l, []int{1, 2, 3}) || n != 3 || r.Place() != 1 {
		t.Errorf("%v, %v, %d calls, place %d", l, err, n, r.Place())
	}
}

func TestTakeAnswersTheFirstError(t *testing.T) {
	for _, want := range []api.Errno{api.ErrNil, api.ErrKind, api.ErrLeft, -7, 1 << 30} {
		for fails := range 3 {
			n := 0
			wantRefused(t, call{"Take", func(r *wire.Reader) (bool, api.Errno) {
				n = 0
				l, err := wire.Take(r, 9, func(r *wire.Reader) (uint64, api.Errno) {
					n++
					x, _ := r.Number()
					if n > fails {
						return 77, want
					}
					return x, api.OK
				})
				return l == nil, err
			}}, []byte{3, 1, 249, 1, 0, 2}, want)
			if n != fails+1 {
				t.Errorf("take was called %d times, want %d", n, fails+1)
			}
		}
	}
	wantRefused(t, call{"Take", func(r *wire.Reader) (bool, api.Errno) {
		l, err := wire.Take(r, 9, takeNumber)
		return l == nil, err
	}}, []byte{2, 249, 1, 0}, api.ErrEnd)
}

func TestTakeWithinTake(t *testing.T) {
	want := [][]uint64{{1, 2}, nil, {300}}
	b := written(func(w *wire.Writer) api.Errno { return wire.List(w, want, putNumbers) })
	r := wire.NewReader(b)
	l, err := wire.Take(r, 3, takeNumbers)
	if err != api.OK || r.End() != api.OK || !slices.EqualFunc(l, want, slices.Equal) {
		t.Errorf("%v, %v", l, err)
	}
	b[len(b)-2] = 0 // 249 0 44: the last number is longer than it wants be
	wantRefused(t, call{"Take of lists", func(r *wire.Reader) (bool, api.Errno) {
		l, err := wire.Take(r, 3, takeNumbers)
		return l == nil, err
	}}, b, api.ErrForm)
}

func TestTakeOfGreatThingsAsksForNoRoomAhead(t *testing.T) {
	const many = 1 << 20
	type great struct{ room [1 << 20]byte }
	b := append(numberForm(many), make([]byte, many)...)
	l, err := wire.Take(wire.NewReader(b), many, func(*wire.Reader) (x great, err api.Errno) { return x, api.ErrLow })
	if l != nil || err != api.ErrLow {
		t.Errorf("%d things, %v", len(l), err)
	}
}

// P1.4

func TestPlaces(t *testing.T) {
	b := written(func(w *wire.Writer) api.Errno {
		w.Number(300)
		w.Signed(-1)
		w.Flag(true)
		w.Real(1)
		w.Text("abc")
		return wire.List(w, []uint64{1, 248}, putNumber)
	})
	r := wire.NewReader(b)
	place := 0
	step := func(size int, err api.Errno) {
		t.Helper()
		place += size
		if err != api.OK || r.Place() != place || r.Left() != len(b)-place {
			t.Errorf("%v; place %d, left %d; want %d, %d", err, r.Place(), r.Left(), place, len(b)-place)
		}
		want := api.ErrLeft
		if place == len(b) {
			want = api.OK
		}
		if got := r.End(); got != want || r.Place() != place {
			t.Errorf("End at %d: %v, want %v", place, got, want)
		}
	}
	step(0, api.OK)
	for i, size := range []int{3, 1, 1, 8, 4, 4} {
		_, err := calls()[[]int{0, 1, 2, 3, 4, 7}[i]].do(r)
		step(size, err)
	}
	if place != len(b) {
		t.Errorf("%d of %d bytes", place, len(b))
	}
}

func TestReadersOfNoBytes(t *testing.T) {
	var zero wire.Reader
	for what, r := range map[string]*wire.Reader{"zero": &zero, "of nil": wire.NewReader(nil), "of an empty list": wire.NewReader([]byte{})} {
		if r == nil || r.Left() != 0 || r.Place() != 0 || r.End() != api.OK {
			t.Errorf("places of a reader %s", what)
		}
		for _, c := range calls() {
			want := api.ErrEnd
			if c.name == "Text(-1)" || c.name == "Take(least)" {
				want = api.ErrArg
			}
			if nothing, err := c.do(r); err != want || !nothing {
				t.Errorf("%s of a reader %s: %v, want %v", c.name, what, err, want)
			}
		}
		if r.Place() != 0 || r.End() != api.OK {
			t.Errorf("places of a reader %s, then", what)
		}
	}
}

// P1.5

func TestSize(t *testing.T) {
	for _, x := range edges() {
		if got := wire.Size(x); got != len(plainForm(x)) {
			t.Errorf("Size(%d) is %d, want %d", x, got, len(plainForm(x)))
		}
	}
}

func TestFoldAndUnfold(t *testing.T) {
	for x, want := range map[int64]uint64{
		0: 0, -1: 1, 1: 2, -2: 3, 123: 246, -124: 247, 124: 248, -125: 249,
		math.MaxInt64: math.MaxUint64 - 1, leastInt64: math.MaxUint64, leastInt64 + 1: math.MaxUint64 - 2,
	} {
		if wire.Fold(x) != want || wire.Unfold(want) != x {
			t.Errorf("Fold(%d) is %d, want %d; Unfold of that %d", x, wire.Fold(x), want, wire.Unfold(want))
		}
	}
	for _, x := range signedEdges() {
		if wire.Unfold(wire.Fold(x)) != x {
			t.Errorf("%d comes back as %d", x, wire.Unfold(wire.Fold(x)))
		}
	}
	for _, x := range edges() {
		if wire.Fold(wire.Unfold(x)) != x {
			t.Errorf("%d comes back as %d", x, wire.Fold(wire.Unfold(x)))
		}
	}
}

// P1.6

// told is something that is written by one call and read again by another.
type told struct {
	put  func(w *wire.Writer) api.Errno
	same func(r *wire.Reader) bool
}

func tellNumber(x uint64) told {
	return told{func(w *wire.Writer) api.Errno { return w.Number(x) }, func(r *wire.Reader) bool {
		y, err := r.Number()
		return err == api.OK && y == x
	}}
}

func tellSigned(x int64) told {
	return told{func(w *wire.Writer) api.Errno { return w.Signed(x) }, func(r *wire.Reader) bool {
		y, err := r.Signed()
		return err == api.OK && y == x
	}}
}

func tellFlag(x bool) told {
	return told{func(w *wire.Writer) api.Errno { return w.Flag(x) }, func(r *wire.Reader) bool {
		y, err := r.Flag()
		return err == api.OK && y == x
	}}
}

func tellReal(bits uint64) told {
	return told{func(w *wire.Writer) api.Errno { return w.Real(math.Float64frombits(bits)) }, func(r *wire.Reader) bool {
		y, err := r.Real()
		return err == api.OK && math.Float64bits(y) == bits
	}}
}

func tellText(s string) told {
	return told{func(w *wire.Writer) api.Errno { return w.Text(s) }, func(r *wire.Reader) bool {
		y, err := r.Text(len(s))
		return err == api.OK && y == s
	}}
}

func tellLists(l [][]uint64) told {
	return told{func(w *wire.Writer) api.Errno { return wire.List(w, l, putNumbers) }, func(r *wire.Reader) bool {
		y, err := wire.Take(r, len(l), takeNumbers)
		return err == api.OK && slices.EqualFunc(y, l, slices.Equal)
	}}
}

func wantBack(t *testing.T, l []told) {
	t.Helper()
	w := wire.NewWriter()
	for _, x := range l {
		if err := x.put(w); err != api.OK {
			t.Fatal(err)
		}
	}
	r := wire.NewReader(w.Bytes())
	for i, x := range l {
		if !x.same(r) {
			t.Fatalf("the thing %d of %d is not read again", i, len(l))
		}
	}
	if r.End() != api.OK || r.Place() != w.Len() {
		t.Errorf("%v at the end", r.End())
	}
}

func TestWhatWasWrittenIsReadAgain(t *testing.T) {
	var l []told
	for _, x := range edges() {
		l = append(l, tellNumber(x), tellFlag(x&1 == 1), tellLists([][]uint64{{x, x / 2}, nil, {x}}))
	}
	for _, x := range signedEdges() {
		l = append(l, tellSigned(x))
	}
	for _, x := range realBits() {
		l = append(l, tellReal(x))
	}
	for _, s := range texts() {
		l = append(l, tellText(s))
	}
	l = append(l, tellLists(nil), tellText(""))
	wantBack(t, l)
	wantBack(t, nil)

	draw := rand.New(rand.NewSource(1))
	for range 200 {
		var l []told
		for range draw.Intn(30) {
			x := draw.Uint64() >> draw.Intn(64)
			l = append(l, []told{tellNumber(x), tellSigned(int64(x)), tellSigned(-int64(x)), tellFlag(x&1 == 0), tellReal(x),
				tellText(strings.Repeat("t", int(x%600))), tellLists([][]uint64{{x}, {}, {x, 1}})}[draw.Intn(7)])
		}
		wantBack(t, l)
	}
}

func TestTheLesserNumbersFormIsTheLesserText(t *testing.T) {
	l := edges()
	for i, x := range l {
		for _, y := range l[i+1:] {
			if string(numberForm(x)) >= string(numberForm(y)) {
				t.Errorf("the form of %d is not below that of %d", x, y)
			}
		}
	}
	for x := range uint64(70000) {
		if string(numberForm(x)) >= string(numberForm(x+1)) {
			t.Fatalf("the form of %d is not below the next one's", x)
		}
	}
}

// rewrites read by one way each, and write what was read again.
var rewrites = []func(r *wire.Reader, w *wire.Writer) api.Errno{
	func(r *wire.Reader, w *wire.Writer) api.Errno {
		x, err := r.Number()
		w.Number(x)
		return err
	},
	func(r *wire.Reader, w *wire.Writer) api.Errno {
		x, err := r.Signed()
		w.Signed(x)
		return err
	},
	func(r *wire.Reader, w *wire.Writer) api.Errno {
		x, err := r.Flag()
		w.Flag(x)
		return err
	},
	func(r *wire.Reader, w *wire.Writer) api.Errno {
		x, err := r.Real()
		w.Real(x)
		return err
	},
	func(r *wire.Reader, w *wire.Writer) api.Errno {
		x, err := r.Text(9)
		w.Text(x)
		return err
	},
	func(r *wire.Reader, w *wire.Writer) api.Errno {
		x, err := wire.Take(r, 9, takeNumber)
		wire.List(w, x, putNumber)
		return err
	},
	func(r *wire.Reader, w *wire.Writer) api.Errno {
		x, err := wire.Take(r, 9, takeNumbers)
		wire.List(w, x, putNumbers)
		return err
	},
}

func wantRewritten(t *testing.T, b []byte) {
	t.Helper()
	for i, rewrite := range rewrites {
		r, w := wire.NewReader(b), wire.NewWriter()
		if err := rewrite(r, w); err != api.OK {
			if r.Place() != 0 {
				t.Fatalf("way %d of %v: %v at place %d", i, b, err, r.Place())
			}
			continue
		}
		if !bytes.Equal(w.Bytes(), b[:r.Place()]) {
			t.Fatalf("way %d of %v: read %d bytes, written again %v", i, b, r.Place(), w.Bytes())
		}
	}
}

func TestWhatIsReadIsWrittenAgain(t *testing.T) {
	wantRewritten(t, nil)
	for a := range 256 {
		wantRewritten(t, []byte{byte(a)})
		for b := range 256 {
			wantRewritten(t, []byte{byte(a), byte(b)})
		}
	}
	some := []byte{0, 1, 2, 3, 97, 247, 248, 249, 250, 255}
	draw := rand.New(rand.NewSource(2))
	for range 50000 {
		b := make([]byte, draw.Intn(13))
		for i := range b {
			b[i] = some[draw.Intn(len(some))]
		}
		wantRewritten(t, b)
	}
	for _, x := range realBits() {
		wantRewritten(t, realForm(x))
	}
}

func TestNoFormBeginsWithAnother(t *testing.T) {
	var kinds [4][]string
	for _, x := range edges() {
		kinds[0] = append(kinds[0], string(numberForm(x)))
		kinds[3] = append(kinds[3], string(listForm([]uint64{x})), string(listForm([]uint64{x, 1})), string(listForm([]uint64{1, x, 1})))
	}
	for _, x := range signedEdges() {
		kinds[1] = append(kinds[1], string(signedForm(x)))
	}
	for _, s := range texts() {
		kinds[2] = append(kinds[2], string(textForm(s)))
	}
	for kind, l := range kinds {
		slices.Sort(l)
		l = slices.Compact(l)
		for i := range l[1:] { // in order, one that begins with another stands right behind it or behind such a one
			if strings.HasPrefix(l[i+1], l[i]) {
				t.Errorf("kind %d: %v begins with %v", kind, []byte(l[i+1]), []byte(l[i]))
			}
		}
	}
}
