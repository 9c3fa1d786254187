// Package wire is numbers, real numbers, texts and lists as bytes, in one form each.
package wire

import (
	"math"
	"math/bits"

	"gavel/api"
)

// A number up to lastShort is its own byte; a first byte above it says how many bytes follow.
const lastShort = 247

// Writer is bytes that grow.
type Writer struct{ bytes []byte }

// Reader is bytes that are read.
type Reader struct {
	bytes []byte
	place int
}

// NewWriter answers a writer without bytes.
func NewWriter() *Writer { return &Writer{} }

// Number writes a number.
func (w *Writer) Number(x uint64) api.Errno {
	if w == nil {
		return api.ErrNil
	}
	if x <= lastShort {
		w.highestFirst(x, 1)
		return api.OK
	}
	n := Size(x) - 1
	w.highestFirst(uint64(lastShort+n), 1)
	w.highestFirst(x, n)
	return api.OK
}

// Signed writes an int64.
func (w *Writer) Signed(x int64) api.Errno { return w.Number(Fold(x)) }

// Flag writes a yes or no.
func (w *Writer) Flag(x bool) api.Errno {
	if w == nil {
		return api.ErrNil
	}
	var b byte
	if x {
		b = 1
	}
	w.bytes = append(w.bytes, b)
	return api.OK
}

// Real writes a real number.
func (w *Writer) Real(x float64) api.Errno {
	if w == nil {
		return api.ErrNil
	}
	w.highestFirst(math.Float64bits(x), 8)
	return api.OK
}

// Text writes a text.
func (w *Writer) Text(s string) api.Errno {
	if w == nil {
		return api.ErrNil
	}
	w.Number(uint64(len(s)))
	w.bytes = append(w.bytes, s...)
	return api.OK
}

// Len tells how many bytes there are.
func (w *Writer) Len() int {
	if w == nil {
		return 0
	}
	return len(w.bytes)
}

// Bytes answers the bytes.
func (w *Writer) Bytes() []byte {
	if w == nil {
		return nil
	}
	return fresh(w.bytes)
}

// highestFirst puts the lowest n bytes of x behind those that are there.
func (w *Writer) highestFirst(x uint64, n int) {
	for shift := 8 * n; shift > 0; {
		shift -= 8
		w.bytes = append(w.bytes, byte(x>>shift))
	}
}

// List writes a list.
func List[T any](w *Writer, l []T, put func(w *Writer, x T)) api.Errno {
	if w == nil || put == nil {
		return api.ErrNil
	}
	w.Number(uint64(len(l)))
	for _, x := range l {
		put(w, x)
	}
	return api.OK
}

// NewReader answers a reader of bytes.
func NewReader(b []byte) *Reader { return &Reader{bytes: fresh(b)} }

// Number reads a number.
func (r *Reader) Number() (uint64, api.Errno) {
	if r == nil {
		return 0, api.ErrNil
	}
	back := r.mark()
	first, err := r.highestFirst(1)
	if err != api.OK || first <= lastShort {
		return first, err
	}
	n := int(first - lastShort)
	x, err := r.highestFirst(n)
	if err == api.OK && Size(x) != 1+n {
		err = api.ErrForm
	}
	if err != api.OK {
		back()
		return 0, err
	}
	return x, api.OK
}

// Signed reads an int64.
func (r *Reader) Signed() (int64, api.Errno) {
	x, err := r.Number()
	return Unfold(x), err
}

// Flag reads a yes or no.
func (r *Reader) Flag() (bool, api.Errno) {
	if r == nil {
		return false, api.ErrNil
	}
	back := r.mark()
	b, err := r.highestFirst(1)
	if b > 1 {
		back()
		return false, api.ErrForm
	}
	return b == 1, err
}

// Real reads a real number.
func (r *Reader) Real() (float64, api.Errno) {
	if r == nil {
		return 0, api.ErrNil
	}
	x, err := r.highestFirst(8)
	return math.Float64frombits(x), err
}

// Text reads a text.
func (r *Reader) Text(most int) (string, api.Errno) {
	if r == nil {
		return "", api.ErrNil
	}
	back := r.mark()
	n, err := r.count(most)
	if err != api.OK {
		back()
		return "", err
	}
	begin := r.place
	r.place += n
	return string(r.bytes[begin:r.place]), api.OK
}

// Left tells how many bytes are left.
func (r *Reader) Left() int {
	if r == nil {
		return 0
	}
	return len(r.bytes) - r.place
}

// Place tells how many bytes were read.
func (r *Reader) Place() int {
	if r == nil {
		return 0
	}
	return r.place
}

// End says whether all bytes were read.
func (r *Reader) End() api.Errno {
	if r == nil {
		return api.ErrNil
	}
	if r.Left() > 0 {
		return api.ErrLeft
	}
	return api.OK
}

// mark answers what brings the reader back to where it stands now.
func (r *Reader) mark() (back func()) {
	was := *r
	return func() { *r = was }
}

// highestFirst reads n bytes as one number, or nothing.
func (r *Reader) highestFirst(n int) (uint64, api.Errno) {
	if r.Left() < n {
		return 0, api.ErrEnd
	}
	var x uint64
	for _, b := range r.bytes[r.place : r.place+n] {
		x <<= 8
		x |= uint64(b)
	}
	r.place += n
	return x, api.OK
}

// count reads how many bytes or things follow; as each has a byte at least, more than are left can't be there. With an error it may have gone too far.
func (r *Reader) count(most int) (int, api.Errno) {
	if most < 0 {
		return 0, api.ErrArg
	}
	n, err := r.Number()
	switch {
	case err != api.OK:
		return 0, err
	case n > uint64(most):
		return 0, api.ErrLong
	case n > uint64(r.Left()):
		return 0, api.ErrEnd
	}
	return int(n), api.OK
}

// Take reads a list.
func Take[T any](r *Reader, most int, take func(r *Reader) (T, api.Errno)) ([]T, api.Errno) {
	if r == nil || take == nil {
		return nil, api.ErrNil
	}
	back := r.mark()
	n, err := r.count(most)
	if err != api.OK {
		back()
		return nil, err
	}
	// The list grows by what is there: room for n things ahead of them could be asked for by a few bytes, at any size of a thing.
	var l []T
	for range n {
		x, err := take(r)
		if err != api.OK {
			back()
			return nil, err
		}
		l = append(l, x)
	}
	return l, api.OK
}

// Size tells how many bytes a number's form has.
func Size(x uint64) int {
	if x <= lastShort {
		return 1
	}
	return 1 + (bits.Len64(x)+7)/8
}

// Fold folds an int64.
func Fold(x int64) uint64 {
	folded := uint64(x) << 1
	if x < 0 {
		folded = ^folded // -2x - 1, which does not run over at the least int64 so
	}
	return folded
}

// Unfold answers the number that was folded.
func Unfold(x uint64) int64 {
	half := int64(x >> 1)
	if x&1 == 1 {
		return ^half
	}
	return half
}

// fresh answers the bytes in memory of their own, spare room included.
func fresh(b []byte) []byte { return append([]byte(nil), b...) }
