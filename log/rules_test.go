package log_test

import (
	"bytes"
	"hash/crc32"
	"math"
	"math/rand"
	"slices"
	"testing"

	"gavel/api"
	"gavel/log"
)

// The rules of another kind: a reader of forms that has nothing of layer 1, and goes on with noughts behind what is wrong; and a scan by the library's sums.

// model is what is left of a form, and whether something was wrong with it.
type model struct {
	left  []byte
	wrong bool
}

// number reads a number up to most.
func (m *model) number(most uint64) uint64 {
	for n := 1; n <= 9 && n <= len(m.left); n++ {
		x := uint64(0)
		for _, b := range m.left[1:n] {
			x = x*256 + uint64(b)
		}
		if n == 1 {
			x = uint64(m.left[0])
		}
		if bytes.Equal(numberForm(x), m.left[:n]) && x <= most {
			m.left = m.left[n:]
			return x
		}
	}
	m.wrong = true
	return 0
}

func (m *model) int64() int64 { return int64(m.number(math.MaxInt64)) }

func (m *model) int() int { return int(m.number(math.MaxInt)) }

func (m *model) name() string {
	n := int(m.number(api.MaxName))
	if n == 0 || n > len(m.left) {
		m.wrong = true
		return ""
	}
	name := string(m.left[:n])
	m.left = m.left[n:]
	return name
}

func (m *model) offers() []api.Offer {
	var list []api.Offer
	for range m.number(api.MaxCount) {
		goods := m.number(math.MaxUint32)
		list = append(list, api.Offer{Goods: api.Goods(goods), Coins: m.int64()})
	}
	return list
}

// order reads an order, and answers whether it is one.
func (m *model) order() (api.Order, bool) {
	var o api.Order
	switch o.Kind = api.OrderKind(m.number(6)); o.Kind {
	case api.OrderEnter:
		o.Name = m.name()
		o.Coins = m.int64()
	case api.OrderBring:
		o.Bidder = m.int()
		o.Coins = m.int64()
	case api.OrderPut:
		var x [11]int64
		for i := range x {
			x[i] = m.int64()
		}
		o.Put = api.Lot{Kind: api.LotKind(x[0]), Opens: x[1], Closes: x[2], Start: x[3], Step: x[4], Extend: x[5], Last: x[6], Floor: x[7], Fall: x[8], Count: int(x[9]), Rule: api.Rule(x[10])}
	case api.OrderBid:
		o.Bidder = m.int()
		o.Lot = m.int()
		o.Offers = m.offers()
	case api.OrderDrop:
		o.Bidder = m.int()
		o.Lot = m.int()
	case api.OrderTime:
		o.Tick = m.int64()
	default:
		m.wrong = true
	}
	return o, !m.wrong && len(m.left) == 0
}

// scanned is what Scan should tell.
func scanned(b []byte) api.Booked {
	var x api.Booked
	for {
		rest := b[x.Good:]
		if len(rest) == 0 {
			return x
		}
		if len(rest) < 2 || len(rest)-6 < int(rest[0])*256+int(rest[1]) {
			x.Why = api.ErrShort
			return x
		}
		n := int(rest[0])*256 + int(rest[1])
		body := rest[2 : 2+n]
		if !bytes.Equal(rest[:n+6], framed(body...)) {
			x.Why = api.ErrSum
			return x
		}
		o, ok := (&model{left: body}).order()
		if !ok {
			x.Why = api.ErrOrder
			return x
		}
		x.Orders, x.Places = append(x.Orders, o), append(x.Places, x.Good)
		x.Good += n + 6
	}
}

// wantScanned asks for all that bytes have, as the model tells it.
func wantScanned(t *testing.T, b []byte) {
	t.Helper()
	x := scanned(b)
	wantScan(t, b, x.Orders, x.Places, x.Good, x.Why)
}

// wantReadByModel asks Read, and, of what is a form, whether it is written again alike; it answers whether it is one.
func wantReadByModel(t *testing.T, b []byte) bool {
	t.Helper()
	want, ok := (&model{left: b}).order()
	got, err := log.Read(b)
	if !ok {
		if err != api.ErrOrder || !zero(got) {
			t.Errorf("Read(%s): %v, %v", brief(b), got, err)
		}
		return false
	}
	if err != api.OK || !alike(got, want) {
		t.Errorf("Read(%s): %v, %v, not %v", brief(b), got, err, want)
	}
	if again, err := log.Form(got); err != api.OK || !bytes.Equal(again, b) {
		t.Errorf("Form(%v): %v, %v, not %v", got, again, err, b)
	}
	return true
}

// TestEverySmallForm: all lists of up to five of some bytes, against the model; what is read has just the form that was read (P23.1, P23.4).
func TestEverySmallForm(t *testing.T) {
	some := []byte{0, 1, 2, 4, 5, 6, 7, 247, 248, 249}
	forms := 0
	var longer func(b []byte)
	longer = func(b []byte) {
		if wantReadByModel(t, b) {
			forms++
		}
		if len(b) == 5 {
			return
		}
		for _, next := range some {
			longer(append(b, next))
		}
	}
	longer(nil)
	if forms < 100 {
		t.Errorf("%d forms", forms)
	}
}

// TestNearForms: forms with one byte another one, left out, put in, or put to the end, against the model (P23.1, P23.4).
func TestNearForms(t *testing.T) {
	some := []byte{0, 1, 6, 7, 64, 65, 127, 128, 246, 247, 248, 249, 252, 255}
	for _, o := range someOrders() {
		b := form(t, o)
		wantReadByModel(t, append(bytes.Clone(b), 0))
		for i := 0; i < len(b); i += 1 + len(b)/150 {
			wantReadByModel(t, b[:i])
			wantReadByModel(t, b[i+1:])
			wantReadByModel(t, slices.Delete(bytes.Clone(b), i, i+1))
			for _, x := range some {
				wantReadByModel(t, join(b[:i], []byte{x}, b[i+1:]))
				wantReadByModel(t, join(b[:i], []byte{x}, b[i:]))
			}
		}
	}
}

// anyNumber is a number from 0 on, of any width.
func anyNumber(r *rand.Rand) int64 {
	if r.Intn(3) == 0 {
		return int64(r.Intn(9))
	}
	return r.Int63() >> r.Intn(63)
}

// anyOrder is an order that may be written.
func anyOrder(r *rand.Rand) api.Order {
	x := func() int64 { return anyNumber(r) }
	switch api.OrderKind(1 + r.Intn(6)) {
	case api.OrderEnter:
		name := make([]byte, 1+r.Intn(api.MaxName))
		r.Read(name)
		return enter(string(name), x())
	case api.OrderBring:
		return bring(int(x()), x())
	case api.OrderPut:
		return put(api.Lot{Kind: api.LotKind(x()), Opens: x(), Closes: x(), Start: x(), Step: x(), Extend: x(), Last: x(), Floor: x(), Fall: x(), Count: int(x()), Rule: api.Rule(x())})
	case api.OrderBid:
		o := bid(int(x()), int(x()))
		for range r.Intn(api.MaxCount + 1) {
			o.Offers = append(o.Offers, api.Offer{Goods: api.Goods(r.Uint32() >> r.Intn(32)), Coins: x()})
		}
		return o
	case api.OrderDrop:
		return drop(int(x()), int(x()))
	}
	return tick(x())
}

func anyOrders(r *rand.Rand, n int) []api.Order {
	var l []api.Order
	for range n {
		l = append(l, anyOrder(r))
	}
	return l
}

// TestReadOfForm: Read of Form is the order, and the form is by the words (P23.4).
func TestReadOfForm(t *testing.T) {
	r := rand.New(rand.NewSource(2))
	for range 3000 {
		o := anyOrder(r)
		b := form(t, o)
		wantRead(t, b, o)
		if !bytes.Equal(b, formByWords(o)) || !wantReadByModel(t, b) {
			t.Errorf("Form(%v): %v, not %v", o, b, formByWords(o))
		}
	}
}

// smallOrders are all orders of some small numbers and names.
func smallOrders() []api.Order {
	numbers := []int64{0, 1, 2, 97, 247, 248, 249, 256}
	var l []api.Order
	for _, x := range numbers {
		l = append(l, tick(x))
		for _, name := range []string{"a", "aa", "\x01", "\x01\x01", "\x00", "a\x00", "\x00a", "\xf8\xf8"} {
			l = append(l, enter(name, x))
		}
		for _, y := range numbers {
			l = append(l, bring(int(x), y), drop(int(x), int(y)), bid(int(x), int(y)))
			for _, z := range numbers {
				l = append(l, bid(1, 2, api.Offer{Goods: api.Goods(x), Coins: y}, api.Offer{Goods: 1, Coins: z}), bid(int(x), 0, api.Offer{Goods: api.Goods(y), Coins: z}))
			}
		}
		for _, y := range numbers[1:] {
			for i := range 11 {
				for j := range i {
					l = append(l, put(lotWith(i, x, j, y)))
				}
			}
		}
	}
	return l
}

// lotWith is a lot whose fields have the numbers 3, but two of them.
func lotWith(i int, x int64, j int, y int64) api.Lot {
	n := [11]int64{3, 3, 3, 3, 3, 3, 3, 3, 3, 3, 3}
	n[i], n[j] = x, y
	return api.Lot{Kind: api.LotKind(n[0]), Opens: n[1], Closes: n[2], Start: n[3], Step: n[4], Extend: n[5], Last: n[6], Floor: n[7], Fall: n[8], Count: int(n[9]), Rule: api.Rule(n[10])}
}

// TestUnlikeOrders: unlike orders have unlike forms, and frames (P23.4).
func TestUnlikeOrders(t *testing.T) {
	forms, framesOf := map[string]api.Order{}, map[string]api.Order{}
	for _, o := range append(smallOrders(), someOrders()...) {
		b, f := string(form(t, o)), string(frame(t, o))
		if other, there := forms[b]; there && !alike(o, other) {
			t.Errorf("%v and %v have the form %v", o, other, []byte(b))
		}
		if other, there := framesOf[f]; there && !alike(o, other) {
			t.Errorf("%v and %v have the frame %v", o, other, []byte(f))
		}
		forms[b], framesOf[f] = o, o
	}
	if len(forms) < 3000 || len(forms) != len(framesOf) {
		t.Errorf("%d forms, %d frames", len(forms), len(framesOf))
	}
}

// TestBeginnings: of any beginning of a book just the orders whose frames are whole, and ErrShort, or OK at a frame's end (P23.4, P0.8).
func TestBeginnings(t *testing.T) {
	r := rand.New(rand.NewSource(3))
	for _, l := range [][]api.Order{nil, {tick(5)}, {tick(1), tick(1)}, someOrders(), anyOrders(r, 5)} {
		k := bookOf(t, l...)
		b := k.Bytes()
		_, places := frames(t, l...)
		ends := append(slices.Clone(places), len(b))
		whole := 0
		for n := range len(b) + 1 {
			for whole < len(l) && ends[whole+1] <= n {
				whole++
			}
			why := api.ErrShort
			if ends[whole] == n {
				why = api.OK
			}
			x := log.Scan(b[:n])
			if !slices.EqualFunc(x.Orders, l[:whole], alike) || !slices.Equal(x.Places, places[:whole]) || x.Good != ends[whole] || x.Why != why {
				t.Errorf("%d of %d bytes: %s", n, len(b), brief(x))
			}
		}
		wantScan(t, b, l, places, len(b), api.OK)
	}
}

// turn turns bits of bytes from a bit on, each byte's from the lowest up.
func turn(b []byte, from int, bits uint32) {
	for ; bits != 0; bits, from = bits>>1, from+1 {
		if bits&1 == 1 {
			b[from/8] ^= 1 << (from % 8)
		}
	}
}

// wantTurned wants the orders to end ahead of the frame in whose form and sum bits are turned. The book's bytes are as they were behind that.
func wantTurned(t *testing.T, b []byte, ahead api.Booked, from int, bits uint32) {
	t.Helper()
	turn(b, from, bits)
	x := log.Scan(b)
	turn(b, from, bits)
	if !slices.EqualFunc(x.Orders, ahead.Orders, alike) || x.Good != ahead.Good || x.Why != api.ErrSum {
		t.Errorf("bits %x turned from %d on: %s", bits, from, brief(x))
	}
}

// eachFrame goes over orders' frames, each within a book of three: the book, what stands ahead of the frame, the first bit of its form, and the one behind its sum.
func eachFrame(t *testing.T, l []api.Order, do func(b []byte, ahead api.Booked, from, end int)) {
	for _, o := range l {
		b, places := frames(t, tick(7), o, drop(1, 2))
		do(b, api.Booked{Orders: []api.Order{tick(7)}, Good: places[1]}, (places[1]+2)*8, places[2]*8)
	}
}

// TestTurnedBits: bits that stand within 32 are turned, wherever they begin, by all of them, by two, by any; a frame's last ones too (P23.4).
func TestTurnedBits(t *testing.T) {
	r := rand.New(rand.NewSource(4))
	eachFrame(t, someOrders(), func(b []byte, ahead api.Booked, from, end int) {
		step := 1 + (end-from)/500
		for ; from < end; from += step {
			room := min(32, end-from)
			most := uint32(math.MaxUint32) >> (32 - room)
			for n := range room {
				wantTurned(t, b, ahead, from, 1|1<<n)
				wantTurned(t, b, ahead, from, uint32(math.MaxUint32)>>(31-n))
			}
			for range 9 {
				wantTurned(t, b, ahead, from, (1|r.Uint32())&most)
			}
		}
	})
}

// TestFewTurnedBits: all that can be turned within ten bits of small frames (P23.4).
func TestFewTurnedBits(t *testing.T) {
	eachFrame(t, []api.Order{tick(5), drop(1, 2), enter("a", 300)}, func(b []byte, ahead api.Booked, from, end int) {
		for ; from < end; from++ {
			for bits := uint32(1); bits < 1<<min(10, end-from); bits += 2 {
				wantTurned(t, b, ahead, from, bits)
			}
		}
	})
}

// TestAnyBytes: books that are cut, turned, put together, with frames of what is no order, against the model (P23.2).
func TestAnyBytes(t *testing.T) {
	r := rand.New(rand.NewSource(5))
	whys := map[api.Errno]int{}
	for range 1500 {
		b, _ := frames(t, anyOrders(r, r.Intn(5))...)
		switch r.Intn(6) {
		case 0:
			b = b[:r.Intn(len(b)+1)]
		case 1:
			more := make([]byte, r.Intn(30))
			r.Read(more)
			b = append(b, more...)
		case 2:
			more := make([]byte, r.Intn(5))
			r.Read(more)
			b = join(b, framed(more...), frame(t, tick(1)))
		case 3:
			if len(b) > 0 {
				b[r.Intn(len(b))] ^= 1 << r.Intn(8)
			}
		case 4:
			b = join(b, framed(join(form(t, anyOrder(r)), []byte{0})...))
		}
		wantScanned(t, b)
		whys[log.Scan(b).Why]++
	}
	for _, why := range []api.Errno{api.OK, api.ErrShort, api.ErrSum, api.ErrOrder} {
		if whys[why] < 50 {
			t.Errorf("%v %d times", why, whys[why])
		}
	}
}

// TestAnyBook: books that go on for long, are copied, and are made again out of their bytes, against a list of orders (P23.3, P23.4, P0.11).
func TestAnyBook(t *testing.T) {
	r := rand.New(rand.NewSource(6))
	type kept struct {
		book   *log.Book
		orders []api.Order
	}
	books := []kept{{log.New(), nil}}
	for range 300 {
		n := r.Intn(len(books))
		k := &books[n]
		switch r.Intn(6) {
		case 0:
			books = append(books, kept{k.book.Copy(), slices.Clone(k.orders)})
		case 1:
			again, good, why := log.From(k.book.Bytes())
			if good != k.book.Size() || why != api.OK {
				t.Errorf("%d of %d, %v", good, k.book.Size(), why)
			}
			books = append(books, kept{again, slices.Clone(k.orders)})
		case 2:
			if err := k.book.Append(append(anyOrders(r, r.Intn(3)), tick(-1))...); err != api.ErrArg {
				t.Error(err)
			}
		default:
			l := anyOrders(r, r.Intn(4))
			if err := k.book.Append(l...); err != api.OK {
				t.Error(err)
			}
			k.orders = append(k.orders, l...)
		}
		if len(books) > 6 {
			books = slices.Delete(books, n, n+1)
		}
	}
	for _, k := range books {
		b, _ := frames(t, k.orders...)
		wantBook(t, k.book, k.orders, b)
		wantScanned(t, b)
	}
}

// TestGreatBook: many orders, asked for by their numbers.
func TestGreatBook(t *testing.T) {
	k := log.New()
	const many = 100000
	for i := range many {
		if err := k.Append(bid(i, 3, api.Offer{Coins: int64(i)})); err != api.OK {
			t.Fatal(err)
		}
	}
	n := 0
	for i, o := range k.From(0) {
		if other, ok := k.Order(many - 1 - i); o.Bidder != i || !ok || other.Bidder != many-1-i {
			t.Fatalf("%d: %v", i, o)
		}
		n++
	}
	x := log.Scan(k.Bytes())
	if n != many || len(x.Orders) != many || x.Good != k.Size() || x.Why != api.OK {
		t.Errorf("%d, %d orders, %d of %d, %v", n, len(x.Orders), x.Good, k.Size(), x.Why)
	}
}

// TestSumOfFrames: a frame's last bytes, the lowest first, are the library's sum of all ahead of them (P23.1).
func TestSumOfFrames(t *testing.T) {
	table := crc32.MakeTable(crc32.Castagnoli)
	for _, o := range someOrders() {
		f := frame(t, o)
		end := len(f) - 4
		sum := uint32(f[end]) | uint32(f[end+1])<<8 | uint32(f[end+2])<<16 | uint32(f[end+3])<<24
		if want := crc32.Checksum(f[:end], table); sum != want || log.Sum(f[:2], f[2:end]) != want {
			t.Errorf("the frame of %v: %x, not %x", o, sum, want)
		}
	}
}
