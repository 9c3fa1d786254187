package log_test

import (
	"bytes"
	"fmt"
	"hash/crc32"
	"math"
	"math/rand"
	"reflect"
	"slices"
	"strings"
	"testing"
	"unsafe"

	"gavel/api"
	"gavel/log"
)

func enter(name string, coins int64) api.Order {
	return api.Order{Kind: api.OrderEnter, Name: name, Coins: coins}
}

func bring(bidder int, coins int64) api.Order {
	return api.Order{Kind: api.OrderBring, Bidder: bidder, Coins: coins}
}

func put(l api.Lot) api.Order { return api.Order{Kind: api.OrderPut, Put: l} }

func bid(bidder, lot int, offers ...api.Offer) api.Order {
	return api.Order{Kind: api.OrderBid, Bidder: bidder, Lot: lot, Offers: offers}
}

func drop(bidder, lot int) api.Order {
	return api.Order{Kind: api.OrderDrop, Bidder: bidder, Lot: lot}
}

func tick(t int64) api.Order { return api.Order{Kind: api.OrderTime, Tick: t} }

// widest is the order whose form has the most bytes.
func widest() api.Order {
	o := bid(math.MaxInt, math.MaxInt)
	for range api.MaxCount {
		o.Offers = append(o.Offers, api.Offer{Goods: math.MaxUint32, Coins: math.MaxInt64})
	}
	return o
}

// fullLot is a lot whose numbers are all unlike.
func fullLot() api.Lot {
	return api.Lot{Kind: 1, Opens: 2, Closes: 3, Start: 4, Step: 5, Extend: 6, Last: 7, Floor: 8, Fall: 9, Count: 10, Rule: 11}
}

// someOrders are orders that may be written, of each kind, with small, wide and greatest numbers, no two of them alike.
func someOrders() []api.Order {
	most := api.Lot{Kind: math.MaxInt, Opens: math.MaxInt64, Closes: math.MaxInt64, Start: math.MaxInt64, Step: math.MaxInt64, Extend: math.MaxInt64, Last: math.MaxInt64, Floor: math.MaxInt64, Fall: math.MaxInt64, Count: math.MaxInt, Rule: math.MaxInt}
	return []api.Order{
		enter("a", 300), enter("a", 0), enter("\x00", 1), enter("\xff\xfe", 247), enter(strings.Repeat("n", api.MaxName), math.MaxInt64),
		bring(0, 0), bring(0, 2), bring(2, 0), bring(247, 248), bring(math.MaxInt, math.MaxInt64),
		put(api.Lot{}), put(fullLot()), put(most), put(api.Lot{Kind: api.Sealed, Closes: 9, Floor: 4}), put(api.Lot{Kind: api.Units, Closes: 1 << 40, Count: 64}),
		bid(0, 0), bid(1, 2, api.Offer{Goods: 3, Coins: 7}), bid(1, 2, api.Offer{Coins: 7}), bid(1, 2, api.Offer{}), bid(1, 2, api.Offer{}, api.Offer{}), widest(),
		drop(0, 0), drop(0, 3), drop(3, 0), drop(math.MaxInt, math.MaxInt),
		tick(0), tick(5), tick(247), tick(248), tick(math.MaxInt64),
	}
}

// brief is the beginning of what there is to tell of something.
func brief(x ...any) string {
	text := fmt.Sprint(x...)
	return text[:min(len(text), 300)]
}

// alike says whether orders are the same; no list and an empty one mean the same.
func alike(a, b api.Order) bool {
	if len(a.Offers) == 0 {
		a.Offers = nil
	}
	if len(b.Offers) == 0 {
		b.Offers = nil
	}
	return reflect.DeepEqual(a, b)
}

func zero(o api.Order) bool { return alike(o, api.Order{}) }

func form(t *testing.T, o api.Order) []byte {
	t.Helper()
	b, err := log.Form(o)
	if err != api.OK {
		t.Fatalf("Form(%v): %v", o, err)
	}
	return b
}

func frame(t *testing.T, o api.Order) []byte {
	t.Helper()
	b, err := log.Frame(o)
	if err != api.OK {
		t.Fatalf("Frame(%v): %v", o, err)
	}
	return b
}

// framed is what stands as a frame around any bytes: their number and the sum are right, whatever they are.
func framed(form ...byte) []byte {
	b := append([]byte{byte(len(form) >> 8), byte(len(form))}, form...)
	sum := crc32.Checksum(b, crc32.MakeTable(crc32.Castagnoli))
	return append(b, byte(sum), byte(sum>>8), byte(sum>>16), byte(sum>>24))
}

func join(l ...[]byte) []byte { return slices.Concat(l...) }

// frames are the frames of orders, one behind the other, and where each begins.
func frames(t *testing.T, l ...api.Order) ([]byte, []int) {
	t.Helper()
	var b []byte
	var places []int
	for _, o := range l {
		places = append(places, len(b))
		b = append(b, frame(t, o)...)
	}
	return b, places
}

// wantForm wants an order's form to be these bytes, and its frame to be that around them, and both to be read again.
func wantForm(t *testing.T, o api.Order, want ...byte) {
	t.Helper()
	if err := log.Check(o); err != api.OK {
		t.Errorf("Check(%v): %v", o, err)
	}
	if got, err := log.Form(o); err != api.OK || !bytes.Equal(got, want) {
		t.Errorf("Form(%v): %v, %v, not %v", o, got, err, want)
	}
	if got, err := log.Frame(o); err != api.OK || !bytes.Equal(got, framed(want...)) {
		t.Errorf("Frame(%v): %v, %v, not %v", o, got, err, framed(want...))
	}
	wantRead(t, want, o)
	wantScan(t, framed(want...), []api.Order{o}, []int{0}, len(want)+6, api.OK)
}

// wantNone wants an order not to be written by any call.
func wantNone(t *testing.T, o api.Order) {
	t.Helper()
	if err := log.Check(o); err != api.ErrArg {
		t.Errorf("Check(%s): %v", brief(o), err)
	}
	if got, err := log.Form(o); err != api.ErrArg || got != nil {
		t.Errorf("Form(%s): %v, %v", brief(o), got, err)
	}
	if got, err := log.Frame(o); err != api.ErrArg || got != nil {
		t.Errorf("Frame(%s): %v, %v", brief(o), got, err)
	}
	k := log.New()
	for _, l := range [][]api.Order{{o}, {tick(1), o}, {o, tick(1)}} {
		if err := k.Append(l...); err != api.ErrArg || k.Len() != 0 || k.Size() != 0 {
			t.Errorf("Append(%s): %v, %d orders, %d bytes", brief(l), err, k.Len(), k.Size())
		}
	}
}

func wantRead(t *testing.T, b []byte, want api.Order) {
	t.Helper()
	if got, err := log.Read(b); err != api.OK || !alike(got, want) {
		t.Errorf("Read(%v): %v, %v, not %v", b, got, err, want)
	}
}

// wantNoRead wants bytes to be the form of no order, by themselves, and in a frame.
func wantNoRead(t *testing.T, b ...byte) {
	t.Helper()
	if got, err := log.Read(b); err != api.ErrOrder || !zero(got) {
		t.Errorf("Read(%s): %v, %v", brief(b), got, err)
	}
	if len(b) <= math.MaxUint16 {
		wantScan(t, framed(b...), nil, nil, 0, api.ErrOrder)
	}
}

// wantScan asks it of Scan, of All, and of From.
func wantScan(t *testing.T, b []byte, orders []api.Order, places []int, good int, why api.Errno) {
	t.Helper()
	x := log.Scan(b)
	if !slices.EqualFunc(x.Orders, orders, alike) || !slices.Equal(x.Places, places) || x.Good != good || x.Why != why {
		t.Errorf("Scan(%s): %s, not %s", brief(b), brief(x), brief(orders, places, good, why))
	}
	gotPlaces, gotOrders := gone(b)
	if !slices.EqualFunc(gotOrders, orders, alike) || !slices.Equal(gotPlaces, places) {
		t.Errorf("All(%s): %s, not %s", brief(b), brief(gotPlaces, gotOrders), brief(places, orders))
	}
	k, n, err := log.From(b)
	if n != good || err != why {
		t.Errorf("From(%s): %d, %v, not %d, %v", brief(b), n, err, good, why)
	}
	wantBook(t, k, orders, b[:good])
}

// gone is what going over all of All tells.
func gone(b []byte) ([]int, []api.Order) {
	var places []int
	var orders []api.Order
	for place, o := range log.All(b) {
		places = append(places, place)
		orders = append(orders, o)
	}
	return places, orders
}

// wantBook asks for all that a book tells.
func wantBook(t *testing.T, k *log.Book, orders []api.Order, b []byte) {
	t.Helper()
	if k == nil {
		t.Fatal("no book")
	}
	if k.Len() != len(orders) || k.Size() != len(b) || !bytes.Equal(k.Bytes(), b) {
		t.Errorf("%d orders, %d bytes: %s, not %d, %d: %s", k.Len(), k.Size(), brief(k.Bytes()), len(orders), len(b), brief(b))
	}
	for i, want := range orders {
		if got, ok := k.Order(i); !ok || !alike(got, want) {
			t.Errorf("Order(%d): %v, %v, not %v", i, got, ok, want)
		}
	}
	for _, n := range []int{-1, len(orders), len(orders) + 1, math.MinInt, math.MaxInt} {
		if got, ok := k.Order(n); ok || !zero(got) {
			t.Errorf("Order(%d) of %d: %v, %v", n, len(orders), got, ok)
		}
	}
	for _, n := range []int{math.MinInt, -1, 0, 1, len(orders) - 1, len(orders), len(orders) + 1, math.MaxInt} {
		wantFrom(t, k, n, orders)
	}
}

// wantFrom wants From to tell the orders from a number on.
func wantFrom(t *testing.T, k *log.Book, n int, orders []api.Order) {
	t.Helper()
	next := max(n, 0)
	for i, o := range k.From(n) {
		if i != next || i >= len(orders) || !alike(o, orders[i]) {
			t.Errorf("From(%d) tells %d: %v, where %d is to come", n, i, o, next)
			return
		}
		next++
	}
	if next != max(n, len(orders), 0) {
		t.Errorf("From(%d) ends at %d of %d", n, next, len(orders))
	}
}

func bookOf(t *testing.T, l ...api.Order) *log.Book {
	t.Helper()
	k := log.New()
	if err := k.Append(l...); err != api.OK {
		t.Fatalf("Append(%v): %v", l, err)
	}
	return k
}

// The rows of the chapter's table 'Examples', one behind the other.
func TestExamples(t *testing.T) {
	o := tick(5)
	if got := log.Sum([]byte("123456789")); got != 0xE3069283 {
		t.Errorf("Sum: %X", got)
	}
	wantForm(t, o, 6, 5)
	f := frame(t, o)
	sum := log.Sum([]byte{0, 2, 6, 5})
	if want := []byte{0, 2, 6, 5, byte(sum), byte(sum >> 8), byte(sum >> 16), byte(sum >> 24)}; !bytes.Equal(f, want) {
		t.Errorf("Frame: %v, not %v", f, want)
	}
	wantNone(t, enter("", 0))
	wantNone(t, api.Order{Kind: api.OrderTime, Tick: 5, Coins: 1})
	wantNone(t, api.Order{Kind: 7})
	wantNone(t, bring(-1, 0))
	wantForm(t, enter("a", 300), 1, 1, 97, 249, 1, 44)
	wantForm(t, bid(1, 2, api.Offer{Goods: 3, Coins: 7}), 4, 1, 2, 1, 3, 7)
	wantRead(t, []byte{6, 5}, o)
	wantNoRead(t, 6, 5, 0)
	wantNoRead(t, 6)
	wantNoRead(t, 6, 248, 5)
	wantScan(t, nil, nil, nil, 0, api.OK)
	wantScan(t, join(f, []byte{0}), []api.Order{o}, []int{0}, 8, api.ErrShort)
	wantScan(t, f[:7], nil, nil, 0, api.ErrShort)
	wantScan(t, join(f[:7], []byte{f[7] ^ 1}), nil, nil, 0, api.ErrSum)
	wantScan(t, join(f[:7], []byte{^f[7]}), nil, nil, 0, api.ErrSum)
}

// sumBySteps is the chapter's words on the sum.
func sumBySteps(b []byte) uint32 {
	x := uint32(math.MaxUint32)
	for _, next := range b {
		x ^= uint32(next)
		for range 8 {
			if half := x / 2; x%2 == 1 {
				x = half ^ 2197175160
			} else {
				x = half
			}
		}
	}
	return x ^ math.MaxUint32
}

// TestSum: of nothing, of each byte, of long bytes, against the words and the library (P23.1).
func TestSum(t *testing.T) {
	if log.Sum() != 0 || log.Sum(nil) != 0 || log.Sum(nil, []byte{}, nil) != 0 {
		t.Error("of nothing")
	}
	table := crc32.MakeTable(crc32.Castagnoli)
	r := rand.New(rand.NewSource(1))
	lists := [][]byte{make([]byte, 1), make([]byte, 40), bytes.Repeat([]byte{255}, 40)}
	for x := range 256 {
		long := make([]byte, x)
		r.Read(long)
		lists = append(lists, []byte{byte(x)}, []byte{0, byte(x)}, []byte{byte(x), 0}, long)
	}
	for _, b := range lists {
		if got := log.Sum(b); got != sumBySteps(b) || got != crc32.Checksum(b, table) {
			t.Errorf("Sum(%v): %X, not %X, %X", b, got, sumBySteps(b), crc32.Checksum(b, table))
		}
	}
}

// TestSumOfParts: however bytes are parted, they have one sum (P23.1).
func TestSumOfParts(t *testing.T) {
	b := []byte("the sum of all of b, one behind the other")
	want := log.Sum(b)
	for i := range len(b) + 1 {
		for j := i; j <= len(b); j++ {
			if got := log.Sum(b[:i], b[i:j], nil, b[j:]); got != want {
				t.Errorf("parted at %d and %d: %X, not %X", i, j, got, want)
			}
		}
	}
	if log.Sum([]byte("a"), []byte("b")) == log.Sum([]byte("b"), []byte("a")) {
		t.Error("the parts' order is not told")
	}
}

// TestFormsByTheirWords: each kind's fields, unlike ones all, stand in their order; numbers have the forms of layer 1 (P23.1).
func TestFormsByTheirWords(t *testing.T) {
	wantForm(t, enter("bo", 7), 1, 2, 98, 111, 7)
	wantForm(t, enter("\xff\x00", 0), 1, 2, 255, 0, 0)
	wantForm(t, bring(3, 9), 2, 3, 9)
	wantForm(t, bring(0, 0), 2, 0, 0)
	wantForm(t, put(fullLot()), 3, 1, 2, 3, 4, 5, 6, 7, 8, 9, 10, 11)
	wantForm(t, put(api.Lot{}), 3, 0, 0, 0, 0, 0, 0, 0, 0, 0, 0, 0)
	wantForm(t, put(api.Lot{Kind: api.Sealed, Closes: 9, Floor: 4}), 3, 3, 0, 9, 0, 0, 0, 0, 4, 0, 0, 0)
	wantForm(t, bid(5, 6), 4, 5, 6, 0)
	wantForm(t, bid(5, 6, api.Offer{Goods: 1, Coins: 2}, api.Offer{Coins: 247}, api.Offer{Goods: 248}), 4, 5, 6, 3, 1, 2, 0, 247, 248, 248, 0)
	wantForm(t, drop(8, 1), 5, 8, 1)
	wantForm(t, tick(0), 6, 0)
	wantForm(t, tick(247), 6, 247)
	wantForm(t, tick(248), 6, 248, 248)
	wantForm(t, tick(256), 6, 249, 1, 0)
	wantForm(t, tick(1<<40), 6, 253, 1, 0, 0, 0, 0, 0)
	wantForm(t, tick(math.MaxInt64), 6, 255, 127, 255, 255, 255, 255, 255, 255, 255)
	wantForm(t, bid(0, 0, api.Offer{Goods: math.MaxUint32}), 4, 0, 0, 1, 251, 255, 255, 255, 255, 0)
}

// TestSomeOrders: by a form that is put together otherwise (P23.1).
func TestSomeOrders(t *testing.T) {
	for _, o := range someOrders() {
		wantForm(t, o, formByWords(o)...)
	}
}

// TestWidestForm: a form of more than 255 bytes has both its number's bytes, the higher one first (P23.1).
func TestWidestForm(t *testing.T) {
	o := widest()
	if b := form(t, o); len(b) != 916 {
		t.Errorf("%d bytes", len(b))
	}
	if f := frame(t, o); len(f) != 922 || f[0] != 3 || f[1] != 148 {
		t.Errorf("%d bytes: %v", len(f), f)
	}
	for _, n := range []int{240, 247, 248, 249, 250} {
		o := bid(0, 0)
		for range 50 {
			o.Offers = append(o.Offers, api.Offer{Goods: 1 << 24})
		}
		o = bid(1, 2, slices.Concat(o.Offers[:n/6], make([]api.Offer, n%6))...)
		wantForm(t, o, formByWords(o)...)
	}
}

// numberForm is a number as layer 1 has it.
func numberForm(x uint64) []byte {
	if x <= 247 {
		return []byte{byte(x)}
	}
	var b []byte
	for ; x > 0; x /= 256 {
		b = append([]byte{byte(x % 256)}, b...)
	}
	return append([]byte{byte(247 + len(b))}, b...)
}

// formByWords is the form of an order that may be written, out of the fields that its kind names; a lot's and an offer's stand as in their types.
func formByWords(o api.Order) []byte {
	b := []byte{byte(o.Kind)}
	var add func(v reflect.Value)
	add = func(v reflect.Value) {
		switch v.Kind() {
		case reflect.String:
			b = append(append(b, numberForm(uint64(v.Len()))...), v.String()...)
		case reflect.Slice:
			b = append(b, numberForm(uint64(v.Len()))...)
			for i := range v.Len() {
				add(v.Index(i))
			}
		case reflect.Struct:
			for i := range v.NumField() {
				add(v.Field(i))
			}
		case reflect.Uint32:
			b = append(b, numberForm(v.Uint())...)
		default:
			b = append(b, numberForm(uint64(v.Int()))...)
		}
	}
	for _, name := range named(o.Kind) {
		add(reflect.ValueOf(o).FieldByName(name))
	}
	return b
}

// named are the fields that a kind names, in the order in which its form has them.
func named(k api.OrderKind) []string {
	return map[api.OrderKind][]string{
		api.OrderEnter: {"Name", "Coins"},
		api.OrderBring: {"Bidder", "Coins"},
		api.OrderPut:   {"Put"},
		api.OrderBid:   {"Bidder", "Lot", "Offers"},
		api.OrderDrop:  {"Bidder", "Lot"},
		api.OrderTime:  {"Tick"},
	}[k]
}

// plain is an order of a kind that may be written.
func plain(k api.OrderKind) api.Order {
	return map[api.OrderKind]api.Order{
		api.OrderEnter: enter("a", 1), api.OrderBring: bring(1, 1), api.OrderPut: put(fullLot()),
		api.OrderBid: bid(1, 1, api.Offer{Goods: 1, Coins: 1}), api.OrderDrop: drop(1, 1), api.OrderTime: tick(1),
	}[k]
}

// numbers are an order's fields that are numbers, by the field in which they stand.
func numbers() []struct {
	field string
	set   func(o *api.Order, x int64)
} {
	type number = struct {
		field string
		set   func(o *api.Order, x int64)
	}
	list := []number{
		{"Coins", func(o *api.Order, x int64) { o.Coins = x }},
		{"Bidder", func(o *api.Order, x int64) { o.Bidder = int(x) }},
		{"Lot", func(o *api.Order, x int64) { o.Lot = int(x) }},
		{"Tick", func(o *api.Order, x int64) { o.Tick = x }},
	}
	for i := range reflect.TypeOf(api.Lot{}).NumField() {
		list = append(list, number{"Put", func(o *api.Order, x int64) { reflect.ValueOf(&o.Put).Elem().Field(i).SetInt(x) }})
	}
	for _, n := range []int{1, 2, api.MaxCount} {
		for i := range n {
			list = append(list, number{"Offers", func(o *api.Order, x int64) {
				o.Offers = make([]api.Offer, n)
				o.Offers[i].Coins = x
			}})
		}
	}
	return list
}

// TestNumbersGiven: a number that the kind names goes from 0 on up to the greatest one, of any size; one that it does not name is zero (P23.1).
func TestNumbersGiven(t *testing.T) {
	for k := api.OrderEnter; k <= api.OrderTime; k++ {
		for _, n := range numbers() {
			for _, x := range []int64{0, 1, 2, 247, 248, 1<<40 + 1, math.MaxInt64, -1, -2, math.MinInt64} {
				o := plain(k)
				n.set(&o, x)
				mayBe := x >= 0
				if !slices.Contains(named(k), n.field) {
					mayBe = x == 0 && n.field != "Offers"
				}
				if mayBe {
					wantForm(t, o, formByWords(o)...)
				} else {
					wantNone(t, o)
				}
			}
		}
	}
}

// TestKindsGiven: six kinds, whatever else stands there (P23.1).
func TestKindsGiven(t *testing.T) {
	for _, k := range []api.OrderKind{0, 7, 8, 255, 256 + 1, 1<<32 + 6, -1, math.MinInt, math.MaxInt} {
		wantNone(t, api.Order{Kind: k})
		for known := api.OrderEnter; known <= api.OrderTime; known++ {
			o := plain(known)
			o.Kind = k
			wantNone(t, o)
		}
	}
	for k := api.OrderEnter; k <= api.OrderTime; k++ {
		for other := api.OrderEnter; other <= api.OrderTime; other++ {
			if o := plain(other); k != other && !(other == api.OrderDrop && k == api.OrderBid) {
				o.Kind = k
				wantNone(t, o)
			}
		}
	}
}

// TestNames: 1 to MaxName bytes, any ones; of other kinds none (P23.1).
func TestNames(t *testing.T) {
	for n := range api.MaxName {
		o := enter(strings.Repeat("\x00", n)+"\xc3", int64(n))
		wantForm(t, o, formByWords(o)...)
	}
	for _, n := range []int{0, api.MaxName + 1, 247, 248, 256, 256 + api.MaxName, 1 << 16} {
		wantNone(t, enter(strings.Repeat("a", n), 1))
	}
	wantForm(t, enter(strings.Repeat("ä", api.MaxName/2), 1), formByWords(enter(strings.Repeat("ä", api.MaxName/2), 1))...)
	wantNone(t, enter(strings.Repeat("ä", api.MaxName/2)+"a", 1))
	for k := api.OrderBring; k <= api.OrderTime; k++ {
		for _, name := range []string{"a", "\x00", strings.Repeat("a", api.MaxName+1)} {
			o := plain(k)
			o.Name = name
			wantNone(t, o)
		}
	}
}

// TestOffersGiven: up to MaxCount, none included; of other kinds none; no list and an empty one mean the same (P23.1).
func TestOffersGiven(t *testing.T) {
	for _, n := range []int{0, 1, 8, 9, api.MaxCount - 1, api.MaxCount} {
		o := bid(1, 2, make([]api.Offer, n)...)
		wantForm(t, o, formByWords(o)...)
	}
	for _, n := range []int{api.MaxCount + 1, 247, 248, 256, 256 + 1, 1 << 16} {
		wantNone(t, bid(1, 2, make([]api.Offer, n)...))
	}
	for k := api.OrderEnter; k <= api.OrderTime; k++ {
		o := plain(k)
		o.Offers = []api.Offer{}
		if k == api.OrderBid {
			wantForm(t, o, 4, 1, 1, 0)
			continue
		}
		wantForm(t, o, formByWords(o)...)
		o.Offers = make([]api.Offer, 0, 9)
		wantForm(t, o, formByWords(o)...)
		o.Offers = make([]api.Offer, 1)
		wantNone(t, o)
	}
}

// TestHouseIsNotAsked: what no house would take may be written all the same (P23.1).
func TestHouseIsNotAsked(t *testing.T) {
	for _, o := range []api.Order{
		enter("a", api.MaxCoins+1), bring(api.MaxBidders, api.MaxCoins+1), tick(api.MaxTick + 1), drop(9, 9),
		put(api.Lot{Kind: 9, Opens: 5, Closes: 4, Rule: 7, Count: api.MaxCount + 1}), put(api.Lot{Kind: api.Sealed, Step: 3}),
		bid(0, 0, api.Offer{Goods: 1 << 31, Coins: 0}, api.Offer{Goods: 1, Coins: api.MaxCoins + 1}),
	} {
		wantForm(t, o, formByWords(o)...)
	}
}

// TestReadOfNothingElse: what is no order's form, by just one thing (P23.1).
func TestReadOfNothingElse(t *testing.T) {
	wantNoRead(t)
	for _, k := range []byte{0, 7, 8, 97, 247, 248, 255} {
		wantNoRead(t, k)
		wantNoRead(t, k, 1)
		wantNoRead(t, k, 1, 1)
		wantNoRead(t, k, 1, 1, 1)
	}
	wantNoRead(t, 1, 0, 5)                                                                // a name of no byte
	wantNoRead(t, join([]byte{1, 65}, bytes.Repeat([]byte{97}, 65), numberForm(5))...)    // one above MaxName
	wantNoRead(t, join([]byte{1, 248, 248}, bytes.Repeat([]byte{97}, 248), []byte{5})...) // far above it
	wantNoRead(t, 1, 2, 97, 5)                                                            // no coins
	wantNoRead(t, 1, 248, 1, 97, 5)                                                       // a longer number than wants be
	wantNoRead(t, 248, 6, 5)                                                              // the same of the kind
	wantNoRead(t, 249, 0, 6, 5)
	wantNoRead(t, 6, 249, 0, 5)
	wantNoRead(t, 6, 249, 0, 248)
	wantNoRead(t, 4, 1, 1, 248, 0)
	wantNoRead(t, 4, 1, 1, 1)
	wantNoRead(t, 4, 1, 1, 1, 1)
	wantNoRead(t, 4, 1, 1, 1, 1, 1, 1)
	wantNoRead(t, 4, 1, 1, 2, 1, 1, 1)
	wantNoRead(t, join([]byte{4, 1, 1, 65}, make([]byte, 130))...)
	wantNoRead(t, join([]byte{4, 1, 1, 249, 1, 0}, make([]byte, 512))...)
	wantNoRead(t, join([]byte{4, 1, 1}, numberForm(math.MaxUint64))...)
	wantNoRead(t, join([]byte{1}, numberForm(math.MaxUint64))...)
	wantRead(t, join([]byte{4, 1, 1, 64}, make([]byte, 128)), bid(1, 1, make([]api.Offer, 64)...))
	wantRead(t, join([]byte{1, 64}, bytes.Repeat([]byte{97}, 64), []byte{0}), enter(strings.Repeat("a", 64), 0))
}

// TestReadOfGreatNumbers: a number that the field has not is no order's, wherever it stands (P23.1).
func TestReadOfGreatNumbers(t *testing.T) {
	for k := api.OrderEnter; k <= api.OrderTime; k++ {
		b := formByWords(plain(k))
		for i := 1; i < len(b); i++ {
			isLength := k == api.OrderEnter && i <= 2 || k == api.OrderBid && i == 3
			if isLength {
				continue
			}
			least := uint64(1 << 63)
			if k == api.OrderBid && i == 4 {
				least = 1 << 32
			}
			o, err := log.Read(join(b[:i], numberForm(least-1), b[i+1:]))
			if err != api.OK || !bytes.Equal(formByWords(o), join(b[:i], numberForm(least-1), b[i+1:])) {
				t.Errorf("kind %d, the greatest at %d: %v, %v", k, i, o, err)
			}
			for _, x := range []uint64{least, least + 1, 1<<63 + 1, math.MaxUint64} {
				wantNoRead(t, join(b[:i], numberForm(x), b[i+1:])...)
			}
		}
	}
	for _, x := range []uint64{256 + 6, 1<<32 + 6, 1 << 63, 1<<63 + 6, math.MaxUint64} {
		wantNoRead(t, join(numberForm(x), []byte{5})...)
	}
}

// TestScanErrorsInOrder: too few bytes ahead of another sum, this ahead of no order; what stands ahead is told beside each (P23.2).
func TestScanErrorsInOrder(t *testing.T) {
	bad := framed(7, 1)
	spoilt := bytes.Clone(bad)
	spoilt[len(spoilt)-1] ^= 64
	for _, ahead := range [][]api.Order{nil, {tick(5)}, someOrders()} {
		b, places := frames(t, ahead...)
		want := func(behind []byte, why api.Errno) {
			t.Helper()
			wantScan(t, join(b, behind), ahead, places, len(b), why)
		}
		want(nil, api.OK)
		want(bad, api.ErrOrder)
		want(join(bad, frame(t, tick(1))), api.ErrOrder)
		want(spoilt, api.ErrSum)
		want(join(spoilt, frame(t, tick(1))), api.ErrSum)
		for n := 1; n < len(spoilt); n++ {
			want(spoilt[:n], api.ErrShort)
		}
		want([]byte{0}, api.ErrShort)
		want([]byte{255}, api.ErrShort)
		want([]byte{0, 0}, api.ErrShort)
		want([]byte{0, 0, 0, 0, 0}, api.ErrShort)
		want([]byte{0, 0, 0, 0, 0, 0}, api.ErrSum)
		want(framed(), api.ErrOrder)
		want([]byte{255, 255}, api.ErrShort)
		want(join([]byte{255, 255}, make([]byte, 65538)), api.ErrShort)
		want(join([]byte{255, 255}, make([]byte, 65539)), api.ErrSum)
		want(framed(make([]byte, 65535)...), api.ErrOrder)
		want(make([]byte, 1000), api.ErrSum)
		want(form(t, tick(5)), api.ErrShort)
	}
}

// TestFrameBytes: each byte of a frame is asked for (P23.2).
func TestFrameBytes(t *testing.T) {
	f := frame(t, bid(1, 2, api.Offer{Goods: 3, Coins: 7}))
	for i := range f {
		for x := range 256 {
			if byte(x) == f[i] {
				continue
			}
			b := bytes.Clone(f)
			b[i] = byte(x)
			if s := log.Scan(b); len(s.Orders) != 0 || s.Good != 0 || s.Why != api.ErrSum && (i > 1 || s.Why != api.ErrShort) {
				t.Errorf("byte %d is %d: %v", i, x, s)
			}
		}
	}
	turned := join(f[:len(f)-4], []byte{f[len(f)-1], f[len(f)-2], f[len(f)-3], f[len(f)-4]})
	wantScan(t, turned, nil, nil, 0, api.ErrSum)
}

// TestAllAsItIs: All tells what the bytes are when it is called (P23.2).
func TestAllAsItIs(t *testing.T) {
	l := []api.Order{tick(1), enter("bob", 2), bid(1, 1, api.Offer{Goods: 1, Coins: 1})}
	b, places := frames(t, l...)
	all := log.All(b)
	clear(b)
	for range 2 {
		var got []api.Order
		var at []int
		for place, o := range all {
			got, at = append(got, o), append(at, place)
			if len(o.Offers) > 0 {
				o.Offers[0].Coins = 77
			}
		}
		if !slices.EqualFunc(got[:2], l[:2], alike) || len(got) != 3 || !slices.Equal(at, places) {
			t.Errorf("%v %v", at, got)
		}
	}
	for _, o := range all {
		if o.Kind == api.OrderBid && o.Offers[0].Coins != 1 {
			t.Error("what was told is told again")
		}
	}
}

// TestAllLeft: it may be left anywhere, and gone over again, also within itself (P23.2).
func TestAllLeft(t *testing.T) {
	l := someOrders()
	b, places := frames(t, l...)
	all := log.All(join(b, []byte{0, 1}))
	for leave := range l {
		n := 0
		for place, o := range all {
			if place != places[n] || !alike(o, l[n]) {
				t.Errorf("%d: %d %v", n, place, o)
			}
			if n == leave {
				break
			}
			n++
		}
		if n != leave {
			t.Errorf("left at %d, not at %d", n, leave)
		}
	}
	n := 0
	for range all {
		for range all {
			n++
		}
	}
	if n != len(l)*len(l) {
		t.Errorf("%d within one another", n)
	}
}

// TestNew: a new book is empty, and each one is another (P23.3).
func TestNew(t *testing.T) {
	k, other := log.New(), log.New()
	wantBook(t, k, nil, nil)
	if err := k.Append(tick(1)); err != api.OK {
		t.Error(err)
	}
	wantBook(t, other, nil, nil)
}

// TestAppend: orders stand behind the others, those of one call in their order; a call without orders is well (P23.3).
func TestAppend(t *testing.T) {
	l := someOrders()
	all, _ := frames(t, l...)
	for n := range len(l) + 1 {
		k := log.New()
		ahead, _ := frames(t, l[:n]...)
		if err := k.Append(l[:n]...); err != api.OK {
			t.Errorf("the first %d: %v", n, err)
		}
		wantBook(t, k, l[:n], ahead)
		if err := k.Append(); err != api.OK {
			t.Errorf("none: %v", err)
		}
		wantBook(t, k, l[:n], ahead)
		for _, o := range l[n:] {
			if err := k.Append(o); err != api.OK {
				t.Errorf("one by one: %v", err)
			}
		}
		wantBook(t, k, l, all)
	}
	k := bookOf(t, tick(1), tick(1))
	one := frame(t, tick(1))
	wantBook(t, k, []api.Order{tick(1), tick(1)}, join(one, one))
}

// TestAppendNone: one order that may not be written, wherever it stands, and none of them is appended; the book goes on (P23.3).
func TestAppendNone(t *testing.T) {
	l := someOrders()
	for _, there := range [][]api.Order{nil, {tick(3)}, l} {
		k := bookOf(t, there...)
		b := k.Bytes()
		for _, wrong := range []api.Order{{}, {Kind: 7}, enter("", 1), tick(-1), bid(0, 0, make([]api.Offer, 65)...)} {
			for at := range len(l) + 1 {
				if err := k.Append(slices.Insert(slices.Clone(l), at, wrong)...); err != api.ErrArg {
					t.Errorf("%v at %d: %v", wrong, at, err)
				}
			}
		}
		wantBook(t, k, there, b)
		k.Append(tick(9))
		wantBook(t, k, append(slices.Clone(there), tick(9)), join(b, frame(t, tick(9))))
	}
}

// TestFromBytes: the book of what Scan tells goes on behind it; how many bytes are good, and why no more, stand beside it (P23.3).
func TestFromBytes(t *testing.T) {
	l := someOrders()
	b, _ := frames(t, l...)
	for _, x := range []struct {
		behind []byte
		why    api.Errno
	}{{nil, api.OK}, {[]byte{0}, api.ErrShort}, {make([]byte, 9), api.ErrSum}, {framed(9), api.ErrOrder}} {
		k, good, why := log.From(join(b, x.behind))
		if good != len(b) || why != x.why {
			t.Errorf("%d, %v", good, why)
		}
		wantBook(t, k, l, b)
		if err := k.Append(tick(6), drop(1, 2)); err != api.OK {
			t.Error(err)
		}
		wantBook(t, k, append(slices.Clone(l), tick(6), drop(1, 2)), join(b, frame(t, tick(6)), frame(t, drop(1, 2))))
	}
	for _, none := range [][]byte{nil, {}, {0}, {1, 2, 3}, framed(9)} {
		k, good, _ := log.From(none)
		if good != 0 {
			t.Errorf("From(%v): %d", none, good)
		}
		k.Append(tick(2))
		wantBook(t, k, []api.Order{tick(2)}, frame(t, tick(2)))
	}
}

// TestFromBegins: From tells the orders that are there when going over it begins, and that each time (P23.3).
func TestFromBegins(t *testing.T) {
	k := log.New()
	all := k.From(0)
	behind := k.From(2)
	count := func() (n, m int) {
		for i, o := range all {
			if i != n || o.Tick != int64(i) {
				t.Errorf("%d: %v", i, o)
			}
			n++
		}
		for i := range behind {
			if i != m+2 {
				t.Errorf("%d", i)
			}
			m++
		}
		return n, m
	}
	for n := range 9 {
		if a, b := count(); a != n || b != max(n-2, 0) {
			t.Errorf("%d, %d of %d", a, b, n)
		}
		k.Append(tick(int64(n)))
	}
	n := 0
	for i, o := range k.From(0) {
		if o.Tick != int64(i) {
			t.Errorf("%d: %v", i, o)
		}
		for range 5 {
			k.Append(tick(int64(k.Len())))
		}
		n++
	}
	if n != 9 || k.Len() != 9+9*5 {
		t.Errorf("%d of %d", n, k.Len())
	}
	if a, _ := count(); a != 54 {
		t.Errorf("%d behind that", a)
	}
}

// TestFromLeft: it may be left anywhere, and gone over again, also within itself (P23.3).
func TestFromLeft(t *testing.T) {
	l := someOrders()
	k := bookOf(t, l...)
	all := k.From(3)
	for leave := 3; leave < len(l); leave++ {
		last := -1
		for i, o := range all {
			if last = i; !alike(o, l[i]) {
				t.Errorf("%d: %v", i, o)
			}
			if i == leave {
				break
			}
		}
		if last != leave {
			t.Errorf("left at %d, not at %d", last, leave)
		}
	}
	n := 0
	for range all {
		for range all {
			n++
		}
	}
	if n != (len(l)-3)*(len(l)-3) {
		t.Errorf("%d within one another", n)
	}
}

// TestCopy: it stands there, and both go on apart, whoever goes first (P23.3).
func TestCopy(t *testing.T) {
	for n := range 6 {
		l := someOrders()[:n]
		k := bookOf(t, l...)
		b := k.Bytes()
		c := k.Copy()
		if c == k {
			t.Error("it is no other one")
		}
		wantBook(t, c, l, b)
		k.Append(tick(1), tick(2))
		wantBook(t, c, l, b)
		c.Append(drop(3, 4))
		d := c.Copy()
		d.Append(bring(5, 6))
		wantBook(t, k, append(slices.Clone(l), tick(1), tick(2)), join(b, frame(t, tick(1)), frame(t, tick(2))))
		wantBook(t, c, append(slices.Clone(l), drop(3, 4)), join(b, frame(t, drop(3, 4))))
		wantBook(t, d, append(slices.Clone(l), drop(3, 4), bring(5, 6)), join(b, frame(t, drop(3, 4)), frame(t, bring(5, 6))))
	}
}

// TestNothing: a book that is not there, and one that no call has made (P23.3).
func TestNothing(t *testing.T) {
	var none *log.Book
	for _, k := range []*log.Book{none, {}, new(log.Book)} {
		for _, l := range [][]api.Order{nil, {tick(5)}, {{Kind: 7}}} {
			if err := k.Append(l...); err != api.ErrNil {
				t.Errorf("Append(%v): %v", l, err)
			}
		}
		if k.Len() != 0 || k.Size() != 0 || len(k.Bytes()) != 0 || k.Copy() != nil {
			t.Errorf("%d, %d, %v, %v", k.Len(), k.Size(), k.Bytes(), k.Copy())
		}
		for _, n := range []int{-1, 0, 1} {
			if o, ok := k.Order(n); ok || !zero(o) {
				t.Errorf("Order(%d): %v, %v", n, o, ok)
			}
			all := k.From(n)
			if all == nil {
				t.Fatal("no iterator")
			}
			for i, o := range all {
				t.Errorf("From(%d) tells %d: %v", n, i, o)
			}
		}
	}
}

// TestErrnosNumbers: the chapter's errors have the chapter's numbers.
func TestErrnosNumbers(t *testing.T) {
	if api.ErrShort != 330 || api.ErrSum != 331 || api.ErrOrder != 332 {
		t.Error(api.ErrShort, api.ErrSum, api.ErrOrder)
	}
}

// TestHandedIn: nothing that is handed in is changed, spare room behind it included.
func TestHandedIn(t *testing.T) {
	room := []api.Offer{{Goods: 1, Coins: 2}, {Goods: 3, Coins: 4}, {Goods: 5, Coins: 6}}
	orders := []api.Order{bid(1, 1, room[:2]...), tick(4), tick(5)}
	b, _ := frames(t, orders...)
	wide := append(bytes.Clone(b), 9, 9, 9)
	was := bytes.Clone(wide)
	log.Check(orders[0])
	log.Form(orders[0])
	log.Read(wide[2:9])
	k := bookOf(t, orders[:2]...)
	k.Append(orders[:1]...)
	log.Scan(wide[:len(b)])
	gone(wide[:len(b)])
	from, _, _ := log.From(wide[:len(b)])
	from.Append(tick(1))
	log.Sum(wide[:3], wide[3:5])
	if !bytes.Equal(wide, was) {
		t.Errorf("%v, not %v", wide, was)
	}
	if !slices.Equal(room, []api.Offer{{Goods: 1, Coins: 2}, {Goods: 3, Coins: 4}, {Goods: 5, Coins: 6}}) || orders[2].Tick != 5 {
		t.Errorf("%v %v", room, orders)
	}
}

// TestNotKept: what was handed in may be written over without a book's knowing of it, names included.
func TestNotKept(t *testing.T) {
	memory := []byte("ann")
	orders := []api.Order{enter(unsafe.String(&memory[0], 3), 5), bid(1, 2, api.Offer{Goods: 3, Coins: 4})}
	want := []api.Order{enter("ann", 5), bid(1, 2, api.Offer{Goods: 3, Coins: 4})}
	k := bookOf(t, orders...)
	b := k.Bytes()
	from, _, _ := log.From(b)
	x := log.Scan(b)
	_, told := gone(b)
	copy(memory, "xxx")
	orders[1].Offers[0] = api.Offer{}
	orders[1] = tick(9)
	good := bytes.Clone(b)
	clear(b)
	wantBook(t, k, want, good)
	wantBook(t, from, want, good)
	if !slices.EqualFunc(x.Orders, want, alike) || !slices.EqualFunc(told, want, alike) {
		t.Errorf("%v %v", x, told)
	}
	name := form(t, enter("bob", 5))
	o, _ := log.Read(name)
	clear(name)
	if o.Name != "bob" {
		t.Errorf("%q", o.Name)
	}
}

// scribble writes over a list, spare room included.
func scribble[T any](l []T, x T) {
	l = l[:cap(l)]
	for i := range l {
		l[i] = x
	}
}

// TestAnswersNew: answers may be written over, spare room included, and share nothing with one another or with a book.
func TestAnswersNew(t *testing.T) {
	l := []api.Order{bid(1, 2, api.Offer{Goods: 3, Coins: 4}, api.Offer{Goods: 5, Coins: 6}), enter("ann", 7), bid(8, 9, api.Offer{Goods: 3, Coins: 4}), tick(5)}
	k := bookOf(t, l...)
	b := k.Bytes()
	spoil := func(o api.Order) { scribble(o.Offers, api.Offer{Goods: 77, Coins: 77}) }
	x, y := log.Scan(b), log.Scan(b)
	scribble(x.Places, 77)
	spoil(x.Orders[0])
	if !alike(x.Orders[2], l[2]) {
		t.Errorf("within one answer: %v", x.Orders)
	}
	scribble(x.Orders, api.Order{})
	if !slices.EqualFunc(y.Orders, l, alike) {
		t.Errorf("of two answers: %v", y)
	}
	c := k.Copy()
	for i := range l {
		o, _ := k.Order(i)
		spoil(o)
	}
	for _, o := range k.From(0) {
		spoil(o)
	}
	scribble(k.Bytes(), 77)
	wantBook(t, k, l, b)
	wantBook(t, c, l, b)
	one, two := form(t, l[0]), form(t, l[0])
	scribble(one, 77)
	if !bytes.Equal(two, formByWords(l[0])) {
		t.Errorf("%v", two)
	}
	one, two = frame(t, l[0]), frame(t, l[0])
	scribble(one, 77)
	if !bytes.Equal(two, framed(formByWords(l[0])...)) {
		t.Errorf("%v", two)
	}
	read, _ := log.Read(formByWords(l[0]))
	spoil(read)
	wantRead(t, formByWords(l[0]), l[0])
}

// TestCopiedByValue: a book that is copied by value is the same one.
func TestCopiedByValue(t *testing.T) {
	k := bookOf(t, tick(1))
	same := *k
	same.Append(tick(2))
	k.Append(tick(3))
	b, _ := frames(t, tick(1), tick(2), tick(3))
	wantBook(t, k, []api.Order{tick(1), tick(2), tick(3)}, b)
	wantBook(t, &same, []api.Order{tick(1), tick(2), tick(3)}, b)
}

// TestFewBytesAskForNoRoom: a list that is said to be long, and is not there, is refused without much memory.
func TestFewBytesAskForNoRoom(t *testing.T) {
	for _, b := range [][]byte{join([]byte{4, 1, 1}, numberForm(1<<40)), join([]byte{1}, numberForm(1<<40)), {4, 1, 1, 64, 0}} {
		if n := testing.AllocsPerRun(9, func() { log.Read(b) }); n > 20 {
			t.Errorf("Read(%v): %v allocations", b, n)
		}
		wantNoRead(t, b...)
	}
}
