package octet_test

import (
	"bytes"
	"cmp"
	"math"
	"testing"

	"safehouse/api"
	"safehouse/octet"
)

// putter lays a number of one width; its name and width tell which.
type putter struct {
	name  string
	width int
	put   func(b []byte, x uint64) []byte
}

func putters() []putter {
	return []putter{
		{"Put16", 2, func(b []byte, x uint64) []byte { return octet.Put16(b, uint16(x)) }},
		{"Put32", 4, func(b []byte, x uint64) []byte { return octet.Put32(b, uint32(x)) }},
		{"Put64", 8, octet.Put64},
	}
}

// taker takes a number of one width off.
type taker struct {
	name  string
	width int
	take  func(r *octet.Reader) uint64
}

func takers() []taker {
	return []taker{
		{"U8", 1, func(r *octet.Reader) uint64 { return uint64(r.U8()) }},
		{"U16", 2, func(r *octet.Reader) uint64 { return uint64(r.U16()) }},
		{"U32", 4, func(r *octet.Reader) uint64 { return uint64(r.U32()) }},
		{"U64", 8, (*octet.Reader).U64},
	}
}

// numbers are ordinary ones and edges of all widths.
func numbers() []uint64 {
	l := []uint64{0, 1, 2, 9, 515, 16909060, 0x0102030405060708, 0xf1e2d3c4b5a69788, math.MaxUint64}
	for k := range 64 {
		x := uint64(1) << k
		l = append(l, x-1, x, x+1)
	}
	return l
}

// rowOf answers n bytes, each another one than its neighbours and none a nought.
func rowOf(n int) []byte {
	b := make([]byte, n)
	for i := range b {
		b[i] = byte(i%255 + 1)
	}
	return b
}

// powers are 256^0 to 256^7.
var powers = [8]uint64{1, 1 << 8, 1 << 16, 1 << 24, 1 << 32, 1 << 40, 1 << 48, 1 << 56}

// checkReader holds what a reader tells against what it ought to tell.
func checkReader(t *testing.T, what string, r *octet.Reader, left int, err api.Errno) {
	t.Helper()
	if r.Left() != left || r.Err() != err {
		t.Errorf("%s: Left %d, Err %d, not %d, %d", what, r.Left(), r.Err(), left, err)
	}
}

// P1.1: the row stands ahead, and the number's bytes behind it, as the document divides them.
func TestPutBytes(t *testing.T) {
	for _, p := range putters() {
		for _, b := range [][]byte{nil, {}, {9}, {0}, rowOf(7), rowOf(300)} {
			for _, x := range numbers() {
				want := bytes.Clone(b)
				for k := range p.width {
					want = append(want, byte(x/powers[p.width-1-k]%256))
				}
				if got := p.put(b, x); !bytes.Equal(got, want) {
					t.Errorf("%s(% x, %d): % x, not % x", p.name, b, x, got, want)
				}
			}
		}
	}
}

// P1.1: the rows that the document's examples and words name, written out.
func TestPutWrittenOut(t *testing.T) {
	for _, x := range []struct{ got, want []byte }{
		{octet.Put16(nil, 515), []byte{2, 3}},
		{octet.Put16([]byte{}, 0), []byte{0, 0}},
		{octet.Put16([]byte{7, 8}, 65535), []byte{7, 8, 255, 255}},
		{octet.Put32([]byte{9}, 1), []byte{9, 0, 0, 0, 1}},
		{octet.Put32(nil, 0x01020304), []byte{1, 2, 3, 4}},
		{octet.Put64(nil, 1<<56), []byte{1, 0, 0, 0, 0, 0, 0, 0}},
		{octet.Put64([]byte{0}, 0x0102030405060708), []byte{0, 1, 2, 3, 4, 5, 6, 7, 8}},
	} {
		if !bytes.Equal(x.got, x.want) {
			t.Errorf("% x, not % x", x.got, x.want)
		}
	}
}

// P1.1: neither the row nor the room behind its end is written to, and the answer is memory of its own.
func TestPutKeepsItsRow(t *testing.T) {
	for _, p := range putters() {
		room := rowOf(40)
		b := room[:5]
		first, second := p.put(b, 0x1111111111111111), p.put(b, 0x2222222222222222)
		if !bytes.Equal(room, rowOf(40)) {
			t.Errorf("%s wrote into what was handed in: % x", p.name, room)
		}
		if first[5] != 0x11 || second[5] != 0x22 {
			t.Errorf("%s: two answers share memory: % x, % x", p.name, first, second)
		}
		clear(first)
		if !bytes.Equal(room, rowOf(40)) || second[0] != 1 {
			t.Errorf("%s: the answer is no memory of its own", p.name)
		}
		full := rowOf(5)[:5:5]
		clear(p.put(full, 1))
		if !bytes.Equal(full, rowOf(5)) {
			t.Errorf("%s wrote into a row without room: % x", p.name, full)
		}
	}
}

// P1.2: as many bytes, and the same one at each place; what stands behind a row's end counts for nothing.
func TestEqual(t *testing.T) {
	for _, x := range []struct {
		a, b []byte
		want bool
	}{
		{nil, nil, true},
		{nil, []byte{}, true},
		{[]byte{}, nil, true},
		{[]byte{}, []byte{}, true},
		{[]byte{0}, nil, false},
		{nil, []byte{0}, false},
		{[]byte{0}, []byte{0, 0}, false},
		{[]byte{1, 2}, []byte{1}, false},
		{[]byte{1, 2, 3}, []byte{1, 2, 3}, true},
		{[]byte{1, 2, 3}, []byte{3, 2, 1}, false},
		{[]byte{1, 2, 3, 4}[:2], []byte{1, 2, 9}[:2], true},
		{[]byte{1, 2, 3}[:2], []byte{1, 2, 3}, false},
	} {
		if got := octet.Equal(x.a, x.b); got != x.want {
			t.Errorf("Equal(% x, % x): %t", x.a, x.b, got)
		}
	}
	for i := range 50 {
		a, b := rowOf(50), rowOf(50)
		if !octet.Equal(a, b) {
			t.Fatal("the same bytes are not equal")
		}
		for bit := range 8 {
			b[i] = a[i] ^ 1<<bit
			if octet.Equal(a, b) || octet.Equal(b, a) {
				t.Errorf("a difference at %d, bit %d, is not seen", i, bit)
			}
		}
	}
}

// P1.2: no byte but 0; what stands behind the row's end counts for nothing.
func TestZero(t *testing.T) {
	for _, b := range [][]byte{nil, {}, {0}, make([]byte, 100), []byte{0, 0, 1}[:2], []byte{5}[:0]} {
		if !octet.Zero(b) {
			t.Errorf("Zero(% x): false", b)
		}
	}
	for i := range 50 {
		for bit := range 8 {
			b := make([]byte, 50)
			b[i] = 1 << bit
			if octet.Zero(b) {
				t.Errorf("a %d at %d is not seen", b[i], i)
			}
		}
	}
	if octet.Zero([]byte{0, 1}) || octet.Zero([]byte{128}) {
		t.Error("a byte that is not 0 is not seen")
	}
}

// P1.3: a new reader has the row as its rest, its room not, and no error.
func TestRead(t *testing.T) {
	for _, b := range [][]byte{nil, {}, {0}, rowOf(9), rowOf(1000), rowOf(9)[:4], rowOf(9)[:0]} {
		r := octet.Read(b)
		checkReader(t, "a new one", r, len(b), api.OK)
		if got := r.Raw(len(b)); !bytes.Equal(got, b) {
			t.Errorf("the rest is % x, not % x", got, b)
		}
		checkReader(t, "at its end", r, 0, api.OK)
		if got := r.Raw(1); len(got) != 0 {
			t.Errorf("behind the end stands % x", got)
		}
		checkReader(t, "beyond its end", r, 0, api.ErrShort)
	}
}

// P1.3: a reader keeps nothing of what it is handed, and goes on by itself.
func TestReadKeepsNothing(t *testing.T) {
	b := rowOf(12)
	r, other := octet.Read(b), octet.Read(b)
	if r.U32() != 0x01020304 {
		t.Error("the first four bytes")
	}
	clear(b)
	if got := r.U32(); got != 0x05060708 {
		t.Errorf("a row that changed changed the reader: %x", got)
	}
	checkReader(t, "behind 8 bytes", r, 4, api.OK)
	checkReader(t, "one that took nothing", other, 12, api.OK)
	if got := other.Raw(12); !bytes.Equal(got, rowOf(12)) {
		t.Errorf("the other reader has % x", got)
	}
	if !octet.Zero(b) {
		t.Errorf("a reader changed its row: % x", b)
	}
}

// P1.3, P1.4: a nil reader tells noughts, nothing, and ErrNil, whatever was asked of it.
func TestNilReader(t *testing.T) {
	var r *octet.Reader
	for range 2 {
		checkReader(t, "nil", r, 0, api.ErrNil)
		for _, x := range takers() {
			if got := x.take(r); got != 0 {
				t.Errorf("%s of nil: %d", x.name, got)
			}
		}
		for _, n := range []int{math.MinInt, -1, 0, 1, math.MaxInt} {
			if got := r.Raw(n); len(got) != 0 {
				t.Errorf("Raw(%d) of nil: % x", n, got)
			}
		}
	}
}

// P1.4: of a rest that is long enough, just so or longer, the number of the first bytes leaves it.
func TestTakeNumbers(t *testing.T) {
	for _, x := range takers() {
		for more := range 4 {
			b := rowOf(x.width + more)
			var want uint64
			for k := range x.width {
				want += uint64(b[k]) * powers[x.width-1-k]
			}
			r := octet.Read(b)
			if got := x.take(r); got != want {
				t.Errorf("%s of % x: %x, not %x", x.name, b, got, want)
			}
			checkReader(t, x.name, r, more, api.OK)
			if got := r.Raw(more); !bytes.Equal(got, b[x.width:]) {
				t.Errorf("%s of % x leaves % x", x.name, b, got)
			}
		}
	}
}

// P1.4: of a rest that is too short, by one byte or more, nothing is taken.
func TestTakeNumbersShort(t *testing.T) {
	for _, x := range takers() {
		for n := range x.width {
			r := octet.Read(rowOf(n))
			if got := x.take(r); got != 0 {
				t.Errorf("%s of %d bytes: %d", x.name, n, got)
			}
			checkReader(t, x.name, r, n, api.ErrShort)
		}
	}
}

// P1.4: Raw takes just n bytes, none of 0, and the edges of n come to their errors.
func TestRaw(t *testing.T) {
	for _, x := range []struct {
		size, n int
		err     api.Errno
	}{
		{0, 0, api.OK},
		{6, 0, api.OK},
		{6, 1, api.OK},
		{6, 5, api.OK},
		{6, 6, api.OK},
		{6, 7, api.ErrShort},
		{0, 1, api.ErrShort},
		{6, math.MaxInt, api.ErrShort},
		{6, -1, api.ErrArg},
		{0, -1, api.ErrArg},
		{6, math.MinInt, api.ErrArg},
	} {
		b := rowOf(x.size)
		r := octet.Read(b)
		taken := 0
		if x.err == api.OK {
			taken = x.n
		}
		if got := r.Raw(x.n); !bytes.Equal(got, b[:taken]) {
			t.Errorf("Raw(%d) of %d bytes: % x", x.n, x.size, got)
		}
		checkReader(t, "Raw", r, x.size-taken, x.err)
	}
}

// P1.4: what Raw answers is memory of its own, whatever the caller does with it.
func TestRawIsNew(t *testing.T) {
	b := rowOf(9)
	r := octet.Read(b)
	none, first, second := r.Raw(0), r.Raw(3), r.Raw(3)
	_ = append(none, 99, 99, 99)
	_ = append(first, 99, 99, 99)
	clear(first)
	if !bytes.Equal(second, b[3:6]) {
		t.Errorf("two answers share memory: % x", second)
	}
	if got := r.Raw(3); !bytes.Equal(got, b[6:]) {
		t.Errorf("an answer that was changed changed the rest: % x", got)
	}
	if !bytes.Equal(b, rowOf(9)) {
		t.Errorf("an answer that was changed changed the row: % x", b)
	}
}

// P1.5: what was laid is taken off in its order, and then what stands behind it.
func TestThereAndBack(t *testing.T) {
	for _, x := range numbers() {
		b := octet.Put16(octet.Put64(octet.Put32(octet.Put16(nil, uint16(x)), uint32(x)), x), uint16(x))
		b = append(b, 1, 2, 3)
		r := octet.Read(b)
		if a, b, c, d := r.U16(), r.U32(), r.U64(), r.U16(); a != uint16(x) || b != uint32(x) || c != x || d != uint16(x) {
			t.Errorf("of %x came back %x, %x, %x, %x", x, a, b, c, d)
		}
		if got := r.Raw(r.Left()); !bytes.Equal(got, []byte{1, 2, 3}) {
			t.Errorf("behind the numbers stands % x", got)
		}
		checkReader(t, "at the end", r, 0, api.OK)
	}
	b := []byte{6, 7}
	for _, p := range putters() {
		r := octet.Read(p.put(b, 77))
		if got := r.Raw(2); !bytes.Equal(got, b) {
			t.Errorf("%s: ahead of the number stands % x", p.name, got)
		}
		for _, x := range takers() {
			if x.width == p.width {
				if got := x.take(r); got != 77 {
					t.Errorf("%s, then %s: %d", p.name, x.name, got)
				}
			}
		}
	}
}

// P1.5: to take n off, and then m, is to take off both together, as long as both are there.
func TestTakeBoth(t *testing.T) {
	for size := range 12 {
		for n := range size + 1 {
			for m := range size - n + 1 {
				apart, whole := octet.Read(rowOf(size)), octet.Read(rowOf(size))
				first, second := apart.Raw(n), apart.Raw(m)
				if got, want := whole.Raw(n+m), append(first, second...); !bytes.Equal(got, want) {
					t.Errorf("%d and %d of %d: % x, not % x", n, m, size, got, want)
				}
				checkReader(t, "both", apart, whole.Left(), whole.Err())
			}
		}
	}
}

// P1.5: a reader that has an error keeps it, and its rest, whatever is asked of it.
func TestErrorStays(t *testing.T) {
	for _, x := range []struct {
		n   int
		err api.Errno
	}{{-1, api.ErrArg}, {21, api.ErrShort}} {
		r := octet.Read(rowOf(20))
		r.Raw(x.n)
		checkReader(t, "at first", r, 20, x.err)
		for _, n := range []int{-1, 0, 1, 20, 21} {
			if got := r.Raw(n); len(got) != 0 {
				t.Errorf("Raw(%d) behind error %d: % x", n, x.err, got)
			}
			checkReader(t, "behind Raw", r, 20, x.err)
		}
		for _, y := range takers() {
			if got := y.take(r); got != 0 {
				t.Errorf("%s behind error %d: %d", y.name, x.err, got)
			}
			checkReader(t, y.name, r, 20, x.err)
		}
	}
}

// P1.5: of two numbers in as many bytes the greater one stands behind, byte by byte.
func TestOrder(t *testing.T) {
	for _, p := range putters() {
		most := uint64(math.MaxUint64) >> (64 - 8*p.width)
		for _, x := range numbers() {
			for _, y := range numbers() {
				if x > most || y > most {
					continue
				}
				if got := bytes.Compare(p.put(nil, x), p.put(nil, y)); got != cmp.Compare(x, y) {
					t.Errorf("%s: %d and %d compare as %d", p.name, x, y, got)
				}
			}
		}
	}
}
