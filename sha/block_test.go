package sha_test

import (
	"testing"

	"safehouse/sha"
)

// allOnes is the number that has 32 ones.
const allOnes = 1<<32 - 1

// long is a whole number without bounds: digits of 16 bits, the lowest one first.
type long [16]uint64

// power answers x to the n: no library is asked, as the constants are held against it.
func power(x uint64, n int) long {
	r := long{1}
	for range n {
		r = r.times(long{x & 0xffff, x >> 16 & 0xffff, x >> 32 & 0xffff, x >> 48})
	}
	return r
}

// times answers a times b.
func (a long) times(b long) long {
	var r long
	for i := range a {
		var over uint64
		for j := 0; i+j < len(r); j++ {
			sum := r[i+j] + a[i]*b[j] + over
			r[i+j], over = sum&0xffff, sum>>16
		}
	}
	return r
}

// above tells whether a is greater than b.
func (a long) above(b long) bool {
	for i := len(a) - 1; i >= 0; i-- {
		if a[i] != b[i] {
			return a[i] > b[i]
		}
	}
	return false
}

// rootDigits answers the whole number below the n-th root of p times 2^32, modulo 2^32.
func rootDigits(p uint64, n int) uint32 {
	// The n-th power of the root times 2^32 is p times 2^(32 n).
	bound := power(1<<32, n).times(long{p})
	var root uint64
	for bit := 36; bit >= 0; bit-- {
		if more := root | 1<<bit; !power(more, n).above(bound) {
			root = more
		}
	}
	return uint32(root)
}

// primes are the first n of them.
func primes(n int) []uint64 {
	var l []uint64
next:
	for p := uint64(2); len(l) < n; p++ {
		for _, q := range l {
			if p%q == 0 {
				continue next
			}
		}
		l = append(l, p)
	}
	return l
}

// P3.1: the eight numbers of the start are the digits of the square roots of the first eight primes.
func TestStart(t *testing.T) {
	for k, p := range primes(8) {
		if got, want := sha.Start()[k], rootDigits(p, 2); got != want {
			t.Errorf("the number %d of the start: %08x, not %08x", k, got, want)
		}
	}
}

// P3.1: the 64 constants are the digits of the cube roots of the first 64 primes.
func TestConstants(t *testing.T) {
	for k, p := range primes(64) {
		if got, want := sha.Constants()[k], rootDigits(p, 3); got != want {
			t.Errorf("the constant %d: %08x, not %08x", k, got, want)
		}
	}
}

// P3.1: those that the document's examples name, and some known from elsewhere.
func TestNumbersWrittenOut(t *testing.T) {
	start, constants := sha.Start(), sha.Constants()
	for _, x := range []struct {
		what      string
		got, want uint32
	}{
		{"the start's first", start[0], 0x6a09e667},
		{"the start's last", start[7], 0x5be0cd19},
		{"the first constant", constants[0], 0x428a2f98},
		{"the constant 18", constants[18], 0x0fc19dc6},
		{"the last constant", constants[63], 0xc67178f2},
	} {
		if x.got != x.want {
			t.Errorf("%s: %08x, not %08x", x.what, x.got, x.want)
		}
	}
}

// P3.1: who changes what was answered changes neither what is answered next nor a digest.
func TestNumbersStay(t *testing.T) {
	start, constants, empty := sha.Start(), sha.Constants(), sha.Sum(nil)
	otherStart, otherConstants := sha.Start(), sha.Constants()
	clear(otherStart[:])
	clear(otherConstants[:])
	if sha.Start() != start || sha.Constants() != constants || sha.Sum(nil) != empty {
		t.Error("what was answered is what is kept")
	}
}

// turned answers x turned by n, bit by bit: the bit at each place goes n places down.
func turned(x uint32, n int) uint32 {
	var r uint32
	for place := range 32 {
		if x>>place&1 == 1 {
			r |= 1 << ((place + 32 - n) % 32)
		}
	}
	return r
}

// pushed answers x pushed by n, bit by bit.
func pushed(x uint32, n int) uint32 {
	var r uint32
	for place := n; place < 32; place++ {
		if x>>place&1 == 1 {
			r |= 1 << (place - n)
		}
	}
	return r
}

// modelWords are all 64 words of a block.
func modelWords(b [64]byte) [64]uint32 {
	var w [64]uint32
	for t := range w {
		if t < 16 {
			for _, x := range b[4*t : 4*t+4] {
				w[t] = w[t]*256 + uint32(x)
			}
			continue
		}
		small0 := turned(w[t-15], 7) ^ turned(w[t-15], 18) ^ pushed(w[t-15], 3)
		small1 := turned(w[t-2], 17) ^ turned(w[t-2], 19) ^ pushed(w[t-2], 10)
		w[t] = small1 + w[t-7] + small0 + w[t-16]
	}
	return w
}

// modelBlock is what the chapter says of eight numbers behind a block: each step makes a new row.
func modelBlock(h [8]uint32, b [64]byte) [8]uint32 {
	row, w, constants := h, modelWords(b), sha.Constants()
	for t := range 64 {
		a, b, c, d, e, f, g, last := row[0], row[1], row[2], row[3], row[4], row[5], row[6], row[7]
		var pick, two uint32
		for k := range 32 {
			bit := uint32(1) << k
			if e&bit != 0 {
				pick |= f & bit
			} else {
				pick |= g & bit
			}
			if a>>k&1+b>>k&1+c>>k&1 >= 2 {
				two |= bit
			}
		}
		s := last + (turned(e, 6) ^ turned(e, 11) ^ turned(e, 25)) + pick + constants[t] + w[t]
		first := s + (turned(a, 2) ^ turned(a, 13) ^ turned(a, 22)) + two
		row = [8]uint32{first, a, b, c, d + s, e, f, g}
	}
	for k := range row {
		row[k] += h[k]
	}
	return row
}

// filledBlock answers a block that has x everywhere.
func filledBlock(x byte) [64]byte {
	var b [64]byte
	for i := range b {
		b[i] = x
	}
	return b
}

// filledRow answers eight numbers, each of which is x.
func filledRow(x uint32) [8]uint32 { return [8]uint32{x, x, x, x, x, x, x, x} }

// P3.2: blocks of noughts and of bytes 255, behind the start and behind other numbers, as they are known from elsewhere.
func TestBlockWrittenOut(t *testing.T) {
	start, others := sha.Start(), [8]uint32{1, 2, 3, 4, 5, 6, 7, 8}
	for _, x := range []struct {
		what string
		h    [8]uint32
		b    [64]byte
		want [8]uint32
	}{
		{"start, noughts", start, filledBlock(0), [8]uint32{0xda5698be, 0x17b9b469, 0x62335799, 0x779fbeca, 0x8ce5d491, 0xc0d26243, 0xbafef9ea, 0x1837a9d8}},
		{"start, 255", start, filledBlock(255), [8]uint32{0xef0c748d, 0xf4da50a8, 0xd6c43c01, 0x3edc3ce7, 0x6c9d9fa9, 0xa1458ade, 0x56eb86c0, 0xa64492d2}},
		{"noughts, noughts", filledRow(0), filledBlock(0), [8]uint32{0x7ca51614, 0x425c3ba8, 0xce54dd2f, 0xc2020ae7, 0xb6e574d1, 0x98136d0f, 0xae7e26cc, 0xbf0be7a6}},
		{"noughts, 255", filledRow(0), filledBlock(255), [8]uint32{0x5081b30e, 0xfa9924a2, 0x8412d8aa, 0x28bb0c93, 0xda147a5a, 0xd8e1f92b, 0x5af1210d, 0x57081603}},
		{"ones, noughts", filledRow(allOnes), filledBlock(0), [8]uint32{0x25260809, 0x56c94ba8, 0xe7d6dd48, 0x222df1d3, 0xf914c4b0, 0xb823beb6, 0xe8cebb7a, 0xddcdff59}},
		{"ones, 255", filledRow(allOnes), filledBlock(255), [8]uint32{0x0598127a, 0xaf11706e, 0x77401fff, 0xd730c549, 0x0b84c867, 0xa98c6ca3, 0xd7f3c0f9, 0x06a78b79}},
		{"others, noughts", others, filledBlock(0), [8]uint32{0x4a9f3be3, 0xa6e79e2c, 0x78963890, 0x9cc3da78, 0xe45ed876, 0xbb41d7ff, 0xb1c295a9, 0x971fae0d}},
		{"others, 255", others, filledBlock(255), [8]uint32{0x8a75dde1, 0x1e6d6f0b, 0x0bb2e984, 0xbb87ed43, 0x6273bf60, 0xf4f1a6d2, 0xc191d7bf, 0x497b6457}},
	} {
		if got := sha.Block(x.h, x.b); got != x.want {
			t.Errorf("%s: %08x, not %08x", x.what, got, x.want)
		}
	}
}

// checkBlock holds what comes of h and b against what the chapter's words say.
func checkBlock(t *testing.T, h [8]uint32, b [64]byte) {
	t.Helper()
	if got, want := sha.Block(h, b), modelBlock(h, b); got != want {
		t.Errorf("%08x behind % x: %08x, not %08x", h, b, got, want)
	}
}

// P3.2: each bit of a block and of the eight numbers counts, as the chapter says.
func TestBlockBits(t *testing.T) {
	for bit := range 512 {
		b := filledBlock(0)
		b[bit/8] = 1 << (bit % 8)
		checkBlock(t, sha.Start(), b)
	}
	for bit := range 256 {
		h := filledRow(0)
		h[bit/32] = 1 << (bit % 32)
		checkBlock(t, h, filledBlock(0))
	}
}

// P3.2: blocks and numbers that a fixed rule picks.
func TestBlockModel(t *testing.T) {
	seed := uint32(1)
	next := func() uint32 {
		seed = seed*1664525 + 1013904223
		return seed ^ seed>>16
	}
	for range 300 {
		var h [8]uint32
		var b [64]byte
		for k := range h {
			h[k] = next()
		}
		for k := range b {
			b[k] = byte(next() >> 8)
		}
		checkBlock(t, h, b)
	}
}
