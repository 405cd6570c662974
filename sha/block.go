package sha

import (
	"math/bits"

	"safehouse/octet"
)

// start is what the square roots of the first 8 primes have behind their points.
var start = [8]uint32{
	0x6a09e667, 0xbb67ae85, 0x3c6ef372, 0xa54ff53a, 0x510e527f, 0x9b05688c, 0x1f83d9ab, 0x5be0cd19,
}

// constants are what the cube roots of the first 64 primes have behind their points.
var constants = [64]uint32{
	0x428a2f98, 0x71374491, 0xb5c0fbcf, 0xe9b5dba5, 0x3956c25b, 0x59f111f1, 0x923f82a4, 0xab1c5ed5,
	0xd807aa98, 0x12835b01, 0x243185be, 0x550c7dc3, 0x72be5d74, 0x80deb1fe, 0x9bdc06a7, 0xc19bf174,
	0xe49b69c1, 0xefbe4786, 0x0fc19dc6, 0x240ca1cc, 0x2de92c6f, 0x4a7484aa, 0x5cb0a9dc, 0x76f988da,
	0x983e5152, 0xa831c66d, 0xb00327c8, 0xbf597fc7, 0xc6e00bf3, 0xd5a79147, 0x06ca6351, 0x14292967,
	0x27b70a85, 0x2e1b2138, 0x4d2c6dfc, 0x53380d13, 0x650a7354, 0x766a0abb, 0x81c2c92e, 0x92722c85,
	0xa2bfe8a1, 0xa81a664b, 0xc24b8b70, 0xc76c51a3, 0xd192e819, 0xd6990624, 0xf40e3585, 0x106aa070,
	0x19a4c116, 0x1e376c08, 0x2748774c, 0x34b0bcb5, 0x391c0cb3, 0x4ed8aa4a, 0x5b9cca4f, 0x682e6ff3,
	0x748f82ee, 0x78a5636f, 0x84c87814, 0x8cc70208, 0x90befffa, 0xa4506ceb, 0xbef9a3f7, 0xc67178f2,
}

// row is the eight numbers, a to h. It is gone round rather than moved: with each step every number's place is one further back.
type row [8]uint32

// words are the sixteen last words of a block: the t-th one stands in the place t modulo 16.
type words [16]uint32

// mix is what x gives: the ^ of x turned twice, and of a third number.
type mix struct {
	first, second int
	how           func(x uint32, n int) uint32
	third         int
}

// Constants answers the 64 constants.
func Constants() [64]uint32 {
	return constants
}

// Start answers the eight numbers that stand ahead of the first block.
func Start() [8]uint32 {
	return start
}

// Block answers the eight numbers h behind the block b.
func Block(h [8]uint32, b [64]byte) [8]uint32 {
	r, w := row(h), firstWords(b)
	for t := range len(constants) {
		r.step(t, constants[t]+w.word(t))
	}
	for k := range len(h) {
		h[k] += r[k]
	}
	return h
}

// firstWords are the numbers of a block's bytes, four and four.
func firstWords(b [64]byte) words {
	var w words
	rest := octet.Read(b[:])
	for t := range len(w) {
		w[t] = rest.U32()
	}
	return w
}

// word answers the t-th word. Behind the first sixteen each one takes the place of the one sixteen ahead, which it needs and none further on does.
func (w *words) word(t int) uint32 {
	if t >= len(w) {
		w[t&15] += small1().of(w[(t-2)&15]) + w[(t-7)&15] + small0().of(w[(t-15)&15])
	}
	return w[t&15]
}

// step is the t-th step, x being the sum of its constant and its word. The new a stands where h stood.
func (r *row) step(t int, x uint32) {
	a, b, c := r[place(0, t)], r[place(1, t)], r[place(2, t)]
	e, f, g := r[place(4, t)], r[place(5, t)], r[place(6, t)]
	s := r[place(7, t)] + big1().of(e) + pick(e, f, g) + x
	r[place(3, t)] += s
	r[place(7, t)] = s + big0().of(a) + most(a, b, c)
}

// place tells where the k-th of the eight numbers stands ahead of the t-th step. Behind 64 steps each one is in its own place again.
func place(k, t int) int {
	return (k - t) & 7
}

// of answers the mix of x. It does not call turn, as it would then be too great to be put where it is called, and signing takes many thousand digests.
func (m mix) of(x uint32) uint32 {
	return bits.RotateLeft32(x, -m.first) ^ bits.RotateLeft32(x, -m.second) ^ m.how(x, m.third)
}

func small0() mix { return mix{7, 18, push, 3} }

func small1() mix { return mix{17, 19, push, 10} }

func big0() mix { return mix{2, 13, turn, 22} }

func big1() mix { return mix{6, 11, turn, 25} }

// turn answers x turned by n.
func turn(x uint32, n int) uint32 {
	return bits.RotateLeft32(x, -n)
}

// push answers x pushed by n.
func push(x uint32, n int) uint32 {
	return x >> n
}

// pick answers, bit by bit, f's where e's is 1, g's where it is 0.
func pick(e, f, g uint32) uint32 {
	return e&f | ^e&g
}

// most answers, bit by bit, what two of them have, at least.
func most(a, b, c uint32) uint32 {
	return a&b | a&c | b&c
}
