package merkle_test

import (
	"bytes"
	"fmt"
	"slices"
	"testing"

	"safehouse/api"
	"safehouse/merkle"
)

// P8.4: the bytes of signatures, place by place.
func TestEncode(t *testing.T) {
	for leaf := range 8 {
		s := junk(leaf)
		b := encoded(t, s)
		if len(b) != 2241 || int(b[0]) != leaf {
			t.Fatalf("the leaf %d: %d bytes, the first one %d", leaf, len(b), b[0])
		}
		for k, x := range b[1:] {
			var want byte
			if k < 67*32 {
				want = s.Chains[k/32][k%32]
			} else {
				want = s.Path[k/32-67][k%32]
			}
			if x != want {
				t.Errorf("the leaf %d: the byte %d is %d, not %d", leaf, k+1, x, want)
			}
		}
		if !bytes.Equal(b, modelBytes(s)) {
			t.Errorf("the leaf %d has other bytes", leaf)
		}
	}
}

// P8.4: the bytes of what a seed has signed, of noughts and of 255.
func TestEncodeOthers(t *testing.T) {
	for leaf := range 8 {
		for _, s := range []api.Signed{
			modelSign(mixed(), rising(), leaf),
			{Leaf: leaf, Chains: make([]api.Id, 67), Path: make([]api.Id, 3)},
			{Leaf: leaf, Chains: slices.Repeat([]api.Id{filled(255)}, 67), Path: make([]api.Id, 3)},
			{Leaf: leaf, Chains: make([]api.Id, 67), Path: slices.Repeat([]api.Id{filled(255)}, 3)},
		} {
			if !bytes.Equal(encoded(t, s), modelBytes(s)) {
				t.Errorf("the leaf %d has other bytes", leaf)
			}
		}
	}
}

// P8.4: what may not be has no bytes, be one thing wrong or several.
func TestEncodeWhatMayNotBe(t *testing.T) {
	many := unlike(1000)
	check := func(leaf, chains, path int) {
		t.Helper()
		b, err := merkle.Encode(api.Signed{Leaf: leaf, Chains: many[:chains], Path: many[100 : 100+path]})
		if err != api.ErrArg || len(b) != 0 {
			t.Errorf("the leaf %d, %d chains and a path of %d: %d bytes with the error %d", leaf, chains, path, len(b), err)
		}
	}
	for _, leaf := range noLeaves() {
		check(leaf, 67, 3)
		check(leaf, 66, 4)
		check(leaf, 0, 0)
		check(leaf, 67, 2)
		check(leaf, 68, 3)
	}
	for leaf := range 8 {
		for _, chains := range []int{0, 1, 2, 3, 65, 66, 68, 69, 70, 134, 1000} {
			check(leaf, chains, 3)
			check(leaf, chains, 0)
			if chains < 70 {
				check(leaf, chains, 70-chains) // as many in all as there should be
			}
		}
		for _, path := range []int{0, 1, 2, 4, 5, 6, 67, 900} {
			check(leaf, 67, path)
		}
	}
	b, err := merkle.Encode(api.Signed{})
	if err != api.ErrArg || len(b) != 0 {
		t.Errorf("of no signature: %d bytes with the error %d", len(b), err)
	}
	b, err = merkle.Encode(api.Signed{Leaf: 3, Chains: []api.Id{}, Path: []api.Id{}})
	if err != api.ErrArg || len(b) != 0 {
		t.Errorf("of empty lists: %d bytes with the error %d", len(b), err)
	}
}

// bytesOf answers that many bytes whose first one is that.
func bytesOf(count int, first byte) []byte {
	b := make([]byte, count)
	for k := range b {
		b[k] = byte(7*k + k>>8)
	}
	if count > 0 {
		b[0] = first
	}
	return b
}

// P8.4: a signature of bytes, digest by digest.
func TestDecode(t *testing.T) {
	for leaf := range 8 {
		b := bytesOf(2241, byte(leaf))
		s := decoded(t, b)
		if s.Leaf != leaf || len(s.Chains) != 67 || len(s.Path) != 3 {
			t.Fatalf("the leaf %d with %d chains and a path of %d, not %d", s.Leaf, len(s.Chains), len(s.Path), leaf)
		}
		for k, x := range slices.Concat(s.Chains, s.Path) {
			if !bytes.Equal(x[:], b[1+32*k:33+32*k]) {
				t.Errorf("the leaf %d: the digest %d is %x", leaf, k, x)
			}
		}
	}
}

// P8.4: fewer bytes, and more, whether their Leaf is one or not: fewer goes ahead.
func TestDecodeLengths(t *testing.T) {
	for _, first := range []byte{0, 3, 7, 8, 9, 128, 255} {
		for _, n := range []int{0, 1, 2, 3, 31, 32, 33, 2144, 2145, 2146, 2208, 2209, 2238, 2239, 2240} {
			b := append(bytesOf(n, first), bytesOf(3000, 0)...)
			s, err := merkle.Decode(b[:n])
			checkNoSigned(t, fmt.Sprintf("%d bytes, the first one %d", n, first), s, err, api.ErrShort)
		}
		for _, n := range []int{2242, 2243, 2244, 2272, 2273, 2274, 4482, 1 << 16} {
			s, err := merkle.Decode(bytesOf(n, first))
			checkNoSigned(t, fmt.Sprintf("%d bytes, the first one %d", n, first), s, err, api.ErrArg)
		}
	}
	s, err := merkle.Decode(nil)
	checkNoSigned(t, "no bytes", s, err, api.ErrShort)
}

// P8.4: each first byte of enough bytes: those from 8 on are no leaf.
func TestDecodeLeaves(t *testing.T) {
	for first := range 256 {
		s, err := merkle.Decode(bytesOf(2241, byte(first)))
		if first >= 8 {
			checkNoSigned(t, fmt.Sprintf("the leaf %d", first), s, err, api.ErrArg)
		} else if err != api.OK || s.Leaf != first {
			t.Errorf("the leaf %d: %d with the error %d", first, s.Leaf, err)
		}
	}
}

// P8.4: Encode of Decode are the bytes, whichever they are.
func TestEncodeOfDecode(t *testing.T) {
	for leaf := range 8 {
		for _, b := range [][]byte{bytesOf(2241, byte(leaf)), append([]byte{byte(leaf)}, make([]byte, 2240)...), append([]byte{byte(leaf)}, bytes.Repeat([]byte{255}, 2240)...)} {
			if !bytes.Equal(encoded(t, decoded(t, b)), b) {
				t.Errorf("the leaf %d: other bytes", leaf)
			}
		}
	}
}

// P8.4: each byte stands in the signature, and comes back.
func TestEachByteCounts(t *testing.T) {
	b := bytesOf(2241, 2)
	s := decoded(t, b)
	for k := range b {
		b[k] ^= 1
		other := decoded(t, b)
		if same(other, s) {
			t.Errorf("the byte %d does not count", k)
		}
		if !bytes.Equal(encoded(t, other), b) {
			t.Errorf("the byte %d does not come back", k)
		}
		b[k] ^= 1
	}
}

// R3, P8.4: what is handed in stays as it is, the room behind its end, too, and what is done to it later changes no answer.
func TestBytesAreNotKept(t *testing.T) {
	room := append(bytesOf(2241, 6), bytesOf(100, 1)...)
	before := bytes.Clone(room)
	s := decoded(t, room[:2241])
	if !bytes.Equal(room, before) {
		t.Error("the bytes that were handed in are changed")
	}
	clear(room)
	if !bytes.Equal(modelBytes(s), before[:2241]) {
		t.Error("the bytes that were handed in are kept")
	}
	chains, path := unlike(80), unlike(80)
	b := encoded(t, api.Signed{Leaf: 6, Chains: chains[:67], Path: path[:3]})
	if !slices.Equal(chains, unlike(80)) || !slices.Equal(path, unlike(80)) {
		t.Error("the signature that was handed in is changed")
	}
	clear(chains)
	clear(path)
	if !bytes.Equal(b, modelBytes(api.Signed{Leaf: 6, Chains: unlike(67), Path: unlike(3)})) {
		t.Error("the signature that was handed in is kept")
	}
}

// R3, P8.4: what is answered is memory of its own, and so is each list of it.
func TestBytesAreOwn(t *testing.T) {
	b := bytesOf(2241, 6)
	first, second := decoded(t, b), decoded(t, b)
	_ = append(first.Chains, unlike(9)...)
	if !same(first, second) {
		t.Error("the Path stands behind the Chains")
	}
	_ = append(first.Path, unlike(70)...)
	if !same(first, second) || !bytes.Equal(b, bytesOf(2241, 6)) {
		t.Error("the Chains, or the bytes, stand behind the Path")
	}
	clear(first.Chains)
	clear(first.Path)
	if !bytes.Equal(modelBytes(second), b) || !bytes.Equal(b, bytesOf(2241, 6)) {
		t.Error("a signature is not in memory of its own")
	}
	one, two := encoded(t, second), encoded(t, second)
	_ = append(one, b...)
	clear(one)
	if !bytes.Equal(two, b) || !bytes.Equal(modelBytes(second), b) {
		t.Error("bytes are not in memory of their own")
	}
}
