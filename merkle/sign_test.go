package merkle_test

import (
	"fmt"
	"slices"
	"testing"

	"safehouse/api"
	"safehouse/merkle"
	"safehouse/sha"
	"safehouse/wots"
)

// P8.3: a signature by each leaf: its Leaf, its Chains of the leaf's seed, its Path.
func TestSign(t *testing.T) {
	for _, seed := range []api.Id{filled(0), rising(), mixed()} {
		for leaf := range 8 {
			for _, m := range []api.Id{filled(0), filled(255), turned(mixed(), leaf)} {
				s, want := signed(t, seed, m, leaf), modelSign(seed, m, leaf)
				if s.Leaf != leaf || len(s.Chains) != 67 || len(s.Path) != 3 {
					t.Fatalf("the leaf %d signs as the leaf %d with %d digests and %d", leaf, s.Leaf, len(s.Chains), len(s.Path))
				}
				if !slices.Equal(s.Chains, want.Chains) {
					t.Errorf("the leaf %d of %x shows other chains of %x", leaf, seed, m)
				}
				if !slices.Equal(s.Path, want.Path) || !slices.Equal(s.Path, pathOf(t, seed, leaf)) {
					t.Errorf("the leaf %d of %x shows another path", leaf, seed)
				}
			}
		}
	}
}

// P8.3: signatures as another program has reckoned them: digests of their bytes.
func TestSignsWrittenOut(t *testing.T) {
	for _, q := range []struct {
		seed api.Id
		leaf int
		of   [4]string // of noughts, of 255, of rising bytes and of mixed ones
	}{
		{rising(), 0, [4]string{
			"0b5f9014ffe30e83ea9bc62a2ab2ef2c3d5d17e4e6208566951c3498caac075a",
			"a3462169a359e875a1411a3fcf616a2136606033cbb31211c81844d69735e887",
			"fcaab78dc58355c592b7c7d196babbdb53dadfbee1415e4ba26a980ef70a40d0",
			"8acd1948451d3f4cccb5cf33fd6ed3b9760c6d21d35d38683981856bbcfac740",
		}},
		{rising(), 5, [4]string{
			"3e3fd548607b8fe03b8c808d72ea23a76a2c964125012795edba1b8a09b2ce1a",
			"210d6f3df1e9d76e205c28b4825b689c497e7534e1717ad5db20cd70f8dee20e",
			"513e1cd6bc1b99c8b690c558f5b45e3e062eb120d6ca100ff4efb4cd136ea1e0",
			"ef2fb5ca0ce348ffa1b092aa07a42fea15301e57a707c9c5ce8d1a402775039a",
		}},
		{rising(), 7, [4]string{
			"9bdeef69995651ed5e48c35caa87e3b101d61249161da92107cc2d6e40bc4a2d",
			"97b63f0db9646dbf69fda4a9cc3835745291296127b841abd467d85f4a9e4ea1",
			"5e7b4069919c04268c32a28508d1fad4ad35e84c6275bd42933cd55a42bfe6e4",
			"e04811242a9aa58ef2235664643635bd1ddcf8b54f18d317dd06c54d32632ada",
		}},
		{mixed(), 0, [4]string{
			"e8e0279785e96106c3a00285adfb997b8c67194abefefa4016a7bb1fa685baf6",
			"efae5f793715442b01cd3461ecfb307961d0b56848c28826d8d53e6c3962d558",
			"0aa2d22af11c755716bf1f8cf205987388d5039a52f0023a466a1f74eca38f8a",
			"317acadc1a45a8e1a837cb911da7e1eb2ce518c26f9fb3985817dfb07826a811",
		}},
		{mixed(), 5, [4]string{
			"f263be0b2e86b40a7efc823a8e6c52704d821828b2de2c07926a56073584c1a5",
			"f958e9dbb93c9dec25c8ddae71ea593134f9401513029e44d7cfeda0dad9fb50",
			"248baee998855ad392d7fef28543ed3a7a7b4c61d865b3f7acd2b7d2b240b34d",
			"0784c144a06fe7db4dbebfacfab667e4aacc29018deb514397925c4ea5534542",
		}},
		{mixed(), 7, [4]string{
			"367044186f93eaaf4ab1d1f7a0dede4e532517ea27cfde245273c7b7df50a954",
			"2cb41f212c311012ce56fdeee93c59f7cc5fdd155a1479ae2be2fbc98d301999",
			"bba2969447c82e7d4a7c3866dc32b9cf59052dfd097304b991be1fde232932e5",
			"f40485ed26cf74b16e449ba5f0fa493cabb04948a14d85cdcc49f7be3868ec95",
		}},
	} {
		for k, m := range []api.Id{filled(0), filled(255), rising(), mixed()} {
			b := encoded(t, signed(t, q.seed, m, q.leaf))
			if got := sha.Sum(b); got != idOf(t, q.of[k]) {
				t.Errorf("what the leaf %d of %x signs of %x: %x", q.leaf, q.seed, m, got)
			}
		}
	}
}

// P8.3: what is no leaf does not sign.
func TestSignByNoLeaf(t *testing.T) {
	for _, seed := range []api.Id{filled(0), mixed()} {
		for _, leaf := range noLeaves() {
			s, err := merkle.Sign(seed, rising(), leaf)
			checkNoSigned(t, fmt.Sprintf("what the leaf %d signs", leaf), s, err, api.ErrArg)
		}
	}
}

// rootOf answers what s leads to and climbs to, as a signature of m.
func rootOf(t *testing.T, m api.Id, s api.Signed) api.Id {
	t.Helper()
	key, err := wots.Recover(m, s.Chains)
	if err != api.OK {
		t.Fatalf("%d chains lead nowhere: error %d", len(s.Chains), err)
	}
	return modelClimb(key, s.Leaf, s.Path)
}

// P8.3: a signature by a leaf is verified, of no other root, and of no other digest.
func TestVerify(t *testing.T) {
	seed, m := rising(), mixed()
	root := merkle.Root(seed)
	for leaf := range 8 {
		s := signed(t, seed, m, leaf)
		if !merkle.Verify(root, m, s) {
			t.Errorf("what the leaf %d signs is not verified", leaf)
		}
		for _, other := range append(ids(), turned(root, 0), turned(root, 255), wots.Key(modelSeed(seed, leaf)), s.Path[0], s.Path[2]) {
			if merkle.Verify(other, m, s) {
				t.Errorf("the leaf %d: verified, of the root %x", leaf, other)
			}
			if other != m && merkle.Verify(root, other, s) {
				t.Errorf("the leaf %d: verified, of the digest %x", leaf, other)
			}
		}
	}
}

// P8.3: each bit of the root, and of the digest, counts.
func TestVerifyBits(t *testing.T) {
	seed, m := rising(), mixed()
	root, s := merkle.Root(seed), signed(t, seed, m, 6)
	for bit := range 256 {
		if merkle.Verify(turned(root, bit), m, s) {
			t.Errorf("verified, of a root whose bit %d is turned", bit)
		}
		if merkle.Verify(root, turned(m, bit), s) {
			t.Errorf("verified, of a digest whose bit %d is turned", bit)
		}
	}
}

// P8.3: whatever leads to a root by its Chains and its Path is verified, though no seed has signed it.
func TestVerifyJunk(t *testing.T) {
	for leaf := range 8 {
		for _, m := range ids() {
			for _, s := range []api.Signed{junk(leaf), {Leaf: leaf, Chains: make([]api.Id, 67), Path: make([]api.Id, 3)}} {
				root := rootOf(t, m, s)
				if !merkle.Verify(root, m, s) {
					t.Errorf("what leads to a root by the leaf %d is not verified", leaf)
				}
				if merkle.Verify(api.Id{}, m, s) || merkle.Verify(turned(root, 100), m, s) {
					t.Errorf("the leaf %d: verified, of another root", leaf)
				}
			}
		}
	}
}

// P8.3: another seed's signature, and another seed's root.
func TestVerifyOtherSeed(t *testing.T) {
	seed, m := rising(), mixed()
	root, s := merkle.Root(seed), signed(t, seed, m, 2)
	for _, other := range append(seeds(), turned(seed, 0), turned(seed, 255)) {
		if other != seed && (merkle.Verify(merkle.Root(other), m, s) || merkle.Verify(root, m, signed(t, other, m, 2))) {
			t.Errorf("the seed %x is taken for another one", other)
		}
	}
}

// P8.3: a signature of which one chain is turned, at its first bit, at its last one, and on the way.
func TestVerifyOneChainTurned(t *testing.T) {
	seed, m := rising(), mixed()
	root, s := merkle.Root(seed), signed(t, seed, m, 3)
	for chain := range s.Chains {
		for _, bit := range []int{0, 3*chain + 7, 255} {
			other := clone(s)
			other.Chains[chain] = turned(other.Chains[chain], bit)
			if merkle.Verify(root, m, other) {
				t.Errorf("verified, with the bit %d of the chain %d turned", bit, chain)
			}
		}
		other := clone(s)
		next := (chain + 1) % 67
		other.Chains[chain], other.Chains[next] = other.Chains[next], other.Chains[chain]
		if merkle.Verify(root, m, other) {
			t.Errorf("verified, with the chains %d and %d changed for one another", chain, next)
		}
	}
}

// P8.3: a signature of which one digest of the Path is turned, at each bit, or two are changed for one another.
func TestVerifyPathTurned(t *testing.T) {
	seed, m := rising(), mixed()
	root := merkle.Root(seed)
	for leaf := range 8 {
		s := signed(t, seed, m, leaf)
		for k := range s.Path {
			for _, bit := range []int{0, 1, 7, 8, 100 + leaf, 247, 254, 255} {
				other := clone(s)
				other.Path[k] = turned(other.Path[k], bit)
				if merkle.Verify(root, m, other) {
					t.Errorf("the leaf %d: verified, with the bit %d of the digest %d turned", leaf, bit, k)
				}
			}
			other := clone(s)
			next := (k + 1) % 3
			other.Path[k], other.Path[next] = other.Path[next], other.Path[k]
			if merkle.Verify(root, m, other) {
				t.Errorf("the leaf %d: verified, with the digests %d and %d changed for one another", leaf, k, next)
			}
		}
	}
}

// P8.3: a signature that says that another leaf has signed, or what is none: those with the same last bits, too.
func TestVerifyOtherLeaf(t *testing.T) {
	seed, m := rising(), mixed()
	root := merkle.Root(seed)
	for leaf := range 8 {
		s := signed(t, seed, m, leaf)
		others := append(noLeaves(), 0, 1, 2, 3, 4, 5, 6, 7, leaf+8, leaf-8, leaf+16, leaf+256, leaf-256, leaf+1<<32, ^leaf, -leaf)
		for _, other := range others {
			s.Leaf = other
			if other != leaf && merkle.Verify(root, m, s) {
				t.Errorf("what the leaf %d signs is verified as the leaf %d's", leaf, other)
			}
		}
	}
}

// P8.3: what is no leaf is not verified, whatever root it would climb to.
func TestVerifyNoLeaf(t *testing.T) {
	m := mixed()
	for _, leaf := range noLeaves() {
		s := junk(leaf)
		for low := range 8 {
			s.Leaf = low
			root := rootOf(t, m, s)
			s.Leaf = leaf
			if merkle.Verify(root, m, s) {
				t.Errorf("the leaf %d is verified as the leaf %d", leaf, low)
			}
		}
		if merkle.Verify(api.Id{}, m, s) {
			t.Errorf("the leaf %d is verified, of the root of noughts", leaf)
		}
	}
}

// P8.3: Chains that are not just 67: neither does the room behind their end count, nor does what they do not lead to.
func TestVerifyChainsLengths(t *testing.T) {
	seed, m := rising(), mixed()
	root, s := merkle.Root(seed), signed(t, seed, m, 4)
	many := slices.Concat(s.Chains, s.Chains, unlike(70))
	for _, n := range []int{0, 1, 2, 3, 64, 65, 66, 68, 69, 134, 204} {
		other := api.Signed{Leaf: 4, Chains: many[:n], Path: s.Path}
		if merkle.Verify(root, m, other) || merkle.Verify(api.Id{}, m, other) || merkle.Verify(modelClimb(api.Id{}, 4, s.Path), m, other) {
			t.Errorf("%d chains are verified", n)
		}
	}
	if merkle.Verify(root, m, api.Signed{Leaf: 4, Path: s.Path}) || merkle.Verify(root, m, api.Signed{}) || merkle.Verify(api.Id{}, api.Id{}, api.Signed{}) {
		t.Error("no chains are verified")
	}
	if !merkle.Verify(root, m, api.Signed{Leaf: 4, Chains: many[:67], Path: s.Path}) {
		t.Error("the first 67 of many are not verified")
	}
}

// reached answers what s leads to, as a signature of m, by a path of whatever length.
func reached(t *testing.T, m api.Id, s api.Signed, path []api.Id) api.Id {
	t.Helper()
	there, err := wots.Recover(m, s.Chains)
	if err != api.OK {
		t.Fatalf("%d chains lead nowhere: error %d", len(s.Chains), err)
	}
	for k, other := range path {
		if s.Leaf>>k%2 == 1 {
			there = modelJoin(other, there)
		} else {
			there = modelJoin(there, other)
		}
	}
	return there
}

// P8.3: a Path that has not just three digests is not verified, not even of what it leads to.
func TestVerifyPathLengths(t *testing.T) {
	seed, m := rising(), mixed()
	root := merkle.Root(seed)
	for leaf := range 8 {
		s := signed(t, seed, m, leaf)
		many := slices.Concat(s.Path, s.Path, unlike(8))
		for _, n := range []int{0, 1, 2, 4, 5, 6, 14} {
			other := api.Signed{Leaf: leaf, Chains: s.Chains, Path: many[:n]}
			if merkle.Verify(root, m, other) || merkle.Verify(reached(t, m, s, many[:n]), m, other) || merkle.Verify(api.Id{}, m, other) {
				t.Errorf("the leaf %d: a path of %d is verified", leaf, n)
			}
		}
		if !merkle.Verify(reached(t, m, s, many[:3]), m, api.Signed{Leaf: leaf, Chains: s.Chains, Path: many[:3]}) {
			t.Errorf("the leaf %d: the first three of many are not verified", leaf)
		}
	}
}

// R3, P8.3: a signature that is handed in stays as it is, the room behind its lists, too, and what is done to it later changes no answer.
func TestVerifyKeepsNothing(t *testing.T) {
	seed, m := rising(), mixed()
	root, s := merkle.Root(seed), signed(t, seed, m, 1)
	chains, path := slices.Concat(s.Chains, unlike(9)), slices.Concat(s.Path, unlike(9))
	wantChains, wantPath := slices.Clone(chains), slices.Clone(path)
	other := api.Signed{Leaf: 1, Chains: chains[:67], Path: path[:3]}
	if !merkle.Verify(root, m, other) {
		t.Error("a signature is not verified")
	}
	if !slices.Equal(chains, wantChains) || !slices.Equal(path, wantPath) {
		t.Error("what was handed in is changed")
	}
	clear(chains)
	if merkle.Verify(root, m, other) || !merkle.Verify(root, m, s) {
		t.Error("what was handed in is kept")
	}
}

// R3, P8.3: a signature is memory of its own, and so is each of its lists: who changes one changes no other one.
func TestSignaturesAreOwn(t *testing.T) {
	seed, m := rising(), mixed()
	first, second, want := signed(t, seed, m, 5), signed(t, seed, m, 5), modelSign(seed, m, 5)
	_ = append(first.Chains, unlike(9)...)
	if !slices.Equal(first.Path, want.Path) {
		t.Error("the Path stands behind the Chains")
	}
	_ = append(first.Path, unlike(70)...)
	if !same(first, want) {
		t.Error("the Chains stand behind the Path")
	}
	clear(first.Chains)
	clear(first.Path)
	if !same(second, want) || !same(signed(t, seed, m, 5), want) || !slices.Equal(pathOf(t, seed, 5), want.Path) {
		t.Error("a signature is not in memory of its own")
	}
}
