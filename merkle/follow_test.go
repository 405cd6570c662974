package merkle_test

import (
	"bytes"
	"fmt"
	"slices"
	"testing"

	"safehouse/api"
	"safehouse/merkle"
	"safehouse/wots"
)

// P8.1 to P8.4: the chapter's examples.
func TestExamples(t *testing.T) {
	seed, m := mixed(), rising()
	s := signed(t, seed, m, 5)
	if !merkle.Verify(merkle.Root(seed), m, s) {
		t.Error("what the leaf 5 signs is not verified")
	}
	s.Leaf = 8
	if merkle.Verify(merkle.Root(seed), m, s) {
		t.Error("the leaf 8 is verified")
	}
	other, err := merkle.Seed(seed, 7)
	if path := pathOf(t, seed, 6); err != api.OK || path[0] != wots.Key(other) {
		t.Error("the path of the leaf 6 does not begin with the key of the leaf 7")
	}
	s, err = merkle.Sign(seed, m, 8)
	checkNoSigned(t, "what the leaf 8 signs", s, err, api.ErrArg)
	id, err := merkle.Climb(filled(9), 0, unlike(2))
	checkOnly(t, "by a path of two", id, err, api.ErrLong)
	s, err = merkle.Decode(make([]byte, 2240))
	checkNoSigned(t, "2240 bytes", s, err, api.ErrShort)
}

// P8.5: what a seed signs, by whatever leaf, its root verifies, behind its bytes, too.
func TestSignedIsVerified(t *testing.T) {
	for _, seed := range seeds() {
		root := merkle.Root(seed)
		for leaf := range 8 {
			for _, m := range []api.Id{turned(rising(), 8*leaf), root} {
				s := signed(t, seed, m, leaf)
				if !merkle.Verify(root, m, s) {
					t.Errorf("what the leaf %d of %x signs of %x is not verified", leaf, seed, m)
				}
				if !merkle.Verify(root, m, decoded(t, encoded(t, s))) {
					t.Errorf("what the leaf %d of %x signs of %x is not verified behind its bytes", leaf, seed, m)
				}
			}
		}
	}
}

// P8.5: each leaf's path leads from its key to the root, and by no other leaf, from no other leaf's key.
func TestPathLeadsToTheRoot(t *testing.T) {
	for _, seed := range seeds() {
		root := merkle.Root(seed)
		for leaf := range 8 {
			own, err := merkle.Seed(seed, leaf)
			if err != api.OK {
				t.Fatalf("the leaf %d has no seed: error %d", leaf, err)
			}
			path, key := pathOf(t, seed, leaf), wots.Key(own)
			got, err := merkle.Climb(key, leaf, path)
			checkIs(t, fmt.Sprintf("what the path of the leaf %d leads to", leaf), got, err, root)
			for other := range 8 {
				got, err = merkle.Climb(key, other, path)
				if err != api.OK || (got == root) != (other == leaf) {
					t.Errorf("from the leaf %d's key as the leaf %d: %x with the error %d", leaf, other, got, err)
				}
				got, err = merkle.Climb(treeOf(seed)[8+other], leaf, path)
				if err != api.OK || (got == root) != (other == leaf) {
					t.Errorf("from the leaf %d's key by the leaf %d's path: %x with the error %d", other, leaf, got, err)
				}
			}
		}
	}
}

// P8.5: paths of neighbours differ in their first digest alone, and that is the other one's key.
func TestPathsOfNeighbours(t *testing.T) {
	seed := mixed()
	for leaf := 0; leaf < 8; leaf += 2 {
		a, b := pathOf(t, seed, leaf), pathOf(t, seed, leaf+1)
		if !slices.Equal(a[1:], b[1:]) || a[0] == b[0] {
			t.Errorf("the paths of the leaves %d and %d: %x and %x", leaf, leaf+1, a, b)
		}
		if merkle.Join(b[0], a[0]) != treeOf(seed)[4+leaf/2] {
			t.Errorf("the leaves %d and %d are joined to something else", leaf, leaf+1)
		}
	}
}

// P8.5: Decode of Encode is the signature.
func TestDecodeOfEncode(t *testing.T) {
	for leaf := range 8 {
		for _, s := range []api.Signed{
			junk(leaf),
			signed(t, mixed(), rising(), leaf),
			{Leaf: leaf, Chains: make([]api.Id, 67), Path: make([]api.Id, 3)},
			{Leaf: leaf, Chains: slices.Repeat([]api.Id{filled(255)}, 67), Path: slices.Repeat([]api.Id{filled(254)}, 3)},
		} {
			if got := decoded(t, encoded(t, s)); !same(got, s) {
				t.Errorf("the leaf %d: another signature of the leaf %d", leaf, got.Leaf)
			}
		}
	}
}

// P8.2: the leaves of a seed have eight paths, and unlike seeds have unlike roots.
func TestTreesAreUnlike(t *testing.T) {
	roots := map[api.Id]bool{}
	for _, seed := range seeds() {
		roots[merkle.Root(seed)] = true
		paths := map[api.Id]bool{}
		for leaf := range 8 {
			paths[joined(pathOf(t, seed, leaf))] = true
		}
		if len(paths) != 8 {
			t.Errorf("the leaves of %x have %d paths", seed, len(paths))
		}
	}
	if len(roots) != len(seeds()) {
		t.Errorf("%d seeds have %d roots", len(seeds()), len(roots))
	}
}

// R5: what is answered hangs on nothing that was asked ahead of it.
func TestAskedAgain(t *testing.T) {
	seed, m := rising(), mixed()
	root, s := merkle.Root(seed), signed(t, seed, m, 3)
	b := encoded(t, s)
	for _, x := range seeds() {
		merkle.Root(x)
		merkle.Path(x, 4)
		merkle.Path(x, 8)
		merkle.Sign(x, x, 3)
		merkle.Climb(x, 3, s.Path[:2])
		merkle.Verify(x, x, s)
		merkle.Decode(b[:100])
		if merkle.Root(seed) != root || !same(signed(t, seed, m, 3), s) || !merkle.Verify(root, m, s) || !bytes.Equal(encoded(t, s), b) {
			t.Fatalf("other answers behind %x was asked of", x)
		}
	}
}
