package merkle_test

import (
	"math"
	"slices"
	"testing"

	"safehouse/api"
	"safehouse/merkle"
	"safehouse/sha"
	"safehouse/wots"
)

// What stands here is the chapter's words once more, by other means than the package's, and what the tests are tried on.

// modelSeed is the digest of the bytes that the chapter names.
func modelSeed(seed api.Id, leaf int) api.Id {
	return sha.Sum([]byte("L" + string([]byte{byte(leaf)}) + string(seed[:])))
}

// modelJoin is the digest of the bytes that the chapter names.
func modelJoin(a, b api.Id) api.Id {
	return sha.Sum([]byte("N" + string(a[:]) + string(b[:])))
}

// modelTree is a tree whose root is node 1, and the node n joins 2n and 2n + 1: so the leaf's key is the node 8 + leaf, and a node's neighbour is the one that is as far from its parent.
type modelTree [16]api.Id

// modelTrees are those that were asked for: each takes eight keys, which take long.
var modelTrees = map[api.Id]modelTree{}

// treeOf answers the seed's tree.
func treeOf(seed api.Id) modelTree {
	tree, ok := modelTrees[seed]
	if ok {
		return tree
	}
	for leaf := range 8 {
		tree[8+leaf] = wots.Key(modelSeed(seed, leaf))
	}
	for node := 7; node > 0; node-- {
		tree[node] = modelJoin(tree[2*node], tree[2*node+1])
	}
	modelTrees[seed] = tree
	return tree
}

// path answers the neighbours on the way from the leaf up.
func (tree modelTree) path(leaf int) []api.Id {
	ways := [8][3]int{{9, 5, 3}, {8, 5, 3}, {11, 4, 3}, {10, 4, 3}, {13, 7, 2}, {12, 7, 2}, {15, 6, 2}, {14, 6, 2}}
	var l []api.Id
	for _, node := range ways[leaf] {
		l = append(l, tree[node])
	}
	return l
}

// modelClimb joins on the sides that are written out for each leaf: whether what was reached stands first.
func modelClimb(key api.Id, leaf int, path []api.Id) api.Id {
	first := []string{"yyy", "nyy", "yny", "nny", "yyn", "nyn", "ynn", "nnn"}[leaf]
	for k := range first {
		if first[k] == 'y' {
			key = modelJoin(key, path[k])
		} else {
			key = modelJoin(path[k], key)
		}
	}
	return key
}

// modelSign is what stands in the seed's signature of m by the leaf.
func modelSign(seed, m api.Id, leaf int) api.Signed {
	return api.Signed{Leaf: leaf, Chains: wots.Sign(modelSeed(seed, leaf), m), Path: treeOf(seed).path(leaf)}
}

// modelBytes lays the signature's bytes.
func modelBytes(s api.Signed) []byte {
	text := string([]byte{byte(s.Leaf)})
	for _, x := range slices.Concat(s.Chains, s.Path) {
		text += string(x[:])
	}
	return []byte(text)
}

// noLeaves are numbers that are no leaf's, those among them whose last bits, or lowest byte, are one's.
func noLeaves() []int {
	return []int{math.MinInt, math.MinInt + 5, math.MinInt32, -256, -251, -9, -8, -7, -3, -2, -1, 8, 9, 10, 13, 15, 16, 64, 128, 255, 256, 261, 1 << 16, 1 << 32, 1<<32 + 5, math.MaxInt32, math.MaxInt - 2, math.MaxInt}
}

// filled answers 32 bytes that are x.
func filled(x byte) api.Id {
	var id api.Id
	for k := range id {
		id[k] = x
	}
	return id
}

// rising answers the bytes 0 to 31.
func rising() api.Id {
	var id api.Id
	for k := range id {
		id[k] = byte(k)
	}
	return id
}

// mixed answers bytes by a rule that other programs can be asked by, too: the byte k is 37 k^2 + 11 k + 5.
func mixed() api.Id {
	var id api.Id
	for k := range id {
		id[k] = byte(37*k*k + 11*k + 5)
	}
	return id
}

// turned answers id, one bit of which is the other way: the bit 0 is the highest one of the first byte.
func turned(id api.Id, bit int) api.Id {
	id[bit/8] ^= 128 >> (bit % 8)
	return id
}

// ids are unlike digests: of noughts alone, of 255 alone, such as differ from them in one bit, and others.
func ids() []api.Id {
	l := []api.Id{filled(0), filled(255), rising(), mixed(), filled(1), filled(7), filled('L'), filled('N')}
	for _, bit := range []int{0, 7, 128, 248, 255} {
		l = append(l, turned(filled(0), bit), turned(filled(255), bit), turned(mixed(), bit))
	}
	return l
}

// seeds are unlike ones, fewer of them, as a tree takes eight keys.
func seeds() []api.Id {
	return []api.Id{filled(0), filled(255), rising(), mixed(), turned(filled(0), 255), turned(filled(0), 0)}
}

// unlike answers that many digests, none twice, that stand for nothing.
func unlike(count int) []api.Id {
	l := make([]api.Id, count)
	for i := range l {
		for j := range l[i] {
			l[i][j] = byte(i + 7*j)
		}
		l[i][31] ^= byte(i >> 8)
	}
	return l
}

// junk is a signature that no seed has made.
func junk(leaf int) api.Signed {
	l := unlike(70)
	return api.Signed{Leaf: leaf, Chains: l[:67:67], Path: l[67:]}
}

// idOf answers the digest that stands there in digits.
func idOf(t *testing.T, text string) api.Id {
	t.Helper()
	id, err := sha.Parse(text)
	if err != api.OK {
		t.Fatalf("%s is no digest", text)
	}
	return id
}

// joined answers the digest of the digests of l, one behind the other.
func joined(l []api.Id) api.Id {
	var row []byte
	for _, x := range l {
		row = append(row, x[:]...)
	}
	return sha.Sum(row)
}

// clone answers s in memory of its own.
func clone(s api.Signed) api.Signed {
	s.Chains, s.Path = slices.Clone(s.Chains), slices.Clone(s.Path)
	return s
}

// same tells whether both signatures are the same, field by field.
func same(a, b api.Signed) bool {
	return a.Leaf == b.Leaf && slices.Equal(a.Chains, b.Chains) && slices.Equal(a.Path, b.Path)
}

// signed answers a signature that there is.
func signed(t *testing.T, seed, m api.Id, leaf int) api.Signed {
	t.Helper()
	s, err := merkle.Sign(seed, m, leaf)
	if err != api.OK {
		t.Fatalf("the leaf %d of %x does not sign: error %d", leaf, seed, err)
	}
	return s
}

// pathOf answers a path that there is.
func pathOf(t *testing.T, seed api.Id, leaf int) []api.Id {
	t.Helper()
	path, err := merkle.Path(seed, leaf)
	if err != api.OK {
		t.Fatalf("the leaf %d of %x has no path: error %d", leaf, seed, err)
	}
	return path
}

// encoded answers the bytes of a signature that may be.
func encoded(t *testing.T, s api.Signed) []byte {
	t.Helper()
	b, err := merkle.Encode(s)
	if err != api.OK {
		t.Fatalf("a signature of the leaf %d has no bytes: error %d", s.Leaf, err)
	}
	return b
}

// decoded answers the signature whose bytes these are.
func decoded(t *testing.T, b []byte) api.Signed {
	t.Helper()
	s, err := merkle.Decode(b)
	if err != api.OK {
		t.Fatalf("%d bytes are no signature: error %d", len(b), err)
	}
	return s
}

// checkIs holds what was answered without an error.
func checkIs(t *testing.T, what string, id api.Id, err api.Errno, want api.Id) {
	t.Helper()
	if err != api.OK || id != want {
		t.Errorf("%s: %x with the error %d, not %x", what, id, err, want)
	}
}

// checkOnly holds what was answered beside an error: that error, and noughts.
func checkOnly(t *testing.T, what string, id api.Id, err, want api.Errno) {
	t.Helper()
	if err != want || id != (api.Id{}) {
		t.Errorf("%s: %x with the error %d, not noughts with %d", what, id, err, want)
	}
}

// checkNoSigned holds what was answered beside an error: that error, and no signature.
func checkNoSigned(t *testing.T, what string, s api.Signed, err, want api.Errno) {
	t.Helper()
	if err != want || s.Leaf != 0 || len(s.Chains) != 0 || len(s.Path) != 0 {
		t.Errorf("%s: %v with the error %d, not nothing with %d", what, s, err, want)
	}
}
