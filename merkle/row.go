package merkle

import (
	"iter"
	"slices"

	"safehouse/api"
	"safehouse/sha"
	"safehouse/wots"
)

const (
	height      = 3 // joins from a leaf's key up to the root
	idBytes     = len(api.Id{})
	leafBytes   = 1
	pathPlace   = leafBytes + api.MaxChain*idBytes
	signedBytes = pathPlace + height*idBytes
)

// Each kind of digest has a letter ahead of what goes into it, so that none is taken for one of another kind.
const (
	leafLetter = 'L'
	joinLetter = 'N'
)

// isLeaf tells whether there is such a leaf.
func isLeaf(leaf int) bool {
	return leaf >= 0 && leaf < api.MaxLeaf
}

// mayBe tells whether s may be a signature, of whatever.
func mayBe(s api.Signed) bool {
	return isLeaf(s.Leaf) && len(s.Chains) == api.MaxChain && len(s.Path) == height
}

// leafSeed answers the leaf's seed, by the seed.
func leafSeed(seed api.Id, leaf int) api.Id {
	return digest([]byte{leafLetter, byte(leaf)}, seed)
}

// keys answers the tree's lowest row: the keys of the leaves, in order.
func keys(seed api.Id) []api.Id {
	row := make([]api.Id, 0, api.MaxLeaf)
	for leaf := range api.MaxLeaf {
		row = append(row, wots.Key(leafSeed(seed, leaf)))
	}
	return row
}

// halved answers the row above that one: its pairs, joined.
func halved(row []api.Id) []api.Id {
	joins := make([]api.Id, 0, len(row)/2)
	for pair := range slices.Chunk(row, 2) {
		joins = append(joins, Join(pair[0], pair[1]))
	}
	return joins
}

// neighbours tells who stands beside the place in the row, and beside what lies above it in each row but the root's.
func neighbours(row []api.Id, place int) iter.Seq[api.Id] {
	return func(yield func(api.Id) bool) {
		for row, place := row, place; len(row) > 1; row, place = halved(row), place>>1 {
			if !yield(row[place^1]) {
				return
			}
		}
	}
}

// pathOf answers the leaf's path, by the seed.
func pathOf(seed api.Id, leaf int) []api.Id {
	path := make([]api.Id, 0, height)
	for other := range neighbours(keys(seed), leaf) {
		path = append(path, other)
	}
	return path
}

// climbed answers what is reached from the leaf's key by the path.
func climbed(key api.Id, leaf int, path []api.Id) api.Id {
	there := key
	for k, other := range path {
		if leaf>>k&1 == 0 {
			there = Join(there, other)
		} else {
			there = Join(other, there)
		}
	}
	return there
}

// digest answers the SHA-256 of the head and of the digests that stand behind it.
func digest(head []byte, rest ...api.Id) api.Id {
	row := make([]byte, 0, len(head)+len(rest)*idBytes)
	return sha.Sum(laid(append(row, head...), rest...))
}

// laid answers the row with the digests behind it.
func laid(row []byte, l ...api.Id) []byte {
	for _, x := range l {
		row = append(row, x[:]...)
	}
	return row
}

// taken answers the digests that stand in the row, one behind the other.
func taken(row []byte) []api.Id {
	l := make([]api.Id, 0, len(row)/idBytes)
	for piece := range slices.Chunk(row, idBytes) {
		l = append(l, api.Id(piece))
	}
	return l
}
