package wots

import (
	"iter"

	"safehouse/api"
	"safehouse/sha"
)

const (
	digitBits  = 4
	byteDigits = 2 // digits of a byte
	sumDigits  = 3 // digits of the check sum
)

// Each kind of digest has a letter ahead of what goes into it, so that none is taken for one of another kind.
const (
	stepLetter  = 'C'
	startLetter = 'S'
	keyLetter   = 'K'
)

// inDigits answers l with so many digits of n behind it, the highest first.
func inDigits(l []int, n, count int) []int {
	for k := range count {
		l = append(l, n>>(digitBits*(count-1-k))&(1<<digitBits-1))
	}
	return l
}

// isChain tells whether there is such a chain.
func isChain(chain int) bool {
	return chain >= 0 && chain < api.MaxChain
}

// stepped answers the n-th step of the chain from x.
func stepped(x api.Id, chain, n int) api.Id {
	return digest([]byte{stepLetter, byte(chain), byte(n)}, x)
}

// started answers the start of the chain, by the seed.
func started(seed api.Id, chain int) api.Id {
	return digest([]byte{startLetter, byte(chain)}, seed)
}

// keyOf answers the key whose chains have these ends.
func keyOf(ends []api.Id) api.Id {
	return digest([]byte{keyLetter}, ends...)
}

// digest answers the SHA-256 of the head and of the digests that stand behind it.
func digest(head []byte, rest ...api.Id) api.Id {
	row := make([]byte, 0, len(head)+len(rest)*len(api.Id{}))
	row = append(row, head...)
	for _, x := range rest {
		row = append(row, x[:]...)
	}
	return sha.Sum(row)
}

// starts tells the chains, each with its start by the seed.
func starts(seed api.Id) iter.Seq2[int, api.Id] {
	return func(yield func(int, api.Id) bool) {
		for chain := range api.MaxChain {
			if !yield(chain, started(seed, chain)) {
				return
			}
		}
	}
}

// reached answers what x, at the place from, leads to at the place to.
func reached(x api.Id, chain, from, to int) api.Id {
	for there := range behind(x, chain, from, to) {
		x = there
	}
	return x
}

// behind tells what stands at the places behind from, up to the place to, if x stands at from.
func behind(x api.Id, chain, from, to int) iter.Seq[api.Id] {
	return func(yield func(api.Id) bool) {
		there := x
		for n := from; n < to; n++ {
			there = stepped(there, chain, n)
			if !yield(there) {
				return
			}
		}
	}
}
