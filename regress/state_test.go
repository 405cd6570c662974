package regress_test

import (
	"fmt"
	"testing"

	"safehouse/api"
	"safehouse/regress"
	"safehouse/term"
)

// P9.1, P9.2: the document's examples.
func TestExamples(t *testing.T) {
	s := term.Fresh(1, 1)
	ahead := term.Hash(term.Pair(term.Text("state"), s))
	got, err := regress.State(s, 8)
	checkIs(t, "State(s, 8)", got, err, s)
	got, err = regress.State(s, 7)
	checkIs(t, "State(s, 7)", got, err, ahead)
	got, err = regress.Back(s, 8, 7)
	checkIs(t, "Back(s, 8, 7)", got, err, ahead)
	got, err = regress.Back(s, 7, 8)
	checkOnly(t, "Back(s, 7, 8)", got, err, api.ErrArg)
	got, err = regress.State(s, 9)
	checkOnly(t, "State(s, 9)", got, err, api.ErrArg)
	got, err = regress.Key(s)
	checkIs(t, "Key(s)", got, err, term.Hash(term.Pair(term.Text("key"), s)))
}

// P9.1: the bytes of states, written out.
func TestStateBytes(t *testing.T) {
	const ahead = "\x05\x04\x01\x05state"
	for _, seed := range []struct {
		t     api.Term
		bytes string
	}{{atom(1, 2), "\x02\x01\x00\x02"}, {secret(6), "\x03\x06"}, {said("state"), "\x01\x05state"}, {pair(said("a"), secret(2)), "\x04\x01\x01a\x03\x02"}} {
		for _, x := range []struct {
			epoch int
			want  string
		}{
			{8, ""}, {7, ahead}, {6, ahead + ahead}, {5, ahead + ahead + ahead}, {4, ahead + ahead + ahead + ahead},
			{3, ahead + ahead + ahead + ahead + ahead}, {2, ahead + ahead + ahead + ahead + ahead + ahead}, {1, ahead + ahead + ahead + ahead + ahead + ahead + ahead},
		} {
			got, err := regress.State(seed.t, x.epoch)
			row, wrong := term.Encode(got)
			if err != api.OK || wrong != api.OK || string(row) != x.want+seed.bytes {
				t.Errorf("the bytes of State(%v, %d): % x, %d, %d", seed.t, x.epoch, row, err, wrong)
			}
		}
	}
}

// P9.1: the state of each epoch.
func TestState(t *testing.T) {
	for _, seed := range seeds() {
		for epoch, want := range statesOf(seed) {
			if epoch == 0 {
				continue
			}
			got, err := regress.State(seed, epoch)
			checkIs(t, fmt.Sprintf("State(%v, %d)", seed, epoch), got, err, want)
		}
	}
}

// P9.1: what is no epoch has no state, of a seed whose states may not be neither.
func TestStateOfNoEpoch(t *testing.T) {
	for _, seed := range append(seeds(), bush(1200), chain(60)) {
		for _, epoch := range noEpochs() {
			got, err := regress.State(seed, epoch)
			checkOnly(t, fmt.Sprintf("State of the epoch %d", epoch), got, err, api.ErrArg)
		}
	}
}

// P9.1: a seed that may not be is told ahead of an epoch that is none.
func TestStateOfWrongSeed(t *testing.T) {
	for _, seed := range wrongTerms() {
		for _, epoch := range append(noEpochs(), 1, 2, 3, 4, 5, 6, 7, 8) {
			got, err := regress.State(seed, epoch)
			checkOnly(t, fmt.Sprintf("State of the epoch %d", epoch), got, err, api.ErrTerm)
		}
	}
}

// P9.1: seeds around those whose states are just not too great.
func TestStateTooGreat(t *testing.T) {
	for _, seed := range edges() {
		for epoch, want := range statesOf(seed) {
			if epoch > 0 {
				got, err := regress.State(seed, epoch)
				checkEdge(t, fmt.Sprintf("State of the epoch %d of a seed of size %d, depth %d", epoch, sizeOf(seed), depthOf(seed)), got, err, want)
			}
		}
	}
}

// P9.1: seeds just so great, or so deep, that the state of an epoch may be, and that of the one ahead of it may not.
func TestStateLastThatMayBe(t *testing.T) {
	for epoch := 2; epoch <= 8; epoch++ {
		steps := 8 - epoch
		for _, seed := range []api.Term{bush(1200 - 3*steps), bush(1198 - 3*steps), chain(60 - 2*steps), chain(59 - 2*steps), pair(chain(59-2*steps), bush(1140-steps))} {
			got, err := regress.State(seed, epoch)
			checkIs(t, fmt.Sprintf("State of the epoch %d, the last one that may be", epoch), got, err, back(seed, steps))
			for ahead := epoch - 1; ahead > 0; ahead-- {
				got, err = regress.State(seed, ahead)
				checkOnly(t, fmt.Sprintf("State of the epoch %d, ahead of %d, the last one that may be", ahead, epoch), got, err, api.ErrTerm)
			}
		}
	}
}

// edges are terms that may be, of each size and depth from which some of seven steps, or one to a key, come to one that may not.
func edges() []api.Term {
	var l []api.Term
	for size := 1170; size <= 1200; size++ {
		l = append(l, bush(size), lock(bush(size-30), chain(29)), pair(said("x"), bush(size-2)))
	}
	for deep := 40; deep <= 60; deep++ {
		l = append(l, chain(deep), pair(said("x"), chain(deep-1)), lock(chain(deep-1), said("x")), pair(bush(1120), chain(deep-1)))
	}
	return l
}

// P9.1, P9.2: the terms of the tests of edges are as great as these tests say.
func TestEdges(t *testing.T) {
	for size := 3; size <= 1210; size++ {
		if x := bush(size); sizeOf(x) != size || depthOf(x) > 13 {
			t.Errorf("bush(%d): size %d, depth %d", size, sizeOf(x), depthOf(x))
		}
	}
	for deep := 1; deep <= 70; deep++ {
		if x := chain(deep); sizeOf(x) != deep || depthOf(x) != deep {
			t.Errorf("chain(%d): size %d, depth %d", deep, sizeOf(x), depthOf(x))
		}
	}
	for _, x := range append(edges(), seeds()...) {
		if term.Check(x) != api.OK || !small(x) {
			t.Errorf("%v may not be", x)
		}
	}
	for _, x := range wrongTerms() {
		if term.Check(x) != api.ErrTerm {
			t.Errorf("%v may be", x)
		}
	}
}
