package regress_test

import (
	"fmt"
	"testing"

	"safehouse/api"
	"safehouse/regress"
	"safehouse/term"
)

// P9.2: from the state of each epoch to that of each other one, and to itself; there is no way to one behind.
func TestBack(t *testing.T) {
	for _, seed := range seeds() {
		states := statesOf(seed)
		for from := 1; from <= 8; from++ {
			for to := 1; to <= 8; to++ {
				got, err := regress.Back(states[from], from, to)
				if what := fmt.Sprintf("Back(%v, %d, %d)", states[from], from, to); to <= from {
					checkIs(t, what, got, err, states[to])
				} else {
					checkOnly(t, what, got, err, api.ErrArg)
				}
			}
		}
	}
}

// P9.2: a state that nobody made goes as many steps as there are epochs between, wherever they lie.
func TestBackOfAnything(t *testing.T) {
	for _, x := range seeds() {
		for from := 1; from <= 8; from++ {
			for to := 1; to <= from; to++ {
				got, err := regress.Back(x, from, to)
				checkIs(t, fmt.Sprintf("Back(%v, %d, %d)", x, from, to), got, err, back(x, from-to))
			}
		}
	}
}

// P9.2: step by step one comes where one comes in one go, by whatever epochs between.
func TestBackStepByStep(t *testing.T) {
	for _, seed := range seeds() {
		for from := 1; from <= 8; from++ {
			there := back(seed, 8-from)
			for to := from - 1; to > 0; to-- {
				next, err := regress.Back(there, to+1, to)
				checkIs(t, fmt.Sprintf("step by step from %d to %d", from, to), next, err, back(seed, 8-to))
				there = next
				first, _ := regress.Back(back(seed, 8-from), from, (from+to)/2)
				second, err := regress.Back(first, (from+to)/2, to)
				checkIs(t, fmt.Sprintf("in two steps from %d to %d", from, to), second, err, back(seed, 8-to))
			}
		}
	}
}

// P9.2: from and to must be epochs, each of them; that goes ahead of states that may not be.
func TestBackOfNoEpoch(t *testing.T) {
	for _, x := range []api.Term{atom(1, 1), back(secret(1), 7), bush(1200), chain(60)} {
		for _, no := range noEpochs() {
			for epoch := 1; epoch <= 8; epoch++ {
				got, err := regress.Back(x, no, epoch)
				checkOnly(t, fmt.Sprintf("Back from %d to %d", no, epoch), got, err, api.ErrArg)
				got, err = regress.Back(x, epoch, no)
				checkOnly(t, fmt.Sprintf("Back from %d to %d", epoch, no), got, err, api.ErrArg)
			}
			for _, other := range noEpochs() {
				got, err := regress.Back(x, no, other)
				checkOnly(t, fmt.Sprintf("Back from %d to %d", no, other), got, err, api.ErrArg)
			}
		}
		for to := 2; to <= 8; to++ {
			got, err := regress.Back(x, to-1, to)
			checkOnly(t, fmt.Sprintf("Back to %d, one behind", to), got, err, api.ErrArg)
		}
	}
}

// P9.2: a state that may not be is told ahead of epochs that are none, and of one behind.
func TestBackOfWrongState(t *testing.T) {
	for _, x := range wrongTerms() {
		for from := 1; from <= 8; from++ {
			for to := 1; to <= 8; to++ {
				got, err := regress.Back(x, from, to)
				checkOnly(t, fmt.Sprintf("Back from %d to %d", from, to), got, err, api.ErrTerm)
			}
		}
		for _, no := range noEpochs() {
			for _, other := range []int{1, 8, no, 0, 9} {
				got, err := regress.Back(x, no, other)
				checkOnly(t, fmt.Sprintf("Back from %d to %d", no, other), got, err, api.ErrTerm)
				got, err = regress.Back(x, other, no)
				checkOnly(t, fmt.Sprintf("Back from %d to %d", other, no), got, err, api.ErrTerm)
			}
		}
	}
}

// P9.2: states around those from which one comes to one that is just not too great; where one between is too great all ahead of it are.
func TestBackTooGreat(t *testing.T) {
	for _, x := range edges() {
		for from := 1; from <= 8; from++ {
			for to := 1; to <= from; to++ {
				got, err := regress.Back(x, from, to)
				checkEdge(t, fmt.Sprintf("Back from %d to %d of a state of size %d, depth %d", from, to, sizeOf(x), depthOf(x)), got, err, back(x, from-to))
			}
		}
	}
}

// P9.2: states just so great, or so deep, that so many steps may be, and one more may not.
func TestBackLastThatMayBe(t *testing.T) {
	for steps := range 7 {
		for _, x := range []api.Term{bush(1200 - 3*steps), bush(1198 - 3*steps), chain(60 - 2*steps), chain(59 - 2*steps)} {
			for from := steps + 1; from <= 8; from++ {
				got, err := regress.Back(x, from, from-steps)
				checkIs(t, fmt.Sprintf("%d steps from %d", steps, from), got, err, back(x, steps))
				for to := from - steps - 1; to > 0; to-- {
					got, err = regress.Back(x, from, to)
					checkOnly(t, fmt.Sprintf("Back from %d to %d, where %d steps may be", from, to, steps), got, err, api.ErrTerm)
				}
			}
		}
	}
}

// P9.2: the key of a state, of each epoch of a seed and of such as nobody made.
func TestKey(t *testing.T) {
	for _, seed := range seeds() {
		states := statesOf(seed)
		for _, state := range states[1:] {
			got, err := regress.Key(state)
			checkIs(t, fmt.Sprintf("Key(%v)", state), got, err, hash(pair(said("key"), state)))
		}
	}
}

// P9.2: the bytes of keys, written out.
func TestKeyBytes(t *testing.T) {
	for _, x := range []struct {
		t    api.Term
		want string
	}{
		{atom(1, 2), "\x05\x04\x01\x03key\x02\x01\x00\x02"},
		{said(""), "\x05\x04\x01\x03key\x01\x00"},
		{said("key"), "\x05\x04\x01\x03key\x01\x03key"},
		{hash(pair(said("state"), secret(3))), "\x05\x04\x01\x03key\x05\x04\x01\x05state\x03\x03"},
		{hash(pair(said("key"), secret(3))), "\x05\x04\x01\x03key\x05\x04\x01\x03key\x03\x03"},
	} {
		got, err := regress.Key(x.t)
		row, wrong := term.Encode(got)
		if err != api.OK || wrong != api.OK || string(row) != x.want {
			t.Errorf("the bytes of Key(%v): % x, %d, %d", x.t, row, err, wrong)
		}
	}
}

// P9.2: a state that may not be has no key.
func TestKeyOfWrongState(t *testing.T) {
	for _, x := range wrongTerms() {
		got, err := regress.Key(x)
		checkOnly(t, fmt.Sprintf("Key of a state of size %d", sizeOf(x)), got, err, api.ErrTerm)
	}
}

// P9.2: states just so great, or so deep, that their key may be, and one part, or one step, more.
func TestKeyTooGreat(t *testing.T) {
	for _, x := range []api.Term{bush(1196), bush(1197), chain(57), chain(58), pair(chain(57), bush(1139))} {
		got, err := regress.Key(x)
		checkIs(t, "a key that may just be", got, err, keyBy(x))
	}
	for _, x := range []api.Term{bush(1198), bush(1199), bush(1200), chain(59), chain(60), pair(chain(57), bush(1140)), pair(chain(58), said(""))} {
		got, err := regress.Key(x)
		checkOnly(t, "a key that may just not be", got, err, api.ErrTerm)
	}
	for _, x := range edges() {
		got, err := regress.Key(x)
		checkEdge(t, fmt.Sprintf("Key of a state of size %d, depth %d", sizeOf(x), depthOf(x)), got, err, keyBy(x))
	}
}

// endless answers a term that is its own Kid.
func endless() api.Term {
	x := hash(atom(1, 1))
	x.Kids[0] = x
	return x
}

// doubled answers a term of 60 rows, each twice as long as the one above it, which all share memory.
func doubled() api.Term {
	x := atom(1, 1)
	for range 59 {
		x = pair(x, x)
	}
	return x
}

// R1: a term that is endless, or that would take forever to go through, is told as well.
func TestEndless(t *testing.T) {
	for _, x := range []api.Term{endless(), doubled(), pair(endless(), atom(1, 1)), pair(atom(1, 1), doubled())} {
		for _, epoch := range []int{-1, 0, 1, 7, 8, 9} {
			if got, err := regress.State(x, epoch); err != api.ErrTerm || got.Kind != 0 || got.Kids != nil {
				t.Errorf("State of the epoch %d: %d", epoch, err)
			}
			if got, err := regress.Back(x, 8, epoch); err != api.ErrTerm || got.Kind != 0 || got.Kids != nil {
				t.Errorf("Back to %d: %d", epoch, err)
			}
		}
		if got, err := regress.Key(x); err != api.ErrTerm || got.Kind != 0 || got.Kids != nil {
			t.Errorf("Key: %d", err)
		}
	}
}
