package wots_test

import (
	"fmt"
	"math"
	"testing"

	"safehouse/api"
	"safehouse/wots"
)

// noChains are numbers that are no chain's, those among them whose lowest byte is one's.
func noChains() []int {
	return []int{math.MinInt, math.MinInt32, -256, -251, -67, -2, -1, 67, 68, 255, 256, 261, 322, 1 << 16, 1 << 32, 1<<32 + 5, math.MaxInt32, math.MaxInt}
}

// noPlaces are numbers that are no place's, those among them whose lowest byte is one's.
func noPlaces() []int {
	return []int{math.MinInt, math.MinInt32, -256, -241, -16, -2, -1, 16, 17, 255, 256, 261, 1 << 16, 1 << 32, 1<<32 + 3, math.MaxInt32, math.MaxInt}
}

// P6.2: a step of each chain is the digest of the bytes that the chapter names.
func TestStep(t *testing.T) {
	for _, x := range seeds() {
		for chain := range 67 {
			for n := range 15 {
				got, err := wots.Step(x, chain, n)
				checkIs(t, fmt.Sprintf("the step %d of the chain %d", n, chain), got, err, modelStep(x, chain, n))
			}
		}
	}
}

// P6.2: each bit of x counts.
func TestStepBits(t *testing.T) {
	for bit := range 256 {
		for _, x := range []api.Id{turned(filled(0), bit), turned(filled(255), bit)} {
			got, err := wots.Step(x, 66, 14)
			checkIs(t, fmt.Sprintf("a step from %x", x), got, err, modelStep(x, 66, 14))
			got, err = wots.Start(x, 66)
			checkIs(t, fmt.Sprintf("a start by %x", x), got, err, modelStart(x, 66))
		}
	}
}

// P6.2: the start of each chain is the digest of the bytes that the chapter names.
func TestStart(t *testing.T) {
	for _, seed := range ids() {
		for chain := range 67 {
			got, err := wots.Start(seed, chain)
			checkIs(t, fmt.Sprintf("the start of the chain %d", chain), got, err, modelStart(seed, chain))
		}
	}
}

// P6.2: steps and starts as another program has reckoned them.
func TestStepsWrittenOut(t *testing.T) {
	for _, q := range []struct {
		what      string
		x         api.Id
		chain, n  int
		step, end string
	}{
		{"noughts", filled(0), 0, 0, "06a554b69e7192bb489f47bdcadf6ceab234a30d0cdb06ad4cc3c3407f301e24", "38b7ce47f772112203ba8f355767882756200ae21bb59bb62e99dc249fbd3381"},
		{"noughts", filled(0), 66, 14, "128a8a06b19a220755bb493a8c932a5457a9936082c1cac1969554dd253c2be2", "e97f462f2becbd6d95e403e35a6392f884635cdcb70ed837a11e60f0982b6601"},
		{"255", filled(255), 0, 0, "134f460f965055e2cbf092a2a40e9b833fa8d870e6ab3109da6549f651f5f5de", "358cbc04d70b75740f24ee72d8c4fc4a42c88dce935ad86a05362cb9e106d393"},
		{"255", filled(255), 66, 14, "499c7cf7182d91d8c1cbdc637de65d09c927e220408543fbd0b9a60894f8f9c3", "f43fc24fb6c87630ca06f3476c7b4a15e796432f4187bc62a58746ec05d17b63"},
		{"mixed", mixed(), 0, 0, "3b65c6ae81e05d98e990097d4b63163b01ec23a4ea96074b08935a45a45dd468", "a87f4c8af0fba77e83387e60f4a83aa929f84d37c1eb4ca7fb8234db8c010a34"},
		{"mixed", mixed(), 66, 14, "b1a81a65308ba600283a6d73c934ab7776049ba9adc60ff742393dd696955f4a", "f9ccc363a2ac03567fa43eb37b4e7c30ea1a16f8f7eed5829ffce84d2821859f"},
	} {
		got, err := wots.Step(q.x, q.chain, q.n)
		checkIs(t, q.what+": a step", got, err, idOf(t, q.step))
		got, err = wots.Start(q.x, q.chain)
		checkIs(t, q.what+": a start", got, err, idOf(t, q.end))
	}
	for _, q := range []struct {
		x    api.Id
		want string
	}{
		{filled(0), "cf6d1781741581c7ddacba504a7b9bb0d8f61913a0846e1ad923dbc9c19595c4"},
		{filled(255), "bff58c6a4ce7c21f1e4e7de6458267ca1a9df1947abfd8b9696c6b64f1aeda40"},
		{rising(), "694df4446dcef1714db73cad7d980a8744dbf4f3eee7fad7dcee44d45a6b6684"},
		{mixed(), "e58e80f6ce5509ae5911d3c62a767cfeba926813afcdf2d27ee03329eff887e2"},
	} {
		got, err := wots.Chain(q.x, 5, 0, 15)
		checkIs(t, "the chain 5 from its start to its end", got, err, idOf(t, q.want))
	}
}

// P6.2: what is no chain, whether the rest may be or not.
func TestNoChain(t *testing.T) {
	x := mixed()
	for _, chain := range noChains() {
		got, err := wots.Start(x, chain)
		checkOnly(t, fmt.Sprintf("the start of the chain %d", chain), got, err, api.ErrArg)
		for _, n := range []int{math.MinInt, -1, 0, 7, 14, 15, math.MaxInt} {
			got, err = wots.Step(x, chain, n)
			checkOnly(t, fmt.Sprintf("the step %d of the chain %d", n, chain), got, err, api.ErrArg)
		}
		for _, way := range [][2]int{{0, 0}, {0, 1}, {3, 9}, {15, 15}, {3, 2}, {-1, 0}, {-1, 16}, {16, 16}} {
			got, err = wots.Chain(x, chain, way[0], way[1])
			checkOnly(t, fmt.Sprintf("the chain %d from %d to %d", chain, way[0], way[1]), got, err, api.ErrArg)
		}
	}
}

// P6.2: what is no step of a chain that there is: the step 15 is none, though 15 is a place.
func TestNoStep(t *testing.T) {
	for _, chain := range []int{0, 5, 66} {
		for _, n := range append(noPlaces(), 15) {
			got, err := wots.Step(mixed(), chain, n)
			checkOnly(t, fmt.Sprintf("the step %d of the chain %d", n, chain), got, err, api.ErrArg)
		}
	}
}

// P6.2: from each number about the places to each one.
func TestChain(t *testing.T) {
	x := mixed()
	for _, chain := range []int{0, 1, 33, 65, 66} {
		for from := -2; from < 19; from++ {
			for to := -2; to < 19; to++ {
				what := fmt.Sprintf("the chain %d from %d to %d", chain, from, to)
				got, err := wots.Chain(x, chain, from, to)
				if 0 <= from && from <= to && to <= 15 {
					checkIs(t, what, got, err, modelChain(x, chain, from, to))
				} else {
					checkOnly(t, what, got, err, api.ErrArg)
				}
			}
		}
	}
}

// P6.2: from its start to its end, of each chain.
func TestWholeChains(t *testing.T) {
	for _, x := range seeds() {
		for chain := range 67 {
			got, err := wots.Chain(x, chain, 0, 15)
			checkIs(t, fmt.Sprintf("the chain %d", chain), got, err, modelChain(x, chain, 0, 15))
		}
	}
}

// P6.2: numbers far from the places, on either side and on both.
func TestNoPlaces(t *testing.T) {
	x := mixed()
	for _, far := range noPlaces() {
		for _, other := range append(noPlaces(), 0, 1, 14, 15) {
			for _, way := range [][2]int{{far, other}, {other, far}} {
				got, err := wots.Chain(x, 5, way[0], way[1])
				checkOnly(t, fmt.Sprintf("from %d to %d", way[0], way[1]), got, err, api.ErrArg)
			}
		}
	}
}

// P6.2: from a place to itself is x, whatever x is.
func TestNoWay(t *testing.T) {
	for _, x := range ids() {
		for chain := range 67 {
			for place := range 16 {
				got, err := wots.Chain(x, chain, place, place)
				checkIs(t, fmt.Sprintf("the chain %d from %d to itself", chain, place), got, err, x)
			}
		}
	}
}
