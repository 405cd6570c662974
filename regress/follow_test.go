package regress_test

import (
	"fmt"
	"slices"
	"testing"

	"safehouse/api"
	"safehouse/close"
	"safehouse/regress"
)

// made answers the states of a seed and their keys as the package tells them, each at its epoch's place; at 0 stands none.
func made(t *testing.T, seed api.Term) (states, keys [9]api.Term) {
	t.Helper()
	for epoch := 1; epoch <= 8; epoch++ {
		var wrong, none api.Errno
		states[epoch], wrong = regress.State(seed, epoch)
		keys[epoch], none = regress.Key(states[epoch])
		if wrong != api.OK || none != api.OK {
			t.Fatalf("the epoch %d: %d, %d", epoch, wrong, none)
		}
	}
	return states, keys
}

// fresh are atoms, some alike but for one field.
func fresh() []api.Term {
	return []api.Term{atom(1, 1), atom(1, 0), atom(2, 1), atom(6, 65535)}
}

// checkCan holds whether x can be reckoned from what is known.
func checkCan(t *testing.T, what string, known []api.Term, x api.Term, want bool) {
	t.Helper()
	if got, err := close.Can(known, x); got != want || err != api.OK {
		t.Errorf("%s: can: %t, %d, not %t", what, got, err, want)
	}
}

// P9.3: Back of an epoch's state is the one ahead of it, for each epoch that has one ahead.
func TestOneAhead(t *testing.T) {
	for _, seed := range seeds() {
		states, _ := made(t, seed)
		for epoch := 2; epoch <= 8; epoch++ {
			got, err := regress.Back(states[epoch], epoch, epoch-1)
			checkIs(t, fmt.Sprintf("one ahead of %d", epoch), got, err, states[epoch-1])
		}
	}
}

// P9.3: no state of a seed is another one, nor a key, and no key is another one.
func TestAllUnlike(t *testing.T) {
	for _, seed := range seeds() {
		states, keys := made(t, seed)
		l := slices.Concat(states[1:], keys[1:])
		for i, x := range l {
			for k, y := range l {
				if equal(x, y) != (i == k) {
					t.Errorf("of %v: %v and %v", seed, x, y)
				}
			}
		}
	}
}

// P9.3: who knows the state of an epoch can reckon the states and the keys of its epoch and of all ahead, and none behind.
func TestWhoKnowsAState(t *testing.T) {
	for _, seed := range fresh() {
		states, keys := made(t, seed)
		for epoch := 1; epoch <= 8; epoch++ {
			for _, known := range [][]api.Term{{states[epoch]}, {secret(1), states[epoch], atom(3, 3)}, {said("state"), said("key"), states[epoch], states[1], keys[1], keys[epoch]}} {
				for other := 1; other <= 8; other++ {
					what := fmt.Sprintf("who knows the state of %d, of %d", epoch, other)
					checkCan(t, what, known, states[other], other <= epoch)
					checkCan(t, what, known, keys[other], other <= epoch)
					checkCan(t, what, append(slices.Clone(known), lock(keys[other], atom(4, 4))), atom(4, 4), other <= epoch)
				}
				checkCan(t, "the seed", known, seed, epoch == 8)
			}
		}
	}
}

// P9.3: who knows an epoch's state, and keys behind it, can reckon those alone, and no state behind.
func TestWhoKnowsAStateAndKeys(t *testing.T) {
	seed := atom(1, 1)
	states, keys := made(t, seed)
	for epoch := 1; epoch <= 7; epoch++ {
		for which := range 1 << (8 - epoch) {
			known := []api.Term{states[epoch]}
			for behind := epoch + 1; behind <= 8; behind++ {
				if which>>(behind-epoch-1)&1 == 1 {
					known = append(known, keys[behind])
				}
			}
			for behind := epoch + 1; behind <= 8; behind++ {
				what := fmt.Sprintf("who knows the state of %d, and some keys, of %d", epoch, behind)
				checkCan(t, what, known, states[behind], false)
				checkCan(t, what, known, keys[behind], which>>(behind-epoch-1)&1 == 1)
			}
		}
	}
}

// P9.3: who knows keys alone, none, some or all, can reckon these alone, and no state.
func TestWhoKnowsKeys(t *testing.T) {
	for _, seed := range fresh() {
		states, keys := made(t, seed)
		for which := range 1 << 8 {
			known := []api.Term{secret(2)}
			for epoch := 1; epoch <= 8; epoch++ {
				if which>>(epoch-1)&1 == 1 {
					known = append(known, keys[epoch])
				}
			}
			for epoch := 1; epoch <= 8; epoch++ {
				what := fmt.Sprintf("who knows the keys %b, of %d", which, epoch)
				checkCan(t, what, known, states[epoch], false)
				checkCan(t, what, known, keys[epoch], which>>(epoch-1)&1 == 1)
			}
		}
	}
}

// P9.3: who knows all of another seed can reckon nothing of this one.
func TestWhoKnowsAnotherSeed(t *testing.T) {
	for i, seed := range fresh() {
		states, keys := made(t, seed)
		for k, other := range fresh() {
			if i == k {
				continue
			}
			otherStates, otherKeys := made(t, other)
			known := slices.Concat([]api.Term{said("state"), said("key"), other}, otherStates[1:], otherKeys[1:])
			for epoch := 1; epoch <= 8; epoch++ {
				checkCan(t, "the state, by another seed's", known, states[epoch], false)
				checkCan(t, "the key, by another seed's", known, keys[epoch], false)
			}
		}
	}
}

// calls are all ways to ask, for a term that is far from too great.
func calls() []func(api.Term) (api.Term, api.Errno) {
	l := []func(api.Term) (api.Term, api.Errno){regress.Key}
	for epoch := 1; epoch <= 8; epoch++ {
		l = append(l,
			func(x api.Term) (api.Term, api.Errno) { return regress.State(x, epoch) },
			func(x api.Term) (api.Term, api.Errno) { return regress.Back(x, epoch, epoch) },
			func(x api.Term) (api.Term, api.Errno) { return regress.Back(x, epoch, (epoch+1)/2) },
			func(x api.Term) (api.Term, api.Errno) { return regress.Back(x, epoch, 1) })
	}
	return l
}

// places answers where x stands, and where all beneath it do.
func places(x *api.Term) []*api.Term {
	l := []*api.Term{x}
	for k := range x.Kids {
		l = append(l, places(&x.Kids[k])...)
	}
	return l
}

// shared answers terms whose lists have room behind their end, and share memory.
func shared() []api.Term {
	room := []api.Term{atom(1, 1), pair(said("x"), secret(2)), said("behind"), atom(5, 5)}
	return []api.Term{
		{Kind: api.TermPair, Kids: room[:2]},
		{Kind: api.TermHash, Kids: room[:1]},
		{Kind: api.TermLock, Kids: []api.Term{{Kind: api.TermSeal, User: 1, Kids: room[1:2]}, {Kind: api.TermSign, User: 2, Num: 3, Kids: room[1:2]}}},
		pair(room[1], room[1]),
		{Kind: api.TermFresh, User: 1, Num: 1, Kids: room[:0]},
		{Kind: api.TermHash, Kids: []api.Term{{Kind: api.TermSecret, User: 1, Kids: []api.Term{}}}},
	}
}

// R3: what is handed in is not changed, the room behind a list's end neither.
func TestNothingChanged(t *testing.T) {
	for _, x := range append(shared(), seeds()...) {
		before, room := plain(x), plain(api.Term{Kids: x.Kids[:cap(x.Kids)]})
		for _, call := range calls() {
			call(x)
		}
		regress.State(x, 9)
		regress.Back(x, 3, 4)
		if !equal(x, before) || !equal(api.Term{Kids: x.Kids[:cap(x.Kids)]}, room) {
			t.Fatalf("%v is not what it was", x)
		}
	}
}

// R3: what is answered is new memory: it shares none with what was handed in nor with another answer, and no two lists in it share any.
func TestAnswersAreOwn(t *testing.T) {
	for _, x := range append(shared(), seeds()...) {
		seen := map[*api.Term]bool{}
		for _, p := range places(&x) {
			seen[p] = true
		}
		for _, call := range calls() {
			for range 2 {
				got, _ := call(x)
				for _, p := range places(&got) {
					if seen[p] {
						t.Fatalf("of %v: one place stands in two lists", x)
					}
					seen[p] = true
				}
			}
		}
	}
}

// R3: what is handed in may be changed by the caller afterwards, and so may what is answered.
func TestChangedAfterwards(t *testing.T) {
	for _, seed := range append(shared(), seeds()...) {
		for i, call := range calls() {
			x := plain(seed)
			got, _ := call(x)
			want := plain(got)
			for _, p := range places(&x) {
				*p = node(p.Kind+1, 5, 55, "changed", p.Kids...)
			}
			if !equal(got, want) {
				t.Errorf("the call %d of %v: who changes what they handed in changes the answer", i, seed)
			}
			x = plain(seed)
			got, _ = call(x)
			for _, p := range places(&got) {
				p.Kids = append(p.Kids, said("behind"))
				*p = node(p.Kind+1, 5, 55, "changed", p.Kids...)
			}
			if !equal(x, seed) {
				t.Errorf("the call %d of %v: who changes an answer changes what was handed in", i, seed)
			}
			got, err := call(x)
			checkIs(t, "asked again", got, err, want)
		}
	}
}

// R3: room behind the end of a list that was answered is no other list's.
func TestRoomBehindAnswers(t *testing.T) {
	for _, seed := range append(shared(), seeds()...) {
		for _, call := range calls() {
			got, _ := call(seed)
			want := plain(got)
			for _, p := range places(&got) {
				_ = append(p.Kids, said("behind"), said("behind"))
			}
			if !equal(got, want) {
				t.Fatalf("of %v: who writes behind a list writes into another one", seed)
			}
		}
	}
}

// R5: what is answered hangs on nothing that was asked ahead of it.
func TestAskedAgain(t *testing.T) {
	s := atom(1, 1)
	for _, other := range slices.Concat(seeds(), wrongAlone(), edges()) {
		for _, call := range calls() {
			call(other)
		}
		regress.State(other, 0)
		regress.Back(other, 1, 2)
		got, err := regress.State(s, 6)
		checkIs(t, "State, asked again", got, err, back(s, 2))
		got, err = regress.Back(s, 3, 2)
		checkIs(t, "Back, asked again", got, err, back(s, 1))
		got, err = regress.Key(s)
		checkIs(t, "Key, asked again", got, err, keyBy(s))
		got, err = regress.State(s, 9)
		checkOnly(t, "State of no epoch, asked again", got, err, api.ErrArg)
	}
}
