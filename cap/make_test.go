package cap_test

import (
	"bytes"
	"fmt"
	"slices"
	"testing"

	"safehouse/api"
	"safehouse/cap"
	"safehouse/perm"
	"safehouse/term"
)

// state is what is put into boxes where it does not matter what it is.
func state() api.Term { return atom(1, 40000) }

// checkMake holds Make against the chapter's words, and what was handed in against what it was; it answers the boxes.
func checkMake(t *testing.T, what string, p api.Perm, state api.Term, keys []api.GroupKey) api.Term {
	t.Helper()
	want, wanted := made(p, state, keys)
	checkMade(t, what, p, state, keys, want, wanted)
	return want
}

// checkMade holds Make against what is wanted.
func checkMade(t *testing.T, what string, p api.Perm, state api.Term, keys []api.GroupKey, want api.Term, wanted api.Errno) {
	t.Helper()
	was, put, had := plainPerm(p), plain([]api.Term{state})[0], plainKeys(keys)
	got, err := cap.Make(p, state, keys)
	if err != wanted || !equal(got, want) {
		t.Errorf("%s: Make(%s, %s, %s): %s, %d, not %s, %d", what, show(p), show(state), show(keys), show(got), err, show(want), wanted)
	}
	if !equalPerm(p, was) || !equal(state, put) || !equalKeys(keys, had) {
		t.Errorf("%s: Make changed what it was handed", what)
	}
}

// checkNot holds Make to that error, and to nothing beside it.
func checkNot(t *testing.T, what string, p api.Perm, state api.Term, keys []api.GroupKey, wanted api.Errno) {
	t.Helper()
	checkMade(t, what, p, state, keys, api.Term{}, wanted)
	if _, err := made(p, state, keys); err != wanted {
		t.Errorf("%s: the model says %d, not %d", what, err, wanted)
	}
}

// P13.1 to P13.3: the chapter's examples.
func TestExamples(t *testing.T) {
	p := api.Perm{Owner: 1, Epoch: 1, Readers: []int{2}, Groups: []int{1}}
	s, k := atom(1, 1), atom(1, 2)
	keys := []api.GroupKey{{Group: 1, Key: k}}
	boxes := list(pair(said("u1"), seal(1, s)), pair(said("u2"), seal(2, s)), pair(said("g1"), lock(k, s)))
	checkMade(t, "the example", p, s, keys, boxes, api.OK)
	checkNot(t, "without k", p, s, nil, api.ErrNone)
	for _, x := range []struct {
		user int
		keys []api.GroupKey
		want api.Term
		err  api.Errno
	}{{2, nil, s, api.OK}, {3, keys, s, api.OK}, {3, nil, api.Term{}, api.ErrNone}} {
		if got, err := cap.Open(boxes, x.user, x.keys); err != x.err || !equal(got, x.want) {
			t.Errorf("Open for %d with %v: %v, %d", x.user, x.keys, got, err)
		}
	}
	if cap.Check(said("x")) != api.ErrCap || cap.Check(said("")) != api.ErrCap || cap.Check(boxes) != api.OK {
		t.Error("Check of a text, or of the example")
	}
}

// P13.1: boxes byte by byte, as the chapters' words lay them.
func TestMakeBytes(t *testing.T) {
	p := api.Perm{Owner: 4, Epoch: 3, Readers: []int{2, 6}, Writers: []int{6}, Groups: []int{1, 3}}
	boxes, err := cap.Make(p, atom(4, 258), []api.GroupKey{{Group: 3, Key: said("K")}, {Group: 2, Key: said("L")}, {Group: 1, Key: secret(5)}})
	row, wrong := term.Encode(boxes)
	want := []byte{
		4, 4, 1, 2, 'u', '2', 7, 2, 2, 4, 1, 2,
		4, 4, 1, 2, 'u', '4', 7, 4, 2, 4, 1, 2,
		4, 4, 1, 2, 'u', '6', 7, 6, 2, 4, 1, 2,
		4, 4, 1, 2, 'g', '1', 6, 3, 5, 2, 4, 1, 2,
		4, 4, 1, 2, 'g', '3', 6, 1, 1, 'K', 2, 4, 1, 2,
		1, 0,
	}
	if err != api.OK || wrong != api.OK || !bytes.Equal(row, want) {
		t.Errorf("%d, %d, %x, not %x", err, wrong, row, want)
	}
}

// states are terms of each kind, as they may be put into boxes.
func states() []api.Term {
	return []api.Term{
		atom(1, 40000), said(""), said("state"), secret(3), hash(pair(said("state"), atom(2, 1))), pair(said("u1"), seal(1, atom(1, 1))), lock(keyOf(1), atom(1, 1)), seal(4, atom(3, 0)), sign(6, 65535, said("x")),
		list(pair(said("u2"), seal(2, atom(1, 9)))), chain(48), bush(100),
	}
}

// P13.1, P13.2: each owner, with all choices of readers and groups, and each kind of state: the Owner stands behind, between and ahead of the readers.
func TestMakeAll(t *testing.T) {
	n := 0
	for p := range everyPerm() {
		s := states()[n%len(states())]
		keys := [][]api.GroupKey{keysOf(1, 2, 3), keysOf(3, 2, 1), keysOf(2, 3, 1, 2, 3, 1), keysOf(p.Groups...)}[n/len(states())%4]
		n++
		boxes := checkMake(t, "all keys there", p, s, keys)
		users := append([]int{p.Owner}, p.Readers...)
		slices.Sort(users)
		got, groups, err := cap.Users(boxes)
		if cap.Check(boxes) != api.OK || err != api.OK || !slices.Equal(got, users) || !slices.Equal(groups, p.Groups) {
			t.Errorf("Users of the boxes of %v: %v, %v, %d", p, got, groups, err)
		}
	}
	if n != 1536 {
		t.Errorf("%d permissions", n)
	}
}

// P13.1: boxes hang on who may read alone: neither on the Epoch nor on who may write.
func TestMakeReadersAlone(t *testing.T) {
	want := list(rowAt(1, keyOf(2), state()), rowAt(2, keyOf(2), state()), rowAt(4, keyOf(2), state()), rowAt(7, keyOf(2), state()))
	for epoch := 1; epoch <= 8; epoch++ {
		for _, writers := range [][]int{nil, {2}, {5}, {2, 5}} {
			checkMade(t, "epochs and writers", api.Perm{Owner: 3, Epoch: epoch, Readers: []int{2, 5}, Writers: writers, Groups: []int{2}}, state(), keysOf(1, 2), want, api.OK)
		}
	}
}

// P13.1: each of the groups' keys is among those that are handed in, or not: ErrNone if the first, a middle one or the last one is missing.
func TestMakeMissing(t *testing.T) {
	orders := [][]int{{1, 2, 3}, {3, 2, 1}, {2, 3, 1}, {2, 1, 3}}
	for p := range everyPerm() {
		if len(p.Readers) > 2 {
			continue
		}
		for which := range 8 {
			for _, order := range orders {
				var groups []int
				for _, group := range order {
					if which>>(group-1)&1 == 1 {
						groups = append(groups, group)
					}
				}
				keys := keysOf(groups...)
				checkMake(t, "some keys there", p, state(), keys)
				missing := slices.ContainsFunc(p.Groups, func(group int) bool { return !slices.Contains(groups, group) })
				if _, err := cap.Make(p, state(), keys); missing != (err == api.ErrNone) {
					t.Errorf("Make of %v with the keys of %v: %d", p, groups, err)
				}
			}
		}
	}
	all := api.Perm{Owner: 1, Epoch: 1, Groups: []int{1, 2, 3}}
	for missing := 1; missing <= 3; missing++ {
		groups := slices.DeleteFunc([]int{1, 2, 3, 1, 2, 3}, func(group int) bool { return group == missing })
		checkNot(t, fmt.Sprintf("without the key of %d", missing), all, state(), keysOf(groups...), api.ErrNone)
		for _, no := range append(noGroups(), missing+256, missing-256, missing+1<<32, -missing) {
			checkNot(t, fmt.Sprintf("the key of %d as that of %d", missing, no), all, state(), append(keysOf(groups...), api.GroupKey{Group: no, Key: keyOf(missing)}), api.ErrNone)
		}
	}
	for _, none := range [][]api.GroupKey{nil, {}, keysOf(1, 2, 3)[:0]} {
		checkNot(t, "no keys", all, state(), none, api.ErrNone)
		checkMade(t, "no keys, no groups", api.Perm{Owner: 2, Epoch: 8, Readers: []int{1}, Groups: []int{}}, state(), none, list(rowAt(0, said(""), state()), rowAt(1, said(""), state())), api.OK)
	}
}

// P13.1: of one group's keys the first one counts, whether the others are like it or not; keys of groups that have no box count for nothing.
func TestMakeFirstKey(t *testing.T) {
	p := api.Perm{Owner: 2, Epoch: 1, Groups: []int{1, 3}}
	key := func(group int, k api.Term) api.GroupKey { return api.GroupKey{Group: group, Key: k} }
	a, b, c := atom(1, 1), hash(atom(1, 1)), atom(1, 3)
	boxes := func(one, three api.Term) api.Term {
		return list(pair(said("u2"), seal(2, state())), pair(said("g1"), lock(one, state())), pair(said("g3"), lock(three, state())))
	}
	for _, x := range []struct {
		keys       []api.GroupKey
		one, three api.Term
	}{
		{[]api.GroupKey{key(1, a), key(3, b)}, a, b},
		{[]api.GroupKey{key(3, b), key(1, a)}, a, b},
		{[]api.GroupKey{key(1, a), key(1, b), key(3, c)}, a, c},
		{[]api.GroupKey{key(1, b), key(1, a), key(3, c)}, b, c},
		{[]api.GroupKey{key(1, a), key(1, a), key(3, a), key(3, a)}, a, a},
		{[]api.GroupKey{key(3, c), key(1, a), key(3, a), key(1, c)}, a, c},
		{[]api.GroupKey{key(2, c), key(1, a), key(3, b), key(2, a)}, a, b},
		{[]api.GroupKey{key(0, c), key(-1, c), key(1<<32+1, c), key(257, c), key(4, c), key(1, a), key(259, c), key(3, b), key(6, c)}, a, b},
	} {
		checkMade(t, "keys of one group", p, state(), x.keys, boxes(x.one, x.three), api.OK)
		checkMake(t, "keys of one group", p, state(), x.keys)
	}
}

// wrongPerms are permissions that may not be.
func wrongPerms() []api.Perm {
	l := []api.Perm{
		{}, {Owner: 1}, {Epoch: 1}, {Readers: []int{}, Writers: []int{}, Groups: []int{}}, {Owner: 7, Epoch: 1}, {Owner: 1, Epoch: 9}, {Owner: 1, Epoch: 1, Readers: []int{1}}, {Owner: 1, Epoch: 1, Readers: []int{3, 2}}, {Owner: 1, Epoch: 1, Readers: []int{2, 2}},
		{Owner: 1, Epoch: 1, Writers: []int{2}}, {Owner: 1, Epoch: 1, Groups: []int{2, 1}}, {Owner: 1, Epoch: 1, Groups: []int{1, 1}}, {Owner: 1, Epoch: 1, Groups: []int{4}}, {Owner: 1, Epoch: 1, Readers: make([]int, 1<<12), Groups: make([]int, 1<<12)},
	}
	for _, no := range noNumbers() {
		l = append(l, api.Perm{Owner: no, Epoch: 1}, api.Perm{Owner: 6, Epoch: 1, Readers: []int{no}}, api.Perm{Owner: 6, Epoch: 1, Groups: []int{no}}, api.Perm{Owner: no, Epoch: no, Readers: []int{no, no}, Writers: []int{no}, Groups: []int{no, no}})
	}
	return l
}

// P13.1: permissions that may not be, whatever else is wrong beside them.
func TestMakeWrongPerms(t *testing.T) {
	for _, p := range wrongPerms() {
		for _, s := range []api.Term{state(), {}, chain(61), chain(60), bush(1200)} {
			for _, keys := range [][]api.GroupKey{keysOf(1, 2, 3), nil, {{Group: 1}, {Group: 2}, {Group: 3}}} {
				checkNot(t, "permissions that may not be", p, s, keys, api.ErrPerm)
			}
		}
	}
}

// P13.1: a state that may not be, whether keys are there or not.
func TestMakeWrongState(t *testing.T) {
	for _, s := range wrongTerms() {
		for _, p := range []api.Perm{{Owner: 1, Epoch: 1}, {Owner: 6, Epoch: 8, Readers: []int{1, 2, 3, 4, 5}, Groups: []int{1, 2, 3}}} {
			for _, keys := range [][]api.GroupKey{keysOf(1, 2, 3), nil, {{Group: 1}}} {
				checkNot(t, "a state that may not be", p, s, keys, api.ErrTerm)
			}
		}
	}
}

// P13.1: a key whose term may not be, of one of the groups, of another one, of none at all; alone, first, last, and behind a good one of its group; ahead of a key that is missing.
func TestMakeWrongKey(t *testing.T) {
	p := api.Perm{Owner: 3, Epoch: 2, Readers: []int{1, 5}, Groups: []int{1, 3}}
	lonely := api.Perm{Owner: 3, Epoch: 2}
	for _, k := range wrongTerms() {
		for _, group := range append(noGroups(), 1, 2, 3) {
			bad := api.GroupKey{Group: group, Key: k}
			for _, keys := range [][]api.GroupKey{{bad}, append(keysOf(1, 2, 3), bad), append([]api.GroupKey{bad}, keysOf(1, 2, 3)...), slices.Insert(keysOf(1, 3), 1, bad), append(keysOf(1), bad), append(keysOf(3), bad)} {
				checkNot(t, "a key that may not be", p, state(), keys, api.ErrTerm)
				checkNot(t, "a key that may not be", lonely, state(), keys, api.ErrTerm)
			}
		}
	}
}

// P13.1: which error, where more than one thing is wrong.
func TestMakeWhichError(t *testing.T) {
	right, wrong := api.Perm{Owner: 1, Epoch: 1, Readers: []int{2}, Groups: []int{1, 2}}, api.Perm{Owner: 1, Epoch: 1, Readers: []int{1}, Groups: []int{1, 2}}
	great := bush(1200)
	for _, x := range []struct {
		p     api.Perm
		state api.Term
		keys  []api.GroupKey
		err   api.Errno
	}{
		{wrong, api.Term{}, []api.GroupKey{{Group: 1}}, api.ErrPerm},
		{wrong, great, nil, api.ErrPerm},
		{right, api.Term{}, nil, api.ErrTerm},
		{right, state(), []api.GroupKey{{Group: 3}}, api.ErrTerm},
		{right, great, nil, api.ErrNone},
		{right, great, keysOf(1), api.ErrNone},
		{right, great, keysOf(2), api.ErrNone},
		{right, great, keysOf(2, 1), api.ErrTerm},
		{right, chain(60), keysOf(3, 1), api.ErrNone},
		{right, state(), []api.GroupKey{{Group: 1, Key: great}}, api.ErrNone},
		{right, state(), []api.GroupKey{{Group: 1, Key: great}, {Group: 2, Key: great}}, api.ErrTerm},
	} {
		checkNot(t, "more than one thing is wrong", x.p, x.state, x.keys, x.err)
	}
}

// P13.1: a state of which the boxes are just small enough, and one that is just too great; so with each number of boxes.
func TestMakeSize(t *testing.T) {
	for p := range everyPerm() {
		if p.Owner > 2 {
			continue
		}
		// Each row is four terms and the state, a group's its key besides; the list's end is one more. What is left the first group's key fills.
		rows, groups := 1+len(p.Readers)+len(p.Groups), len(p.Groups)
		size := (1200-1-groups)/rows - 4
		left := 1200 - 1 - rows*(4+size) - groups
		keys := keysOf(1, 2, 3)
		if groups > 0 {
			keys[p.Groups[0]-1].Key = bush(1 + left)
			left = 0
		}
		boxes := checkMake(t, "just small enough", p, bush(size), keys)
		if got := term.Size(boxes); got != 1200-left {
			t.Errorf("the boxes of %v have the size %d", p, got)
		}
		checkNot(t, "just too great", p, bush(size+1), keys, api.ErrTerm)
		if groups > 0 {
			keys[p.Groups[0]-1].Key = hash(keys[p.Groups[0]-1].Key)
			checkNot(t, "a key that is just too great", p, bush(size), keys, api.ErrTerm)
		}
	}
	alone := list(rowAt(0, said(""), state()))
	checkMade(t, "a great key that has no box", api.Perm{Owner: 1, Epoch: 1}, state(), []api.GroupKey{{Group: 2, Key: bush(1200)}, {Group: 3, Key: chain(60)}}, alone, api.OK)
}

// P13.1: a state, and a key, of which the boxes are just flat enough, and ones that are just too deep.
func TestMakeDepth(t *testing.T) {
	for p := range everyPerm() {
		if p.Owner > 2 {
			continue
		}
		// The last row stands below all that are ahead of it, and the state below that row's pair and box.
		rows := 1 + len(p.Readers) + len(p.Groups)
		deepest := 60 - 2 - rows
		boxes := checkMake(t, "just flat enough", p, chain(deepest), keysOf(1, 2, 3))
		if _, depth := measure(boxes); depth != 60 || perm.Check(p) != api.OK {
			t.Errorf("the boxes of %v have the depth %d", p, depth)
		}
		checkNot(t, "just too deep", p, chain(deepest+1), keysOf(1, 2, 3), api.ErrTerm)
		for k, group := range p.Groups {
			// A key that stands further ahead may be deeper.
			keys := keysOf(1, 2, 3)
			deep := deepest + len(p.Groups) - 1 - k
			keys[group-1].Key = chain(deep)
			checkMake(t, "a key just flat enough", p, state(), keys)
			keys[group-1].Key = chain(deep + 1)
			checkNot(t, "a key just too deep", p, state(), keys, api.ErrTerm)
		}
	}
}
