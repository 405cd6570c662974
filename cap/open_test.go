package cap_test

import (
	"slices"
	"testing"

	"safehouse/api"
	"safehouse/cap"
)

// checkOpen holds Open against what is wanted, and what was handed in against what it was.
func checkOpen(t *testing.T, what string, boxes api.Term, user int, keys []api.GroupKey, want api.Term, wanted api.Errno) {
	t.Helper()
	before, had := plain([]api.Term{boxes})[0], plainKeys(keys)
	got, err := cap.Open(boxes, user, keys)
	if err != wanted || !equal(got, want) {
		t.Errorf("%s: Open(%s, %d, %s): %s, %d, not %s, %d", what, show(boxes), user, show(keys), show(got), err, show(want), wanted)
	}
	if !equal(boxes, before) || !equalKeys(keys, had) {
		t.Errorf("%s: Open changed what it was handed", what)
	}
}

// checkModel holds Open against the chapter's words.
func checkModel(t *testing.T, what string, boxes api.Term, user int, keys []api.GroupKey) {
	t.Helper()
	want, wanted := opened(boxes, user, keys)
	checkOpen(t, what, boxes, user, keys, want, wanted)
}

// P13.3: boxes of all choices of users and groups, each with something else in it; for all users and some numbers beside them, with the keys of all choices of groups.
func TestOpenAll(t *testing.T) {
	for which := 1; which < 1<<9; which++ {
		boxes := list(someRows(which)...)
		for user := -1; user <= 10; user++ {
			for groups := range 8 {
				var keys []api.GroupKey
				want, err := api.Term{}, api.ErrNone
				for group := 3; group >= 1; group-- {
					if groups>>(group-1)&1 == 0 {
						continue
					}
					keys = append(keys, api.GroupKey{Group: group, Key: keyOf(group)})
					if place := group + 5; which>>place&1 == 1 {
						want, err = bodyOf(place), api.OK
					}
				}
				if user >= 1 && user <= 6 && which>>(user-1)&1 == 1 {
					want, err = bodyOf(user-1), api.OK
				}
				checkOpen(t, "all boxes", boxes, user, keys, want, err)
				slices.Reverse(keys)
				checkModel(t, "all boxes", boxes, user, keys)
			}
		}
	}
}

// P13.3: for no user only keys open, and no number comes to a user.
func TestOpenForNoUser(t *testing.T) {
	users, both := list(someRows(0x3f)...), list(someRows(1<<9-1)...)
	for _, no := range noNumbers() {
		checkOpen(t, "for no user", users, no, nil, api.Term{}, api.ErrNone)
		checkOpen(t, "for no user", users, no, keysOf(1, 2, 3), api.Term{}, api.ErrNone)
		checkOpen(t, "for no user", both, no, nil, api.Term{}, api.ErrNone)
		checkOpen(t, "for no user", both, no, []api.GroupKey{}, api.Term{}, api.ErrNone)
		checkOpen(t, "for no user", both, no, keysOf(3), bodyOf(8), api.OK)
		checkOpen(t, "for no user", both, no, keysOf(3, 2), bodyOf(7), api.OK)
	}
	// A user's box goes ahead of each group's, and a group's number is no user's.
	for user := 1; user <= 6; user++ {
		checkOpen(t, "for a user", both, user, keysOf(1, 2, 3), bodyOf(user-1), api.OK)
		checkOpen(t, "for a user", both, user, nil, bodyOf(user-1), api.OK)
		checkOpen(t, "for a user without a box", list(someRows(7<<6)...), user, nil, api.Term{}, api.ErrNone)
		checkOpen(t, "for a user without a box", list(someRows(7<<6)...), user, keysOf(2), bodyOf(7), api.OK)
	}
}

// P13.3: keys that fit no box, the first one, the last one, several; of the right group another term, of another group the right term, terms that may not be.
func TestOpenKeys(t *testing.T) {
	boxes := list(someRows(1<<1 | 7<<6)...)
	key := func(group int, k api.Term) api.GroupKey { return api.GroupKey{Group: group, Key: k} }
	for _, x := range []struct {
		keys []api.GroupKey
		want api.Term
		err  api.Errno
	}{
		{[]api.GroupKey{key(1, keyOf(2))}, api.Term{}, api.ErrNone},
		{[]api.GroupKey{key(1, keyOf(2)), key(2, keyOf(3)), key(3, keyOf(1))}, api.Term{}, api.ErrNone},
		{[]api.GroupKey{key(2, keyOf(1)), key(3, keyOf(1)), key(0, keyOf(1)), key(4, keyOf(1)), key(-1, keyOf(1))}, api.Term{}, api.ErrNone},
		{[]api.GroupKey{key(2, keyOf(1)), key(1, keyOf(1))}, bodyOf(6), api.OK},
		{[]api.GroupKey{key(3, keyOf(3)), key(2, keyOf(2)), key(1, keyOf(1))}, bodyOf(6), api.OK},
		{[]api.GroupKey{key(3, keyOf(3)), key(2, keyOf(2)), key(1, keyOf(2))}, bodyOf(7), api.OK},
		{[]api.GroupKey{key(3, keyOf(3)), key(2, keyOf(1)), key(1, keyOf(2))}, bodyOf(8), api.OK},
		{[]api.GroupKey{key(1, said("a")), key(1, keyOf(2)), key(1, keyOf(1)), key(1, said("b"))}, bodyOf(6), api.OK},
		{[]api.GroupKey{key(3, said("a")), key(3, keyOf(3)), key(2, said("a"))}, bodyOf(8), api.OK},
		{[]api.GroupKey{key(2, api.Term{}), key(2, keyOf(2)), key(1, api.Term{Kind: 6})}, bodyOf(7), api.OK},
	} {
		for _, user := range []int{1, 3, 6, 0, -2, 7} {
			checkOpen(t, "keys", boxes, user, x.keys, x.want, x.err)
			checkModel(t, "keys", boxes, user, x.keys)
		}
		checkOpen(t, "for a user with a box", boxes, 2, x.keys, bodyOf(1), api.OK)
	}
	for _, no := range noGroups() {
		for group := 1; group <= 3; group++ {
			checkOpen(t, "a key of no group", boxes, 1, []api.GroupKey{key(no, keyOf(group)), key(group+256, keyOf(group)), key(-group, keyOf(group)), key(group+1<<32, keyOf(group))}, api.Term{}, api.ErrNone)
		}
	}
}

// P13.3: a key is held against the lock's, field by field and Kid by Kid.
func TestOpenSameKey(t *testing.T) {
	for _, k := range states() {
		boxes := list(pair(said("g2"), lock(k, state())))
		others := []api.Term{state(), hash(k), pair(k, k), lock(k, state()), seal(2, k), said("g2"), atom(1, 40001), atom(2, 40000), said("stat"), said("state "), secret(4), sign(6, 65534, said("x")), sign(5, 65535, said("x")), sign(6, 65535, said("y"))}
		for _, other := range append(others, wrongTerms()...) {
			keys := []api.GroupKey{{Group: 2, Key: other}}
			checkModel(t, "another key", boxes, 1, keys)
			if _, err := cap.Open(boxes, 1, keys); (err == api.OK) != equal(k, other) {
				t.Errorf("%v opens the lock of %v: %d", other, k, err)
			}
			checkOpen(t, "behind another key", boxes, 1, append(keys, api.GroupKey{Group: 2, Key: k}), state(), api.OK)
		}
		for _, field := range []func(*api.Term){func(x *api.Term) { x.Kind++ }, func(x *api.Term) { x.User++ }, func(x *api.Term) { x.Num-- }, func(x *api.Term) { x.Text += "a" }, func(x *api.Term) { x.Kids = append(x.Kids, said("")) }} {
			other := plain([]api.Term{k})[0]
			field(&other)
			checkOpen(t, "a key with another field", boxes, 1, []api.GroupKey{{Group: 2, Key: other}}, api.Term{}, api.ErrNone)
		}
	}
}

// P13.3: several groups whose locks have the same key: it opens that of its own group alone.
func TestOpenLikeLocks(t *testing.T) {
	k := atom(3, 3)
	boxes := list(rowAt(3, k, bodyOf(3)), rowAt(6, k, bodyOf(6)), rowAt(7, k, bodyOf(7)), rowAt(8, k, bodyOf(8)))
	for group := 1; group <= 3; group++ {
		checkOpen(t, "like locks", boxes, 1, []api.GroupKey{{Group: group, Key: k}}, bodyOf(group+5), api.OK)
		checkOpen(t, "like locks", boxes, 4, []api.GroupKey{{Group: group, Key: k}}, bodyOf(3), api.OK)
		checkOpen(t, "like locks", boxes, 1, []api.GroupKey{{Group: 3, Key: k}, {Group: group, Key: k}}, bodyOf(group+5), api.OK)
	}
}

// P13.3: of a lock the body is told and not the key, whatever both are; of what is sealed just that.
func TestOpenTellsBody(t *testing.T) {
	for _, k := range states() {
		for _, body := range states() {
			boxes := list(pair(said("u5"), seal(5, body)), pair(said("g3"), lock(k, body)))
			checkOpen(t, "the body", boxes, 5, nil, body, api.OK)
			checkOpen(t, "the body", boxes, 4, []api.GroupKey{{Group: 3, Key: k}}, body, api.OK)
			checkOpen(t, "the body", boxes, 4, []api.GroupKey{{Group: 2, Key: k}}, api.Term{}, api.ErrNone)
		}
	}
	checkOpen(t, "as great as may be", list(rowAt(1, said(""), bush(1195))), 2, nil, bush(1195), api.OK)
	checkOpen(t, "as deep as may be", list(rowAt(6, chain(57), chain(57))), 2, []api.GroupKey{{Group: 1, Key: chain(57)}}, chain(57), api.OK)
	checkOpen(t, "a great key", list(rowAt(8, bush(1000), bush(194))), 2, []api.GroupKey{{Group: 3, Key: bush(999)}, {Group: 3, Key: bush(1000)}}, bush(194), api.OK)
}

// P13.3: very many keys, the right one behind all others.
func TestOpenManyKeys(t *testing.T) {
	boxes := list(someRows(1<<7 | 1<<8)...)
	many := slices.Repeat(append(keysOf(1), api.GroupKey{Group: 2, Key: keyOf(3)}, api.GroupKey{Group: 3, Key: keyOf(2)}), 1<<16)
	checkOpen(t, "many keys", boxes, 1, many, api.Term{}, api.ErrNone)
	checkOpen(t, "many keys", boxes, 1, append(many, keysOf(3)...), bodyOf(8), api.OK)
	checkOpen(t, "many keys", boxes, 1, append(many, keysOf(3, 2)...), bodyOf(7), api.OK)
}
