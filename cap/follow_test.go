package cap_test

import (
	"fmt"
	"slices"
	"testing"

	"safehouse/api"
	"safehouse/cap"
	"safehouse/close"
	"safehouse/perm"
)

// membersOf answers rows that say that the user is in each of the groups whose bits are set, and the others are in those in which that user is not.
func membersOf(user, groups int) []api.Belongs {
	var l []api.Belongs
	for group := 1; group <= 3; group++ {
		for other := 1; other <= 6; other++ {
			if (other == user) == (groups>>(group-1)&1 == 1) {
				l = append(l, api.Belongs{Group: group, User: other})
			}
		}
	}
	return l
}

// keysFor answers the keys of the groups that the user is in, as the rows say.
func keysFor(user int, l []api.Belongs) []api.GroupKey {
	var keys []api.GroupKey
	for _, row := range l {
		if row.User == user {
			keys = append(keys, keysOf(row.Group)...)
		}
	}
	return keys
}

// P13.4: who may read, by themselves or by a group, opens what was put in; nobody else does.
func TestWhoMayReadOpens(t *testing.T) {
	for p := range everyPerm() {
		boxes := checkMake(t, "all keys there", p, state(), keysOf(1, 2, 3))
		for user := -1; user <= 8; user++ {
			for groups := range 8 {
				members := membersOf(user, groups)
				want, err := api.Term{}, api.ErrNone
				if perm.MayRead(p, user, members) {
					want, err = state(), api.OK
				}
				checkOpen(t, "who may read", boxes, user, keysFor(user, members), want, err)
			}
		}
	}
}

// checkAtoms holds what atoms and secrets can be reckoned from what is known.
func checkAtoms(t *testing.T, what string, known []api.Term, want ...api.Term) {
	t.Helper()
	got, err := close.Atoms(known)
	if err != api.OK || !sameTerms(got, want) {
		t.Errorf("%s: from %s: %v, %d, not %v", what, show(known), got, err, want)
	}
}

// sameTerms tells whether both lists have the same terms, in whatever order.
func sameTerms(a, b []api.Term) bool {
	for _, x := range a {
		if !slices.ContainsFunc(b, func(y api.Term) bool { return equal(x, y) }) {
			return false
		}
	}
	return len(a) == len(b)
}

// P13.4: from boxes of a fresh state nobody can reckon it but by a secret of the Owner or of a reader, or by a group's key; nor can anybody reckon the keys.
func TestReckonedFromBoxes(t *testing.T) {
	for p := range everyPerm() {
		what := fmt.Sprintf("boxes of %v", p)
		boxes, err := cap.Make(p, state(), keysOf(1, 2, 3))
		if err != api.OK {
			t.Fatalf("%s: %d", what, err)
		}
		outside := []api.Term{boxes}
		checkAtoms(t, what, outside)
		for user := 1; user <= 6; user++ {
			if user == p.Owner || slices.Contains(p.Readers, user) {
				checkAtoms(t, what, []api.Term{secret(user), boxes}, secret(user), state())
			} else {
				outside = append(outside, secret(user))
			}
		}
		for group := 1; group <= 3; group++ {
			if slices.Contains(p.Groups, group) {
				checkAtoms(t, what, []api.Term{boxes, keyOf(group)}, keyOf(group), state())
			} else {
				outside = append(outside, keyOf(group))
			}
		}
		checkAtoms(t, what+", all who are none of them together", outside, outside[1:]...)
	}
}

// P13.4: a group's key that can be put together opens, its pieces alone do not; one that everybody can say keeps nothing.
func TestReckonedKeys(t *testing.T) {
	p := api.Perm{Owner: 1, Epoch: 1, Groups: []int{2}}
	a, b := atom(2, 1), atom(2, 2)
	boxes := checkMake(t, "a key of pieces", p, state(), []api.GroupKey{{Group: 2, Key: hash(pair(a, b))}})
	checkAtoms(t, "a key of pieces", []api.Term{boxes, a}, a)
	checkAtoms(t, "a key of pieces", []api.Term{boxes, b}, b)
	checkAtoms(t, "a key of pieces", []api.Term{boxes, a, b}, a, b, state())
	checkAtoms(t, "a key of pieces", []api.Term{boxes, hash(pair(a, b))}, state())
	boxes = checkMake(t, "a text as key", p, state(), []api.GroupKey{{Group: 2, Key: said("k")}})
	checkAtoms(t, "a text as key", []api.Term{boxes}, state())
}

// changed answers the permissions behind a picked change of p, and whether there was one.
func changed(pick *chance, p api.Perm) (api.Perm, bool) {
	other, kind := 1+pick.below(6), pick.below(10)
	var next api.Perm
	var err api.Errno
	switch {
	case kind < 4:
		next, err = perm.Share(p, p.Owner, other, pick.below(2) == 0)
	case kind < 5:
		next, err = perm.Back(p, p.Owner, other)
	case kind < 8:
		next, err = perm.ShareGroup(p, p.Owner, other)
	case kind < 9:
		next, err = perm.BackGroup(p, p.Owner, other)
	default:
		next, err = perm.Next(p)
	}
	return next, err == api.OK
}

// P13.4: long rows of permissions, with a fresh state behind each change: each who may read then opens its boxes, nobody else does; and from all boxes that there ever were everybody reckons the states of those alone which they might read.
func TestLongRows(t *testing.T) {
	for seed := chance(1); seed <= 60; seed++ {
		pick := seed
		p, _ := perm.New(1 + pick.below(6))
		var members []api.Belongs
		for group := 1; group <= 3; group++ {
			for user := 1; user <= 6; user++ {
				if pick.below(3) == 0 {
					members = append(members, api.Belongs{Group: group, User: user})
				}
			}
		}
		var all []api.Term
		reckoned := map[int][]api.Term{}
		for len(all) < 40 {
			s := atom(p.Owner, 40000+len(all))
			boxes := checkMake(t, "a long row", p, s, keysOf(3, 1, 2))
			all = append(all, boxes)
			for user := 1; user <= 6; user++ {
				want, err := api.Term{}, api.ErrNone
				if perm.MayRead(p, user, members) {
					want, err = s, api.OK
					reckoned[user] = append(reckoned[user], s)
				}
				checkOpen(t, "a long row", boxes, user, keysFor(user, members), want, err)
			}
			there := false
			for tries := 0; !there && tries < 100; tries++ {
				var next api.Perm
				if next, there = changed(&pick, p); there {
					p = next
				}
			}
			if !there {
				break
			}
		}
		for user := 1; user <= 6; user++ {
			known := append([]api.Term{secret(user)}, all...)
			want := append([]api.Term{secret(user)}, reckoned[user]...)
			for _, k := range keysFor(user, members) {
				known, want = append(known, k.Key), append(want, k.Key)
			}
			checkAtoms(t, fmt.Sprintf("row %d, user %d", seed, user), known, want...)
		}
		checkAtoms(t, "all boxes alone", all)
	}
}

// places answers where the terms of l stand, and all beneath them.
func places(l []api.Term) []*api.Term {
	var out []*api.Term
	for k := range l {
		out = append(append(out, &l[k]), places(l[k].Kids)...)
	}
	return out
}

// checkOwn holds what is answered against memory that others have: places in no two lists, and nothing that changes as others are changed.
func checkOwn(t *testing.T, what string, handed []*api.Term, answer func() api.Term) {
	t.Helper()
	first, second := answer(), answer()
	want := plain([]api.Term{second})[0]
	met := map[*api.Term]bool{}
	for _, p := range handed {
		met[p] = true
	}
	for _, p := range append(places(first.Kids), places(second.Kids)...) {
		if met[p] {
			t.Fatalf("%s: one place stands in two lists", what)
		}
		met[p] = true
	}
	for _, p := range places(first.Kids) {
		p.Kids = append(p.Kids, said("more"))
		*p = said("another")
	}
	for _, p := range places(second.Kids) {
		_ = append(p.Kids, said("behind"), said("behind"))
	}
	if !equal(second, want) || !equal(answer(), want) {
		t.Fatalf("%s: an answer that was changed changed another", what)
	}
	for _, p := range handed {
		*p = said("changed")
	}
	if !equal(second, want) {
		t.Fatalf("%s: what was handed in, changed, changed an answer", what)
	}
}

// R3: boxes are new memory, Kid by Kid, the state in each of them, too; what Make is handed is not changed, the room behind a list's end neither.
func TestMakeIsOwn(t *testing.T) {
	twice := []api.Term{said("in two places")}
	s := []api.Term{{Kind: 4, Kids: []api.Term{{Kind: 5, Kids: twice}, {Kind: 5, Kids: twice}}}}
	keys := []api.GroupKey{{Group: 3, Key: api.Term{Kind: 5, Kids: twice}}, {Group: 1, Key: s[0]}, {Group: 2, Key: said("room")}, {Group: 1, Key: said("room")}}[:2]
	numbers := []int{2, 4, 5, 1, 3, 9, 9, 9}
	p := api.Perm{Owner: 3, Epoch: 1, Readers: numbers[:3], Writers: numbers[1:2], Groups: numbers[3:5]}
	was, room := slices.Clone(numbers), plainKeys(whole(keys))
	boxes := checkMake(t, "with room behind", p, s[0], keys)
	checkRight(t, "with room behind", boxes)
	if !slices.Equal(numbers, was) || !equalKeys(whole(keys), room) {
		t.Fatal("Make changed the room behind a list's end")
	}
	handed := places(s)
	for k := range keys {
		handed = append(handed, places([]api.Term{keys[k].Key})[1:]...)
	}
	checkOwn(t, "Make", handed, func() api.Term {
		boxes, _ := cap.Make(p, s[0], keys)
		return boxes
	})
}

// R3: what was in a box is new memory, and so are the lists of who has one; what is handed in is not changed, the room behind a list's end neither.
func TestOpenIsOwn(t *testing.T) {
	twice := []api.Term{said("in two places")}
	body := api.Term{Kind: 4, Kids: []api.Term{{Kind: 5, Kids: twice}, {Kind: 5, Kids: twice}}}
	for _, x := range []struct {
		user int
		keys []api.GroupKey
	}{{4, nil}, {2, nil}, {1, []api.GroupKey{{Group: 1, Key: body}, {Group: 1, Key: said("room")}}[:1]}, {1, []api.GroupKey{{Group: 2, Key: said("no")}, {Group: 3, Key: api.Term{Kind: 5, Kids: twice}}}}} {
		l := []api.Term{list(rowAt(1, body, body), rowAt(3, body, body), rowAt(6, body, body), rowAt(8, hash(twice[0]), body))}
		before, room := plain(l), plainKeys(whole(x.keys))
		checkOpen(t, "memory of its own", l[0], x.user, x.keys, plain([]api.Term{body})[0], api.OK)
		if !equal(l[0], before[0]) || !equalKeys(whole(x.keys), room) {
			t.Fatal("Open changed what it was handed")
		}
		copies := plain(l)
		checkOwn(t, "Open", append(places(copies), &twice[0]), func() api.Term {
			got, _ := cap.Open(copies[0], x.user, x.keys)
			return got
		})
		twice[0] = said("in two places")
	}
	boxes := list(someRows(1<<9 - 1)...)
	users, groups, _ := cap.Users(boxes)
	again, others, _ := cap.Users(boxes)
	for _, own := range [][]int{whole(users), whole(groups)} {
		for k := range own {
			own[k] = 99
		}
	}
	if !slices.Equal(again, []int{1, 2, 3, 4, 5, 6}) || !slices.Equal(others, []int{1, 2, 3}) {
		t.Errorf("two answers of Users share memory: %v, %v", again, others)
	}
	clear(whole(again))
	if !slices.Equal(others, []int{1, 2, 3}) {
		t.Errorf("two lists of Users share memory: %v", others)
	}
}

// R1: whatever is handed in, each call ends and tells no more than the model: all choices of wrong and right things.
func TestWhateverIsHandedIn(t *testing.T) {
	terms := append(append(wrongTerms(), notLists()...), state(), list(someRows(1<<9-1)...), list(someRows(5)...), list(someRows(5<<6)...))
	keys := [][]api.GroupKey{nil, {}, {{}}, keysOf(1, 2, 3), keysOf(noGroups()...), {{Group: 1}, {Group: 2, Key: api.Term{Kids: []api.Term{{}, {}}}}, {Group: 3, Key: chain(100)}}}
	for _, x := range terms {
		checkBoxes(t, "whatever it is", x)
		for _, l := range keys {
			for _, user := range append(noNumbers(), 1, 2, 6) {
				checkModel(t, "whatever it is", x, user, l)
			}
			for _, p := range []api.Perm{{}, {Owner: -1, Epoch: -1, Readers: []int{-1}, Groups: []int{-1}}, {Owner: 1, Epoch: 1}, {Owner: 1, Epoch: 1, Readers: []int{2}, Groups: []int{1, 3}}, {Owner: 1, Epoch: 1, Readers: []int{}, Writers: []int{}, Groups: []int{}}} {
				checkMake(t, "whatever it is", p, x, l)
			}
		}
	}
}

// R1: a list of Kids that holds itself is no term that may be, and no key of a lock.
func TestKidsThatHoldThemselves(t *testing.T) {
	for _, kind := range []int{4, 5, 6, 7, 8} {
		kids := make([]api.Term, 1, 2)
		if kind == 4 || kind == 6 {
			kids = kids[:2]
		}
		for k := range kids {
			kids[k] = api.Term{Kind: kind, Kids: kids}
			if kind > 6 {
				kids[k].User = 1
			}
		}
		endless := kids[0]
		p := api.Perm{Owner: 1, Epoch: 1, Groups: []int{1}}
		if got, err := cap.Make(p, endless, keysOf(1)); err != api.ErrTerm || !equal(got, api.Term{}) {
			t.Errorf("Make with an endless state: %d", err)
		}
		if got, err := cap.Make(p, state(), []api.GroupKey{{Group: 1, Key: endless}}); err != api.ErrTerm || !equal(got, api.Term{}) {
			t.Errorf("Make with an endless key: %d", err)
		}
		if err := cap.Check(endless); err != api.ErrCap {
			t.Errorf("Check of what is endless: %d", err)
		}
		for _, k := range []api.Term{keyOf(1), hash(hash(said("x"))), chain(57), seal(1, seal(1, said("")))} {
			if got, err := cap.Open(list(pair(said("g1"), lock(k, state()))), 2, []api.GroupKey{{Group: 1, Key: endless}}); err != api.ErrNone || !equal(got, api.Term{}) {
				t.Errorf("Open by an endless key: %d", err)
			}
		}
	}
}

// R3, R5: nil and empty lists are one, in permissions, in keys and in terms; the same is answered each time.
func TestNilAndEmpty(t *testing.T) {
	none := []api.Term{}
	empty := api.Term{Kind: 2, User: 1, Num: 40000, Kids: none}
	key := api.Term{Kind: 5, Kids: []api.Term{{Kind: 1, Text: "k", Kids: none}}}
	want := list(pair(said("u2"), seal(2, state())), pair(said("g1"), lock(hash(said("k")), state())))
	for range 3 {
		checkMade(t, "empty lists", api.Perm{Owner: 2, Epoch: 1, Readers: []int{}, Writers: []int{}, Groups: []int{1}}, empty, []api.GroupKey{{Group: 1, Key: key}}, want, api.OK)
		boxes := api.Term{Kind: 4, Kids: []api.Term{{Kind: 4, Kids: []api.Term{{Kind: 1, Text: "g1", Kids: none}, {Kind: 6, Kids: []api.Term{key, empty}}}}, {Kind: 1, Kids: none}}}
		checkRight(t, "empty lists", boxes)
		checkOpen(t, "empty lists", boxes, 2, []api.GroupKey{{Group: 1, Key: hash(said("k"))}}, state(), api.OK)
		checkOpen(t, "empty lists", boxes, 2, []api.GroupKey{}, api.Term{}, api.ErrNone)
	}
}
