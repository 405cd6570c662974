package perm_test

import (
	"fmt"
	"slices"
	"testing"

	"safehouse/api"
	"safehouse/perm"
)

// P11.1: all permissions that may be, with nil and with empty lists.
func TestCheckAllThatMayBe(t *testing.T) {
	for r := range everyRights(users(), epochs()) {
		p := r.perm()
		if err := perm.Check(p); err != api.OK {
			t.Fatalf("Check(%v): %d", p, err)
		}
		for _, l := range []*[]int{&p.Readers, &p.Writers, &p.Groups} {
			if *l == nil {
				*l = []int{}
			}
		}
		if err := perm.Check(p); err != api.OK {
			t.Fatalf("Check(%v), with empty lists: %d", p, err)
		}
	}
}

// checkHolds holds Check against ErrPerm or OK.
func checkHolds(t *testing.T, p api.Perm, mayBe bool) {
	t.Helper()
	want := api.ErrPerm
	if mayBe {
		want = api.OK
	}
	if err := perm.Check(p); err != want {
		t.Errorf("Check(%v): %d, not %d", p, err, want)
	}
}

// P11.1: the Owner is a user.
func TestCheckOwner(t *testing.T) {
	for owner := -3; owner <= 20; owner++ {
		checkHolds(t, perms(owner, 1, nil, nil, nil), owner >= 1 && owner <= 6)
		checkHolds(t, perms(owner, 8, nil, nil, []int{1, 2, 3}), owner >= 1 && owner <= 6)
	}
	for _, no := range noUsers() {
		checkHolds(t, perms(no, 1, nil, nil, nil), false)
		checkHolds(t, perms(no, 1, []int{2}, []int{2}, []int{2}), false)
	}
}

// P11.1: the Epoch is one.
func TestCheckEpoch(t *testing.T) {
	for epoch := -3; epoch <= 20; epoch++ {
		checkHolds(t, perms(1, epoch, nil, nil, nil), epoch >= 1 && epoch <= 8)
		checkHolds(t, perms(6, epoch, []int{1, 2}, []int{2}, []int{3}), epoch >= 1 && epoch <= 8)
	}
	for _, no := range noNumbers() {
		checkHolds(t, perms(1, no, nil, nil, nil), false)
		checkHolds(t, perms(2, no, []int{1}, []int{1}, []int{1}), false)
	}
}

// lists answers all lists of at most so many of these numbers.
func lists(most int, numbers ...int) [][]int {
	all := [][]int{nil}
	from := 0
	for range most {
		end := len(all)
		for _, l := range all[from:end] {
			for _, n := range numbers {
				all = append(all, append(slices.Clone(l), n))
			}
		}
		from = end
	}
	return all
}

// doRise tells whether the numbers are from 1 to most, and each one is above all ahead of it.
func doRise(l []int, most int) bool {
	for k, n := range l {
		for _, other := range l[:k] {
			if other >= n {
				return false
			}
		}
		if n < 1 || n > most {
			return false
		}
	}
	return true
}

// P11.1: all rows of readers and writers up to some length: users that rise, the Owner not among them, each writer a reader.
func TestCheckReadersAndWriters(t *testing.T) {
	for _, owner := range []int{1, 2, 6} {
		for _, readers := range lists(3, 0, 1, 2, 3, 5, 6, 7) {
			right := doRise(readers, 6) && !slices.Contains(readers, owner)
			checkHolds(t, perms(owner, 3, readers, nil, nil), right)
			for _, writers := range lists(3, 0, 1, 2, 3, 6, 7) {
				all := right && doRise(writers, 6)
				for _, writer := range writers {
					all = all && slices.Contains(readers, writer)
				}
				checkHolds(t, perms(owner, 3, readers, writers, nil), all)
			}
		}
	}
}

// P11.1: rows of all the users there may be, and one beyond.
func TestCheckLongRows(t *testing.T) {
	for owner := 1; owner <= 6; owner++ {
		others := slices.DeleteFunc(users(), func(user int) bool { return user == owner })
		checkHolds(t, perms(owner, 1, others, nil, nil), true)
		checkHolds(t, perms(owner, 1, others, others, []int{1, 2, 3}), true)
		checkHolds(t, perms(owner, 1, users(), nil, nil), false)
		checkHolds(t, perms(owner, 1, users(), users(), nil), false)
		checkHolds(t, perms(owner, 1, others, users(), nil), false)
		for k := range others {
			for user := -1; user <= 9; user++ {
				other := slices.Clone(others)
				other[k] = user
				checkHolds(t, perms(owner, 1, other, nil, nil), user == others[k])
				checkHolds(t, perms(owner, 1, others, other, nil), user == others[k])
				checkHolds(t, perms(owner, 1, slices.Insert(slices.Clone(others), k, user), nil, nil), false)
				checkHolds(t, perms(owner, 1, others, slices.Insert(slices.Clone(others), k, user), nil), false)
			}
		}
	}
}

// P11.1: all rows of groups up to one beyond as many as there are. A group is not held against users: it may have the Owner's number.
func TestCheckGroups(t *testing.T) {
	for _, groups := range lists(4, -1, 0, 1, 2, 3, 4, 5) {
		for owner := 1; owner <= 4; owner++ {
			checkHolds(t, perms(owner, 1, nil, nil, groups), doRise(groups, 3))
			checkHolds(t, perms(owner, 8, []int{5}, []int{5}, groups), doRise(groups, 3))
		}
	}
}

// P11.1: each thing that is wrong is told by itself.
func TestCheckWrong(t *testing.T) {
	for _, p := range wrongPerms() {
		if err := perm.Check(p); err != api.ErrPerm {
			t.Errorf("Check(%.200v): %d", fmt.Sprint(p), err)
		}
	}
}

// P11.1: what stands behind a list's end is no part of it.
func TestCheckRoom(t *testing.T) {
	room := []int{2, 3, 3, 1, 9}
	checkHolds(t, perms(1, 1, room[:2], room[:1], room[1:2]), true)
	checkHolds(t, perms(1, 1, room[:3], nil, nil), false)
	checkHolds(t, perms(1, 1, nil, room[:1], nil), false)
	checkHolds(t, perms(1, 1, room[:0], room[:1], nil), false)
}

// P11.1: New answers what is the owner's alone, in the epoch 1, of each user; of what is no user ErrArg.
func TestNew(t *testing.T) {
	for owner := 1; owner <= 6; owner++ {
		p, err := perm.New(owner)
		checkIs(t, fmt.Sprintf("New(%d)", owner), p, err, api.Perm{Owner: owner, Epoch: 1})
		if wrong := perm.Check(p); wrong != api.OK {
			t.Errorf("Check(New(%d)): %d", owner, wrong)
		}
		for user := 0; user <= 7; user++ {
			if perm.MayWrite(p, user) != (user == owner) || perm.MayRead(p, user, []api.Belongs{{Group: 1, User: user}}) != (user == owner) {
				t.Errorf("what %d may by New(%d)", user, owner)
			}
		}
	}
	for _, no := range noUsers() {
		p, err := perm.New(no)
		checkOnly(t, fmt.Sprintf("New(%d)", no), p, err, api.ErrArg)
	}
}

// checkSame holds Same against what is wanted, both ways round.
func checkSame(t *testing.T, a, b api.Perm, want bool) {
	t.Helper()
	if perm.Same(a, b) != want || perm.Same(b, a) != want {
		t.Errorf("Same(%v, %v): not %t", a, b, want)
	}
}

// P11.1: all rights of some owners and epochs, each held against itself and against others.
func TestSame(t *testing.T) {
	var all []api.Perm
	for r := range everyRights([]int{1, 2}, []int{1, 8}) {
		checkSame(t, r.perm(), r.perm(), true)
		if len(all)%7 == 0 || r.epoch == 1 && r.owner == 1 && r.may[6] == nothing {
			all = append(all, r.perm())
		}
		other := r
		other.epoch = 9 - r.epoch
		checkSame(t, r.perm(), other.perm(), false)
		for user := 3; user <= 6; user++ {
			for _, what := range []byte{1, 2} {
				other = r
				other.may[user] = (r.may[user] + what) % 3
				checkSame(t, r.perm(), other.perm(), false)
			}
		}
		for group := 1; group <= 3; group++ {
			other = r
			other.shared[group] = !r.shared[group]
			checkSame(t, r.perm(), other.perm(), false)
		}
	}
	for i, a := range all {
		for k, b := range all {
			if perm.Same(a, b) != (i == k) {
				t.Fatalf("Same(%v, %v): %t", a, b, i != k)
			}
		}
	}
}

// P11.1: permissions that may not be are held against one another, too, row by row: the same numbers in another order, or row, are not the same.
func TestSameOfWrong(t *testing.T) {
	l := []api.Perm{
		{}, {Owner: 1}, {Epoch: 1}, {Owner: 7}, {Owner: -1, Epoch: -1}, {Owner: 1, Epoch: 2}, {Owner: 2, Epoch: 1},
		{Readers: []int{2}}, {Writers: []int{2}}, {Groups: []int{2}}, {Readers: []int{0}}, {Writers: []int{0}}, {Groups: []int{0}},
		{Readers: []int{2, 3}}, {Readers: []int{3, 2}}, {Readers: []int{2, 2}}, {Readers: []int{2, 3, 3}}, {Readers: []int{2}, Writers: []int{3}}, {Readers: []int{3}, Writers: []int{2}},
		{Writers: []int{2, 3}}, {Writers: []int{3, 2}}, {Writers: []int{2}, Groups: []int{3}}, {Groups: []int{2, 3}}, {Groups: []int{3, 2}}, {Groups: []int{3, 3}}, {Readers: []int{2}, Groups: []int{3}},
		{Readers: []int{258}}, {Readers: []int{1<<32 + 2}}, {Owner: 257}, {Owner: 1<<32 + 1}, {Epoch: 257}, {Epoch: 1<<32 + 1}, {Groups: []int{258}}, {Writers: []int{258}},
	}
	for i, a := range l {
		for k, b := range l {
			checkSame(t, a, b, i == k)
			checkSame(t, plain(a), b, i == k)
		}
	}
}

// P11.1, R3: nil and empty lists are one, and the room behind a list's end counts for nothing.
func TestSameOfEmpty(t *testing.T) {
	checkSame(t, perms(1, 1, nil, nil, nil), perms(1, 1, []int{}, []int{}, []int{}), true)
	checkSame(t, perms(1, 1, []int{2, 3}, nil, []int{1}), perms(1, 1, []int{2, 3, 4}[:2], []int{2}[:0], []int{1, 2, 3}[:1]), true)
	checkSame(t, perms(1, 1, []int{2, 3}, nil, nil), perms(1, 1, []int{2, 3, 4}[:1], nil, nil), false)
}
