package group_test

import (
	"fmt"
	"math"
	"slices"
	"testing"

	"safehouse/api"
	"safehouse/group"
)

// join answers what Join answers.
func join(g api.Group, user, next int) (c change) {
	c.g, c.l, c.n, c.err = group.Join(g, user, next)
	return c
}

// leave answers what Leave answers.
func leave(g api.Group, user, next int) (c change) {
	c.g, c.l, c.n, c.err = group.Leave(g, user, next)
	return c
}

// nums are the Nums of nodes, told as a node's number and its Num by turns.
func nums(l ...int) (a [16]int) {
	for k := 0; k < len(l); k += 2 {
		a[l[k]] = l[k+1]
	}
	return a
}

// P12.3: the chapter's examples, message by message.
func TestExamples(t *testing.T) {
	empty, err := group.New(1, 1)
	if err != api.OK {
		t.Fatal(err)
	}
	one := join(empty, 2, 1)
	checkChange(t, "Join(2, 1)", one, change{n: 4,
		g: api.Group{Number: 1, Owner: 1, Epoch: 1, Places: [8]int{2}, Nums: nums(8, 1, 4, 2, 2, 3, 1, 4)},
		l: []api.Term{
			pair(said("8"), seal(2, atom(1, 1))),
			pair(said("4"), lock(atom(1, 1), atom(1, 2))),
			pair(said("2"), lock(atom(1, 2), atom(1, 3))),
			pair(said("1"), lock(atom(1, 3), atom(1, 4))),
		}})
	two := join(one.g, 3, 5)
	checkChange(t, "Join(3, 5)", two, change{n: 4,
		g: api.Group{Number: 1, Owner: 1, Epoch: 2, Places: [8]int{2, 3}, Nums: nums(8, 1, 9, 5, 4, 6, 2, 7, 1, 8)},
		l: []api.Term{
			pair(said("9"), seal(3, atom(1, 5))),
			pair(said("4"), lock(atom(1, 1), atom(1, 6))),
			pair(said("4"), lock(atom(1, 5), atom(1, 6))),
			pair(said("2"), lock(atom(1, 6), atom(1, 7))),
			pair(said("1"), lock(atom(1, 7), atom(1, 8))),
		}})
	three := leave(two.g, 2, 9)
	checkChange(t, "Leave(2, 9)", three, change{n: 3,
		g: api.Group{Number: 1, Owner: 1, Epoch: 3, Places: [8]int{0, 3}, Nums: nums(9, 5, 4, 9, 2, 10, 1, 11)},
		l: []api.Term{
			pair(said("4"), lock(atom(1, 5), atom(1, 9))),
			pair(said("2"), lock(atom(1, 9), atom(1, 10))),
			pair(said("1"), lock(atom(1, 10), atom(1, 11))),
		}})
	checkOnly(t, "Join(3, 20)", join(three.g, 3, 20), api.ErrThere)
	checkOnly(t, "Join(4, 11)", join(three.g, 4, 11), api.ErrArg)
	checkOnly(t, "Leave(5, 20)", leave(three.g, 5, 20), api.ErrNone)
	if key, err := group.Key(three.g, 8); err != api.ErrNone || !equal(key, api.Term{}) {
		t.Errorf("Key(8): %v, %d", key, err)
	}
	// Whose place is free again is the next one's.
	checkChange(t, "Join(4, 12)", join(three.g, 4, 12), change{n: 4,
		g: api.Group{Number: 1, Owner: 1, Epoch: 4, Places: [8]int{4, 3}, Nums: nums(8, 12, 9, 5, 4, 13, 2, 14, 1, 15)},
		l: []api.Term{
			pair(said("8"), seal(4, atom(1, 12))),
			pair(said("4"), lock(atom(1, 12), atom(1, 13))),
			pair(said("4"), lock(atom(1, 5), atom(1, 13))),
			pair(said("2"), lock(atom(1, 13), atom(1, 14))),
			pair(said("1"), lock(atom(1, 14), atom(1, 15))),
		}})
	checkChange(t, "Leave(3, 12)", leave(three.g, 3, 12), change{g: api.Group{Number: 1, Owner: 1, Epoch: 4}})
}

// nexts are what may be handed in as next for a group, and what may not.
func nexts(g api.Group) []int {
	most := greatest(g)
	return []int{math.MinInt, -65535, -1, 0, 1, most - 1, most, most + 1, most + 2, most + 300, 32767, 65531, 65532, 65533, 65534, 65535, 65536, 65537, 1<<32 + 1, math.MaxInt - 3, math.MaxInt}
}

// P12.3: Join and Leave of all groups, of everybody, from each next on.
func TestJoinAndLeaveAll(t *testing.T) {
	for g := range everyGroup() {
		for user := -1; user <= 8; user++ {
			for _, next := range nexts(g) {
				what := fmt.Sprintf("of %v, of %d from %d on", g, user, next)
				checkChange(t, "Join "+what, join(g, user, next), joined(g, user, next))
				checkChange(t, "Leave "+what, leave(g, user, next), left(g, user, next))
			}
		}
		if t.Failed() {
			return
		}
	}
}

// P12.3: numbers that are no user.
func TestJoinNoUser(t *testing.T) {
	for _, g := range []api.Group{{Number: 1, Owner: 1}, laid(1, 2, 3, [8]int{1, 2, 0, 3}, from(1, 1)), laid(1, 2, 65535, [8]int{1, 2, 0, 3}, from(65535, -1))} {
		for _, no := range noUsers() {
			for _, next := range []int{0, 20, 65536} {
				checkOnly(t, fmt.Sprintf("Join of %d", no), join(g, no, next), api.ErrArg)
				checkOnly(t, fmt.Sprintf("Leave of %d", no), leave(g, no, next), api.ErrNone)
			}
		}
	}
}

// P12.3: which error, where more than one thing is wrong.
func TestWhichError(t *testing.T) {
	g := laid(1, 1, 65535, [8]int{2, 3}, from(10, 1))
	wrong := g
	wrong.Nums[0] = 1
	for _, x := range []struct {
		what       string
		g          api.Group
		user, next int
		join, left api.Errno
	}{
		{"no group, no user, no next", wrong, 0, 0, api.ErrGroup, api.ErrGroup},
		{"no group, a member", wrong, 2, 99, api.ErrGroup, api.ErrGroup},
		{"no group, no more epochs", wrong, 4, 65536, api.ErrGroup, api.ErrGroup},
		{"no user, no next, no more epochs", g, 7, 0, api.ErrArg, api.ErrNone},
		{"no user, a next too great", g, 0, 65536, api.ErrArg, api.ErrNone},
		{"a member, no next, no more epochs", g, 2, 14, api.ErrArg, api.ErrArg},
		{"a member, a next below nothing", g, 2, -1, api.ErrArg, api.ErrArg},
		{"a member, no more epochs", g, 2, 15, api.ErrThere, api.ErrFull},
		{"a member, a next too great", g, 3, math.MaxInt, api.ErrThere, api.ErrFull},
		{"no member, no next, no more epochs", g, 4, 14, api.ErrArg, api.ErrNone},
		{"no member, no more epochs", g, 4, 15, api.ErrFull, api.ErrNone},
		{"no member, a next too great", g, 4, 65536, api.ErrFull, api.ErrNone},
	} {
		checkOnly(t, "Join: "+x.what, join(x.g, x.user, x.next), x.join)
		checkOnly(t, "Leave: "+x.what, leave(x.g, x.user, x.next), x.left)
	}
}

// P12.3: a next is above all Nums, at whatever node the greatest one is.
func TestNextAboveAll(t *testing.T) {
	base := laid(2, 3, 5, [8]int{1, 2, 0, 3, 4, 0, 5}, from(10, 1))
	for node := 1; node <= 15; node++ {
		g := base
		if g.Nums[node] == 0 {
			continue
		}
		g.Nums[node] = 1000
		for _, next := range []int{1, 30, 999, 1000} {
			checkOnly(t, fmt.Sprintf("Join from %d on, %d has 1000", next, node), join(g, 6, next), api.ErrArg)
			checkOnly(t, fmt.Sprintf("Leave from %d on, %d has 1000", next, node), leave(g, 3, next), api.ErrArg)
		}
		checkChange(t, "Join just above", join(g, 6, 1001), joined(g, 6, 1001))
		checkChange(t, "Leave just above", leave(g, 3, 1001), left(g, 3, 1001))
		if join(g, 6, 1001).err != api.OK || leave(g, 3, 1001).err != api.OK {
			t.Error("just above is refused")
		}
	}
	empty, _ := group.New(1, 1)
	for _, next := range []int{0, -1, math.MinInt} {
		checkOnly(t, "Join to nobody", join(empty, 1, next), api.ErrArg)
	}
}

// P12.3: the last new Num may be MaxNum, and not one more; an Epoch too.
func TestFull(t *testing.T) {
	empty := api.Group{Number: 1, Owner: 1}
	pairs := laid(1, 1, 7, [8]int{1, 2, 0, 0, 3}, from(1, 1))
	for _, x := range []struct {
		what string
		c    change
		err  api.Errno
	}{
		{"Join, the last one is MaxNum", join(empty, 1, 65532), api.OK},
		{"Join, the last one is one more", join(empty, 1, 65533), api.ErrFull},
		{"Join, all but the first one are more", join(empty, 1, 65535), api.ErrFull},
		{"Join, all are more", join(empty, 1, 65536), api.ErrFull},
		{"Join to others, the last one is MaxNum", join(pairs, 4, 65532), api.OK},
		{"Join to others, the last one is one more", join(pairs, 4, 65533), api.ErrFull},
		{"Leave of one of two beside one another, the last one is MaxNum", leave(pairs, 1, 65533), api.OK},
		{"Leave of one of two beside one another, the last one is one more", leave(pairs, 1, 65534), api.ErrFull},
		{"Leave of one whose half nobody else is in, the last one is MaxNum", leave(pairs, 3, 65535), api.OK},
		{"Leave of one whose half nobody else is in, the last one is one more", leave(pairs, 3, 65536), api.ErrFull},
	} {
		if x.err != api.OK {
			checkOnly(t, x.what, x.c, x.err)
		} else if x.c.err != api.OK || greatest(x.c.g) != 65535 {
			t.Errorf("%s: %v", x.what, x.c)
		}
	}
	// Who leaves alone takes no Num; next itself may be MaxNum, and not more.
	only := laid(1, 1, 65534, [8]int{7: 3}, from(1, 1))
	checkChange(t, "Leave of the only one", leave(only, 3, 65535), change{g: api.Group{Number: 1, Owner: 1, Epoch: 65535}})
	checkChange(t, "Leave of the only one, from 5 on", leave(only, 3, 5), change{g: api.Group{Number: 1, Owner: 1, Epoch: 65535}})
	checkOnly(t, "Leave of the only one, from 4 on", leave(only, 3, 4), api.ErrArg)
	checkOnly(t, "Leave of the only one, too great", leave(only, 3, 65536), api.ErrFull)
	only.Epoch = 65535
	checkOnly(t, "Leave of the only one, no more epochs", leave(only, 3, 5), api.ErrFull)
	only.Nums[1] = 65535
	checkOnly(t, "Leave of the only one, no next above all Nums", leave(only, 3, 65535), api.ErrArg)
	checkOnly(t, "Join, no next above all Nums", join(only, 4, 65535), api.ErrArg)
	for _, epoch := range []int{0, 255, 256, 65533, 65534} {
		pairs.Epoch = epoch
		for _, c := range []change{join(pairs, 4, 100), leave(pairs, 1, 100)} {
			if c.err != api.OK || c.g.Epoch != epoch+1 {
				t.Errorf("in the epoch %d: %v", epoch, c)
			}
		}
	}
	pairs.Epoch = 65535
	checkOnly(t, "Join, no more epochs", join(pairs, 4, 100), api.ErrFull)
	checkOnly(t, "Leave, no more epochs", leave(pairs, 1, 100), api.ErrFull)
}

// P12.3: who comes gets the first free place; all six one behind the other, then those in the midst anew.
func TestPlaces(t *testing.T) {
	g, _ := group.New(3, 6)
	next := 1
	do := func(c change, place, user int) {
		t.Helper()
		if c.err != api.OK || c.g.Places[place] != user || c.g.Epoch != g.Epoch+1 || group.Check(c.g) != api.OK {
			t.Fatalf("%v", c)
		}
		g = c.g
		next += c.n
	}
	for k, user := range []int{4, 2, 6, 1, 3, 5} {
		do(join(g, user, next), k, user)
	}
	for user := 1; user <= 6; user++ {
		checkOnly(t, "a seventh one", join(g, user, next), api.ErrThere)
	}
	do(leave(g, 2, next), 1, 0)
	do(leave(g, 5, next), 5, 0)
	do(leave(g, 1, next), 3, 0)
	do(join(g, 5, next), 1, 5)
	do(join(g, 2, next), 3, 2)
	do(join(g, 1, next), 5, 1)
	if want := [8]int{4, 5, 6, 2, 3, 1}; g.Places != want {
		t.Errorf("%v, not %v", g.Places, want)
	}
	// The places behind those that the first six get are free, or taken, in groups that are handed in so.
	for _, x := range []struct {
		places [8]int
		free   int
	}{{[8]int{1, 2, 3, 4, 0, 5}, 4}, {[8]int{0, 0, 0, 1, 2, 3, 4, 5}, 0}, {[8]int{1, 0, 0, 2, 3, 4, 5, 0}, 1}, {[8]int{1, 2, 3, 4, 5}, 5}, {[8]int{7: 1}, 0}} {
		g := laid(1, 1, 0, x.places, from(1, 1))
		c := join(g, 6, 50)
		if c.err != api.OK || c.g.Places[x.free] != 6 || c.n != 4 {
			t.Errorf("Join to %v: %v", x.places, c)
		}
	}
}

// P12.3: All of all groups, and written out of one.
func TestAll(t *testing.T) {
	for g := range everyGroup() {
		if got := group.All(g); !equalAll(got, all(g)) {
			t.Fatalf("All(%v): %v, not %v", g, got, all(g))
		}
	}
	g := api.Group{Number: 2, Owner: 5, Epoch: 9, Places: [8]int{3, 1, 0, 0, 0, 0, 0, 6}, Nums: nums(8, 20, 9, 21, 4, 22, 2, 23, 1, 30, 15, 27, 7, 28, 3, 29)}
	want := []api.Term{
		pair(said("15"), seal(6, atom(5, 27))),
		pair(said("9"), seal(1, atom(5, 21))),
		pair(said("8"), seal(3, atom(5, 20))),
		pair(said("7"), lock(atom(5, 27), atom(5, 28))),
		pair(said("4"), lock(atom(5, 20), atom(5, 22))),
		pair(said("4"), lock(atom(5, 21), atom(5, 22))),
		pair(said("3"), lock(atom(5, 28), atom(5, 29))),
		pair(said("2"), lock(atom(5, 22), atom(5, 23))),
		pair(said("1"), lock(atom(5, 23), atom(5, 30))),
		pair(said("1"), lock(atom(5, 29), atom(5, 30))),
	}
	if got := group.All(g); !equalAll(got, want) {
		t.Errorf("All: %v", got)
	}
	empty, _ := group.New(1, 1)
	if got := group.All(empty); len(got) != 0 {
		t.Errorf("All of nobody: %v", got)
	}
}

// P12.3: who leaves from the midst of others, and whose place the next one gets, message by message.
func TestLeaveFromTheMidst(t *testing.T) {
	g := api.Group{Number: 2, Owner: 5, Epoch: 9, Places: [8]int{3, 1, 0, 2, 0, 4, 0, 6}, Nums: nums(8, 1, 9, 2, 11, 3, 13, 4, 15, 5, 4, 6, 5, 7, 6, 8, 7, 9, 2, 10, 3, 11, 1, 12)}
	c := leave(g, 2, 40)
	checkChange(t, "Leave(2, 40)", c, change{n: 2,
		g: api.Group{Number: 2, Owner: 5, Epoch: 10, Places: [8]int{3, 1, 0, 0, 0, 4, 0, 6}, Nums: nums(8, 1, 9, 2, 13, 4, 15, 5, 4, 6, 6, 8, 7, 9, 2, 40, 3, 11, 1, 41)},
		l: []api.Term{
			pair(said("2"), lock(atom(5, 6), atom(5, 40))),
			pair(said("1"), lock(atom(5, 40), atom(5, 41))),
			pair(said("1"), lock(atom(5, 11), atom(5, 41))),
		}})
	checkChange(t, "Join(5, 42)", join(c.g, 5, 42), change{n: 4,
		g: api.Group{Number: 2, Owner: 5, Epoch: 11, Places: [8]int{3, 1, 5, 0, 0, 4, 0, 6}, Nums: nums(8, 1, 9, 2, 10, 42, 13, 4, 15, 5, 4, 6, 5, 43, 6, 8, 7, 9, 2, 44, 3, 11, 1, 45)},
		l: []api.Term{
			pair(said("10"), seal(5, atom(5, 42))),
			pair(said("5"), lock(atom(5, 42), atom(5, 43))),
			pair(said("2"), lock(atom(5, 6), atom(5, 44))),
			pair(said("2"), lock(atom(5, 43), atom(5, 44))),
			pair(said("1"), lock(atom(5, 44), atom(5, 45))),
			pair(said("1"), lock(atom(5, 11), atom(5, 45))),
		}})
	checkChange(t, "Leave(6, 40)", leave(g, 6, 40), change{n: 2,
		g: api.Group{Number: 2, Owner: 5, Epoch: 10, Places: [8]int{3, 1, 0, 2, 0, 4}, Nums: nums(8, 1, 9, 2, 11, 3, 13, 4, 4, 6, 5, 7, 6, 8, 2, 10, 3, 40, 1, 41)},
		l: []api.Term{
			pair(said("3"), lock(atom(5, 8), atom(5, 40))),
			pair(said("1"), lock(atom(5, 10), atom(5, 41))),
			pair(said("1"), lock(atom(5, 40), atom(5, 41))),
		}})
}

// P12.3: a group that was handed in stays what it was, as one that comes of it is another.
func TestGroupStays(t *testing.T) {
	g := laid(1, 2, 3, [8]int{4, 5, 0, 6}, from(1, 1))
	before := g
	first := join(g, 1, 50)
	second := join(g, 1, 50)
	leave(g, 5, 50)
	if g != before || first.g != second.g {
		t.Errorf("%v, not %v", g, before)
	}
	if !slices.Equal(group.Members(g), []int{4, 5, 6}) {
		t.Errorf("Members: %v", group.Members(g))
	}
}
