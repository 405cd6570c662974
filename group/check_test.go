package group_test

import (
	"fmt"
	"math"
	"slices"
	"testing"

	"safehouse/api"
	"safehouse/group"
)

// checkHolds holds Check against ErrGroup or OK.
func checkHolds(t *testing.T, g api.Group, may bool) {
	t.Helper()
	want := api.ErrGroup
	if may {
		want = api.OK
	}
	if err := group.Check(g); err != want {
		t.Errorf("Check(%v): %d, not %d", g, err, want)
	}
}

// P12.1: groups that may be, members at all choices of places.
func TestCheckAllThatMayBe(t *testing.T) {
	n := 0
	for g := range everyGroup() {
		n++
		checkHolds(t, g, true)
	}
	if n != 247*6 {
		t.Errorf("%d groups", n)
	}
}

// P12.1: the Number is a group's, the Owner a user, the Epoch from 0 to MaxNum.
func TestCheckNumbers(t *testing.T) {
	for _, g := range []api.Group{{Number: 2, Owner: 3, Epoch: 4}, laid(2, 3, 4, [8]int{3, 0, 1, 2}, from(5, 2)), laid(1, 6, 65535, [8]int{0, 0, 6, 5, 4, 3, 2, 1}, from(65535, -1))} {
		for n := -3; n <= 20; n++ {
			x, y, z := g, g, g
			x.Number, y.Owner, z.Epoch = n, n, n
			checkHolds(t, x, n >= 1 && n <= 3)
			checkHolds(t, y, n >= 1 && n <= 6)
			checkHolds(t, z, n >= 0)
		}
		for _, no := range noNumbers() {
			x, y, z := g, g, g
			x.Number, y.Owner, z.Epoch = no, no, no
			checkHolds(t, x, false)
			checkHolds(t, y, false)
			checkHolds(t, z, false)
		}
		for _, epoch := range []int{0, 1, 255, 256, 257, 65534, 65535} {
			g.Epoch = epoch
			checkHolds(t, g, true)
		}
		g.Epoch = 65536
		checkHolds(t, g, false)
	}
}

// P12.1: at each place another number: a user who is there already, one who is not, nobody, and what is no user, with the keys as they were and with those that there are to be then.
func TestCheckPlaces(t *testing.T) {
	for g := range everyGroup() {
		for place := range g.Places {
			for _, user := range []int{-1, 0, 1, 2, 3, 4, 5, 6, 7, 8, 257, 1<<32 + 1} {
				x := g
				x.Places[place] = user
				checkHolds(t, x, mayBe(x))
				x = laid(x.Number, x.Owner, x.Epoch, x.Places, from(20, 3))
				checkHolds(t, x, mayBe(x))
			}
		}
	}
}

// P12.1: each node's Num another one: none, another node's, one that no node has, and what is no Num.
func TestCheckNums(t *testing.T) {
	k := 0
	for g := range everyGroup() {
		if k++; k%5 != 0 {
			continue
		}
		for node := range g.Nums {
			for _, num := range slices.Concat(g.Nums[:], []int{-1, 0, 1, 2, 65534, 65535, 65536, 65537, -65535, 1<<32 + 77, math.MaxInt, math.MinInt}) {
				x := g
				x.Nums[node] = num
				checkHolds(t, x, mayBe(x))
			}
		}
	}
}

// P12.1: each pair of nodes with one Num, and each node without one, in a group that has nodes of all rows.
func TestCheckPairsOfNodes(t *testing.T) {
	g := laid(3, 2, 9, [8]int{1, 0, 2, 3, 4, 5, 0, 6}, from(100, 7))
	checkHolds(t, g, true)
	for a := 1; a <= 15; a++ {
		for b := 1; b <= 15; b++ {
			x := g
			x.Nums[a] = g.Nums[b]
			checkHolds(t, x, a == b || g.Nums[a] == 0 && g.Nums[b] == 0)
			// Exchanged they are each one's own still, unless a key goes to a node that nobody is under.
			x.Nums[b] = g.Nums[a]
			checkHolds(t, x, (g.Nums[a] == 0) == (g.Nums[b] == 0))
		}
		x := g
		x.Nums[a] = 0
		checkHolds(t, x, g.Nums[a] == 0)
	}
	for _, num := range []int{1, 100, 65535} {
		x := g
		x.Nums[0] = num
		checkHolds(t, x, false)
	}
}

// P12.1: groups written out, that may be and that may not.
func TestCheckWrittenOut(t *testing.T) {
	for _, x := range []struct {
		g   api.Group
		may bool
	}{
		{api.Group{Number: 1, Owner: 1}, true},
		{api.Group{Number: 3, Owner: 6, Epoch: 65535}, true},
		{api.Group{Number: 1, Owner: 1, Places: [8]int{2}, Nums: nums(8, 1, 4, 2, 2, 3, 1, 4)}, true},
		{api.Group{Number: 1, Owner: 1, Places: [8]int{1}, Nums: nums(8, 1, 4, 2, 2, 3, 1, 4)}, true},
		{api.Group{Number: 1, Owner: 1, Places: [8]int{7: 2}, Nums: nums(15, 65535, 7, 2, 3, 1, 1, 65534)}, true},
		{api.Group{Number: 1, Owner: 1, Places: [8]int{2}, Nums: nums(4, 2, 2, 3, 1, 4)}, false},
		{api.Group{Number: 1, Owner: 1, Places: [8]int{2}, Nums: nums(8, 1, 2, 3, 1, 4)}, false},
		{api.Group{Number: 1, Owner: 1, Places: [8]int{2}, Nums: nums(8, 1, 4, 2, 2, 3)}, false},
		{api.Group{Number: 1, Owner: 1, Places: [8]int{2}, Nums: nums(8, 1, 4, 2, 2, 3, 1, 4, 9, 5)}, false},
		{api.Group{Number: 1, Owner: 1, Places: [8]int{2}, Nums: nums(8, 1, 4, 2, 2, 3, 1, 4, 3, 5)}, false},
		{api.Group{Number: 1, Owner: 1, Places: [8]int{2}, Nums: nums(8, 1, 4, 2, 2, 3, 1, 4, 0, 5)}, false},
		{api.Group{Number: 1, Owner: 1, Places: [8]int{2}, Nums: nums(8, 1, 4, 2, 2, 3, 1, 3)}, false},
		{api.Group{Number: 1, Owner: 1, Places: [8]int{2}, Nums: nums(8, 1, 4, 2, 2, 3, 1, 65536)}, false},
		{api.Group{Number: 1, Owner: 1, Places: [8]int{2, 2}, Nums: nums(9, 5, 8, 1, 4, 2, 2, 3, 1, 4)}, false},
		{api.Group{Number: 1, Owner: 1, Places: [8]int{2, 3}, Nums: nums(9, 5, 8, 1, 4, 2, 2, 3, 1, 4)}, true},
		{api.Group{Number: 1, Owner: 1, Places: [8]int{7}, Nums: nums(8, 1, 4, 2, 2, 3, 1, 4)}, false},
		{api.Group{Number: 1, Owner: 1, Nums: nums(1, 4)}, false},
		{api.Group{Number: 1, Owner: 1, Nums: nums(8, 1, 4, 2, 2, 3, 1, 4)}, false},
		{api.Group{Number: 1, Owner: 1, Places: [8]int{2}}, false},
		{api.Group{Number: 4, Owner: 1}, false},
		{api.Group{Number: 1, Owner: 7}, false},
		{api.Group{}, false},
	} {
		checkHolds(t, x.g, x.may)
	}
	for _, g := range wrongGroups() {
		checkHolds(t, g, false)
		if mayBe(g) {
			t.Errorf("%v may be", g)
		}
	}
}

// P12.1: New of each number and owner.
func TestNew(t *testing.T) {
	for number := -1; number <= 9; number++ {
		for owner := -1; owner <= 9; owner++ {
			g, err := group.New(number, owner)
			want, wanted := api.Group{Number: number, Owner: owner}, api.OK
			if number < 1 || number > 3 || owner < 1 || owner > 6 {
				want, wanted = api.Group{}, api.ErrArg
			}
			if g != want || err != wanted {
				t.Errorf("New(%d, %d): %v, %d", number, owner, g, err)
			}
			if err == api.OK {
				checkHolds(t, g, true)
			}
		}
	}
	for _, no := range noNumbers() {
		for _, x := range [][2]int{{no, 1}, {1, no}, {no, no}} {
			if g, err := group.New(x[0], x[1]); g != (api.Group{}) || err != api.ErrArg {
				t.Errorf("New(%d, %d): %v, %d", x[0], x[1], g, err)
			}
		}
	}
}

// P12.2: Key of each node, and of numbers that are none.
func TestKey(t *testing.T) {
	for g := range everyGroup() {
		for node := -2; node <= 18; node++ {
			got, err := group.Key(g, node)
			want, wanted := api.Term{}, api.ErrNone
			if node >= 1 && node <= 15 && g.Nums[node] != 0 {
				want, wanted = atom(g.Owner, g.Nums[node]), api.OK
			}
			if err != wanted || !equal(got, want) {
				t.Fatalf("Key(%v, %d): %v, %d", g, node, got, err)
			}
		}
	}
	full := laid(1, 4, 0, [8]int{1, 0, 2, 3, 4, 5, 0, 6}, from(65535, -1))
	for _, no := range append(noNumbers(), 0, 16, 9, 14) {
		if got, err := group.Key(full, no); err != api.ErrNone || !equal(got, api.Term{}) {
			t.Errorf("Key(%d): %v, %d", no, got, err)
		}
	}
}

// P12.2: the chapter's words on keys, written out.
func TestKeyWrittenOut(t *testing.T) {
	g := laid(1, 4, 0, [8]int{0, 0, 0, 0, 0, 0, 0, 2}, from(65535, -1))
	for _, x := range []struct {
		node int
		want api.Term
		err  api.Errno
	}{
		{0, api.Term{}, api.ErrNone}, {1, atom(4, 65535), api.OK}, {2, api.Term{}, api.ErrNone}, {3, atom(4, 65534), api.OK}, {6, api.Term{}, api.ErrNone}, {7, atom(4, 65533), api.OK},
		{8, api.Term{}, api.ErrNone}, {14, api.Term{}, api.ErrNone}, {15, atom(4, 65532), api.OK}, {16, api.Term{}, api.ErrNone},
	} {
		if got, err := group.Key(g, x.node); err != x.err || !equal(got, x.want) {
			t.Errorf("Key(%d): %v, %d", x.node, got, err)
		}
	}
	empty, _ := group.New(2, 2)
	for node := range 17 {
		if got, err := group.Key(empty, node); err != api.ErrNone || !equal(got, api.Term{}) {
			t.Errorf("Key of a group without members, %d: %v, %d", node, got, err)
		}
	}
}

// P12.2: Place of each user, and Members.
func TestPlaceAndMembers(t *testing.T) {
	for g := range everyGroup() {
		var want []int
		for user := -1; user <= 8; user++ {
			at := placeOf(g, user)
			place, ok := group.Place(g, user)
			if ok != (at >= 0) || place != max(at, 0) {
				t.Fatalf("Place(%v, %d): %d, %t", g, user, place, ok)
			}
			if ok {
				want = append(want, user)
			}
		}
		for _, no := range noUsers() {
			if place, ok := group.Place(g, no); ok || place != 0 {
				t.Fatalf("Place(%v, %d): %d, %t", g, no, place, ok)
			}
		}
		if got := group.Members(g); !slices.Equal(got, want) {
			t.Fatalf("Members(%v): %v, not %v", g, got, want)
		}
	}
	g := laid(1, 1, 0, [8]int{0, 5, 0, 6, 2, 0, 4, 1}, from(1, 1))
	if got := group.Members(g); !slices.Equal(got, []int{1, 2, 4, 5, 6}) {
		t.Errorf("Members: %v", got)
	}
	if place, ok := group.Place(g, 1); place != 7 || !ok {
		t.Errorf("Place of the last one: %d, %t", place, ok)
	}
}

// P12.1 to P12.5: of what may be no group calls that answer an error answer ErrGroup ahead of all else, others nothing.
func TestOfWrongGroups(t *testing.T) {
	for _, g := range wrongGroups() {
		what := fmt.Sprint(g)
		for _, n := range []int{0, 1, 2, 7, 8, 15, 16, -1, math.MaxInt, g.Places[0], g.Nums[1]} {
			if key, err := group.Key(g, n); err != api.ErrGroup || !equal(key, api.Term{}) {
				t.Errorf("Key(%s, %d): %v, %d", what, n, key, err)
			}
			if place, ok := group.Place(g, n); ok || place != 0 {
				t.Errorf("Place(%s, %d): %d, %t", what, n, place, ok)
			}
			for _, next := range []int{0, 1, 100, 65535, 65536, math.MaxInt, math.MinInt} {
				var c change
				c.g, c.l, c.n, c.err = group.Join(g, n, next)
				checkOnly(t, "Join of "+what, c, api.ErrGroup)
				c.g, c.l, c.n, c.err = group.Leave(g, n, next)
				checkOnly(t, "Leave of "+what, c, api.ErrGroup)
			}
		}
		if l := group.Members(g); len(l) != 0 {
			t.Errorf("Members(%s): %v", what, l)
		}
		if l := group.All(g); len(l) != 0 {
			t.Errorf("All(%s): %v", what, l)
		}
		if b, err := group.Encode(g); err != api.ErrGroup || len(b) != 0 {
			t.Errorf("Encode(%s): %v, %d", what, b, err)
		}
	}
}
