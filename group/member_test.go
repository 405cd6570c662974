package group_test

import (
	"math"
	"slices"
	"strings"
	"testing"

	"safehouse/api"
	"safehouse/group"
)

// keyAt is a key by which the tests tell a node's; some of them are no atoms.
func keyAt(node int) api.Term {
	switch node % 5 {
	case 1:
		return said(texts()[node])
	case 2:
		return hash(atom(1, 100+node))
	case 3:
		return pair(secret(2), atom(1, 100+node))
	}
	return atom(1, 100+node)
}

// knowing is a user who knows these nodes' keys.
func knowing(user int, nodes ...int) api.Knows {
	m := api.Knows{User: user}
	for _, node := range nodes {
		key := said("of no node")
		if node >= 1 && node <= 15 {
			key = keyAt(node)
		}
		m.Keys = append(m.Keys, api.NodeKey{Node: node, Key: key})
	}
	return m
}

// members are all that may be by their nodes: those who know nothing, and those who know a place's node and any of those above it.
func members(user int) []api.Knows {
	l := []api.Knows{knowing(user)}
	for _, way := range ways() {
		for which := range 8 {
			var nodes []int
			for k := 3; k >= 1; k-- {
				if which>>(k-1)&1 == 1 {
					nodes = append(nodes, way[k])
				}
			}
			l = append(l, knowing(user, append(nodes, way[0])...))
		}
	}
	return l
}

// checkMember holds CheckMember against ErrMember or OK; of what may not be nothing is told besides.
func checkMember(t *testing.T, m api.Knows, may bool) {
	t.Helper()
	want := api.OK
	if !may {
		want = api.ErrMember
	}
	if err := group.CheckMember(m); err != want {
		t.Errorf("CheckMember(%v): %d, not %d", m, err, want)
	}
	if may {
		return
	}
	if key, ok := group.Root(m); ok || !equal(key, api.Term{}) {
		t.Errorf("Root(%v): %v, %t", m, key, ok)
	}
	for _, l := range [][]api.Term{nil, {said("a")}, {{}}, {pair(said("8"), seal(max(1, min(m.User, 6)), said("a")))}} {
		if got, err := group.Update(m, l); err != api.ErrMember || !equalKnows(got, api.Knows{}) {
			t.Errorf("Update(%v, %v): %v, %d", m, l, got, err)
		}
	}
}

// P12.4: all choices of nodes, rising.
func TestMembersOfAllNodes(t *testing.T) {
	n := 0
	for which := range 1 << 15 {
		var nodes []int
		for node := 1; node <= 15; node++ {
			if which>>(node-1)&1 == 1 {
				nodes = append(nodes, node)
			}
		}
		m := knowing(1+which%6, nodes...)
		_, may := tableOf(m)
		if may {
			n++
		}
		checkMember(t, m, may)
	}
	if n != 65 {
		t.Errorf("%d of the choices may be", n)
	}
}

// P12.4: rows of up to three nodes in each order, with such that are none.
func TestMembersInEachOrder(t *testing.T) {
	numbers := []int{-1, 0, 1, 2, 3, 4, 5, 7, 8, 9, 10, 12, 15, 16, 17}
	for _, a := range numbers {
		for _, b := range numbers {
			m := knowing(3, a, b)
			_, may := tableOf(m)
			checkMember(t, m, may)
			for _, c := range numbers {
				m := knowing(3, a, b, c)
				_, may := tableOf(m)
				checkMember(t, m, may)
			}
		}
	}
}

// P12.4: members written out, that may be and that may not.
func TestMembersWrittenOut(t *testing.T) {
	for _, x := range []struct {
		m   api.Knows
		may bool
	}{
		{api.Knows{User: 1}, true}, {api.Knows{User: 6}, true}, {api.Knows{User: 6, Keys: []api.NodeKey{}}, true}, {api.Knows{}, false}, {api.Knows{User: 7}, false}, {api.Knows{User: -1}, false},
		{knowing(1, 8), true}, {knowing(1, 15), true}, {knowing(0, 8), false}, {knowing(7, 8), false},
		{knowing(1, 1, 2, 4, 8), true}, {knowing(1, 1, 2, 4, 9), true}, {knowing(2, 1, 2, 5, 10), true}, {knowing(2, 1, 2, 5, 11), true}, {knowing(2, 1, 3, 6, 12), true}, {knowing(2, 1, 3, 6, 13), true}, {knowing(2, 1, 3, 7, 14), true}, {knowing(2, 1, 3, 7, 15), true},
		{knowing(1, 1, 8), true}, {knowing(1, 2, 8), true}, {knowing(1, 4, 8), true}, {knowing(1, 2, 4, 8), true},
		{knowing(1, 8, 4, 2, 1), false}, {knowing(1, 1, 4, 2, 8), false}, {knowing(1, 8, 1), false}, {knowing(1, 2, 1, 4, 8), false},
		{knowing(1, 8, 8), false}, {knowing(1, 1, 1, 8), false}, {knowing(1, 1, 2, 2, 4, 8), false}, {knowing(1, 1, 2, 4, 4, 8), false}, {knowing(1, 1, 2, 4, 8, 8), false},
		{knowing(1, 3, 8), false}, {knowing(1, 5, 8), false}, {knowing(1, 1, 2, 5, 8), false}, {knowing(1, 1, 3, 4, 8), false}, {knowing(1, 6, 15), false}, {knowing(1, 7, 13), false},
		{knowing(1, 8, 9), false}, {knowing(1, 1, 8, 15), false}, {knowing(1, 8, 15), false}, {knowing(1, 1, 2, 4, 8, 9), false},
		{knowing(1, 1), false}, {knowing(1, 4), false}, {knowing(1, 7), false}, {knowing(1, 1, 2, 4), false}, {knowing(1, 2, 3), false},
		{knowing(1, 0), false}, {knowing(1, 0, 8), false}, {knowing(1, 16), false}, {knowing(1, 1, 16), false}, {knowing(1, 8, 16), false}, {knowing(1, 1, 2, 4, 8, 16), false}, {knowing(1, 17), false}, {knowing(1, 24), false}, {knowing(1, -8), false}, {knowing(1, -1, 8), false},
		{knowing(1, 1, 1, 2, 3, 4, 5, 6, 7, 8, 9, 10, 11, 12, 13, 14, 15), false},
		{api.Knows{User: 1, Keys: make([]api.NodeKey, 1<<16)}, false},
	} {
		if len(x.m.Keys) < 100 {
			checkMember(t, x.m, x.may)
		} else if err := group.CheckMember(x.m); err != api.ErrMember {
			t.Errorf("very many keys: %d", err)
		}
	}
	for _, no := range noUsers() {
		checkMember(t, knowing(no), false)
		checkMember(t, knowing(no, 1, 2, 4, 8), false)
	}
	for _, no := range append(noNumbers(), 0, 16, 23, 24, 31, 32, 264) {
		checkMember(t, knowing(1, no), false)
		checkMember(t, knowing(1, no, 8), false)
		checkMember(t, knowing(1, 1, no), false)
		checkMember(t, knowing(1, 1, no, 8), false)
		checkMember(t, knowing(1, 8, no), false)
	}
}

// P12.4: each Key may be, at each place of the row.
func TestMembersOfWrongKeys(t *testing.T) {
	for _, wrong := range wrongTerms() {
		for k := range 4 {
			m := knowing(2, 1, 2, 5, 11)
			m.Keys[k].Key = wrong
			checkMember(t, m, false)
		}
		checkMember(t, api.Knows{User: 1, Keys: []api.NodeKey{{Node: 8, Key: wrong}}}, false)
	}
	for _, right := range []api.Term{said(""), said(strings.Repeat("a", 64)), secret(6), atom(6, 65535), sign(1, 7, atom(2, 2)), chain(60)} {
		for k := range 4 {
			m := knowing(2, 1, 2, 5, 11)
			m.Keys[k].Key = right
			checkMember(t, m, true)
		}
	}
}

// P12.4: Root is the key of the node 1, if it is known.
func TestRoot(t *testing.T) {
	for _, m := range members(4) {
		key, ok := group.Root(m)
		if len(m.Keys) > 0 && m.Keys[0].Node == 1 {
			if !ok || !equal(key, keyAt(1)) {
				t.Errorf("Root(%v): %v, %t", m, key, ok)
			}
		} else if ok || !equal(key, api.Term{}) {
			t.Errorf("Root(%v): %v, %t", m, key, ok)
		}
	}
	if key, ok := group.Root(api.Knows{User: 1, Keys: []api.NodeKey{{Node: 1, Key: sign(2, 3, said("x"))}, {Node: 12, Key: said("")}}}); !ok || !equal(key, sign(2, 3, said("x"))) {
		t.Errorf("Root: %v, %t", key, ok)
	}
}

// checkUpdate holds Update against what is known then, told by a table.
func checkUpdate(t *testing.T, m api.Knows, l ...api.Term) api.Knows {
	t.Helper()
	want, may := tableOf(m)
	if !may {
		t.Fatalf("%v may not be", m)
	}
	for _, x := range l {
		want.hear(x)
	}
	got, err := group.Update(m, l)
	if err != api.OK || !equalKnows(got, want.knows()) {
		t.Errorf("Update(%v, %v): %v, %d, not %v", m, l, got, err, want.knows())
	}
	if wrong := group.CheckMember(got); wrong != api.OK {
		t.Errorf("Update(%v, %v): %v may not be", m, l, got)
	}
	return got
}

// numbersSaid are texts that say the number of a node, and such that nearly do.
func numbersSaid() []string {
	l := append(texts(), "16", "17", "18", "80", "108", "255", "256", "264", "", " ", "08", "008", "015", "01", "04", "00", "+8", "-8", "+1", "-1", " 8", "8 ", "8\x00", "\x008", "8.0", "1.", "0x8", "0b1", "8e0", "1_5", "\x08", "\x01", "\x0f", "eight", "viii", "\u0668", "\uff18", "18446744073709551624", "4294967300", strings.Repeat("0", 63)+"8", strings.Repeat("1", 64))
	return l
}

// P12.4: each message alone, heard by all who may be: each number, as a text or otherwise, and behind it what is sealed, locked, or neither.
func TestHearOne(t *testing.T) {
	const user = 2
	fresh := atom(3, 77)
	var what []api.Term
	for other := 1; other <= 6; other++ {
		what = append(what, seal(other, fresh))
	}
	for node := 1; node <= 15; node++ {
		what = append(what, lock(keyAt(node), fresh))
	}
	what = append(what, lock(said("of no node"), fresh), lock(fresh, keyAt(8)), seal(user, lock(keyAt(8), fresh)), seal(user, seal(user, fresh)), lock(keyAt(4), seal(user, fresh)),
		fresh, said(""), said("8"), secret(user), hash(keyAt(8)), pair(keyAt(8), fresh), pair(keyAt(9), fresh), sign(user, 1, fresh), sign(user, 1, lock(keyAt(9), fresh)), sign(user, 1, seal(user, fresh)))
	var l []api.Term
	for _, number := range numbersSaid() {
		for _, x := range what {
			l = append(l, pair(said(number), x))
		}
	}
	for _, x := range what {
		l = append(l, x, pair(x, said("8")), pair(x, x), pair(secret(1), x), pair(atom(1, 8), x), pair(hash(said("8")), x), pair(seal(user, said("8")), x), pair(pair(said("8"), said("")), x), sign(1, 8, x), lock(said("8"), x), lock(said("4"), x), hash(x))
	}
	for _, m := range members(user) {
		for _, x := range l {
			checkUpdate(t, m, x)
		}
		if t.Failed() {
			return
		}
	}
}

// P12.4: messages and what is known behind them, written out.
func TestHearWrittenOut(t *testing.T) {
	k := func(n int) api.Term { return atom(1, n) }
	known := func(l ...int) api.Knows {
		m := api.Knows{User: 2}
		for i := 0; i < len(l); i += 2 {
			m.Keys = append(m.Keys, api.NodeKey{Node: l[i], Key: k(l[i+1])})
		}
		return m
	}
	way := known(1, 4, 2, 3, 4, 2, 8, 1)
	for _, x := range []struct {
		what string
		m    api.Knows
		l    []api.Term
		want api.Knows
	}{
		{"none", way, nil, way},
		{"the place's node", known(), []api.Term{pair(said("8"), seal(2, k(9)))}, known(8, 9)},
		{"the last place's node", known(), []api.Term{pair(said("15"), seal(2, k(9)))}, known(15, 9)},
		{"the node 7, sealed", known(), []api.Term{pair(said("7"), seal(2, k(9)))}, known()},
		{"the node 16, sealed", known(), []api.Term{pair(said("16"), seal(2, k(9)))}, known()},
		{"the node 0, sealed", known(), []api.Term{pair(said("0"), seal(2, k(9)))}, known()},
		{"for another", way, []api.Term{pair(said("8"), seal(3, k(9)))}, way},
		{"the place's node anew", way, []api.Term{pair(said("8"), seal(2, k(9)))}, known(8, 9)},
		{"the same key anew", way, []api.Term{pair(said("8"), seal(2, k(1)))}, known(8, 1)},
		{"another place's node", way, []api.Term{pair(said("13"), seal(2, k(9)))}, known(13, 9)},
		{"by the left node", known(8, 1), []api.Term{pair(said("4"), lock(k(1), k(9)))}, known(4, 9, 8, 1)},
		{"by the right node", known(9, 1), []api.Term{pair(said("4"), lock(k(1), k(9)))}, known(4, 9, 9, 1)},
		{"known already", way, []api.Term{pair(said("4"), lock(k(1), k(9)))}, known(1, 4, 2, 3, 4, 9, 8, 1)},
		{"known already, the root", way, []api.Term{pair(said("1"), lock(k(3), k(9)))}, known(1, 9, 2, 3, 4, 2, 8, 1)},
		{"by a key that is not the one known", way, []api.Term{pair(said("4"), lock(k(5), k(9)))}, way},
		{"by another node's key", way, []api.Term{pair(said("1"), lock(k(1), k(9))), pair(said("2"), lock(k(3), k(9))), pair(said("4"), lock(k(2), k(9)))}, way},
		{"by the key that was there ahead", way, []api.Term{pair(said("8"), seal(2, k(9))), pair(said("4"), lock(k(1), k(10)))}, known(8, 9)},
		{"not on the way", way, []api.Term{pair(said("5"), lock(k(1), k(9))), pair(said("3"), lock(k(2), k(9))), pair(said("6"), lock(k(3), k(9)))}, way},
		{"a gap", known(2, 3, 8, 1), []api.Term{pair(said("1"), lock(k(3), k(9)))}, known(1, 9, 2, 3, 8, 1)},
		{"into the gap", known(2, 3, 8, 1), []api.Term{pair(said("4"), lock(k(1), k(9)))}, known(2, 3, 4, 9, 8, 1)},
		{"over a gap", known(4, 3, 8, 1), []api.Term{pair(said("1"), lock(k(3), k(9)))}, known(4, 3, 8, 1)},
		{"a lock of a place's node", way, []api.Term{pair(said("8"), lock(k(1), k(9)))}, way},
		{"noughts ahead", way, []api.Term{pair(said("08"), seal(2, k(9))), pair(said("04"), lock(k(1), k(9)))}, way},
		{"an empty text", way, []api.Term{pair(said(""), seal(2, k(9))), pair(said(""), lock(k(1), k(9)))}, way},
		{"no pair", way, []api.Term{seal(2, k(9)), lock(k(1), k(9)), said("8"), k(8), sign(1, 1, pair(said("8"), seal(2, k(9))))}, way},
		{"no number", way, []api.Term{pair(k(8), seal(2, k(9))), pair(secret(2), lock(k(1), k(9)))}, way},
		{"one behind the other", known(), []api.Term{pair(said("8"), seal(2, k(5))), pair(said("4"), lock(k(5), k(6))), pair(said("2"), lock(k(6), k(7))), pair(said("1"), lock(k(7), k(8)))}, known(1, 8, 2, 7, 4, 6, 8, 5)},
		{"from the root down", known(), []api.Term{pair(said("1"), lock(k(7), k(8))), pair(said("2"), lock(k(6), k(7))), pair(said("4"), lock(k(5), k(6))), pair(said("8"), seal(2, k(5)))}, known(8, 5)},
		{"twice", known(8, 1), []api.Term{pair(said("4"), lock(k(1), k(9))), pair(said("4"), lock(k(1), k(10)))}, known(4, 10, 8, 1)},
		{"a key that opens itself", known(8, 1), []api.Term{pair(said("4"), lock(k(1), k(1))), pair(said("2"), lock(k(1), k(1))), pair(said("1"), lock(k(1), k(1)))}, known(1, 1, 2, 1, 4, 1, 8, 1)},
	} {
		if got, err := group.Update(x.m, x.l); err != api.OK || !equalKnows(got, x.want) {
			t.Errorf("%s: %v, %d, not %v", x.what, got, err, x.want)
		}
		checkUpdate(t, x.m, x.l...)
	}
}

// P12.4: what is the root's key is told with it, whatever term it is.
func TestHearTheRoot(t *testing.T) {
	for _, x := range []api.Term{said(""), secret(1), pair(said("1"), lock(said("2"), said("3"))), chain(57), sign(6, 7, hash(said("x")))} {
		m := knowing(1, 3, 7, 14)
		got := checkUpdate(t, m, pair(said("1"), lock(keyAt(3), x)))
		if key, ok := group.Root(got); !ok || !equal(key, x) {
			t.Errorf("Root: %v, %t", key, ok)
		}
		got = checkUpdate(t, m, pair(said("11"), seal(1, x)), pair(said("5"), lock(x, x)))
		if len(got.Keys) != 2 || !equal(got.Keys[0].Key, x) || !equal(got.Keys[1].Key, x) {
			t.Errorf("%v", got)
		}
	}
}

// P12.4: ErrMember ahead of ErrTerm; ErrTerm wherever a message stands that may not be, and whatever it would say.
func TestUpdateRefuses(t *testing.T) {
	right := []api.Term{pair(said("8"), seal(1, atom(1, 1))), pair(said("4"), lock(atom(1, 1), atom(1, 2))), said("nothing"), pair(said("2"), lock(atom(1, 2), atom(1, 3)))}
	for _, wrong := range wrongTerms() {
		for k := 0; k <= len(right); k++ {
			l := slices.Insert(slices.Clone(right), k, wrong)
			for _, m := range []api.Knows{knowing(1), knowing(1, 1, 2, 4, 8), knowing(6, 15)} {
				if got, err := group.Update(m, l); err != api.ErrTerm || !equalKnows(got, api.Knows{}) {
					t.Errorf("Update with %v at %d: %v, %d", wrong, k, got, err)
				}
			}
			if got, err := group.Update(knowing(1, 1, 2), l); err != api.ErrMember || !equalKnows(got, api.Knows{}) {
				t.Errorf("Update of none with %v at %d: %v, %d", wrong, k, got, err)
			}
		}
	}
	if got, err := group.Update(knowing(1), slices.Repeat([]api.Term{{}}, 3)); err != api.ErrTerm || !equalKnows(got, api.Knows{}) {
		t.Errorf("three wrong ones: %v, %d", got, err)
	}
	// Right behind a wrong one what was right is right still.
	checkUpdate(t, knowing(1), right...)
}

// P12.4: picked messages, one behind the other, many of them such as are heard; in one call, and in several, the same is known.
func TestHearMany(t *testing.T) {
	pick := chance(5)
	for round := range 600 {
		m := members(2)[pick.below(65)]
		now, _ := tableOf(m)
		var l []api.Term
		for range 1 + pick.below(25) {
			node, key := pick.below(17), atom(1, pick.below(4))
			x := pair(said(texts()[node%16]), lock(atom(1, pick.below(4)), key))
			switch pick.below(8) {
			case 0:
				x = pair(said(texts()[node%16]), seal(1+pick.below(3), key))
			case 1, 2, 3, 4:
				if known := now.knows().Keys; len(known) > 0 {
					by := known[pick.below(len(known))]
					x = pair(said(texts()[by.Node/2]), lock(by.Key, key))
				}
			case 5:
				x = pair(said(numbersSaid()[pick.below(len(numbersSaid()))]), lock(key, key))
			}
			now.hear(x)
			l = append(l, x)
		}
		got := checkUpdate(t, m, l...)
		step := m
		for _, x := range l {
			step, _ = group.Update(step, []api.Term{x})
		}
		if !equalKnows(got, step) {
			t.Fatalf("round %d: message by message %v, at once %v", round, step, got)
		}
	}
}

// P12.4, R1: very many messages.
func TestHearVeryMany(t *testing.T) {
	l := slices.Repeat([]api.Term{pair(said("4"), lock(keyAt(8), atom(1, 1))), pair(said("9"), seal(1, atom(1, 2))), said("x"), pair(said("8"), seal(1, keyAt(8))), pair(said("4"), lock(keyAt(8), atom(1, 3)))}, 1<<14)
	got, err := group.Update(knowing(1, 8), l)
	want := api.Knows{User: 1, Keys: []api.NodeKey{{Node: 4, Key: atom(1, 3)}, {Node: 8, Key: keyAt(8)}}}
	if err != api.OK || !equalKnows(got, want) {
		t.Errorf("%v, %d", got, err)
	}
	if _, err := group.Update(knowing(1, 8), append(l, api.Term{User: math.MaxInt})); err != api.ErrTerm {
		t.Errorf("a wrong one behind them: %d", err)
	}
}
