package group_test

import (
	"fmt"
	"slices"
	"testing"

	"safehouse/api"
	"safehouse/close"
	"safehouse/group"
)

// story is a group, as users join and leave, and what came of it.
type story struct {
	g        api.Group
	next     int
	messages []api.Term
	heard    map[int]api.Knows // what each user knows who has heard all messages
}

// newStory answers the story of a group that nobody has joined yet, whose Nums begin there.
func newStory(t *testing.T, number, owner, next int) *story {
	t.Helper()
	g, err := group.New(number, owner)
	if err != api.OK {
		t.Fatal(err)
	}
	s := &story{g: g, next: next, heard: map[int]api.Knows{}}
	for user := 1; user <= 6; user++ {
		s.heard[user] = api.Knows{User: user}
	}
	return s
}

// turn lets the user join, or leave if they are a member, holds what is answered against the chapter's words, and lets all hear it.
func (s *story) turn(t *testing.T, user int) {
	t.Helper()
	got, want := join(s.g, user, s.next), joined(s.g, user, s.next)
	if _, there := group.Place(s.g, user); there {
		got, want = leave(s.g, user, s.next), left(s.g, user, s.next)
	}
	checkChange(t, fmt.Sprintf("the turn of %d with %v", user, s.g), got, want)
	if got.err != api.OK || group.Check(got.g) != api.OK {
		t.Fatalf("the turn of %d with %v: %v", user, s.g, got)
	}
	for user, m := range s.heard {
		s.heard[user] = checkUpdate(t, m, got.l...)
	}
	s.g, s.next, s.messages = got.g, s.next+got.n, append(s.messages, got.l...)
}

// wayOf answers what the member is to know: the keys of their way, rising by their nodes.
func (s *story) wayOf(user int) api.Knows {
	m := api.Knows{User: user}
	way := slices.Clone(ways()[placeOf(s.g, user)])
	slices.Sort(way)
	for _, node := range way {
		m.Keys = append(m.Keys, api.NodeKey{Node: node, Key: atom(s.g.Owner, s.g.Nums[node])})
	}
	return m
}

// inUse answers the nodes whose keys in use are among what can be reckoned from the known terms.
func (s *story) inUse(t *testing.T, known []api.Term) []int {
	t.Helper()
	atoms, err := close.Atoms(known)
	if err != api.OK {
		t.Fatalf("Atoms: %d", err)
	}
	var nodes []int
	for node := 1; node <= 15; node++ {
		if s.g.Nums[node] != 0 && slices.ContainsFunc(atoms, func(x api.Term) bool { return equal(x, atom(s.g.Owner, s.g.Nums[node])) }) {
			nodes = append(nodes, node)
		}
	}
	return nodes
}

// check holds P12.6 against the story as it is now.
func (s *story) check(t *testing.T, what string) {
	t.Helper()
	outside := slices.Clone(s.messages)
	for user := 1; user <= 6; user++ {
		if placeOf(s.g, user) < 0 {
			outside = append(outside, secret(user))
		}
	}
	if nodes := s.inUse(t, outside); len(nodes) != 0 {
		t.Fatalf("%s: those outside of %v reckon the keys of %v", what, s.g, nodes)
	}
	all := group.All(s.g)
	for _, user := range group.Members(s.g) {
		want := s.wayOf(user)
		var nodes []int
		for _, k := range want.Keys {
			nodes = append(nodes, k.Node)
		}
		for _, l := range [][]api.Term{s.messages, all} {
			if got := s.inUse(t, append(slices.Clone(l), secret(user))); !slices.Equal(got, nodes) {
				t.Fatalf("%s: the member %d of %v reckons the keys of %v", what, user, s.g, got)
			}
		}
		for _, m := range []api.Knows{s.heard[user], checkUpdate(t, knowing(user), all...), checkUpdate(t, s.heard[user], all...), checkUpdate(t, knowing(user, 1, 3, 7, 15), all...)} {
			if !equalKnows(m, want) {
				t.Fatalf("%s: the member %d of %v knows %v", what, user, s.g, m)
			}
			root, err := group.Key(s.g, 1)
			if got, ok := group.Root(m); !ok || !equal(got, root) || err != api.OK {
				t.Fatalf("%s: the member %d of %v knows %v as the root's", what, user, s.g, got)
			}
		}
	}
	// Beside the secrets of all who are outside, what is told anew to those inside tells nothing.
	for user := 1; user <= 6; user++ {
		if placeOf(s.g, user) < 0 {
			all = append(all, secret(user))
		}
	}
	if nodes := s.inUse(t, all); len(nodes) != 0 {
		t.Fatalf("%s: those outside of %v reckon the keys of %v from All", what, s.g, nodes)
	}
}

// P12.6: picked rows of joins and leaves, one behind the other, looked at behind each of them.
func TestLongRows(t *testing.T) {
	pick := chance(23)
	for row := range 16 {
		s := newStory(t, 1+row%3, 1+row%6, []int{1, 200, 61000, 30000}[row%4])
		s.check(t, "at first")
		for turn := range 44 {
			// Some rows go among few users, so that most who leave come again.
			s.turn(t, 1+pick.below(2+row%5))
			s.check(t, fmt.Sprintf("row %d, turn %d", row, turn))
			s.next += pick.below(3) * pick.below(40)
		}
	}
}

// P12.6: all rows of five turns among three users, and all of four among four, looked at behind the last turn.
func TestShortRows(t *testing.T) {
	for _, x := range []struct{ users, turns int }{{3, 5}, {4, 4}} {
		rows := 1
		for range x.turns {
			rows *= x.users
		}
		for row := range rows {
			s := newStory(t, 1, 1, 1)
			for turn, left := 0, row; turn < x.turns; turn, left = turn+1, left/x.users {
				s.turn(t, 1+left%x.users)
			}
			s.check(t, fmt.Sprintf("row %d of %d users", row, x.users))
		}
	}
}

// P12.6: all six come, all go in another order, and come again.
func TestAllComeAndGo(t *testing.T) {
	s := newStory(t, 2, 4, 1)
	for _, user := range []int{1, 2, 3, 4, 5, 6, 3, 6, 1, 5, 2, 4, 6, 5, 4, 3, 2, 1, 1, 1, 4, 4, 6, 6} {
		s.turn(t, user)
		s.check(t, fmt.Sprintf("the turn of %d", user))
	}
	if got := group.Members(s.g); !slices.Equal(got, []int{1, 2, 3, 4, 5, 6}) {
		t.Errorf("Members: %v", got)
	}
}

// P12.6: whoever comes can't reckon what was: from all messages and their secret no key that the root had ahead of them, nor one that it got from their leaving on.
func TestWhatWas(t *testing.T) {
	s := newStory(t, 1, 1, 1)
	var roots []api.Term
	was := map[int]int{} // how many roots' keys there were as user 4 came, and as they left
	for _, user := range []int{1, 2, 3, 4, 5, 4, 6, 1} {
		s.turn(t, user)
		root, _ := group.Key(s.g, 1)
		if user == 4 {
			was[len(was)] = len(roots)
		}
		roots = append(roots, root)
	}
	known := append(slices.Clone(s.messages), secret(4))
	for k, root := range roots {
		can, err := close.Can(known, root)
		if want := was[0] <= k && k < was[1]; can != want || err != api.OK {
			t.Errorf("the root's key behind the turn %d: %t, %d", k, can, err)
		}
	}
}

// R3: what is handed in is not changed, and what is answered shares no memory with it, nor with another answer.
func TestMessagesAreOwn(t *testing.T) {
	g := laid(1, 1, 1, [8]int{2, 3, 0, 4}, from(1, 1))
	for _, answer := range []func() []api.Term{
		func() []api.Term { return group.All(g) },
		func() []api.Term { return join(g, 5, 50).l },
		func() []api.Term { return leave(g, 3, 50).l },
	} {
		first, second := answer(), answer()
		want := plain(second)
		met := map[*api.Term]bool{}
		for _, p := range append(places(first), places(second)...) {
			if met[p] {
				t.Fatal("one place stands in two lists")
			}
			met[p] = true
		}
		for _, p := range places(first) {
			p.Kids = append(p.Kids, said("more"))
			*p = said("another")
		}
		for _, p := range places(second) {
			_ = append(p.Kids, said("behind"), said("behind"))
		}
		_ = append(second, said("behind"))
		if !equalAll(second, want) || !equalAll(answer(), want) {
			t.Error("an answer that was changed changed others")
		}
	}
	b, _ := group.Encode(g)
	again, _ := group.Encode(g)
	clear(b[:cap(b)])
	if string(again) != bytesOf(g) {
		t.Error("two answers of Encode share memory")
	}
	back, _ := group.Decode(again)
	clear(again)
	if back != g {
		t.Error("Decode kept what it was handed")
	}
	l := group.Members(g)
	clear(l[:cap(l)])
	if got := group.Members(g); !slices.Equal(got, []int{2, 3, 4}) {
		t.Errorf("Members: %v", got)
	}
}

// places answers where the terms of l stand, and all beneath them.
func places(l []api.Term) []*api.Term {
	var out []*api.Term
	for k := range l {
		out = append(append(out, &l[k]), places(l[k].Kids)...)
	}
	return out
}

// placesOf answers where the keys stand that m knows, and all beneath them.
func placesOf(m api.Knows) []*api.Term {
	var out []*api.Term
	for k := range m.Keys {
		out = append(append(out, &m.Keys[k].Key), places(m.Keys[k].Key.Kids)...)
	}
	return out
}

// hearings are members with room behind their keys, and messages with room behind them, of which each says another kind of thing.
func hearings() []struct {
	m api.Knows
	l []api.Term
} {
	shared := []api.Term{said("in two places")}
	twice := pair(hash(said("a")), api.Term{Kind: 5, Kids: shared})
	deep := api.Term{Kind: 4, Kids: []api.Term{{Kind: 5, Kids: shared}, {Kind: 7, User: 1, Kids: shared}}}
	m := func(nodes ...int) api.Knows {
		x := knowing(1, nodes...)
		for k := range x.Keys {
			x.Keys[k].Key = pair(hash(keyAt(nodes[k])), said("k"))
		}
		x.Keys = append(x.Keys, api.NodeKey{Node: 99, Key: said("room")}, api.NodeKey{Node: 98, Key: said("room")})
		x.Keys = x.Keys[:len(nodes)]
		return x
	}
	by := func(node int) api.Term { return pair(hash(keyAt(node)), said("k")) }
	room := func(l ...api.Term) []api.Term { return append(l, said("room"), said("room"))[:len(l)] }
	return []struct {
		m api.Knows
		l []api.Term
	}{
		{m(), nil},
		{m(), room(pair(said("8"), seal(1, deep)))},
		{m(8), room()},
		{m(1, 2, 4, 8), room()},
		{m(1, 2, 4, 8), room(pair(said("9"), seal(2, deep)))},
		{m(1, 2, 4, 8), room(pair(said("9"), seal(1, deep)))},
		{m(8), room(pair(said("4"), lock(by(8), deep)), pair(said("2"), lock(deep, twice)), pair(said("1"), lock(twice, twice)))},
		{m(2, 8), room(pair(said("4"), lock(by(8), twice)), pair(said("1"), lock(by(2), deep)))},
		{m(1, 2, 4, 8), room(pair(said("4"), lock(by(8), twice)), pair(said("1"), lock(by(2), deep)), pair(said("2"), lock(twice, twice)))},
		{m(1, 2, 4, 8), room(pair(said("8"), seal(1, twice)), pair(said("4"), lock(twice, twice)), pair(said("2"), lock(twice, twice)))},
	}
}

// R3: what Update and Root answer is new memory, Kid by Kid; what they are handed is not changed, the room behind a list's end neither.
func TestKnowledgeIsOwn(t *testing.T) {
	for k, x := range hearings() {
		before, roomBefore := plainKnows(x.m), plainKnows(api.Knows{Keys: x.m.Keys[:cap(x.m.Keys)]})
		messages := plain(x.l[:cap(x.l)])
		unchanged := func(what string) {
			t.Helper()
			if !equalKnows(x.m, before) || !equalKnows(api.Knows{Keys: x.m.Keys[:cap(x.m.Keys)]}, roomBefore) || !equalAll(x.l[:cap(x.l)], messages) {
				t.Fatalf("%d: %s changed what was handed in", k, what)
			}
		}
		want := checkUpdate(t, before, plain(x.l)...)
		first, err := group.Update(x.m, x.l)
		second, _ := group.Update(x.m, x.l)
		unchanged("Update")
		if err != api.OK || !equalKnows(first, want) || !equalKnows(second, want) {
			t.Fatalf("%d: %v, %d", k, first, err)
		}
		root, ok := group.Root(first)
		other, _ := group.Root(first)
		met := map[*api.Term]bool{}
		for _, p := range slices.Concat(placesOf(x.m), places(x.l), places(x.l[:cap(x.l)])[len(places(x.l)):]) {
			met[p] = true
		}
		for _, p := range slices.Concat(placesOf(first), placesOf(second), places(root.Kids), places(other.Kids)) {
			if met[p] {
				t.Fatalf("%d: one place stands in two lists", k)
			}
			met[p] = true
		}
		keep := plain([]api.Term{root})
		for _, p := range slices.Concat(placesOf(first), places(other.Kids)) {
			p.Kids = append(p.Kids, said("more"))
			*p = said("another")
		}
		first.Keys = append(first.Keys, api.NodeKey{Node: 77})
		unchanged("who changed an answer")
		if !equalKnows(second, want) || ok && !equalAll([]api.Term{root}, keep) {
			t.Fatalf("%d: an answer that was changed changed another", k)
		}
		for _, p := range slices.Concat(placesOf(x.m), places(x.l)) {
			*p = said("changed")
		}
		if !equalKnows(second, want) || ok && !equalAll([]api.Term{root}, keep) {
			t.Fatalf("%d: what was handed in, changed, changed an answer", k)
		}
	}
}

// R3, R5: nil and empty lists are one, in what is known, in messages, and in their terms; the same is answered each time.
func TestNilAndEmpty(t *testing.T) {
	none := []api.Term{}
	message := api.Term{Kind: 4, Kids: []api.Term{{Kind: 1, Text: "8", Kids: none}, {Kind: 7, User: 2, Kids: []api.Term{{Kind: 2, User: 1, Num: 1, Kids: none}}}}}
	locked := api.Term{Kind: 4, Kids: []api.Term{{Kind: 1, Text: "4", Kids: none}, {Kind: 6, Kids: []api.Term{{Kind: 2, User: 1, Num: 1}, {Kind: 2, User: 1, Num: 2, Kids: none}}}}}
	want := api.Knows{User: 2, Keys: []api.NodeKey{{Node: 4, Key: atom(1, 2)}, {Node: 8, Key: atom(1, 1)}}}
	for range 3 {
		for _, m := range []api.Knows{{User: 2}, {User: 2, Keys: []api.NodeKey{}}, {User: 2, Keys: []api.NodeKey{{Node: 15, Key: api.Term{Kind: 2, User: 1, Num: 1, Kids: none}}}}} {
			if got, err := group.Update(m, []api.Term{message, locked}); err != api.OK || !equalKnows(got, want) {
				t.Errorf("%v, %d", got, err)
			}
			a, wrong := group.Update(m, nil)
			b, again := group.Update(m, none)
			if wrong != api.OK || again != api.OK || !equalKnows(a, m) || !equalKnows(b, m) {
				t.Errorf("without messages: %v, %d; %v, %d", a, wrong, b, again)
			}
		}
	}
}
