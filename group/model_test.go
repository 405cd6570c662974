package group_test

import (
	"iter"
	"math"
	"math/bits"
	"reflect"
	"slices"
	"strings"
	"testing"

	"safehouse/api"
)

// What stands here is the chapter's words once more, by other means than the package's: the ways are written out, terms are laid field by field, and what a member knows is a table by nodes.

// ways are the nodes of each place's way.
func ways() [8][]int {
	return [8][]int{{8, 4, 2, 1}, {9, 4, 2, 1}, {10, 5, 2, 1}, {11, 5, 2, 1}, {12, 6, 3, 1}, {13, 6, 3, 1}, {14, 7, 3, 1}, {15, 7, 3, 1}}
}

// texts are the numbers of the nodes 0 to 15 in digits.
func texts() []string {
	return []string{"0", "1", "2", "3", "4", "5", "6", "7", "8", "9", "10", "11", "12", "13", "14", "15"}
}

// hasMember tells whether a place under the node, or it itself, has a member.
func hasMember(g api.Group, node int) bool {
	for place, way := range ways() {
		if g.Places[place] != 0 && slices.Contains(way, node) {
			return true
		}
	}
	return false
}

// mayBe tells whether a group may be.
func mayBe(g api.Group) bool {
	if g.Number < 1 || g.Number > 3 || g.Owner < 1 || g.Owner > 6 || g.Epoch < 0 || g.Epoch > 65535 || g.Nums[0] != 0 {
		return false
	}
	met := map[int]int{}
	for _, user := range g.Places {
		met[user]++
		if user < 0 || user > 6 || user > 0 && met[user] > 1 {
			return false
		}
	}
	met = map[int]int{}
	for node := 1; node <= 15; node++ {
		num := g.Nums[node]
		met[num]++
		if hasMember(g, node) && (num < 1 || num > 65535 || met[num] > 1) || !hasMember(g, node) && num != 0 {
			return false
		}
	}
	return true
}

// Terms, field by field.
func said(s string) api.Term        { return api.Term{Kind: 1, Text: s} }
func atom(user, num int) api.Term   { return api.Term{Kind: 2, User: user, Num: num} }
func secret(user int) api.Term      { return api.Term{Kind: 3, User: user} }
func pair(a, b api.Term) api.Term   { return api.Term{Kind: 4, Kids: []api.Term{a, b}} }
func hash(a api.Term) api.Term      { return api.Term{Kind: 5, Kids: []api.Term{a}} }
func lock(key, b api.Term) api.Term { return api.Term{Kind: 6, Kids: []api.Term{key, b}} }
func seal(user int, a api.Term) api.Term {
	return api.Term{Kind: 7, User: user, Kids: []api.Term{a}}
}
func sign(user, leaf int, a api.Term) api.Term {
	return api.Term{Kind: 8, User: user, Num: leaf, Kids: []api.Term{a}}
}

// chain is a term of that depth.
func chain(depth int) api.Term {
	t := said("end")
	for range depth - 1 {
		t = hash(t)
	}
	return t
}

// wrongTerms are terms that may not be.
func wrongTerms() []api.Term {
	return []api.Term{
		{}, said(strings.Repeat("a", 65)), atom(7, 1), atom(0, 1), atom(1, -1), atom(1, 65536), secret(0), secret(7), {Kind: 9}, {Kind: -1}, {Kind: 1, User: 1}, {Kind: 4}, {Kind: 5, Kids: []api.Term{said(""), said("")}},
		pair(said("8"), api.Term{}), pair(api.Term{}, said("8")), pair(said("8"), seal(7, atom(1, 1))), pair(said("8"), seal(1, atom(7, 1))), pair(said("4"), lock(api.Term{}, atom(1, 1))), chain(61), pair(said("8"), seal(1, chain(59))),
	}
}

// told answers what tells the node's key, as the chapter's Words say.
func told(g api.Group, node int) []api.Term {
	key := atom(g.Owner, g.Nums[node])
	if node >= 8 {
		if g.Places[node-8] == 0 {
			return nil
		}
		return []api.Term{pair(said(texts()[node]), seal(g.Places[node-8], key))}
	}
	var l []api.Term
	for _, below := range []int{node + node, node + node + 1} {
		if g.Nums[below] != 0 {
			l = append(l, pair(said(texts()[node]), lock(atom(g.Owner, g.Nums[below]), key)))
		}
	}
	return l
}

// change is what Join and Leave answer.
type change struct {
	g   api.Group
	l   []api.Term
	n   int
	err api.Errno
}

// greatest answers the greatest of the Nums.
func greatest(g api.Group) int {
	most := 0
	for _, num := range g.Nums {
		most = max(most, num)
	}
	return most
}

// placeOf answers the user's place: -1 if there is none.
func placeOf(g api.Group, user int) int {
	for place, member := range g.Places {
		if user >= 1 && user <= 6 && member == user {
			return place
		}
	}
	return -1
}

// joined answers what Join is to answer.
func joined(g api.Group, user, next int) change {
	switch {
	case !mayBe(g):
		return change{err: api.ErrGroup}
	case user < 1, user > 6, next <= greatest(g):
		return change{err: api.ErrArg}
	case placeOf(g, user) >= 0:
		return change{err: api.ErrThere}
	}
	free := 0
	for g.Places[free] != 0 {
		free++
	}
	g.Places[free] = user
	return behind(g, ways()[free], next)
}

// left answers what Leave is to answer.
func left(g api.Group, user, next int) change {
	place := placeOf(g, user)
	switch {
	case !mayBe(g):
		return change{err: api.ErrGroup}
	case place < 0:
		return change{err: api.ErrNone}
	case next <= greatest(g):
		return change{err: api.ErrArg}
	}
	g.Places[place] = 0
	return behind(g, ways()[place], next)
}

// behind answers what comes of renewing the way of a group whose Places are as they will be.
func behind(g api.Group, way []int, next int) change {
	var kept []int
	for _, node := range way {
		if hasMember(g, node) {
			kept = append(kept, node)
		}
	}
	if g.Epoch == 65535 || next > 65535 || len(kept) > 0 && next > 65535-len(kept)+1 {
		return change{err: api.ErrFull}
	}
	g.Epoch++
	for _, node := range way {
		g.Nums[node] = 0
	}
	for k, node := range kept {
		g.Nums[node] = next + k
	}
	c := change{g: g, n: len(kept)}
	for _, node := range kept {
		c.l = append(c.l, told(g, node)...)
	}
	return c
}

// all answers what All is to answer.
func all(g api.Group) []api.Term {
	var l []api.Term
	if !mayBe(g) {
		return nil
	}
	for _, node := range []int{15, 14, 13, 12, 11, 10, 9, 8, 7, 6, 5, 4, 3, 2, 1} {
		if g.Nums[node] != 0 {
			l = append(l, told(g, node)...)
		}
	}
	return l
}

// table is what a member knows: by node, a key; a zero term is none.
type table struct {
	user int
	keys [16]api.Term
}

// tableOf answers what m knows, and whether it may be, but for the keys themselves.
func tableOf(m api.Knows) (table, bool) {
	x := table{user: m.User}
	var nodes []int
	for _, k := range m.Keys {
		if k.Node < 1 || k.Node > 15 || x.keys[k.Node].Kind != 0 || k.Key.Kind == 0 {
			return table{}, false
		}
		x.keys[k.Node] = k.Key
		nodes = append(nodes, k.Node)
	}
	if m.User < 1 || m.User > 6 || !slices.IsSorted(nodes) {
		return table{}, false
	}
	if len(nodes) == 0 {
		return x, true
	}
	for place, way := range ways() {
		if slices.Contains(nodes, 8+place) {
			return x, !slices.ContainsFunc(nodes, func(node int) bool { return !slices.Contains(way, node) })
		}
	}
	return table{}, false
}

// hear changes what is known by a message.
func (x *table) hear(t api.Term) {
	if t.Kind != 4 || t.Kids[0].Kind != 1 {
		return
	}
	node := slices.Index(texts(), t.Kids[0].Text)
	what := t.Kids[1]
	switch {
	case node < 1:
	case what.Kind == 7 && node >= 8 && what.User == x.user:
		*x = table{user: x.user}
		x.keys[node] = what.Kids[0]
	case what.Kind == 6 && node <= 7:
		for _, below := range []int{node + node, node + node + 1} {
			if x.keys[below].Kind != 0 && equal(x.keys[below], what.Kids[0]) {
				x.keys[node] = what.Kids[1]
				return
			}
		}
	}
}

// knows answers the table as what a member knows.
func (x table) knows() api.Knows {
	m := api.Knows{User: x.user}
	for node, key := range x.keys {
		if key.Kind != 0 {
			m.Keys = append(m.Keys, api.NodeKey{Node: node, Key: key})
		}
	}
	return m
}

// bytesOf answers the bytes of a group, as a text.
func bytesOf(g api.Group) string {
	var b strings.Builder
	two := func(n int) {
		b.WriteByte(byte(n / 256))
		b.WriteByte(byte(n % 256))
	}
	b.WriteByte(byte(g.Number))
	b.WriteByte(byte(g.Owner))
	two(g.Epoch)
	for _, user := range g.Places {
		b.WriteByte(byte(user))
	}
	for node := 1; node <= 15; node++ {
		two(g.Nums[node])
	}
	return b.String()
}

// plain answers terms with nil in the place of each empty list, all in new memory.
func plain(l []api.Term) []api.Term {
	var out []api.Term
	for _, t := range l {
		t.Kids = plain(t.Kids)
		out = append(out, t)
	}
	return out
}

// plainKnows answers what is known so, in new memory.
func plainKnows(m api.Knows) api.Knows {
	out := api.Knows{User: m.User}
	for _, k := range m.Keys {
		out.Keys = append(out.Keys, api.NodeKey{Node: k.Node, Key: plain([]api.Term{k.Key})[0]})
	}
	return out
}

func equal(a, b api.Term) bool { return equalAll([]api.Term{a}, []api.Term{b}) }

func equalAll(a, b []api.Term) bool { return reflect.DeepEqual(plain(a), plain(b)) }

func equalKnows(a, b api.Knows) bool { return reflect.DeepEqual(plainKnows(a), plainKnows(b)) }

// laid answers a group of these users at these places, its Nums dealt out by deal to the nodes that have a member, from the node 1 on.
func laid(number, owner, epoch int, places [8]int, deal func() int) api.Group {
	g := api.Group{Number: number, Owner: owner, Epoch: epoch, Places: places}
	for node := 1; node <= 15; node++ {
		if hasMember(g, node) {
			g.Nums[node] = deal()
		}
	}
	return g
}

// from deals out the numbers from first on, each one by a step beside the one ahead of it.
func from(first, step int) func() int {
	return func() int {
		first += step
		return first - step
	}
}

// everyGroup tells groups with members at all choices of at most six places; who is where, what the Nums are, and all else differs from one to the next.
func everyGroup() iter.Seq[api.Group] {
	return func(yield func(api.Group) bool) {
		k := 0
		for which := range 256 {
			if bits.OnesCount(uint(which)) > 6 {
				continue
			}
			for turn := range 6 {
				k++
				var places [8]int
				user := turn
				for place := range 8 {
					if which>>place&1 == 1 {
						user = user%6 + 1
						places[place] = user
					}
				}
				deals := []func() int{from(1, 1), from(15, -1), from(65531, -1), from(300, 257), from(65535, -1), from(40000, -2)}
				if !yield(laid(1+k%3, 1+k/2%6, []int{0, 1, 255, 256, 65534, 65535, 40000}[k%7], places, deals[k%5+k%2])) {
					return
				}
			}
		}
	}
}

// noNumbers are numbers that are neither a user nor a group, a place's node nor an Epoch, such as come to one in fewer bits among them.
func noNumbers() []int {
	return []int{
		-1, -2, -3, -6, -8, -15, -255, -254, -256, -65535, -65536, -1 << 31, -1 << 32, -1<<32 + 1, -1<<32 + 2, math.MinInt, math.MinInt + 1, math.MinInt + 2,
		65536, 65537, 65538, 1 << 24, 1<<24 + 1, 1 << 31, 1<<31 + 1, 1 << 32, 1<<32 + 1, 1<<32 + 2, math.MaxInt - 1, math.MaxInt,
	}
}

// noUsers are numbers that are no user.
func noUsers() []int {
	return append(noNumbers(), 0, 7, 8, 9, 15, 16, 128, 255, 256, 257, 258, 262, 65535)
}

// noGroups are numbers that are no group.
func noGroups() []int { return append(noUsers(), 4, 5, 6) }

// wrongGroups are groups that may not be, each for one thing alone or for several.
func wrongGroups() []api.Group {
	one := laid(1, 1, 1, [8]int{2}, from(1, 1))
	l := []api.Group{{}, {Number: 1}, {Owner: 1}, {Number: 4, Owner: 1}, {Number: 1, Owner: 7}, {Number: 1, Owner: 1, Epoch: -1}, {Number: 1, Owner: 1, Epoch: 65536}, {Number: -1, Owner: -1, Epoch: -1}}
	for _, change := range []func(g *api.Group){
		func(g *api.Group) { g.Places[1] = 2 },
		func(g *api.Group) { g.Places[1] = 3 },
		func(g *api.Group) { g.Places[0] = 0 },
		func(g *api.Group) { g.Places[0] = 7 },
		func(g *api.Group) { g.Places[0] = -2 },
		func(g *api.Group) { g.Places[0], g.Places[1] = 0, 2 },
		func(g *api.Group) { g.Nums[0] = 9 },
		func(g *api.Group) { g.Nums[0] = -9 },
		func(g *api.Group) { g.Nums[1] = 0 },
		func(g *api.Group) { g.Nums[8] = 0 },
		func(g *api.Group) { g.Nums[9] = 9 },
		func(g *api.Group) { g.Nums[3] = 9 },
		func(g *api.Group) { g.Nums[15] = 1 },
		func(g *api.Group) { g.Nums[1] = g.Nums[2] },
		func(g *api.Group) { g.Nums[8] = g.Nums[1] },
		func(g *api.Group) { g.Nums[1] = 65536 },
		func(g *api.Group) { g.Nums[1] = -1 },
		func(g *api.Group) { g.Number = 0 },
		func(g *api.Group) { g.Owner = 0 },
		func(g *api.Group) { g.Number, g.Owner, g.Epoch = 9, 9, -9 },
		func(g *api.Group) { *g = laid(1, 1, 1, [8]int{1, 2, 3, 4, 5, 6, 1}, from(1, 1)) },
		func(g *api.Group) { *g = laid(1, 1, 1, [8]int{1, 2, 3, 4, 5, 6, 7, 8}, from(1, 1)) },
		func(g *api.Group) { *g = laid(1, 1, 1, [8]int{2, 2, 2, 2, 2, 2, 2, 2}, from(1, 1)) },
		func(g *api.Group) { *g = laid(1, 1, 1, [8]int{2, 3}, from(1, 0)) },
		func(g *api.Group) { *g = laid(1, 1, 1, [8]int{0, 0, 0, 5}, from(65533, 1)) },
		func(g *api.Group) {
			for k := range g.Nums {
				g.Nums[k] = math.MaxInt - k
			}
		},
		func(g *api.Group) {
			for k := range g.Places {
				g.Places[k], g.Nums[k] = math.MinInt, math.MinInt
			}
		},
	} {
		g := one
		change(&g)
		l = append(l, g)
	}
	for _, no := range noNumbers() {
		for _, change := range []func(g *api.Group){
			func(g *api.Group) { g.Number = no },
			func(g *api.Group) { g.Owner = no },
			func(g *api.Group) { g.Epoch = no },
			func(g *api.Group) { g.Places[0] = no },
			func(g *api.Group) { g.Places[7] = no },
			func(g *api.Group) { g.Nums[0] = no },
			func(g *api.Group) { g.Nums[1] = no },
			func(g *api.Group) { g.Nums[15] = no },
		} {
			g := one
			change(&g)
			l = append(l, g)
		}
	}
	return l
}

// checkOnly holds what Join or Leave answered against that error, and nothing beside it.
func checkOnly(t *testing.T, what string, got change, want api.Errno) {
	t.Helper()
	if got.err != want || got.g != (api.Group{}) || len(got.l) != 0 || got.n != 0 {
		t.Errorf("%s: %v, not just %d", what, got, want)
	}
}

// checkChange holds what Join or Leave answered against what is wanted.
func checkChange(t *testing.T, what string, got, want change) {
	t.Helper()
	if got.g != want.g || !equalAll(got.l, want.l) || got.n != want.n || got.err != want.err {
		t.Errorf("%s:\n%v, not\n%v", what, got, want)
	}
}

// chance answers numbers that look picked, always the same ones.
type chance uint32

func (c *chance) below(n int) int {
	*c = *c*1664525 + 1013904223
	return int(*c>>8) % n
}
