package cap_test

import (
	"fmt"
	"iter"
	"math"
	"reflect"
	"regexp"
	"slices"
	"strings"

	"safehouse/api"
	"safehouse/perm"
	"safehouse/term"
)

// What stands here is the chapter's words once more, by other means than the package's: terms are laid field by field, and whether rows are in order is told by a pattern of their texts.

// Terms, field by field.
func said(s string) api.Term        { return api.Term{Kind: 1, Text: s} }
func atom(user, num int) api.Term   { return api.Term{Kind: 2, User: user, Num: num} }
func secret(user int) api.Term      { return api.Term{Kind: 3, User: user} }
func pair(a, b api.Term) api.Term   { return api.Term{Kind: 4, Kids: []api.Term{a, b}} }
func hash(a api.Term) api.Term      { return api.Term{Kind: 5, Kids: []api.Term{a}} }
func lock(key, b api.Term) api.Term { return api.Term{Kind: 6, Kids: []api.Term{key, b}} }
func seal(user int, a api.Term) api.Term {
	return api.Term{Kind: 7, User: user, Kids: []api.Term{a}}
}
func sign(user, leaf int, a api.Term) api.Term {
	return api.Term{Kind: 8, User: user, Num: leaf, Kids: []api.Term{a}}
}

// list answers the terms of l as a list.
func list(l ...api.Term) api.Term {
	if len(l) == 0 {
		return said("")
	}
	return pair(l[0], list(l[1:]...))
}

// chain is a term of that depth, and of that size.
func chain(depth int) api.Term {
	t := said("end")
	for range depth - 1 {
		t = hash(t)
	}
	return t
}

// bush is a term of that size: as flat as it may be.
func bush(size int) api.Term {
	switch size {
	case 1:
		return atom(6, 600)
	case 2:
		return hash(atom(6, 600))
	}
	left := size / 2
	return pair(bush(left), bush(size-1-left))
}

// measure answers the size and the depth of t, however great they are.
func measure(t api.Term) (int, int) {
	size, depth := 1, 0
	for _, kid := range t.Kids {
		more, deep := measure(kid)
		size, depth = size+more, max(depth, deep)
	}
	return size, depth + 1
}

// wrongTerms are terms that may not be.
func wrongTerms() []api.Term {
	return []api.Term{
		{}, said(strings.Repeat("a", 65)), {Kind: 9}, {Kind: -1}, {Kind: math.MaxInt}, {Kind: math.MinInt}, {Kind: 256 + 1}, {Kind: 1, User: 1}, {Kind: 1, Num: 1}, {Kind: 1, Kids: []api.Term{said("")}},
		atom(0, 1), atom(7, 1), atom(-1, 1), atom(1, -1), atom(1, 65536), secret(0), secret(7), secret(math.MaxInt), {Kind: 4}, {Kind: 4, Kids: []api.Term{said("")}}, {Kind: 5, Kids: []api.Term{said(""), said("")}},
		seal(0, said("")), seal(7, said("")), {Kind: 7, User: 1}, {Kind: 6, Kids: []api.Term{said("")}}, sign(1, -1, said("")), pair(said("a"), api.Term{}), hash(pair(api.Term{}, said("a"))), chain(61), bush(1201),
	}
}

// noNumbers are numbers that are neither a user nor a group, such as come to one in fewer bits among them.
func noNumbers() []int {
	return []int{
		0, -1, -2, -3, -6, 7, 8, 9, 10, 16, 255, 256, 257, 258, 65536, 65537, 1 << 31, 1<<31 + 1, 1 << 32, 1<<32 + 1, 1<<32 + 2,
		-255, -254, -65535, -1 << 31, -1<<32 + 1, -1<<32 + 2, math.MaxInt - 1, math.MaxInt, math.MinInt, math.MinInt + 1, math.MinInt + 2,
	}
}

// noGroups are numbers that are no group.
func noGroups() []int { return append(noNumbers(), 4, 5, 6) }

// names are those of all who can have a box, in order.
func names() []string {
	return []string{"u1", "u2", "u3", "u4", "u5", "u6", "g1", "g2", "g3"}
}

// rowAt answers the row of the holder at that place of the names, with that in the box; a group's is locked by that key.
func rowAt(place int, key, body api.Term) api.Term {
	if place < 6 {
		return pair(said(names()[place]), seal(place+1, body))
	}
	return pair(said(names()[place]), lock(key, body))
}

// made answers what Make is to answer.
func made(p api.Perm, state api.Term, keys []api.GroupKey) (api.Term, api.Errno) {
	if perm.Check(p) != api.OK {
		return api.Term{}, api.ErrPerm
	}
	if term.Check(state) != api.OK {
		return api.Term{}, api.ErrTerm
	}
	byGroup := map[int]api.Term{}
	for _, k := range slices.Backward(keys) {
		if term.Check(k.Key) != api.OK {
			return api.Term{}, api.ErrTerm
		}
		byGroup[k.Group] = k.Key
	}
	var rows []api.Term
	for place := range names() {
		user, group := place+1, place-5
		if place < 6 && (user == p.Owner || slices.Contains(p.Readers, user)) || place >= 6 && slices.Contains(p.Groups, group) {
			if place >= 6 && byGroup[group].Kind == 0 {
				return api.Term{}, api.ErrNone
			}
			rows = append(rows, rowAt(place, byGroup[group], state))
		}
	}
	boxes := list(rows...)
	if size, depth := measure(boxes); size > 1200 || depth > 60 {
		return api.Term{}, api.ErrTerm
	}
	return boxes, api.OK
}

// named is one right box.
type named struct {
	name string
	box  api.Term
}

// inOrder is what the names of right boxes say, one behind the other.
func inOrder() *regexp.Regexp {
	return regexp.MustCompile("^(u1)?(u2)?(u3)?(u4)?(u5)?(u6)?(g1)?(g2)?(g3)?$")
}

// apart answers the boxes by their names, and whether they are right.
func apart(boxes api.Term) ([]named, bool) {
	if term.Check(boxes) != api.OK {
		return nil, false
	}
	var l []named
	all := ""
	for ; boxes.Kind == 4; boxes = boxes.Kids[1] {
		row := boxes.Kids[0]
		if row.Kind != 4 || row.Kids[0].Kind != 1 || len(row.Kids[0].Text) != 2 {
			return nil, false
		}
		x := named{row.Kids[0].Text, row.Kids[1]}
		fits := x.name[0] == 'u' && x.box.Kind == 7 && x.box.User == int(x.name[1]-'0') || x.name[0] == 'g' && x.box.Kind == 6
		if !fits {
			return nil, false
		}
		l, all = append(l, x), all+x.name
	}
	if boxes.Kind != 1 || boxes.Text != "" || all == "" || !inOrder().MatchString(all) {
		return nil, false
	}
	return l, true
}

// have answers who has a box: of right boxes the users, and the groups.
func have(boxes api.Term) ([]int, []int, api.Errno) {
	l, right := apart(boxes)
	if !right {
		return nil, nil, api.ErrCap
	}
	var users, groups []int
	for _, x := range l {
		if number := int(x.name[1] - '0'); x.name[0] == 'u' {
			users = append(users, number)
		} else {
			groups = append(groups, number)
		}
	}
	return users, groups, api.OK
}

// opened answers what Open is to answer.
func opened(boxes api.Term, user int, keys []api.GroupKey) (api.Term, api.Errno) {
	l, right := apart(boxes)
	if !right {
		return api.Term{}, api.ErrCap
	}
	for _, x := range l {
		if x.box.Kind == 7 && x.box.User == user {
			return x.box.Kids[0], api.OK
		}
	}
	for _, x := range l {
		for _, k := range keys {
			if x.box.Kind == 6 && k.Group == int(x.name[1]-'0') && equal(k.Key, x.box.Kids[0]) {
				return x.box.Kids[1], api.OK
			}
		}
	}
	return api.Term{}, api.ErrNone
}

// everyPerm tells permissions of each owner, with all choices of readers and of groups; the epoch and who may write differ from one to the next.
func everyPerm() iter.Seq[api.Perm] {
	return func(yield func(api.Perm) bool) {
		for owner := 1; owner <= 6; owner++ {
			for which := range 1 << 8 {
				p := api.Perm{Owner: owner, Epoch: 1 + (which+owner)%8}
				left := which
				for user := 1; user <= 6; user++ {
					if user == owner {
						continue
					}
					if left%2 == 1 {
						p.Readers = append(p.Readers, user)
						if (which+user)%3 == 0 {
							p.Writers = append(p.Writers, user)
						}
					}
					left /= 2
				}
				for group := 1; group <= 3; group++ {
					if left%2 == 1 {
						p.Groups = append(p.Groups, group)
					}
					left /= 2
				}
				if !yield(p) {
					return
				}
			}
		}
	}
}

// keyOf is the key of a group.
func keyOf(group int) api.Term { return atom(5, 100+group) }

// keysOf answers the keys of these groups, in that order.
func keysOf(groups ...int) []api.GroupKey {
	var l []api.GroupKey
	for _, group := range groups {
		l = append(l, api.GroupKey{Group: group, Key: keyOf(group)})
	}
	return l
}

// plain answers terms with nil in the place of each empty list, all in new memory.
func plain(l []api.Term) []api.Term {
	var out []api.Term
	for _, t := range l {
		t.Kids = plain(t.Kids)
		out = append(out, t)
	}
	return out
}

// plainKeys answers keys so.
func plainKeys(l []api.GroupKey) []api.GroupKey {
	var out []api.GroupKey
	for _, k := range l {
		out = append(out, api.GroupKey{Group: k.Group, Key: plain([]api.Term{k.Key})[0]})
	}
	return out
}

// plainPerm answers permissions so.
func plainPerm(p api.Perm) api.Perm {
	for _, l := range []*[]int{&p.Readers, &p.Writers, &p.Groups} {
		*l = append([]int(nil), *l...)
	}
	return p
}

func equal(a, b api.Term) bool { return reflect.DeepEqual(plain([]api.Term{a}), plain([]api.Term{b})) }

func equalKeys(a, b []api.GroupKey) bool { return reflect.DeepEqual(plainKeys(a), plainKeys(b)) }

func equalPerm(a, b api.Perm) bool { return reflect.DeepEqual(plainPerm(a), plainPerm(b)) }

// show tells what was handed in, or answered, as far as a line of it helps.
func show(x ...any) string {
	s := fmt.Sprint(x...)
	return s[:min(len(s), 600)]
}

// whole answers the list with the room behind its end.
func whole[T any](l []T) []T { return l[:cap(l)] }

// chance answers numbers that look picked, always the same ones.
type chance uint32

func (c *chance) below(n int) int {
	*c = *c*1664525 + 1013904223
	return int(*c>>8) % n
}
