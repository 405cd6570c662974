package perm_test

import (
	"fmt"
	"iter"
	"math"
	"reflect"
	"slices"
	"testing"

	"safehouse/api"
	"safehouse/perm"
)

// What stands here is the chapter's words once more, with what each user may by themselves told user by user, and no lists.

const (
	nothing = iota // what a user may by themselves
	reading
	writing
)

// rights are permissions that may be: may is told of each user but the Owner, shared of each group, each at its number's place.
type rights struct {
	owner, epoch int
	may          [7]byte
	shared       [4]bool
}

// perm answers the rights as permissions, with nil in the place of each empty list.
func (r rights) perm() api.Perm {
	p := api.Perm{Owner: r.owner, Epoch: r.epoch}
	for user, what := range r.may {
		if what >= reading {
			p.Readers = append(p.Readers, user)
		}
		if what == writing {
			p.Writers = append(p.Writers, user)
		}
	}
	for group, is := range r.shared {
		if is {
			p.Groups = append(p.Groups, group)
		}
	}
	return p
}

// refuses answers what is wrong with who asks, and with whom it is asked for.
func (r rights) refuses(by int, isOne bool) api.Errno {
	if by != r.owner {
		return api.ErrOwner
	}
	if !isOne {
		return api.ErrArg
	}
	return api.OK
}

// isOther tells whether it is a user, and not the Owner.
func (r rights) isOther(user int) bool {
	return user >= 1 && user <= 6 && user != r.owner
}

func (r rights) share(by, user int, write bool) (rights, api.Errno) {
	if wrong := r.refuses(by, r.isOther(user)); wrong != api.OK {
		return rights{}, wrong
	}
	was := r.may[user]
	if write {
		r.may[user] = writing
	} else if was == nothing {
		r.may[user] = reading
	}
	if r.may[user] == was {
		return rights{}, api.ErrThere
	}
	return r, api.OK
}

func (r rights) back(by, user int) (rights, api.Errno) {
	if wrong := r.refuses(by, r.isOther(user)); wrong != api.OK {
		return rights{}, wrong
	}
	if r.may[user] == nothing {
		return rights{}, api.ErrNone
	}
	r.may[user] = nothing
	return r.next()
}

func (r rights) shareGroup(by, group int) (rights, api.Errno) {
	if wrong := r.refuses(by, group >= 1 && group <= 3); wrong != api.OK {
		return rights{}, wrong
	}
	if r.shared[group] {
		return rights{}, api.ErrThere
	}
	r.shared[group] = true
	return r, api.OK
}

func (r rights) backGroup(by, group int) (rights, api.Errno) {
	if wrong := r.refuses(by, group >= 1 && group <= 3); wrong != api.OK {
		return rights{}, wrong
	}
	if !r.shared[group] {
		return rights{}, api.ErrNone
	}
	r.shared[group] = false
	return r.next()
}

func (r rights) next() (rights, api.Errno) {
	if r.epoch == 8 {
		return rights{}, api.ErrEpochs
	}
	r.epoch++
	return r, api.OK
}

func (r rights) mayWrite(user int) bool {
	return user == r.owner || r.isOther(user) && r.may[user] == writing
}

func (r rights) mayRead(user int, l []api.Belongs) bool {
	if user == r.owner {
		return true
	}
	if !r.isOther(user) {
		return false
	}
	for group := 1; group <= 3; group++ {
		if r.shared[group] && slices.Contains(l, api.Belongs{Group: group, User: user}) {
			return true
		}
	}
	return r.may[user] != nothing
}

// everyRights tells all rights of these owners in these epochs.
func everyRights(owners, epochs []int) iter.Seq[rights] {
	return func(yield func(rights) bool) {
		for _, owner := range owners {
			for _, epoch := range epochs {
				for which := range 3 * 3 * 3 * 3 * 3 * 8 {
					if !yield(rightsBy(owner, epoch, which)) {
						return
					}
				}
			}
		}
	}
}

// rightsBy answers the rights of that number.
func rightsBy(owner, epoch, which int) rights {
	r := rights{owner: owner, epoch: epoch}
	for group := 1; group <= 3; group++ {
		r.shared[group] = which%2 == 1
		which /= 2
	}
	for user := 1; user <= 6; user++ {
		if user != owner {
			r.may[user] = byte(which % 3)
			which /= 3
		}
	}
	return r
}

func users() []int  { return []int{1, 2, 3, 4, 5, 6} }
func epochs() []int { return []int{1, 2, 3, 4, 5, 6, 7, 8} }

// noNumbers are numbers that are no user, no group and no epoch, such as come to one in fewer bits among them.
func noNumbers() []int {
	return []int{
		0, -1, -2, -3, -6, -8, 9, 10, 15, 16, 100, 255, 256, 257, 258, 264, 65535, 65536, 65537, 1 << 31, 1<<31 + 1, 1 << 32, 1<<32 + 1, 1<<32 + 2,
		-255, -254, -65535, -1 << 31, -1<<32 + 1, -1<<32 + 2, math.MaxInt - 1, math.MaxInt, math.MinInt, math.MinInt + 1, math.MinInt + 2,
	}
}

func noUsers() []int  { return append(noNumbers(), 7, 8) }
func noGroups() []int { return append(noNumbers(), 4, 5, 6, 7, 8) }

// perms answers permissions of these lists.
func perms(owner, epoch int, readers, writers, groups []int) api.Perm {
	return api.Perm{Owner: owner, Epoch: epoch, Readers: readers, Writers: writers, Groups: groups}
}

// plain answers p with nil in the place of each empty list, all in new memory.
func plain(p api.Perm) api.Perm {
	for _, l := range []*[]int{&p.Readers, &p.Writers, &p.Groups} {
		*l = append([]int(nil), *l...)
	}
	return p
}

// equal tells whether a and b are the same, nil and empty lists being one.
func equal(a, b api.Perm) bool {
	return reflect.DeepEqual(plain(a), plain(b))
}

// checkIs holds what was answered against these permissions, and no error.
func checkIs(t *testing.T, what string, got api.Perm, err api.Errno, want api.Perm) {
	t.Helper()
	if err != api.OK || !equal(got, want) {
		t.Errorf("%s: %v, %d, not %v", what, got, err, want)
	}
}

// checkOnly holds what was answered against that error, and nothing beside it.
func checkOnly(t *testing.T, what string, got api.Perm, err, want api.Errno) {
	t.Helper()
	if err != want || !equal(got, api.Perm{}) {
		t.Errorf("%s: %v, %d, not just %d", what, got, err, want)
	}
}

// wrongPerms are permissions that may not be, each for one thing alone or for several at once.
func wrongPerms() []api.Perm {
	l := []api.Perm{
		{}, {Owner: 1}, {Epoch: 1}, {Readers: []int{2}}, {Groups: []int{1}}, {Owner: 0, Epoch: 0, Readers: []int{}, Writers: []int{}, Groups: []int{}},
		perms(1, 1, []int{3, 2}, nil, nil), perms(1, 1, []int{2, 2}, nil, nil), perms(1, 1, []int{2, 3, 3}, nil, nil), perms(1, 1, []int{2, 4, 3, 5}, nil, nil), perms(1, 1, []int{2, 3, 2}, nil, nil),
		perms(1, 1, []int{1}, nil, nil), perms(1, 1, []int{1, 2}, nil, nil), perms(3, 1, []int{2, 3, 4}, nil, nil), perms(6, 8, []int{1, 2, 3, 4, 5, 6}, nil, nil), perms(3, 1, []int{2, 3, 4}, []int{3}, nil),
		perms(1, 1, []int{2, 3}, []int{3, 2}, nil), perms(1, 1, []int{2, 3}, []int{2, 2}, nil), perms(1, 1, []int{2, 3, 4}, []int{2, 4, 3}, nil),
		perms(1, 1, nil, []int{2}, nil), perms(1, 1, nil, []int{1}, nil), perms(1, 1, []int{2}, []int{1}, nil), perms(1, 1, []int{2}, []int{3}, nil), perms(1, 1, []int{3}, []int{2}, nil), perms(1, 1, []int{2, 3}, []int{2, 3, 4}, nil), perms(1, 1, []int{2, 4}, []int{2, 3}, nil), perms(1, 1, []int{2, 4}, []int{3, 4}, nil),
		perms(1, 1, nil, nil, []int{2, 1}), perms(1, 1, nil, nil, []int{1, 1}), perms(1, 1, nil, nil, []int{1, 3, 2}), perms(1, 1, nil, nil, []int{1, 2, 3, 3}), perms(1, 1, nil, nil, []int{1, 2, 3, 4}), perms(1, 1, nil, nil, []int{4}),
		perms(0, 9, []int{3, 3}, []int{4}, []int{4}), perms(1, 1, make([]int, 1<<16), make([]int, 1<<16), make([]int, 1<<16)), perms(1, 1, rising(1<<16, 2), rising(1<<16, 2), rising(1<<16, 1)),
	}
	for _, no := range noNumbers() {
		l = append(l, perms(no, 1, nil, nil, nil), perms(1, no, []int{2}, []int{2}, []int{1}), perms(no, no, nil, nil, nil))
	}
	for _, no := range noUsers() {
		l = append(l, perms(no, 1, []int{2}, []int{2}, []int{1}), perms(1, 1, []int{no}, nil, nil), perms(2, 1, []int{1, no}, nil, nil), perms(2, 1, []int{no, 6}, nil, nil), perms(2, 1, []int{1}, []int{no}, nil), perms(2, 1, []int{1, 6}, []int{1, no}, nil), perms(2, 1, []int{1, 6}, []int{no, 6}, nil), perms(2, 1, []int{1, no}, []int{1, no}, nil), perms(2, 1, []int{no, 6}, []int{no, 6}, nil))
	}
	for _, no := range noGroups() {
		l = append(l, perms(1, 1, nil, nil, []int{no}), perms(1, 1, []int{2}, nil, []int{1, no}), perms(1, 1, []int{2}, nil, []int{no, 3}))
	}
	return l
}

// rising answers so many numbers, each one above the one ahead of it, from the first one on.
func rising(many, first int) []int {
	l := make([]int, many)
	for k := range l {
		l[k] = first + k
	}
	return l
}

// call is a call that answers permissions.
type call struct {
	what string
	do   func(api.Perm) (api.Perm, api.Errno)
}

// calls are all ways to ask for other permissions, by each of those who ask, for each number from 0 to one beyond the users.
func calls(asking ...int) []call {
	l := []call{{"Next", perm.Next}}
	for _, by := range asking {
		for other := 0; other <= 7; other++ {
			of := fmt.Sprintf(" by %d of %d", by, other)
			l = append(l,
				call{"Share to read" + of, func(p api.Perm) (api.Perm, api.Errno) { return perm.Share(p, by, other, false) }},
				call{"Share to write" + of, func(p api.Perm) (api.Perm, api.Errno) { return perm.Share(p, by, other, true) }},
				call{"Back" + of, func(p api.Perm) (api.Perm, api.Errno) { return perm.Back(p, by, other) }},
				call{"ShareGroup" + of, func(p api.Perm) (api.Perm, api.Errno) { return perm.ShareGroup(p, by, other) }},
				call{"BackGroup" + of, func(p api.Perm) (api.Perm, api.Errno) { return perm.BackGroup(p, by, other) }})
		}
	}
	return l
}
