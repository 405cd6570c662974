package perm_test

import (
	"slices"
	"testing"

	"safehouse/api"
	"safehouse/perm"
)

// rows answers rows of these numbers, a group's and a user's by turns.
func rows(numbers ...int) []api.Belongs {
	var l []api.Belongs
	for k := 0; k < len(numbers); k += 2 {
		l = append(l, api.Belongs{Group: numbers[k], User: numbers[k+1]})
	}
	return l
}

// rowsOf answers rows that say that the user is a member of the groups whose bit is set.
func rowsOf(user, groups int) []api.Belongs {
	var l []api.Belongs
	for group := 1; group <= 3; group++ {
		if groups>>(group-1)&1 == 1 {
			l = append(l, api.Belongs{Group: group, User: user})
		}
	}
	return l
}

// rowsBeside answers rows that say nothing of the user: of others, and of what is no user and no group.
func rowsBeside(user int) []api.Belongs {
	l := []api.Belongs{{}, {Group: user}, {User: user}, {Group: 4, User: user}, {Group: -1, User: user}, {Group: 257, User: user}, {Group: 1<<32 + 1, User: user}, {Group: 1, User: user + 256}, {Group: 1, User: -user}, {Group: 2, User: user + 1<<32}, {Group: 9, User: 9}}
	for other := 0; other <= 7; other++ {
		if other != user {
			l = append(l, rowsOf(other, 7)...)
		}
	}
	return l
}

// P11.4: of all permissions that may be, who may write.
func TestMayWriteAll(t *testing.T) {
	for r := range everyRights(users(), epochs()) {
		p := r.perm()
		for user := -1; user <= 8; user++ {
			if got := perm.MayWrite(p, user); got != r.mayWrite(user) {
				t.Fatalf("MayWrite(%v, %d): %t", p, user, got)
			}
		}
	}
}

// P11.4: of all permissions that may be, who may read, by each choice of groups that they are a member of, with and without rows that say nothing of them.
func TestMayReadAll(t *testing.T) {
	for user := -1; user <= 8; user++ {
		for groups := range 8 {
			rows := rowsOf(user, groups)
			many := slices.Concat(rowsBeside(user), rows, rowsBeside(user), rows)
			for r := range everyRights(users(), []int{1, 8}) {
				p := r.perm()
				want := r.mayRead(user, rows)
				if perm.MayRead(p, user, rows) != want || r.epoch == 1 && perm.MayRead(p, user, many) != want {
					t.Fatalf("MayRead(%v, %d) of %v: not %t", p, user, rows, want)
				}
			}
		}
	}
}

// P11.4: rows in each order, and rows that name a member more than once, say the same.
func TestMayReadRows(t *testing.T) {
	p := perms(1, 1, []int{2}, nil, []int{2})
	for _, x := range []struct {
		user int
		rows []api.Belongs
		want bool
	}{
		{1, nil, true}, {2, nil, true}, {2, rows(2, 3), true}, {3, nil, false}, {3, []api.Belongs{}, false},
		{3, rows(2, 3), true}, {3, rows(2, 3, 2, 3, 2, 3), true}, {3, rows(1, 3, 2, 3, 3, 3), true}, {3, rows(3, 3, 2, 3, 1, 3), true},
		{3, rows(1, 3, 3, 3), false}, {3, rows(1, 3, 1, 3, 3, 3, 3, 3), false}, {3, rows(2, 4), false}, {3, rows(2, 2, 2, 4, 2, 5, 2, 6), false},
		{2, rows(3, 2), true}, {3, rows(3, 2), false}, {4, rows(2, 3, 2, 4), true}, {4, rows(2, 4, 2, 3), true}, {4, rows(2, 3, 1, 4), false},
		{7, rows(2, 7), false}, {0, rows(2, 0), false}, {-1, rows(2, -1), false}, {0, []api.Belongs{{}}, false},
		{3, rows(0, 3, 4, 3, -2, 3, 258, 3), false}, {3, rows(0, 0, 2, 0, 2, 7, 2, -3, 2, 259), false},
		{3, rows(2, 3)[:0], false}, {3, rows(1, 3, 2, 3)[:1], false},
	} {
		if got := perm.MayRead(p, x.user, x.rows); got != x.want {
			t.Errorf("MayRead of %d by %v: %t", x.user, x.rows, got)
		}
	}
	long := slices.Repeat(rows(1, 3, 2, 4, 0, 0), 1<<16)
	if perm.MayRead(p, 3, long) || !perm.MayRead(p, 3, append(long, api.Belongs{Group: 2, User: 3})) {
		t.Error("MayRead by many rows")
	}
}

// P11.4: who writes by no group: members of groups alone may not.
func TestMayWriteByNoGroup(t *testing.T) {
	p := perms(1, 1, []int{2, 3}, []int{3}, []int{1, 2, 3})
	for user, want := range map[int]bool{0: false, 1: true, 2: false, 3: true, 4: false, 5: false, 6: false, 7: false} {
		if got := perm.MayWrite(p, user); got != want {
			t.Errorf("MayWrite of %d: %t", user, got)
		}
	}
}

// P11.4: nobody may anything by permissions that may not be, the Owner, readers, writers and members neither.
func TestMayOfWrong(t *testing.T) {
	for _, p := range wrongPerms() {
		asked := slices.Concat(users(), noUsers(), []int{p.Owner}, p.Readers[:min(5, len(p.Readers))], p.Writers[:min(5, len(p.Writers))])
		for _, user := range asked {
			rows := rowsOf(user, 7)
			if len(p.Groups) > 0 {
				rows = append(rows, api.Belongs{Group: p.Groups[len(p.Groups)-1], User: user})
			}
			if perm.MayWrite(p, user) || perm.MayRead(p, user, rows) || perm.MayRead(p, user, nil) {
				t.Errorf("%d may by permissions that may not be: owner %d, epoch %d", user, p.Owner, p.Epoch)
			}
		}
	}
}

// P11.4: numbers that are no user may nothing, whatever rows say of them.
func TestMayOfNoUser(t *testing.T) {
	for _, p := range []api.Perm{perms(1, 1, nil, nil, nil), perms(1, 1, nil, nil, []int{1, 2, 3}), perms(6, 8, []int{1, 2, 3, 4, 5}, []int{1, 2, 3, 4, 5}, []int{1, 2, 3})} {
		for _, no := range noUsers() {
			if perm.MayWrite(p, no) || perm.MayRead(p, no, nil) || perm.MayRead(p, no, append(rowsOf(no, 7), rowsOf(1, 7)...)) {
				t.Errorf("%d may by %v", no, p)
			}
		}
	}
}
