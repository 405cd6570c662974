package perm_test

import (
	"fmt"
	"testing"

	"safehouse/api"
	"safehouse/perm"
)

// P11.3: ShareGroup and BackGroup with all permissions that may be, by everybody, of all groups and of numbers beside them.
func TestGroupsAll(t *testing.T) {
	for r := range everyRights(users(), epochs()) {
		p := r.perm()
		for by := 0; by <= 7; by++ {
			if by != r.owner && by != r.owner%6+1 && r.epoch != 3 {
				continue
			}
			for group := 0; group <= 4; group++ {
				got, err := perm.ShareGroup(p, by, group)
				want, wanted := r.shareGroup(by, group)
				if err != wanted || !perm.Same(got, want.perm()) {
					checkModel(t, fmt.Sprintf("ShareGroup(%d, %d)", by, group), p, got, err, want, wanted)
				}
				got, err = perm.BackGroup(p, by, group)
				want, wanted = r.backGroup(by, group)
				if err != wanted || !perm.Same(got, want.perm()) {
					checkModel(t, fmt.Sprintf("BackGroup(%d, %d)", by, group), p, got, err, want, wanted)
				}
			}
		}
	}
}

// P11.3: Next of all permissions that may be: all else stays, and behind the last epoch there is none.
func TestNextAll(t *testing.T) {
	for r := range everyRights(users(), epochs()) {
		got, err := perm.Next(r.perm())
		want, wanted := r.next()
		checkModel(t, "Next", r.perm(), got, err, want, wanted)
	}
}

// P11.3: Next from the first epoch to the last one, and once more.
func TestNext(t *testing.T) {
	p, _ := perm.New(5)
	for epoch := 2; epoch <= 8; epoch++ {
		next, err := perm.Next(p)
		checkIs(t, fmt.Sprintf("Next to %d", epoch), next, err, perms(5, epoch, nil, nil, nil))
		p = next
	}
	got, err := perm.Next(p)
	checkOnly(t, "Next of the last epoch", got, err, api.ErrEpochs)
}

// P11.3: ShareGroup of a group that is not there, at each place of the row, and of one that is.
func TestShareGroup(t *testing.T) {
	for _, x := range []tried{
		{p: perms(1, 1, nil, nil, nil), by: 1, who: 1, want: perms(1, 1, nil, nil, []int{1})},
		{p: perms(1, 8, nil, nil, nil), by: 1, who: 3, want: perms(1, 8, nil, nil, []int{3})},
		{p: perms(3, 2, []int{1, 2}, []int{2}, []int{2, 3}), by: 3, who: 1, want: perms(3, 2, []int{1, 2}, []int{2}, []int{1, 2, 3})},
		{p: perms(3, 2, []int{1, 2}, []int{2}, []int{1, 3}), by: 3, who: 2, want: perms(3, 2, []int{1, 2}, []int{2}, []int{1, 2, 3})},
		{p: perms(3, 2, []int{1, 2}, []int{2}, []int{1, 2}), by: 3, who: 3, want: perms(3, 2, []int{1, 2}, []int{2}, []int{1, 2, 3})},
		{p: perms(3, 2, nil, nil, []int{1, 2}), by: 3, who: 1, err: api.ErrThere},
		{p: perms(3, 8, nil, nil, []int{1, 2, 3}), by: 3, who: 3, err: api.ErrThere},
		{p: perms(3, 2, nil, nil, nil), by: 3, who: 0, err: api.ErrArg},
		{p: perms(3, 2, nil, nil, nil), by: 3, who: 4, err: api.ErrArg},
		{p: perms(3, 2, []int{4}, []int{4}, nil), by: 3, who: 4, err: api.ErrArg},
		{p: perms(3, 2, []int{4}, []int{4}, nil), by: 4, who: 1, err: api.ErrOwner},
		{p: perms(3, 2, []int{4}, []int{4}, []int{1}), by: 4, who: 1, err: api.ErrOwner},
		{p: perms(3, 2, nil, nil, nil), by: 1, who: 1, err: api.ErrOwner},
		{p: perms(3, 2, nil, nil, nil), by: 0, who: 0, err: api.ErrOwner},
	} {
		got, err := perm.ShareGroup(x.p, x.by, x.who)
		if err != x.err || !equal(got, x.want) {
			t.Errorf("ShareGroup(%v, %d, %d): %v, %d, not %v, %d", x.p, x.by, x.who, got, err, x.want, x.err)
		}
	}
}

// P11.3: BackGroup of a group that is there, at each place of the row, and of one that is not, and in the last epochs.
func TestBackGroup(t *testing.T) {
	for _, x := range []tried{
		{p: perms(1, 1, nil, nil, []int{1}), by: 1, who: 1, want: perms(1, 2, nil, nil, nil)},
		{p: perms(3, 2, []int{1, 2}, []int{2}, []int{1, 2, 3}), by: 3, who: 1, want: perms(3, 3, []int{1, 2}, []int{2}, []int{2, 3})},
		{p: perms(3, 2, []int{1, 2}, []int{2}, []int{1, 2, 3}), by: 3, who: 2, want: perms(3, 3, []int{1, 2}, []int{2}, []int{1, 3})},
		{p: perms(3, 7, []int{1, 2}, []int{2}, []int{1, 2, 3}), by: 3, who: 3, want: perms(3, 8, []int{1, 2}, []int{2}, []int{1, 2})},
		{p: perms(3, 8, []int{1, 2}, []int{2}, []int{1, 2, 3}), by: 3, who: 3, err: api.ErrEpochs},
		{p: perms(3, 8, []int{1, 2}, []int{2}, []int{1, 2}), by: 3, who: 3, err: api.ErrNone},
		{p: perms(3, 8, []int{1, 2}, []int{2}, []int{1, 2}), by: 3, who: 4, err: api.ErrArg},
		{p: perms(3, 8, []int{1, 2}, []int{2}, []int{1, 2}), by: 2, who: 1, err: api.ErrOwner},
		{p: perms(3, 2, nil, nil, nil), by: 3, who: 1, err: api.ErrNone},
		{p: perms(3, 2, []int{1, 2}, []int{1, 2}, []int{3}), by: 3, who: 2, err: api.ErrNone},
		{p: perms(3, 2, nil, nil, nil), by: 3, who: 0, err: api.ErrArg},
		{p: perms(3, 2, []int{4}, []int{4}, nil), by: 3, who: 4, err: api.ErrArg},
		{p: perms(3, 2, []int{1}, []int{1}, []int{1}), by: 1, who: 1, err: api.ErrOwner},
		{p: perms(3, 2, nil, nil, []int{1}), by: 7, who: 7, err: api.ErrOwner},
	} {
		got, err := perm.BackGroup(x.p, x.by, x.who)
		if err != x.err || !equal(got, x.want) {
			t.Errorf("BackGroup(%v, %d, %d): %v, %d, not %v, %d", x.p, x.by, x.who, got, err, x.want, x.err)
		}
	}
}

// P11.3: numbers that are no group, and numbers that are no user, as the one who asks.
func TestNoGroup(t *testing.T) {
	for _, p := range []api.Perm{perms(1, 1, nil, nil, nil), perms(2, 8, []int{1, 6}, []int{6}, []int{1, 2, 3}), perms(6, 3, []int{1, 2, 3, 4, 5}, []int{1, 2}, []int{2})} {
		for _, no := range noGroups() {
			got, err := perm.ShareGroup(p, p.Owner, no)
			checkOnly(t, fmt.Sprintf("ShareGroup(%v, %d)", p, no), got, err, api.ErrArg)
			got, err = perm.BackGroup(p, p.Owner, no)
			checkOnly(t, fmt.Sprintf("BackGroup(%v, %d)", p, no), got, err, api.ErrArg)
		}
		for _, no := range noUsers() {
			for _, group := range []int{1, 2, 3, 4, no} {
				got, err := perm.ShareGroup(p, no, group)
				checkOnly(t, fmt.Sprintf("ShareGroup(%v, by %d)", p, no), got, err, api.ErrOwner)
				got, err = perm.BackGroup(p, no, group)
				checkOnly(t, fmt.Sprintf("BackGroup(%v, by %d)", p, no), got, err, api.ErrOwner)
			}
		}
	}
}
