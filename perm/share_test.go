package perm_test

import (
	"fmt"
	"testing"

	"safehouse/api"
	"safehouse/perm"
)

// checkModel holds what was answered against what the model answers.
func checkModel(t *testing.T, what string, p, got api.Perm, err api.Errno, want rights, wanted api.Errno) {
	t.Helper()
	if err != wanted || !equal(got, want.perm()) {
		t.Fatalf("%s with %v: %v, %d, not %v, %d", what, p, got, err, want.perm(), wanted)
	}
}

// tried is a row of a table: permissions, who asks, of whom, whether it is to write, and what is answered.
type tried struct {
	p       api.Perm
	by, who int
	write   bool
	want    api.Perm
	err     api.Errno
}

// P11.2, P11.4: the chapter's examples.
func TestExamples(t *testing.T) {
	p, _ := perm.New(1)
	p, _ = perm.Share(p, 1, 2, false)
	p, err := perm.Share(p, 1, 3, true)
	checkIs(t, "p", p, err, perms(1, 1, []int{2, 3}, []int{3}, nil))
	if perm.MayWrite(p, 2) || !perm.MayWrite(p, 3) || !perm.MayRead(p, 2, nil) || perm.MayRead(p, 4, nil) {
		t.Error("what 2, 3 and 4 may")
	}
	got, err := perm.Share(p, 2, 4, false)
	checkOnly(t, "Share by 2", got, err, api.ErrOwner)
	got, err = perm.Share(p, 1, 2, false)
	checkOnly(t, "Share with a reader", got, err, api.ErrThere)
	got, err = perm.Share(p, 1, 1, true)
	checkOnly(t, "Share with the Owner", got, err, api.ErrArg)
	got, err = perm.Back(p, 1, 3)
	checkIs(t, "Back of 3", got, err, perms(1, 2, []int{2}, nil, nil))
	got, err = perm.Back(p, 1, 4)
	checkOnly(t, "Back of 4", got, err, api.ErrNone)
	got, err = perm.ShareGroup(p, 1, 1)
	checkIs(t, "ShareGroup", got, err, perms(1, 1, []int{2, 3}, []int{3}, []int{1}))
	if !perm.MayRead(got, 4, []api.Belongs{{Group: 1, User: 4}}) {
		t.Error("4 may not read as a member of 1")
	}
}

// P11.2: Share with all permissions that may be, by everybody and with everybody, and with numbers beside the users.
func TestShareAll(t *testing.T) {
	for r := range everyRights(users(), epochs()) {
		p := r.perm()
		for by := 0; by <= 7; by++ {
			if by != r.owner && by != r.owner%6+1 && r.epoch != 3 {
				continue
			}
			for user := 0; user <= 7; user++ {
				for _, write := range []bool{false, true} {
					got, err := perm.Share(p, by, user, write)
					want, wanted := r.share(by, user, write)
					if err != wanted || !perm.Same(got, want.perm()) {
						checkModel(t, fmt.Sprintf("Share(%d, %d, %t)", by, user, write), p, got, err, want, wanted)
					}
				}
			}
		}
	}
}

// P11.2: Back with all permissions that may be, by everybody and of everybody, and with numbers beside the users.
func TestBackAll(t *testing.T) {
	for r := range everyRights(users(), epochs()) {
		p := r.perm()
		for by := 0; by <= 7; by++ {
			if by != r.owner && by != r.owner%6+1 && r.epoch != 3 {
				continue
			}
			for user := 0; user <= 7; user++ {
				got, err := perm.Back(p, by, user)
				want, wanted := r.back(by, user)
				if err != wanted || !perm.Same(got, want.perm()) {
					checkModel(t, fmt.Sprintf("Back(%d, %d)", by, user), p, got, err, want, wanted)
				}
			}
		}
	}
}

// P11.2: Share to read and to write, with one who is no reader, a reader, a writer, at the first place of a row, between others, and at the last one.
func TestShare(t *testing.T) {
	for _, x := range []tried{
		{perms(1, 1, nil, nil, nil), 1, 2, false, perms(1, 1, []int{2}, nil, nil), api.OK},
		{perms(1, 1, nil, nil, nil), 1, 2, true, perms(1, 1, []int{2}, []int{2}, nil), api.OK},
		{perms(6, 8, nil, nil, nil), 6, 1, false, perms(6, 8, []int{1}, nil, nil), api.OK},
		{perms(6, 8, nil, nil, nil), 6, 5, true, perms(6, 8, []int{5}, []int{5}, nil), api.OK},
		{perms(1, 1, []int{2}, nil, nil), 1, 2, false, api.Perm{}, api.ErrThere},
		{perms(1, 1, []int{2}, nil, nil), 1, 2, true, perms(1, 1, []int{2}, []int{2}, nil), api.OK},
		{perms(1, 1, []int{2}, []int{2}, nil), 1, 2, false, api.Perm{}, api.ErrThere},
		{perms(1, 1, []int{2}, []int{2}, nil), 1, 2, true, api.Perm{}, api.ErrThere},
		{perms(4, 5, []int{3, 5}, []int{5}, []int{2}), 4, 1, true, perms(4, 5, []int{1, 3, 5}, []int{1, 5}, []int{2}), api.OK},
		{perms(4, 5, []int{1, 5}, []int{1, 5}, []int{1, 3}), 4, 3, true, perms(4, 5, []int{1, 3, 5}, []int{1, 3, 5}, []int{1, 3}), api.OK},
		{perms(4, 5, []int{1, 5}, []int{1, 5}, []int{1, 3}), 4, 3, false, perms(4, 5, []int{1, 3, 5}, []int{1, 5}, []int{1, 3}), api.OK},
		{perms(4, 5, []int{1, 3}, []int{3}, nil), 4, 6, true, perms(4, 5, []int{1, 3, 6}, []int{3, 6}, nil), api.OK},
		{perms(4, 5, []int{1, 2, 3, 5, 6}, []int{1, 3, 6}, nil), 4, 5, true, perms(4, 5, []int{1, 2, 3, 5, 6}, []int{1, 3, 5, 6}, nil), api.OK},
		{perms(4, 5, []int{1, 2, 3, 5, 6}, []int{1, 2, 3, 6}, nil), 4, 5, false, api.Perm{}, api.ErrThere},
		{perms(1, 1, nil, nil, []int{1}), 1, 1, false, api.Perm{}, api.ErrArg},
		{perms(1, 1, nil, nil, nil), 1, 0, false, api.Perm{}, api.ErrArg},
		{perms(1, 1, nil, nil, nil), 1, 7, true, api.Perm{}, api.ErrArg},
		{perms(1, 1, []int{2}, []int{2}, nil), 2, 3, false, api.Perm{}, api.ErrOwner},
		{perms(1, 1, []int{2}, []int{2}, nil), 2, 2, true, api.Perm{}, api.ErrOwner},
		{perms(1, 1, []int{2}, nil, nil), 0, 2, false, api.Perm{}, api.ErrOwner},
		{perms(1, 1, []int{2}, nil, nil), 7, 7, false, api.Perm{}, api.ErrOwner},
	} {
		got, err := perm.Share(x.p, x.by, x.who, x.write)
		if err != x.err || !equal(got, x.want) {
			t.Errorf("Share(%v, %d, %d, %t): %v, %d, not %v, %d", x.p, x.by, x.who, x.write, got, err, x.want, x.err)
		}
	}
}

// P11.2: Back of a reader, of a writer, of one who reads by a group alone, of nobody, at the first place of a row, between others, and at the last one, and in the last epochs.
func TestBack(t *testing.T) {
	for _, x := range []tried{
		{p: perms(1, 1, []int{2}, nil, nil), by: 1, who: 2, want: perms(1, 2, nil, nil, nil)},
		{p: perms(1, 1, []int{2}, []int{2}, nil), by: 1, who: 2, want: perms(1, 2, nil, nil, nil)},
		{p: perms(4, 3, []int{1, 3, 5}, []int{3, 5}, []int{1}), by: 4, who: 1, want: perms(4, 4, []int{3, 5}, []int{3, 5}, []int{1})},
		{p: perms(4, 3, []int{1, 3, 5}, []int{3, 5}, []int{1}), by: 4, who: 3, want: perms(4, 4, []int{1, 5}, []int{5}, []int{1})},
		{p: perms(4, 3, []int{1, 3, 5}, []int{3, 5}, []int{1}), by: 4, who: 5, want: perms(4, 4, []int{1, 3}, []int{3}, []int{1})},
		{p: perms(4, 3, []int{1, 3, 5}, []int{1, 5}, []int{1}), by: 4, who: 3, want: perms(4, 4, []int{1, 5}, []int{1, 5}, []int{1})},
		{p: perms(6, 7, []int{1, 2, 3, 4, 5}, []int{1, 2, 3, 4, 5}, []int{1, 2, 3}), by: 6, who: 3, want: perms(6, 8, []int{1, 2, 4, 5}, []int{1, 2, 4, 5}, []int{1, 2, 3})},
		{p: perms(6, 8, []int{1, 2, 3, 4, 5}, []int{1, 2, 3, 4, 5}, []int{1, 2, 3}), by: 6, who: 3, err: api.ErrEpochs},
		{p: perms(1, 8, []int{2}, nil, nil), by: 1, who: 2, err: api.ErrEpochs},
		{p: perms(1, 8, []int{2}, nil, nil), by: 1, who: 3, err: api.ErrNone},
		{p: perms(1, 8, []int{2}, nil, nil), by: 1, who: 1, err: api.ErrArg},
		{p: perms(1, 8, []int{2}, nil, nil), by: 2, who: 2, err: api.ErrOwner},
		{p: perms(1, 1, nil, nil, []int{1, 2, 3}), by: 1, who: 2, err: api.ErrNone},
		{p: perms(1, 1, nil, nil, nil), by: 1, who: 2, err: api.ErrNone},
		{p: perms(1, 1, []int{3}, []int{3}, nil), by: 1, who: 2, err: api.ErrNone},
		{p: perms(1, 1, nil, nil, nil), by: 1, who: 1, err: api.ErrArg},
		{p: perms(1, 1, nil, nil, nil), by: 1, who: 0, err: api.ErrArg},
		{p: perms(1, 1, nil, nil, nil), by: 1, who: 7, err: api.ErrArg},
		{p: perms(1, 1, []int{2}, []int{2}, nil), by: 2, who: 2, err: api.ErrOwner},
		{p: perms(1, 1, []int{2}, []int{2}, nil), by: 0, who: 0, err: api.ErrOwner},
	} {
		got, err := perm.Back(x.p, x.by, x.who)
		if err != x.err || !equal(got, x.want) {
			t.Errorf("Back(%v, %d, %d): %v, %d, not %v, %d", x.p, x.by, x.who, got, err, x.want, x.err)
		}
	}
}

// P11.2: numbers that are no user, as the one who asks and as the one for whom it is asked.
func TestShareAndBackOfNoUser(t *testing.T) {
	for _, p := range []api.Perm{perms(1, 1, nil, nil, nil), perms(2, 8, []int{1, 6}, []int{6}, []int{1, 2, 3}), perms(6, 3, []int{1, 2, 3, 4, 5}, []int{1, 2}, nil)} {
		for _, no := range noUsers() {
			for _, x := range []struct {
				by, who int
				want    api.Errno
			}{{p.Owner, no, api.ErrArg}, {no, p.Owner, api.ErrOwner}, {no, no, api.ErrOwner}, {no, 3, api.ErrOwner}, {3, no, api.ErrOwner}} {
				for _, write := range []bool{false, true} {
					got, err := perm.Share(p, x.by, x.who, write)
					checkOnly(t, fmt.Sprintf("Share(%v, %d, %d)", p, x.by, x.who), got, err, x.want)
				}
				got, err := perm.Back(p, x.by, x.who)
				checkOnly(t, fmt.Sprintf("Back(%v, %d, %d)", p, x.by, x.who), got, err, x.want)
			}
		}
	}
}

// P11.2, P11.3: permissions that may not be are told ahead of all else: of who asks, of whom it is asked for, of what is there and what is not, and of the last epoch.
func TestWrongAheadOfAll(t *testing.T) {
	for _, p := range wrongPerms() {
		for _, x := range calls(0, 1, 2, 3, 4, 5, 6, 7) {
			got, err := x.do(p)
			checkOnly(t, x.what, got, err, api.ErrPerm)
		}
		for _, no := range noUsers() {
			got, err := perm.Share(p, no, p.Owner, true)
			checkOnly(t, "Share", got, err, api.ErrPerm)
			got, err = perm.Back(p, p.Owner, no)
			checkOnly(t, "Back", got, err, api.ErrPerm)
			got, err = perm.ShareGroup(p, no, no)
			checkOnly(t, "ShareGroup", got, err, api.ErrPerm)
			got, err = perm.BackGroup(p, p.Owner, no)
			checkOnly(t, "BackGroup", got, err, api.ErrPerm)
		}
	}
}
