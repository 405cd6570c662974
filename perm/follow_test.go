package perm_test

import (
	"fmt"
	"slices"
	"testing"

	"safehouse/api"
	"safehouse/perm"
)

// standing is what somebody may, by each choice of the groups that they are a member of.
type standing struct {
	write bool
	read  [8]bool
}

// standingOf answers what the user may, as the package tells it.
func standingOf(p api.Perm, user int) standing {
	s := standing{write: perm.MayWrite(p, user)}
	for groups := range s.read {
		s.read[groups] = perm.MayRead(p, user, rowsOf(user, groups))
	}
	return s
}

// P11.5: who may write may read, whatever groups there are.
func TestWhoWritesReads(t *testing.T) {
	for r := range everyRights(users(), []int{1, 8}) {
		p := r.perm()
		for user := range 8 {
			if s := standingOf(p, user); s.write && s.read != [8]bool{true, true, true, true, true, true, true, true} {
				t.Fatalf("%d may write, and not read, by %v", user, p)
			}
		}
	}
}

// tookNothing tells whether all that they might before they may still.
func tookNothing(before, after standing) bool {
	for groups, was := range before.read {
		if was && !after.read[groups] {
			return false
		}
	}
	return after.write || !before.write
}

// P11.5: sharing takes nothing from anybody, and the epoch stays.
func TestSharingTakesNothing(t *testing.T) {
	for r := range everyRights([]int{1, 4}, []int{1, 8}) {
		p := r.perm()
		var l []api.Perm
		for user := 1; user <= 6; user++ {
			reads, _ := perm.Share(p, p.Owner, user, false)
			writes, _ := perm.Share(p, p.Owner, user, true)
			shared, _ := perm.ShareGroup(p, p.Owner, user)
			l = append(l, reads, writes, shared)
		}
		for user := 1; user <= 6; user++ {
			before := standingOf(p, user)
			for _, next := range l {
				if next.Owner != 0 && (!tookNothing(before, standingOf(next, user)) || next.Epoch != p.Epoch) {
					t.Fatalf("from %v to %v something was taken from %d", p, next, user)
				}
			}
		}
	}
}

// P11.5: taking back takes from that user alone, all but what they read by a group, and the next epoch begins.
func TestBackTakesFromOneAlone(t *testing.T) {
	for r := range everyRights([]int{1, 4}, []int{1, 7}) {
		p := r.perm()
		for taken := 1; taken <= 6; taken++ {
			next, err := perm.Back(p, p.Owner, taken)
			if err != api.OK {
				continue
			}
			if next.Epoch != p.Epoch+1 || next.Owner != p.Owner {
				t.Fatalf("Back(%v, %d): %v", p, taken, next)
			}
			for user := 1; user <= 6; user++ {
				want := standingOf(p, user)
				if user == taken {
					want = standing{}
					for groups := range want.read {
						for group := 1; group <= 3; group++ {
							want.read[groups] = want.read[groups] || r.shared[group] && groups>>(group-1)&1 == 1
						}
					}
				}
				if standingOf(next, user) != want {
					t.Fatalf("what %d may behind Back(%v, %d)", user, p, taken)
				}
			}
		}
	}
}

// P11.5: taking back from a group takes from nobody who reads by themselves or by another group, nor what anybody may write.
func TestBackGroupTakesFromMembersAlone(t *testing.T) {
	for r := range everyRights([]int{1, 4}, []int{1, 7}) {
		p := r.perm()
		for taken := 1; taken <= 3; taken++ {
			next, err := perm.BackGroup(p, p.Owner, taken)
			if err != api.OK {
				continue
			}
			for user := 1; user <= 6; user++ {
				before, after := standingOf(p, user), standingOf(next, user)
				for groups := range 8 {
					// Without a membership in that group they may what they might.
					if without := groups &^ (1 << (taken - 1)); after.read[groups] != before.read[without] {
						t.Fatalf("what %d may read behind BackGroup(%v, %d)", user, p, taken)
					}
				}
				if after.write != before.write {
					t.Fatalf("what %d may write behind BackGroup(%v, %d)", user, p, taken)
				}
			}
		}
	}
}

// P11.5: Share and Back of a new reader lead back, but for the epoch; so do ShareGroup and BackGroup of a new group.
func TestThereAndBack(t *testing.T) {
	for r := range everyRights(users(), []int{1, 7}) {
		p := r.perm()
		want := r.perm()
		want.Epoch++
		for user := 1; user <= 6; user++ {
			if user == r.owner || r.may[user] != nothing {
				continue
			}
			for _, write := range []bool{false, true} {
				shared, _ := perm.Share(p, p.Owner, user, write)
				got, err := perm.Back(shared, p.Owner, user)
				checkIs(t, fmt.Sprintf("there and back of %d", user), got, err, want)
			}
		}
		for group := 1; group <= 3; group++ {
			if !r.shared[group] {
				shared, _ := perm.ShareGroup(p, p.Owner, group)
				got, err := perm.BackGroup(shared, p.Owner, group)
				checkIs(t, fmt.Sprintf("there and back of the group %d", group), got, err, want)
			}
		}
	}
}

// number answers the next one of a row of numbers that always is the same.
func number(seed *uint32) int {
	*seed = *seed*1664525 + 1013904223
	return int(*seed >> 8)
}

// P11.2 to P11.5: long rows of changes, one behind the other, each held against the chapter's words; the epoch never falls.
func TestLongRows(t *testing.T) {
	for seed := uint32(1); seed <= 400; seed++ {
		chance := seed
		owner := number(&chance)%6 + 1
		p, _ := perm.New(owner)
		r := rights{owner: owner, epoch: 1}
		for step := range 300 {
			kind, by, other, write := number(&chance)%16, owner, number(&chance)%8, number(&chance)%2 == 1
			if number(&chance)%10 == 0 {
				by = number(&chance) % 8
			}
			var got api.Perm
			var want rights
			var err, wanted api.Errno
			switch {
			case kind < 6:
				got, err = perm.Share(p, by, other, write)
				want, wanted = r.share(by, other, write)
			case kind < 9:
				got, err = perm.Back(p, by, other)
				want, wanted = r.back(by, other)
			case kind < 13:
				got, err = perm.ShareGroup(p, by, other)
				want, wanted = r.shareGroup(by, other)
			case kind < 15:
				got, err = perm.BackGroup(p, by, other)
				want, wanted = r.backGroup(by, other)
			case step%20 == 0:
				got, err = perm.Next(p)
				want, wanted = r.next()
			default:
				continue
			}
			checkModel(t, fmt.Sprintf("the step %d of the row %d", step, seed), p, got, err, want, wanted)
			if err == api.OK {
				if got.Epoch < p.Epoch || perm.Check(got) != api.OK {
					t.Fatalf("from %v to %v", p, got)
				}
				p, r = got, want
			}
		}
	}
}

// P11.2, P11.3: from New all permissions of an owner that may be are come to, and no others.
func TestAllAreComeTo(t *testing.T) {
	const owner = 3
	first, _ := perm.New(owner)
	seen := map[string]bool{fmt.Sprint(first): true}
	for work := []api.Perm{first}; len(work) > 0; {
		p := work[0]
		work = work[1:]
		if perm.Check(p) != api.OK {
			t.Fatalf("%v is come to", p)
		}
		for other := 1; other <= 6; other++ {
			for _, x := range []func() (api.Perm, api.Errno){
				func() (api.Perm, api.Errno) { return perm.Share(p, owner, other, false) },
				func() (api.Perm, api.Errno) { return perm.Share(p, owner, other, true) },
				func() (api.Perm, api.Errno) { return perm.Back(p, owner, other) },
				func() (api.Perm, api.Errno) { return perm.ShareGroup(p, owner, other) },
				func() (api.Perm, api.Errno) { return perm.BackGroup(p, owner, other) },
			} {
				if next, err := x(); err == api.OK && !seen[fmt.Sprint(next)] {
					seen[fmt.Sprint(next)] = true
					work = append(work, next)
				}
			}
		}
	}
	n := 0
	for r := range everyRights([]int{owner}, epochs()) {
		n++
		if !seen[fmt.Sprint(r.perm())] {
			t.Fatalf("%v is not come to", r.perm())
		}
	}
	if len(seen) != n {
		t.Errorf("%d are come to, not %d", len(seen), n)
	}
}

// room is memory of which lists are pieces, with more behind their end.
type room struct {
	memory []int
	p      api.Perm
}

// rooms answers permissions whose lists have room behind their end, some of them in the same memory.
func rooms() []room {
	one := []int{2, 3, 4, 5, 6, 9, 9, 9, 9, 9, 9, 9}
	two := []int{1, 3, 9, 1, 9, 9, 2, 3, 9, 9}
	three := []int{2, 3, 9, 9}
	four := []int{9, 9, 9, 9, 9, 9}
	return []room{
		{one, perms(1, 1, one[:3], one[1:2], one[:1])},
		{one, perms(1, 7, one[:5], one[:5], one[:2])},
		{two, perms(2, 3, two[:2], two[3:4], two[6:8])},
		{two, perms(2, 8, two[:2], two[3:3], two[6:6])},
		{three, perms(1, 4, three[:2], three[:2], three[:2])},
		{four, perms(5, 1, four[:0], four[2:2], four[4:4])},
	}
}

// R3: what is handed in is not changed, the room behind a list's end neither.
func TestNothingChanged(t *testing.T) {
	for _, x := range rooms() {
		memory, before := slices.Clone(x.memory), plain(x.p)
		for _, c := range calls(users()...) {
			c.do(x.p)
			if !slices.Equal(x.memory, memory) || !equal(x.p, before) {
				t.Fatalf("%s changed %v", c.what, before)
			}
		}
		l := rows(2, 4, 1, 4, 2, 4, 9, 9)
		perm.Check(x.p)
		perm.MayWrite(x.p, 4)
		perm.MayRead(x.p, 4, l[:3])
		perm.Same(x.p, before)
		if !slices.Equal(x.memory, memory) || !slices.Equal(l, rows(2, 4, 1, 4, 2, 4, 9, 9)) {
			t.Fatalf("asking changed %v", before)
		}
	}
}

// fill lets all memory of the lists of p, the room behind their ends too, hold n.
func fill(p api.Perm, n int) {
	for _, l := range [][]int{p.Readers, p.Writers, p.Groups} {
		l = l[:cap(l)]
		for k := range l {
			l[k] = n
		}
	}
}

// R3: what is answered shares no memory with what was handed in, nor with another answer, and no two of its lists share any.
func TestAnswersAreOwn(t *testing.T) {
	for _, x := range rooms() {
		memory := slices.Clone(x.memory)
		for _, c := range calls(users()...) {
			got, err := c.do(x.p)
			if err != api.OK {
				continue
			}
			want := plain(got)
			again, _ := c.do(x.p)
			fill(again, 77)
			if !equal(got, want) || !slices.Equal(x.memory, memory) {
				t.Fatalf("%s: memory is shared with another answer, or with what was handed in", c.what)
			}
			for k := range x.memory {
				x.memory[k] = 88
			}
			if !equal(got, want) {
				t.Fatalf("%s: memory is shared with what was handed in", c.what)
			}
			copy(x.memory, memory)
			for _, l := range []struct{ one, other, third *[]int }{{&got.Readers, &got.Writers, &got.Groups}, {&got.Writers, &got.Groups, &got.Readers}, {&got.Groups, &got.Readers, &got.Writers}} {
				other, third := slices.Clone((*l.other)[:cap(*l.other)]), slices.Clone((*l.third)[:cap(*l.third)])
				fill(api.Perm{Readers: *l.one}, 99)
				if !slices.Equal(other, (*l.other)[:cap(*l.other)]) || !slices.Equal(third, (*l.third)[:cap(*l.third)]) {
					t.Fatalf("%s: two lists share memory", c.what)
				}
			}
		}
	}
}

// R3, R5: nil and empty lists are one, and the same is answered each time.
func TestNilAndEmpty(t *testing.T) {
	for r := range everyRights([]int{2}, []int{1, 8}) {
		p, q := r.perm(), r.perm()
		if p.Writers != nil && p.Groups != nil {
			continue
		}
		for _, l := range []*[]int{&q.Readers, &q.Writers, &q.Groups} {
			if *l == nil {
				*l = []int{}
			}
		}
		for _, c := range calls(2, 3) {
			got, err := c.do(p)
			for _, other := range []api.Perm{q, p} {
				if again, wrong := c.do(other); err != wrong || !perm.Same(got, again) {
					t.Fatalf("%s with %v: %v, %d and %v, %d", c.what, p, got, err, again, wrong)
				}
			}
		}
		if !perm.Same(p, q) || perm.MayRead(p, 1, nil) != perm.MayRead(q, 1, []api.Belongs{}) || perm.MayWrite(p, 1) != perm.MayWrite(q, 1) {
			t.Fatalf("%v with empty lists", p)
		}
	}
}
