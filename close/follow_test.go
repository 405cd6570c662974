package close_test

import (
	"fmt"
	"slices"
	"testing"

	"safehouse/api"
	"safehouse/close"
)

// picked are known terms that meet: some of few atoms, some of more; few that are deep, and many.
func picked(count int) [][]api.Term {
	pick := chance(7)
	var l [][]api.Term
	for i := range count {
		f := few{&pick, 1 + i%4, 1 + i/4%3}
		l = append(l, f.row(1+f.below(9), 1+f.below(4)))
	}
	return l
}

// P7.1 to P7.3: picked terms, held against the model, each in three orders.
func TestPicked(t *testing.T) {
	pick := chance(11)
	for i, known := range picked(1500) {
		f := few{&pick, 1 + i%4, 1 + i/4%3}
		asked := append(f.row(6, 3), k, n, m, s1, s2)
		checkAll(t, fmt.Sprintf("picked %d", i), known, asked...)
		parts, _ := close.Parts(known)
		for range 2 {
			checkParts(t, fmt.Sprintf("picked %d, in another order", i), f.shuffled(known), parts...)
		}
	}
}

// small are all terms of at most that size over few fields.
func small(size int) []api.Term {
	bySize := [][]api.Term{nil, {a, k, n, s1, s2}}
	for have := 2; have <= size; have++ {
		var l []api.Term
		for _, x := range bySize[have-1] {
			l = append(l, hash(x), seal(1, x), sign(1, 0, x))
		}
		for left := 1; left < have-1; left++ {
			for _, x := range bySize[left] {
				for _, y := range bySize[have-1-left] {
					l = append(l, pair(x, y), lock(x, y))
				}
			}
		}
		bySize = append(bySize, l)
	}
	return slices.Concat(bySize...)
}

// P7.2: the rules once more to the letter, over all small terms, whether they stand beneath what is known or not.
func TestLeastSet(t *testing.T) {
	few := small(4)
	for _, known := range [][]api.Term{
		nil, {k}, {lock(k, n)}, {lock(k, n), k}, {lock(hash(k), n), k}, {lock(pair(k, a), n), k}, {seal(1, n)}, {seal(1, n), s1}, {sign(1, 0, pair(k, n))}, {hash(n), hash(pair(k, n)), s2},
		{lock(k, s1), seal(1, k)}, {lock(sign(1, 0, k), n), s1, k}, {lock(seal(1, k), n), lock(n, s1), k}, {lock(lock(a, k), s2), pair(k, hash(s1))},
	} {
		universe := set{}
		for _, x := range slices.Concat(few, known) {
			universe.beneath(x)
		}
		can := leastIn(universe, known)
		for _, x := range universe {
			checkCan(t, "a small term", known, x, can.has(x))
		}
	}
}

// P7.4: who knows more can reckon more: what is told of less is told of more.
func TestKnowsMore(t *testing.T) {
	pick := chance(13)
	f := few{&pick, 2, 2}
	for _, known := range picked(300) {
		parts, _ := close.Parts(known)
		atoms, _ := close.Atoms(known)
		more := f.shuffled(append(f.row(1+f.below(4), 3), known...))
		moreParts, _ := close.Parts(more)
		moreAtoms, _ := close.Atoms(more)
		if !holds(moreParts, parts) || !holds(moreAtoms, atoms) {
			t.Errorf("who knows more has less:\n%s%s", sayAll(known), sayAll(more))
		}
		for _, x := range append(parts, f.row(10, 3)...) {
			less, _ := close.Can(known, x)
			if got, err := close.Can(more, x); less && !got || err != api.OK {
				t.Errorf("who knows more can't reckon %s", say(x))
			}
		}
	}
}

// holds tells whether l has each of these.
func holds(l, these []api.Term) bool {
	s := set{}
	for _, x := range l {
		s.add(x)
	}
	return s.hasAll(these)
}

// P7.4: what can be reckoned from what can be reckoned can be reckoned: known besides, it brings nothing that could not be reckoned.
func TestReckonedFromReckoned(t *testing.T) {
	pick := chance(17)
	f := few{&pick, 2, 2}
	for _, known := range picked(300) {
		more := slices.Clone(known)
		for _, x := range f.row(12, 2) {
			if can, _ := close.Can(known, x); can {
				more = append(more, x)
			}
		}
		parts, _ := close.Parts(more)
		for _, x := range append(parts, f.row(10, 3)...) {
			want, _ := close.Can(known, x)
			checkCan(t, "besides what can be reckoned", more, x, want)
		}
		atoms, _ := close.Atoms(known)
		checkAtoms(t, "besides what can be reckoned", more, atoms...)
		parts, _ = close.Parts(known)
		checkParts(t, "the parts of the parts", parts, parts...)
	}
}

// P7.4: an atom or a secret can be reckoned just if it is among the Atoms; each of the parts can be reckoned.
func TestAtomsAreWhatCanBeHad(t *testing.T) {
	for _, known := range picked(300) {
		atoms, _ := close.Atoms(known)
		had := set{}
		for _, x := range atoms {
			had.add(x)
		}
		for user := 1; user <= 6; user++ {
			checkCan(t, "a secret", known, node(3, user, 0, ""), had.has(node(3, user, 0, "")))
			for num := range 5 {
				checkCan(t, "an atom", known, node(2, user, num, ""), had.has(node(2, user, num, "")))
			}
		}
		parts, _ := close.Parts(known)
		var among []api.Term
		for _, x := range parts {
			checkCan(t, "a part", known, x, true)
			if x.Kind == 2 || x.Kind == 3 {
				among = append(among, x)
			}
		}
		checkAtoms(t, "among the parts", known, among...)
	}
}

// P7.4: an atom that occurs nowhere else is told by a lock just if its key can be reckoned, by what is sealed just if the secret can be, by a digest never.
func TestNowhereElse(t *testing.T) {
	pick := chance(19)
	f := few{&pick, 2, 2}
	x := atom(77)
	for _, known := range picked(400) {
		key, user := f.term(2), 1+f.below(3)
		open, _ := close.Can(known, key)
		checkCan(t, "in a lock", append(row(lock(key, x)), known...), x, open)
		checkCan(t, "deep in a lock", append(slices.Clone(known), pair(a, lock(key, sign(1, 0, pair(k, x))))), x, open)
		open, _ = close.Can(known, node(3, user, 0, ""))
		checkCan(t, "in what is sealed", append(row(seal(user, x)), known...), x, open)
		checkCan(t, "in a digest", append(row(hash(x), hash(pair(x, x))), known...), x, false)
		checkCan(t, "nowhere", known, x, false)
		checkCan(t, "as a key", append(row(lock(x, k)), known...), x, false)
	}
}

// R3: what is handed in is not changed, the room behind a list's end neither.
func TestNothingChanged(t *testing.T) {
	for _, known := range picked(50) {
		room := append(slices.Clone(known), sign(4, 4, pair(k, a)), m)
		room[0] = pair(known[0], hash(k))
		room[0].Kids = append(room[0].Kids, m, m)[:2]
		before, behind := plain(room), plain(room[0].Kids[:4])
		less := room[:len(room)-2]
		close.Parts(less)
		close.Atoms(less)
		close.Can(less, room[0])
		close.Can(less, less[len(less)-1])
		if !equal(room, before) || !equal(room[0].Kids[:4], behind) {
			t.Fatal("what was handed in is not what it was")
		}
	}
}

// places answers where the terms of l stand, and all beneath them.
func places(l []api.Term) []*api.Term {
	var out []*api.Term
	for i := range l {
		out = append(append(out, &l[i]), places(l[i].Kids)...)
	}
	return out
}

// R3: what is answered is new memory: it shares none with what was handed in, and no two lists in it share any.
func TestAnswersAreOwn(t *testing.T) {
	for _, known := range picked(100) {
		known = plain(append(known, pair(k, lock(k, pair(n, n)))))
		before := plain(known)
		parts, _ := close.Parts(known)
		atoms, _ := close.Atoms(known)
		want := plain(parts)
		seen := map[*api.Term]bool{}
		for _, p := range slices.Concat(places(known), places(parts), places(atoms)) {
			if seen[p] {
				t.Fatal("one place stands in two lists")
			}
			seen[p] = true
		}
		for _, p := range places(parts) {
			p.Kids = append(p.Kids, m)
			*p = m
		}
		for _, p := range places(atoms) {
			*p = a
		}
		if !equal(known, before) {
			t.Fatal("who changes an answer changes what was handed in")
		}
		checkParts(t, "behind a change of an answer", known, want...)
	}
}

// R3: room behind the end of a list that was answered is no other list's.
func TestRoomBehindAnswers(t *testing.T) {
	for _, known := range picked(50) {
		parts, _ := close.Parts(append(known, pair(k, lock(k, pair(n, n)))))
		want := plain(parts)
		for _, p := range places(parts) {
			_ = append(p.Kids, m, m, m, m)
		}
		_ = append(parts, m, m, m, m)
		if !equal(parts, want) {
			t.Fatal("who writes behind a list writes into another one")
		}
	}
}

// R5: what is answered hangs on nothing that was asked ahead of it.
func TestAskedAgain(t *testing.T) {
	known := row(lock(k, n), seal(1, m), pair(s1, hash(k)))
	for _, other := range picked(50) {
		close.Parts(other)
		close.Atoms(append(other, k))
		close.Can(append(other, k), n)
		close.Can(other, api.Term{})
		checkCan(t, "asked again", known, n, false)
		checkCan(t, "asked again", known, m, true)
		checkAtoms(t, "asked again", known, m, s1)
	}
}
