package cap_test

import (
	"fmt"
	"slices"
	"strings"
	"testing"

	"safehouse/api"
	"safehouse/cap"
)

// checkBoxes holds Check and Users against the chapter's words, and the boxes against what they were; it tells whether they are right.
func checkBoxes(t *testing.T, what string, boxes api.Term) bool {
	t.Helper()
	users, groups, want := have(boxes)
	before := plain([]api.Term{boxes})[0]
	if err := cap.Check(boxes); err != want {
		t.Errorf("%s: Check(%s): %d, not %d", what, show(boxes), err, want)
	}
	u, g, err := cap.Users(boxes)
	if err != want || !slices.Equal(u, users) || !slices.Equal(g, groups) {
		t.Errorf("%s: Users(%s): %v, %v, %d, not %v, %v, %d", what, show(boxes), u, g, err, users, groups, want)
	}
	if !equal(boxes, before) {
		t.Errorf("%s: the boxes are others now", what)
	}
	return want == api.OK
}

// checkRight holds boxes to being right, and checkWrong to ErrCap, by all calls.
func checkRight(t *testing.T, what string, boxes api.Term) {
	t.Helper()
	if !checkBoxes(t, what, boxes) {
		t.Errorf("%s: by the model %s are not right", what, show(boxes))
	}
}

func checkWrong(t *testing.T, what string, boxes api.Term) {
	t.Helper()
	if checkBoxes(t, what, boxes) {
		t.Errorf("%s: by the model %s are right", what, show(boxes))
	}
	for user := -1; user <= 7; user++ {
		for _, keys := range [][]api.GroupKey{nil, keysOf(1, 2, 3)} {
			checkOpen(t, what, boxes, user, keys, api.Term{}, api.ErrCap)
		}
	}
}

// someRows answers the right rows of the holders whose bits are set, in order; what is in the boxes differs from one to the next.
func someRows(which int) []api.Term {
	var l []api.Term
	for place := range names() {
		if which>>place&1 == 1 {
			l = append(l, rowAt(place, keyOf(place-5), bodyOf(place)))
		}
	}
	return l
}

// bodyOf is what someRows puts into the box of the holder at that place of the names: of each Kind one.
func bodyOf(place int) api.Term {
	return []api.Term{said("u1"), atom(2, 2), secret(3), seal(4, said("")), hash(atom(5, 5)), sign(6, 6, said("6")), pair(said("g1"), lock(keyOf(1), said(""))), lock(keyOf(2), atom(1, 2)), list(said("g3"))}[place]
}

// P13.2: boxes of all choices of users and groups: users alone, groups alone, both; and none, which are not right.
func TestCheckAllRight(t *testing.T) {
	for which := 1; which < 1<<9; which++ {
		l := someRows(which)
		checkRight(t, "some of all", list(l...))
		users, groups, err := cap.Users(list(l...))
		for place := range names() {
			is := place < 6 && slices.Contains(users, place+1) || place >= 6 && slices.Contains(groups, place-5)
			if is != (which>>place&1 == 1) || err != api.OK {
				t.Errorf("Users of the boxes %d: %v, %v, %d", which, users, groups, err)
			}
		}
	}
	checkWrong(t, "no rows", list())
	checkWrong(t, "no rows", api.Term{Kind: 1, Kids: []api.Term{}})
}

// notLists are terms that are no list.
func notLists() []api.Term {
	right := rowAt(0, said(""), state())
	return []api.Term{
		said("x"), said("u1"), said("\x00"), said(" "), state(), secret(1), hash(list(right)), seal(1, list(right)), lock(said(""), list(right)), sign(1, 1, list(right)), pair(list(right), right), lock(right, list()),
		pair(right, said("x")), pair(right, said(" ")), pair(right, state()), pair(right, right), pair(right, hash(list())), pair(right, seal(2, list())), pair(right, pair(rowAt(1, said(""), state()), said("\x00"))),
		pair(list(), right), seal(1, state()), said("g1"),
	}
}

// P13.2: boxes that are no list, and those that may not be as a term.
func TestCheckNoList(t *testing.T) {
	for place := range names() {
		row := rowAt(place, keyOf(1), state())
		checkWrong(t, "a row by itself", row)
		checkRight(t, "a list of that row", list(row))
		checkWrong(t, "a list of a list", list(list(row)))
	}
	for _, boxes := range append(notLists(), wrongTerms()...) {
		checkWrong(t, "no list", boxes)
		checkWrong(t, "a list of what is no row", list(boxes))
		checkWrong(t, "a list with what is no row behind", list(rowAt(0, said(""), state()), boxes))
		checkWrong(t, "what is no list behind a row", pair(rowAt(0, said(""), state()), boxes))
	}
	for _, bad := range wrongTerms() {
		for which := 1; which < 1<<9; which += 73 {
			l := someRows(which)
			for at := range l {
				for _, row := range []api.Term{bad, pair(bad, l[at].Kids[1]), pair(l[at].Kids[0], bad), pair(l[at].Kids[0], api.Term{Kind: l[at].Kids[1].Kind, User: l[at].Kids[1].User, Kids: slices.Repeat([]api.Term{bad}, len(l[at].Kids[1].Kids))})} {
					other := slices.Clone(l)
					other[at] = row
					checkWrong(t, "with what may not be", list(other...))
				}
			}
		}
	}
	end := list(someRows(3)...)
	for _, change := range []func(*api.Term){
		func(t *api.Term) { t.User = 1 }, func(t *api.Term) { t.Num = 1 }, func(t *api.Term) { t.Text = "u" }, func(t *api.Term) { t.Kids = append(t.Kids, said("")) }, func(t *api.Term) { t.Kids = t.Kids[:1] }, func(t *api.Term) { t.Kids = nil },
	} {
		boxes := plain([]api.Term{end})[0]
		change(&boxes)
		checkWrong(t, "with a field beside those that count", boxes)
		boxes = plain([]api.Term{end})[0]
		change(&boxes.Kids[0])
		checkWrong(t, "with a row that may not be", boxes)
		boxes = plain([]api.Term{end})[0]
		change(&boxes.Kids[1])
		checkWrong(t, "with a rest that may not be", boxes)
	}
}

// P13.2: right boxes as great and as deep as a term may be, and ones beyond.
func TestCheckGreat(t *testing.T) {
	for place := range names() {
		row := func(key, body api.Term) api.Term { return rowAt(place, key, body) }
		checkRight(t, "a deep body", list(row(said(""), chain(57))))
		checkWrong(t, "a body too deep", list(row(said(""), chain(58))))
		whole := 1195
		if place >= 6 {
			whole--
			checkRight(t, "a deep key", list(row(chain(57), said(""))))
			checkWrong(t, "a key too deep", list(row(chain(58), said(""))))
			checkRight(t, "a great key", list(row(bush(whole), said(""))))
			checkWrong(t, "a key too great", list(row(bush(whole+1), said(""))))
		}
		checkRight(t, "a great body", list(row(said(""), bush(whole))))
		checkWrong(t, "a body too great", list(row(said(""), bush(whole+1))))
	}
}

// boxed are boxes of each kind, for each user, and of other kinds.
func boxed() []api.Term {
	l := []api.Term{state(), said(""), said("u1"), secret(1), hash(state()), pair(said(""), state()), sign(1, 0, state()), lock(keyOf(1), state()), lock(seal(1, state()), seal(1, state())), list(seal(1, state())), hash(seal(1, state())), pair(seal(1, state()), said(""))}
	for user := 1; user <= 6; user++ {
		l = append(l, seal(user, state()))
	}
	return l
}

// checkRow holds boxes of this row alone, and behind and ahead of others, against the chapter's words.
func checkRow(t *testing.T, what string, row api.Term, right bool) {
	t.Helper()
	if checkBoxes(t, what, list(row)) != right {
		t.Errorf("%s: a list of %v alone is right: %t", what, row, !right)
	}
	for place := range names() {
		checkBoxes(t, what, list(row, rowAt(place, keyOf(1), state())))
		checkBoxes(t, what, list(rowAt(place, keyOf(1), state()), row))
	}
}

// P13.2: pairs whose first is a text of another kind: empty, of one letter, of another letter, of a number that is no user or no group, of very many bytes; each with each kind of box.
func TestCheckTexts(t *testing.T) {
	texts := []string{
		"", "u", "g", "v", "U", "1", "0", "u0", "u7", "u8", "u9", "g0", "g4", "g5", "g6", "g7", "g9", "f1", "h1", "t1", "v1", "U1", "G1", "x1", "1u", "1g", "uu", "gg", "ug", "gu", "u:", "u/", "g/", "u ", " u", "u\x00", "u\x01", "g\x01", "u\xb1", "11", "12",
		"u01", "u10", "u11", "u12", "u16", "u61", "g01", "g10", "g11", "g13", "u1 ", " u1", "u 1", "u1\x00", "\x00u1", "u-1", "u+1", "g+1", "u1.", "u1.0", "u0x1", "u1u2", "u1u1", "ug1", "gu1", "g1u1", "g1g2", "uu1", "gg1", "u１", "ü1", "u1\n", "user1", "group1", "u257", "u4294967297", "u18446744073709551617", "g-3", "g3.",
		"u" + strings.Repeat("0", 63), "u" + strings.Repeat("0", 62) + "1", "g" + strings.Repeat("0", 62) + "1", strings.Repeat("u1", 32), strings.Repeat("u", 63) + "1", "u1" + strings.Repeat(" ", 62), strings.Repeat("\xff", 64), "u1" + strings.Repeat("\x00", 62),
	}
	for _, text := range append(texts, names()...) {
		place := slices.Index(names(), text)
		for _, box := range boxed() {
			right := place >= 0 && (place < 6 && box.Kind == 7 && box.User == place+1 || place >= 6 && box.Kind == 6)
			checkRow(t, fmt.Sprintf("the text %q", text), pair(said(text), box), right)
		}
	}
	for _, long := range []string{strings.Repeat("u1", 33), "u1" + strings.Repeat(" ", 1<<16), "g1" + strings.Repeat("1", 1<<16)} {
		checkWrong(t, "a text that is too long", list(pair(said(long), seal(1, state()))))
		checkWrong(t, "a text that is too long", list(pair(said(long), lock(keyOf(1), state()))))
	}
}

// P13.2: all texts of two bytes, with a box for the user of the second one's digit, and with a lock.
func TestCheckTwoBytes(t *testing.T) {
	right := 0
	for text := range 1 << 16 {
		name := said(string([]byte{byte(text >> 8), byte(text)}))
		place := slices.Index(names(), name.Text)
		// Whatever the byte is: of a digit from 1 to 6 it is that user.
		user := 1 + (text&0xff+6*50-'1')%6
		for _, box := range []api.Term{seal(user, said("")), lock(said(""), said(""))} {
			want := place >= 0 && (place < 6) == (box.Kind == 7)
			got := cap.Check(list(pair(name, box))) == api.OK
			if got {
				right++
			}
			if got != want {
				t.Errorf("%q with %v: %t", name.Text, box, got)
			}
		}
	}
	if right != 9 {
		t.Errorf("%d texts are right, not 9", right)
	}
}

// P13.2: rows that are no pairs, and pairs whose first is no text.
func TestCheckRowsThatAreNone(t *testing.T) {
	for place := range names() {
		name, box := said(names()[place]), rowAt(place, keyOf(1), state()).Kids[1]
		for _, row := range []api.Term{
			name, box, state(), secret(1), said(""), hash(pair(name, box)), seal(1, pair(name, box)), lock(name, box), lock(pair(name, box), pair(name, box)), sign(1, 1, pair(name, box)), list(pair(name, box)),
			pair(box, name), pair(name, name), pair(box, box), pair(hash(name), box), pair(seal(1, name), box), pair(sign(1, 0, name), box), pair(lock(name, name), box), pair(pair(name, name), box), pair(state(), box), pair(secret(1), box), pair(list(name), box), pair(list(), box),
			pair(name, pair(box, said(""))), pair(name, list(box)), pair(pair(name, box), said("")), pair(name, hash(box)), pair(name, sign(1, 0, box)), pair(name, list()), list(name, box),
		} {
			checkRow(t, "what is no such pair", row, false)
			checkWrong(t, "what is no such pair", list(row))
		}
	}
}

// P13.2: a Seal where a Lock is asked, the other way round, and a Seal for another user; each among all that are right.
func TestCheckOtherBoxes(t *testing.T) {
	all := someRows(1<<9 - 1)
	for place := range names() {
		for _, box := range boxed() {
			l := slices.Clone(all)
			l[place] = pair(said(names()[place]), box)
			right := place < 6 && box.Kind == 7 && box.User == place+1 || place >= 6 && box.Kind == 6
			if checkBoxes(t, "another box", list(l...)) != right {
				t.Errorf("%s with %v is right: %t", names()[place], box, !right)
			}
		}
	}
}

// lists answers all lists of at most so many of these rows.
func lists(most int, rows ...api.Term) [][]api.Term {
	all := [][]api.Term{nil}
	from := 0
	for range most {
		end := len(all)
		for _, l := range all[from:end] {
			for _, row := range rows {
				all = append(all, append(slices.Clone(l), row))
			}
		}
		from = end
	}
	return all
}

// P13.2: all lists of up to three rows, of right ones and of others: a row twice, out of order, groups ahead of users.
func TestCheckShortLists(t *testing.T) {
	rows := append(someRows(1<<9-1), pair(said("u1"), seal(1, said("else"))), pair(said("g1"), lock(said("else"), said(""))), pair(said("u2"), seal(1, said(""))), pair(said("g2"), seal(2, said(""))), pair(said("u3"), lock(keyOf(3), said(""))), pair(said("u7"), seal(1, said(""))), pair(said("g4"), lock(keyOf(1), said(""))), said(""), secret(1))
	right := 0
	for _, l := range lists(3, rows...) {
		if checkBoxes(t, "a short list", list(l...)) {
			right++
		}
	}
	// Of the nine holders one, two or three, in their order; u1 and g1 have another right row each.
	if want := 9 + 2 + 36 + 8 + 8 + 1 + 84 + 28 + 28 + 7; right != want {
		t.Errorf("%d lists are right, not %d", right, want)
	}
}

// P13.2: of all that are right two neighbours changed about, a row that stands twice, a row moved elsewhere.
func TestCheckOrder(t *testing.T) {
	for which := 1; which < 1<<9; which++ {
		l := someRows(which)
		for at := range l {
			checkBoxes(t, "a row twice", list(slices.Insert(slices.Clone(l), at, l[at])...))
			for to := range l {
				other := slices.Delete(slices.Clone(l), at, at+1)
				other = slices.Insert(other, to, l[at])
				if right := checkBoxes(t, "a row moved", list(other...)); right != (at == to) {
					t.Errorf("the row %d of %d moved to %d is right: %t", at, which, to, right)
				}
				twice := slices.Insert(slices.Clone(l), to, l[at])
				if checkBoxes(t, "a row twice", list(twice...)) {
					t.Errorf("the row %d of %d, and once more at %d, is right", at, which, to)
				}
			}
		}
		if users, groups := someRows(which&0x3f), someRows(which&^0x3f); len(users) > 0 && len(groups) > 0 {
			checkWrong(t, "groups ahead of users", list(append(groups, users...)...))
		}
	}
	for _, count := range []int{2, 3, 9, 10, 50} {
		checkWrong(t, "a row many times", list(slices.Repeat(someRows(1), count)...))
		checkWrong(t, "a row many times", list(slices.Repeat(someRows(1<<6), count)...))
		checkWrong(t, "rows many times", list(slices.Repeat(someRows(1|1<<6), count)...))
	}
	checkWrong(t, "more rows than a term may have", list(slices.Repeat(someRows(1), 300)...))
}
