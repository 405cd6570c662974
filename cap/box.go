package cap

import (
	"iter"
	"strconv"

	"safehouse/api"
	"safehouse/term"
)

// The kinds of holders, as the texts ahead of their boxes begin.
const (
	ofUser  = "u"
	ofGroup = "g"
)

// holder is for whom a box is: a user, or a group.
type holder struct {
	kind   string
	number int
}

// holders answers all for whom there can be a box, in the boxes' order.
func holders() []holder {
	var l []holder
	for k := range api.MaxUsers {
		l = append(l, holder{ofUser, k + 1})
	}
	for k := range api.MaxGroups {
		l = append(l, holder{ofGroup, k + 1})
	}
	return l
}

// name answers the text ahead of the holder's box.
func (h holder) name() api.Term {
	return term.Text(h.kind + strconv.Itoa(h.number))
}

// has tells whether a row is the pair of the holder's name and of such a box as they can have.
func (h holder) has(row api.Term) bool {
	if row.Kind != api.TermPair || !term.Same(row.Kids[0], h.name()) {
		return false
	}
	box := row.Kids[1]
	if h.kind == ofUser {
		return box.Kind == api.TermSeal && box.User == h.number
	}
	return box.Kind == api.TermLock
}

// opens tells whether the holder's box opens for the user, or by one of the keys.
func (h holder) opens(box api.Term, user int, keys []api.GroupKey) bool {
	if h.kind == ofUser {
		return h.number == user
	}
	_, fits := first(keys, func(k api.GroupKey) bool {
		return k.Group == h.number && term.Same(k.Key, box.Kids[0])
	})
	return fits
}

// rowsOf answers the rows of right boxes, and ErrCap of others.
func rowsOf(boxes api.Term) ([]api.Term, api.Errno) {
	// What is no list has no rows, and so no right one.
	rows, _ := term.Unlist(boxes)
	right := 0
	for range boxesOf(rows) {
		right++
	}
	if right == 0 || right < len(rows) {
		return nil, api.ErrCap
	}
	return rows, api.OK
}

// boxesOf tells the boxes of the rows, and for whom each is, up to the first row that is not right where it stands.
func boxesOf(rows []api.Term) iter.Seq2[holder, api.Term] {
	return func(yield func(holder, api.Term) bool) {
		left := rows
		for _, h := range holders() {
			if len(left) == 0 || !h.has(left[0]) {
				continue
			}
			if !yield(h, left[0].Kids[1]) {
				return
			}
			left = left[1:]
		}
	}
}

// first answers the first of l that fits, and whether there is one.
func first[T any](l []T, fits func(T) bool) (T, bool) {
	for _, x := range l {
		if fits(x) {
			return x, true
		}
	}
	var none T
	return none, false
}
