package close_test

import (
	"fmt"
	"reflect"
	"sort"
	"strings"
	"testing"

	"safehouse/api"
	"safehouse/close"
	"safehouse/term"
)

// What stands here is the chapter's words once more, by other means than the package's: sets of terms by what they say, to which each rule adds until none adds any more.

// say tells a term so that unlike ones are told unlike.
func say(t api.Term) string {
	var b strings.Builder
	fmt.Fprintf(&b, "%d.%d.%d.%q(", t.Kind, t.User, t.Num, t.Text)
	for _, kid := range t.Kids {
		b.WriteString(say(kid))
	}
	return b.String() + ")"
}

// sayAll tells terms, one a line.
func sayAll(l []api.Term) string {
	var b strings.Builder
	for _, t := range l {
		b.WriteString(say(t) + "\n")
	}
	return b.String()
}

// set is terms, by what they say.
type set map[string]api.Term

func (s set) has(t api.Term) bool {
	_, ok := s[say(t)]
	return ok
}

// add tells whether t was not in s.
func (s set) add(t api.Term) bool {
	if s.has(t) {
		return false
	}
	s[say(t)] = t
	return true
}

func (s set) hasAll(l []api.Term) bool {
	for _, t := range l {
		if !s.has(t) {
			return false
		}
	}
	return true
}

// beneath adds t, and all beneath it.
func (s set) beneath(t api.Term) {
	s.add(t)
	for _, kid := range t.Kids {
		s.beneath(kid)
	}
}

// secretOf answers the secret of t's user.
func secretOf(t api.Term) api.Term {
	return node(3, t.User, 0, "")
}

// opened answers what comes out of t by the second and the third rule, for whom can reckon what is in s.
func (s set) opened(t api.Term) []api.Term {
	switch {
	case t.Kind == 4, t.Kind == 8, t.Kind == 7 && s.has(secretOf(t)):
		return t.Kids
	case t.Kind == 6 && s.has(t.Kids[0]):
		return t.Kids[1:]
	}
	return nil
}

// makes tells whether t is in the set by the first rule, as a text, or by the fourth one.
func (s set) makes(t api.Term) bool {
	switch t.Kind {
	case 1:
		return true
	case 4, 5, 6, 7:
		return s.hasAll(t.Kids)
	case 8:
		return s.hasAll(t.Kids) && s.has(secretOf(t))
	}
	return false
}

// leastIn answers the terms of a universe that can be reckoned by way of this universe alone.
func leastIn(universe set, known []api.Term) set {
	s := set{}
	for _, t := range known {
		s.add(t)
	}
	for more := true; more; {
		more = false
		for _, t := range universe {
			if s.makes(t) && s.add(t) {
				more = true
			}
			if s.has(t) {
				for _, out := range s.opened(t) {
					more = s.add(out) || more
				}
			}
		}
	}
	return s
}

// modelCan tells whether t can be reckoned.
func modelCan(known []api.Term, t api.Term) bool {
	return modelSet(known, t).has(t)
}

// modelSet answers what can be reckoned of all that stands beneath the known terms and the others.
func modelSet(known []api.Term, others ...api.Term) set {
	universe := set{}
	for _, t := range known {
		universe.beneath(t)
	}
	for _, t := range others {
		universe.beneath(t)
	}
	return leastIn(universe, known)
}

// modelParts answers the parts, rising.
func modelParts(known []api.Term) []api.Term {
	can, parts := modelSet(known), set{}
	var take func(t api.Term)
	take = func(t api.Term) {
		if parts.add(t) {
			for _, out := range can.opened(t) {
				take(out)
			}
		}
	}
	for _, t := range known {
		take(t)
	}
	var l []api.Term
	for _, t := range parts {
		l = append(l, t)
	}
	sort.Slice(l, func(i, k int) bool { return term.Less(l[i], l[k]) })
	return l
}

// modelAtoms answers the parts that are atoms or secrets, rising.
func modelAtoms(known []api.Term) []api.Term {
	var l []api.Term
	for _, t := range modelParts(known) {
		if t.Kind == 2 || t.Kind == 3 {
			l = append(l, t)
		}
	}
	return l
}

// node answers a term with these fields, and with just these Kids.
func node(kind, user, num int, text string, kids ...api.Term) api.Term {
	return api.Term{Kind: kind, User: user, Num: num, Text: text, Kids: kids}
}

// row answers known terms.
func row(l ...api.Term) []api.Term {
	return l
}

// plain answers terms with nil in the place of each empty list, all in new memory.
func plain(l []api.Term) []api.Term {
	var out []api.Term
	for _, t := range l {
		t.Kids = plain(t.Kids)
		out = append(out, t)
	}
	return out
}

// equal tells whether both rows have the same terms at the same places.
func equal(a, b []api.Term) bool {
	return reflect.DeepEqual(plain(a), plain(b))
}

// rising tells whether each term stands ahead of the next one.
func rising(l []api.Term) bool {
	for k := 1; k < len(l); k++ {
		if !term.Less(l[k-1], l[k]) {
			return false
		}
	}
	return true
}

// checkParts holds what Parts tells.
func checkParts(t *testing.T, what string, known []api.Term, want ...api.Term) {
	t.Helper()
	got, err := close.Parts(known)
	if err != api.OK || !rising(got) || !equal(got, inOrder(want)) {
		t.Errorf("%s: Parts of\n%s: %d,\n%snot\n%s", what, sayAll(known), err, sayAll(got), sayAll(inOrder(want)))
	}
}

// checkAtoms holds what Atoms tells.
func checkAtoms(t *testing.T, what string, known []api.Term, want ...api.Term) {
	t.Helper()
	got, err := close.Atoms(known)
	if err != api.OK || !rising(got) || !equal(got, inOrder(want)) {
		t.Errorf("%s: Atoms of\n%s: %d,\n%snot\n%s", what, sayAll(known), err, sayAll(got), sayAll(inOrder(want)))
	}
}

// inOrder answers the terms of l, rising.
func inOrder(l []api.Term) []api.Term {
	l = append([]api.Term(nil), l...)
	sort.Slice(l, func(i, k int) bool { return term.Less(l[i], l[k]) })
	return l
}

// checkCan holds what Can tells.
func checkCan(t *testing.T, what string, known []api.Term, asked api.Term, want bool) {
	t.Helper()
	if got, err := close.Can(known, asked); got != want || err != api.OK {
		t.Errorf("%s: Can of\n%sof %s: %t, %d, not %t", what, sayAll(known), say(asked), got, err, want)
	}
}

// checkAll holds all three calls against the model, and what was handed in against what it was.
func checkAll(t *testing.T, what string, known []api.Term, asked ...api.Term) {
	t.Helper()
	before := plain(known)
	checkParts(t, what, known, modelParts(known)...)
	checkAtoms(t, what, known, modelAtoms(known)...)
	can := modelSet(known, asked...)
	for _, q := range asked {
		checkCan(t, what, known, q, can.has(q))
	}
	if !equal(known, before) {
		t.Errorf("%s: the known terms are others now", what)
	}
}

// checkRefused holds all three calls to an error, and to nothing beside it.
func checkRefused(t *testing.T, what string, known []api.Term, asked api.Term, want api.Errno) {
	t.Helper()
	checkNoCan(t, what, known, asked, want)
	if l, err := close.Parts(known); len(l) != 0 || err != want {
		t.Errorf("%s: Parts: %d terms, %d, not %d", what, len(l), err, want)
	}
	if l, err := close.Atoms(known); len(l) != 0 || err != want {
		t.Errorf("%s: Atoms: %d terms, %d, not %d", what, len(l), err, want)
	}
}

// checkNoCan holds Can to an error.
func checkNoCan(t *testing.T, what string, known []api.Term, asked api.Term, want api.Errno) {
	t.Helper()
	if got, err := close.Can(known, asked); got || err != want {
		t.Errorf("%s: Can: %t, %d, not %d", what, got, err, want)
	}
}

// chance answers numbers that look picked, always the same ones.
type chance uint32

func (c *chance) below(n int) int {
	*c = *c*1664525 + 1013904223
	return int(*c>>8) % n
}

// few is how many unlike atoms, users and texts a pick has: so few that keys and locks meet.
type few struct {
	*chance
	atoms, users int
}

// term picks one that may be, with at most so many Kids beneath one another.
func (f few) term(deep int) api.Term {
	kind := 1 + f.below(8)
	if deep == 0 {
		kind = 1 + f.below(3)
	} else if f.below(3) == 0 {
		kind = 6
	}
	user, num := 1+f.below(f.users), f.below(f.atoms)
	switch kind {
	case 1:
		return node(1, 0, 0, []string{"", "a"}[f.below(2)])
	case 2:
		return node(2, user, num, "")
	case 3:
		return node(3, user, 0, "")
	case 5:
		return node(5, 0, 0, "", f.term(deep-1))
	case 7:
		return node(7, user, 0, "", f.term(deep-1))
	case 8:
		return node(8, user, num, "", f.term(deep-1))
	}
	return node(kind, 0, 0, "", f.term(f.below(deep)), f.term(deep-1))
}

// row picks so many terms, some of them twice.
func (f few) row(n, deep int) []api.Term {
	var l []api.Term
	for range n {
		if len(l) > 0 && f.below(8) == 0 {
			l = append(l, l[f.below(len(l))])
		} else {
			l = append(l, f.term(f.below(deep+1)))
		}
	}
	return l
}

// shuffled answers the terms of l in a picked order.
func (f few) shuffled(l []api.Term) []api.Term {
	out := append([]api.Term(nil), l...)
	for k := range out {
		j := k + f.below(len(out)-k)
		out[k], out[j] = out[j], out[k]
	}
	return out
}
