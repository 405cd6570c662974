package term_test

import (
	"fmt"
	"math"
	"slices"
	"strings"
	"testing"

	"safehouse/api"
	"safehouse/term"
)

// numbersHandedIn are users, leaves and Nums that may be, and such that may not be.
func numbersHandedIn() []int {
	return []int{math.MinInt, -1, 0, 1, 2, 6, 7, 255, 256, 65535, 65536, math.MaxInt}
}

// checkMade holds a term that was made against the one with just those fields.
func checkMade(t *testing.T, what string, got, want api.Term) {
	t.Helper()
	if !equal(got, want) {
		t.Errorf("%s: %v, not %v", what, got, want)
	}
}

// P5.3: Text, Fresh and Secret, of what may be and of what may not be.
func TestMakeWithoutKids(t *testing.T) {
	for _, n := range []int{0, 1, 63, 64, 65, 300} {
		s := strings.Repeat("\xe9", n)
		checkMade(t, fmt.Sprintf("Text of %d bytes", n), term.Text(s), node(1, 0, 0, s))
	}
	for _, a := range numbersHandedIn() {
		checkMade(t, fmt.Sprintf("Secret(%d)", a), term.Secret(a), node(3, a, 0, ""))
		for _, b := range numbersHandedIn() {
			checkMade(t, fmt.Sprintf("Fresh(%d, %d)", a, b), term.Fresh(a, b), node(2, a, b, ""))
		}
	}
}

// P5.3: Pair, Hash, Lock, Seal and Sign, of Kids that may be and of such that may not be.
func TestMakeWithKids(t *testing.T) {
	l := append(sound(), chain(60), chain(61), bush(1200), bush(1201), node(5, 1, 2, "x", said("a"), said("b"), said("c")))
	for _, a := range l {
		checkMade(t, "Hash", term.Hash(a), node(5, 0, 0, "", a))
		for _, n := range numbersHandedIn() {
			checkMade(t, "Seal", term.Seal(n, a), node(7, n, 0, "", a))
			checkMade(t, "Sign", term.Sign(n, 3, a), node(8, n, 3, "", a))
			checkMade(t, "Sign", term.Sign(3, n, a), node(8, 3, n, "", a))
		}
		for _, b := range l {
			checkMade(t, "Pair", term.Pair(a, b), node(4, 0, 0, "", a, b))
			checkMade(t, "Lock", term.Lock(a, b), node(6, 0, 0, "", a, b))
		}
	}
}

// P5.3, P5.1: what is made may be just if the chapter says so.
func TestMadeMayBe(t *testing.T) {
	for _, x := range []api.Term{
		term.Text(""), term.Text(strings.Repeat("a", 64)), term.Text(strings.Repeat("a", 65)), term.Fresh(1, 0), term.Fresh(6, 65535), term.Fresh(7, 0), term.Fresh(1, -1),
		term.Secret(0), term.Secret(1), term.Pair(term.Secret(1), term.Text("a")), term.Pair(term.Secret(7), term.Text("a")), term.Hash(chain(59)), term.Hash(chain(60)),
		term.Lock(bush(599), bush(600)), term.Lock(bush(600), bush(600)), term.Seal(6, term.Text("")), term.Seal(7, term.Text("")), term.Sign(1, 65535, term.Text("")), term.Sign(1, 65536, term.Text("")),
	} {
		checkTerm(t, fmt.Sprintf("%v", x), x)
	}
	if got := term.Size(term.Pair(term.Text("a"), term.Hash(term.Secret(1)))); got != 4 {
		t.Errorf("the size of the document's example: %d", got)
	}
}

// parts answers where all lists of Kids within t begin.
func parts(t *api.Term) []*api.Term {
	var l []*api.Term
	for _, x := range places(t) {
		if len(x.Kids) > 0 {
			l = append(l, &x.Kids[0])
		}
	}
	return l
}

// checkApart holds that no two lists of all these terms share memory.
func checkApart(t *testing.T, what string, l ...*api.Term) {
	t.Helper()
	met := map[*api.Term]bool{}
	for _, x := range l {
		for _, p := range parts(x) {
			if met[p] {
				t.Errorf("%s: two lists are one", what)
			}
			met[p] = true
		}
	}
}

// makers answers, by name, all that make a term of two others.
func makers() map[string]func(a, b api.Term) api.Term {
	return map[string]func(a, b api.Term) api.Term{
		"Pair": term.Pair,
		"Lock": term.Lock,
		"Hash": func(a, _ api.Term) api.Term { return term.Hash(a) },
		"Seal": func(a, _ api.Term) api.Term { return term.Seal(1, a) },
		"Sign": func(a, _ api.Term) api.Term { return term.Sign(1, 2, a) },
		"List": func(a, b api.Term) api.Term { return term.List(a, b) },
	}
}

// R3: what is made keeps nothing of what it is handed, and shares nothing within itself.
func TestMadeIsNew(t *testing.T) {
	for name, made := range makers() {
		a := node(4, 0, 0, "", node(5, 0, 0, "", said("deep")), said("a"))
		shared := []api.Term{said("in two places")}
		b := node(4, 0, 0, "", node(5, 0, 0, "", shared...), node(7, 2, 0, "", shared...))
		kept := plain(made(a, b))
		for _, x := range [][2]api.Term{{a, b}, {b, a}, {a, a}, {b, b}} {
			got := made(x[0], x[1])
			checkApart(t, name, &got, &a)
			checkApart(t, name, &got)
		}
		got, other := made(a, b), made(a, b)
		a.Kids[0].Kids[0] = said("changed")
		a.Kids[1] = said("changed")
		b.Kids[0] = said("changed")
		if !equal(got, kept) {
			t.Errorf("%s: what was handed in, changed, changed the answer", name)
		}
		before := plain(a)
		for _, x := range places(&got) {
			x.Text = "another"
		}
		if !equal(a, before) || !equal(other, kept) {
			t.Errorf("%s: an answer that was changed changed others", name)
		}
	}
}

// listOf answers a list as a term, from the last one on.
func listOf(l []api.Term) api.Term {
	t := said("")
	for k := range l {
		t = node(4, 0, 0, "", l[len(l)-1-k], t)
	}
	return t
}

// lists are some that are terms that may be.
func lists() [][]api.Term {
	l := [][]api.Term{
		nil,
		{},
		{said("")},
		{said("a"), node(3, 2, 0, "")},
		{listOf(nil)},
		{listOf(nil), listOf(nil)},
		{listOf([]api.Term{said("a")}), listOf(nil), listOf([]api.Term{said("b"), said("c")})},
		{node(4, 0, 0, "", said("a"), said("b"))},
		sound()[1:],
		{chain(59)},
		{said(""), chain(58)},
		{bush(1198)},
		{bush(600), bush(597)},
	}
	for _, n := range []int{3, 10, 58, 59} {
		l = append(l, slices.Repeat([]api.Term{node(2, 1, n, "")}, n))
	}
	return l
}

// P5.3, P5.4: a list is a term as the chapter says, and Unlist of it the list.
func TestList(t *testing.T) {
	for _, l := range lists() {
		got := term.List(l...)
		checkMade(t, "List", got, listOf(l))
		back, ok := term.Unlist(got)
		if !ok || !slices.EqualFunc(back, l, equal) {
			t.Errorf("Unlist(List(%v)): %v, %t", l, back, ok)
		}
		if again := term.List(back...); !term.Same(again, got) {
			t.Errorf("List of Unlist of %v: %v", got, again)
		}
	}
	checkMade(t, "List of none", term.List(), said(""))
	checkMade(t, "List of one", term.List(term.Secret(1)), node(4, 0, 0, "", node(3, 1, 0, ""), said("")))
	checkMade(t, "List of two", term.List(said("a"), said("b")), node(4, 0, 0, "", said("a"), node(4, 0, 0, "", said("b"), said(""))))
}

// P5.3: a list that is too long, too deep or too great, or that holds what may not be, is made, but is none that may be.
func TestListThatMayNotBe(t *testing.T) {
	for name, l := range map[string][]api.Term{
		"60 terms":       slices.Repeat([]api.Term{said("a")}, 60),
		"3000 terms":     slices.Repeat([]api.Term{said("a")}, 3000),
		"too deep":       {chain(60)},
		"too deep, last": {said(""), chain(59)},
		"too great":      {bush(1199)},
		"too great, two": {bush(600), bush(598)},
		"zero":           {{}},
		"wrong, last":    {said("a"), node(3, 7, 0, "")},
		"wrong, first":   {node(3, 0, 0, ""), said("a")},
	} {
		got := term.List(l...)
		checkMade(t, name, got, listOf(l))
		if term.Check(got) != api.ErrTerm {
			t.Errorf("%s: it may be", name)
		}
		if back, ok := term.Unlist(got); ok || len(back) != 0 {
			t.Errorf("%s: Unlist: %v, %t", name, back, ok)
		}
	}
}

// P5.3: what ends otherwise than a list does is none.
func TestUnlistOfNone(t *testing.T) {
	l := []api.Term{{}, said("a"), said("\x00"), node(1, 1, 0, ""), node(1, 0, 1, ""), node(1, 0, 0, "", said(""))}
	l = append(l, sound()[2:4]...)
	l = append(l, sound()[5:]...)
	for _, end := range l {
		for n := range 4 {
			x := end
			for range n {
				x = node(4, 0, 0, "", said("first"), x)
			}
			got, ok := term.Unlist(x)
			if ok || len(got) != 0 {
				t.Errorf("Unlist(%v): %v, %t", x, got, ok)
			}
		}
	}
	for _, x := range []api.Term{
		sound()[4],
		node(4, 0, 0, "", said(""), said("a")),
		node(6, 0, 0, "", said("a"), said("")),
		node(4, 0, 0, "", said("a"), node(6, 0, 0, "", said("b"), said(""))),
		node(4, 0, 0, "", said("a"), node(4, 0, 0, "", said("b"), node(5, 0, 0, "", said("")))),
		node(4, 0, 0, "", said("a"), said(""), said("")),
		node(4, 0, 0, "", said("a")),
		node(4, 0, 0, ""),
		node(4, 1, 0, "", said("a"), said("")),
	} {
		got, ok := term.Unlist(x)
		if ok || len(got) != 0 {
			t.Errorf("Unlist(%v): %v, %t", x, got, ok)
		}
	}
}

// P5.3: a list's end may have empty Kids; the list of none is there.
func TestUnlistOfTheEmpty(t *testing.T) {
	for _, x := range []api.Term{said(""), {Kind: 1, Kids: []api.Term{}}, term.List()} {
		if got, ok := term.Unlist(x); !ok || len(got) != 0 {
			t.Errorf("Unlist(%v): %v, %t", x, got, ok)
		}
	}
}

// R3: what Unlist answers shares nothing with what it was handed, nor within itself; List keeps nothing.
func TestListsAreNew(t *testing.T) {
	shared := []api.Term{said("in two places")}
	l := []api.Term{node(5, 0, 0, "", said("a")), node(5, 0, 0, "", shared...), node(7, 1, 0, "", shared...), said("z")}
	kept := plain(listOf(l))
	room := append(slices.Clone(l), said("room"))
	x := term.List(room[:4]...)
	for k := range l {
		checkApart(t, "List", &x, &l[k])
	}
	if !equal(room[4], said("room")) {
		t.Error("List wrote behind a list's end")
	}
	clear(room)
	l[0].Kids[0] = said("changed")
	shared[0] = said("changed")
	if !equal(x, kept) {
		t.Errorf("a list that was changed changed the term: %v", x)
	}
	got, _ := term.Unlist(x)
	other, _ := term.Unlist(x)
	all := []*api.Term{&x}
	for k := range got {
		all = append(all, &got[k], &other[k])
	}
	checkApart(t, "Unlist", all...)
	// A term in which two lists are one is taken apart into such that are not.
	twice := node(4, 0, 0, "", node(5, 0, 0, "", shared...), node(4, 0, 0, "", node(5, 0, 0, "", shared...), said("")))
	apart, _ := term.Unlist(twice)
	checkApart(t, "Unlist of what is shared", &apart[0], &apart[1])
	got[0].Kids[0] = said("changed")
	got[3] = said("changed")
	if !equal(x, kept) || !equal(listOf(other), kept) {
		t.Error("an answer of Unlist that was changed changed others")
	}
	_ = append(got[:1], said("behind"))
	if !equal(x, kept) {
		t.Error("what was put behind an answer changed the term")
	}
}

// P5.3: List takes many terms without copying them over and over.
func TestLongList(t *testing.T) {
	const n = 20000
	x := term.List(slices.Repeat([]api.Term{said("a")}, n)...)
	for k := range n {
		if x.Kind != api.TermPair || len(x.Kids) != 2 || !equal(x.Kids[0], said("a")) {
			t.Fatalf("at %d of the list stands %d", k, x.Kind)
		}
		x = x.Kids[1]
	}
	if !equal(x, said("")) {
		t.Errorf("the list ends by %v", x)
	}
}
