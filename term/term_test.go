package term_test

import (
	"cmp"
	"fmt"
	"math"
	"slices"
	"strings"
	"testing"

	"safehouse/api"
	"safehouse/term"
)

// sound answers one term of each Kind, by its Kind.
func sound() []api.Term {
	return []api.Term{
		{},
		node(1, 0, 0, "hi"),
		node(2, 3, 515, ""),
		node(3, 6, 0, ""),
		node(4, 0, 0, "", said("a"), node(3, 1, 0, "")),
		node(5, 0, 0, "", said("b")),
		node(6, 0, 0, "", node(2, 1, 2, ""), said("c")),
		node(7, 2, 0, "", said("d")),
		node(8, 5, 7, "", said("e")),
	}
}

// chain answers digests of digests of a text, of that size and depth.
func chain(depth int) api.Term {
	t := said("x")
	for range depth - 1 {
		t = node(5, 0, 0, "", t)
	}
	return t
}

// bush answers a term of that size: as flat as it may be, with Kids on both sides.
func bush(size int) api.Term {
	switch size {
	case 1:
		return node(2, 1, 9, "")
	case 2:
		return node(7, 4, 0, "", bush(1))
	}
	return node(4+2*(size%2), 0, 0, "", bush(size/2), bush(size-1-size/2))
}

// terms are many unlike ones, that may be.
func terms() []api.Term {
	l := sound()[1:]
	for _, s := range []string{"", "\x00", "a", "b", "ab", "\xff", strings.Repeat("z", 63), strings.Repeat("z", 64)} {
		l = append(l, said(s))
	}
	for _, x := range []int{0, 1, 255, 256, 65535} {
		l = append(l, node(2, 1, x, ""), node(2, 6, x, ""), node(8, 1, x, "", said("")), node(8, 6, x, "", node(2, 1, x, "")))
	}
	for user := 1; user <= 6; user++ {
		l = append(l, node(3, user, 0, ""), node(7, user, 0, "", said("a")))
	}
	l = append(l, chain(2), chain(59), chain(60), bush(3), bush(1199), bush(1200))
	l = append(l, node(4, 0, 0, "", said("a"), said("")), node(6, 0, 0, "", said(""), said("a")))
	pick := chance(1)
	for range 200 {
		l = append(l, pick.term(1+pick.below(5)))
	}
	slices.SortFunc(l, func(a, b api.Term) int { return cmp.Compare(bytesOf(a), bytesOf(b)) })
	return slices.CompactFunc(l, equal)
}

// P5.1, P5.2: what is no Kind, whatever fields are set.
func TestNoKind(t *testing.T) {
	for _, kind := range []int{math.MinInt, -256, -8, -1, 0, 9, 10, 255, 256, 257, 264, math.MaxInt} {
		for _, x := range sound() {
			x.Kind = kind
			checkTerm(t, fmt.Sprintf("Kind %d", kind), x)
			if term.Check(x) != api.ErrTerm {
				t.Errorf("Kind %d may be", kind)
			}
		}
	}
}

// P5.1, P5.2: one of each Kind may be.
func TestEachKind(t *testing.T) {
	for kind, x := range sound()[1:] {
		checkTerm(t, fmt.Sprintf("Kind %d", 1+kind), x)
		if term.Check(x) != api.OK {
			t.Errorf("Kind %d may not be", 1+kind)
		}
	}
}

// P5.1: a term that says nothing of itself is none.
func TestZeroTerm(t *testing.T) {
	var zero api.Term
	if term.Check(zero) != api.ErrTerm || term.Size(zero) != 0 || !term.Same(zero, zero) || term.Less(zero, zero) {
		t.Error("the zero term is a term")
	}
	if b, err := term.Encode(zero); len(b) != 0 || err != api.ErrTerm {
		t.Errorf("Encode of the zero term: % x, %d", b, err)
	}
}

// inPlaces answers x alone, and as a Kid: first, second, and deep down.
func inPlaces(x api.Term) []api.Term {
	l := []api.Term{x, node(5, 0, 0, "", x), node(4, 0, 0, "", x, said("")), node(4, 0, 0, "", said(""), x), node(6, 0, 0, "", said("k"), x), node(7, 1, 0, "", x), node(8, 1, 1, "", x)}
	deep := x
	for range 10 {
		deep = node(4, 0, 0, "", said("a"), node(8, 2, 3, "", deep))
	}
	return append(l, deep)
}

// P5.1, P5.2: each Kind with each number as User and as Num, where it counts and where it doesn't.
func TestNumbersOfFields(t *testing.T) {
	numbers := []int{math.MinInt, -65536, -1, 0, 1, 2, 5, 6, 7, 8, 255, 256, 257, 65534, 65535, 65536, 65537, 1 << 32, 1<<32 + 1, math.MaxInt}
	for _, x := range sound()[1:] {
		for _, n := range numbers {
			withUser, withNum := x, x
			withUser.User, withNum.Num = n, n
			for _, y := range append(inPlaces(withUser), inPlaces(withNum)...) {
				checkTerm(t, fmt.Sprintf("Kind %d with %d", x.Kind, n), y)
			}
		}
	}
	for _, x := range []struct {
		t    api.Term
		want api.Errno
	}{
		{node(2, 0, 0, ""), api.ErrTerm}, {node(2, 1, 0, ""), api.OK}, {node(2, 6, 65535, ""), api.OK}, {node(2, 7, 0, ""), api.ErrTerm},
		{node(2, 1, -1, ""), api.ErrTerm}, {node(2, 1, 65536, ""), api.ErrTerm},
		{node(3, 0, 0, ""), api.ErrTerm}, {node(3, 1, 0, ""), api.OK}, {node(3, 6, 0, ""), api.OK}, {node(3, 7, 0, ""), api.ErrTerm}, {node(3, 1, 1, ""), api.ErrTerm},
		{node(7, 0, 0, "", said("")), api.ErrTerm}, {node(7, 6, 0, "", said("")), api.OK}, {node(7, 1, 1, "", said("")), api.ErrTerm},
		{node(8, 0, 0, "", said("")), api.ErrTerm}, {node(8, 6, 65535, "", said("")), api.OK}, {node(8, 7, 0, "", said("")), api.ErrTerm}, {node(8, 1, 65536, "", said("")), api.ErrTerm}, {node(8, 1, -1, "", said("")), api.ErrTerm},
		{node(1, 1, 0, ""), api.ErrTerm}, {node(1, 0, 1, ""), api.ErrTerm}, {node(4, 1, 0, "", said(""), said("")), api.ErrTerm}, {node(5, 0, 1, "", said("")), api.ErrTerm}, {node(6, 1, 0, "", said(""), said("")), api.ErrTerm},
	} {
		if got := term.Check(x.t); got != x.want {
			t.Errorf("Check(%v): %d, not %d", x.t, got, x.want)
		}
	}
}

// P5.1, P5.2: each Kind with each length of a text, where it counts and where it doesn't.
func TestTextsOfFields(t *testing.T) {
	for _, x := range sound()[1:] {
		for _, n := range []int{0, 1, 63, 64, 65, 128, 255, 256, 257, 320, 65536} {
			x.Text = strings.Repeat("\xfe", n)
			for _, y := range inPlaces(x) {
				checkTerm(t, fmt.Sprintf("Kind %d with a text of %d bytes", x.Kind, n), y)
			}
		}
	}
	for n, want := range map[int]api.Errno{0: api.OK, 64: api.OK, 65: api.ErrTerm} {
		if got := term.Check(said(strings.Repeat("t", n))); got != want {
			t.Errorf("a text of %d bytes: %d", n, got)
		}
	}
}

// P5.1, P5.2: each Kind with each count of Kids, from none on; nil and empty are one.
func TestCountsOfKids(t *testing.T) {
	for kind, x := range sound()[1:] {
		for n := range 6 {
			x.Kids = slices.Repeat([]api.Term{node(3, 1, 0, "")}, n)
			_, _, _, kids, _ := known(1 + kind)
			if got := term.Check(x) == api.OK; got != (n == kids) {
				t.Errorf("Kind %d with %d Kids: %t", 1+kind, n, got)
			}
			for _, y := range inPlaces(x) {
				checkTerm(t, fmt.Sprintf("Kind %d with %d Kids", 1+kind, n), y)
			}
		}
		none, empty := x, x
		none.Kids, empty.Kids = nil, []api.Term{}
		checkTerm(t, "Kids nil", none)
		checkTerm(t, "Kids empty", empty)
		if !term.Same(none, empty) || term.Check(none) != term.Check(empty) || term.Size(none) != term.Size(empty) || term.Less(none, empty) || term.Less(empty, none) {
			t.Errorf("Kind %d: no Kids are told from empty ones", 1+kind)
		}
	}
}

// P5.1: a Kid that may not be, wherever it stands, and whatever the others are.
func TestKidThatMayNotBe(t *testing.T) {
	wrong := []api.Term{{}, node(9, 0, 0, ""), node(3, 7, 0, ""), node(1, 0, 0, strings.Repeat("w", 65)), node(5, 0, 0, ""), node(4, 0, 0, "", said(""))}
	for _, x := range []api.Term{bush(40), chain(40), sound()[6]} {
		for at := range sizeOf(x) {
			for _, bad := range wrong {
				y := plain(x)
				*places(&y)[at] = bad
				if mayBe(y) {
					t.Fatal("the model takes it")
				}
				checkTerm(t, fmt.Sprintf("wrong at %d", at), y)
			}
		}
	}
}

// P5.1, P5.2: terms of each size around the greatest one, and of each depth.
func TestSizesAndDepths(t *testing.T) {
	for _, n := range []int{1, 2, 3, 59, 60, 61, 1198, 1199, 1200, 1201, 1202, 2400, 2401} {
		x := bush(n)
		if sizeOf(x) != n {
			t.Fatalf("a bush of %d", sizeOf(x))
		}
		checkTerm(t, fmt.Sprintf("size %d", n), x)
		if got := term.Size(x); n <= 1200 && got != n || n > 1200 && got != 0 {
			t.Errorf("size %d: %d", n, got)
		}
	}
	for _, n := range []int{1, 2, 59, 60, 61, 62, 120, 1200, 1201} {
		x := chain(n)
		checkTerm(t, fmt.Sprintf("depth %d", n), x)
		if got := term.Check(x) == api.OK; got != (n <= 60) {
			t.Errorf("depth %d: %t", n, got)
		}
	}
	// The deepest one stands behind others that are not deep, or ahead of them; both bounds at once.
	for _, depth := range []int{58, 59, 60} {
		for _, more := range []int{0, 1, 2} {
			rest := 1200 - 1 - depth + more
			checkTerm(t, "deep first", node(4, 0, 0, "", chain(depth), bush(rest)))
			checkTerm(t, "deep second", node(6, 0, 0, "", bush(rest), chain(depth)))
		}
	}
}

// P5.1: what is far too great is known soon: lists of Kids that are there over and over, or hold themselves.
func TestFarTooGreat(t *testing.T) {
	twice := said("x")
	for range 59 {
		twice = node(4, 0, 0, "", twice, twice)
	}
	ring := make([]api.Term, 2)
	ring[0], ring[1] = node(4, 0, 0, ""), node(6, 0, 0, "")
	ring[0].Kids, ring[1].Kids = ring, ring
	loop := make([]api.Term, 1)
	loop[0] = node(5, 0, 0, "")
	loop[0].Kids = loop
	for name, x := range map[string]api.Term{"doubled": twice, "ring": ring[0], "loop": loop[0], "many Kids": node(4, 0, 0, "", make([]api.Term, 1<<16)...)} {
		if term.Check(x) != api.ErrTerm || term.Size(x) != 0 || term.Less(x, said("")) || term.Less(said(""), x) {
			t.Errorf("%s: it may be", name)
		}
		if b, err := term.Encode(x); len(b) != 0 || err != api.ErrTerm {
			t.Errorf("%s: Encode: %d bytes, %d", name, len(b), err)
		}
		if l, ok := term.Unlist(x); len(l) != 0 || ok {
			t.Errorf("%s: it is a list", name)
		}
	}
}

// P5.1: a term is the same as a copy of it, and not as one of which one field is another, wherever that stands.
func TestSameField(t *testing.T) {
	for _, x := range []api.Term{bush(30), chain(60), node(8, 1, 2, "both", said("a"), node(9, -1, 70000, "no term", said("b")))} {
		if !term.Same(x, plain(x)) {
			t.Errorf("%v is not the same as a copy", x)
		}
		for at := range sizeOf(x) {
			for name, change := range map[string]func(y *api.Term){
				"Kind":       func(y *api.Term) { y.Kind++ },
				"User":       func(y *api.Term) { y.User++ },
				"Num":        func(y *api.Term) { y.Num-- },
				"Text":       func(y *api.Term) { y.Text += "\x00" },
				"a Kid more": func(y *api.Term) { y.Kids = append(y.Kids, api.Term{}) },
				"a Kid ahead": func(y *api.Term) {
					y.Kids = append([]api.Term{said("new")}, y.Kids...)
				},
			} {
				y := plain(x)
				change(places(&y)[at])
				if term.Same(x, y) || term.Same(y, x) {
					t.Errorf("another %s at %d is not seen", name, at)
				}
			}
		}
	}
}

// P5.1: Same of terms that may be, and of some that may not be.
func TestSame(t *testing.T) {
	wrong := []api.Term{{}, node(9, 0, 0, ""), node(0, 1, 0, ""), node(0, 0, -1, ""), node(0, 0, 0, "a"), node(0, 0, 0, "", api.Term{}), node(0, 0, 0, "", api.Term{}, api.Term{}), chain(61), chain(62), bush(1201), bush(1202), node(2, 7, 0, ""), node(2, 1, 65536, ""), said(strings.Repeat("s", 65))}
	l := append(terms(), wrong...)
	for i, a := range l {
		for j, b := range l {
			if got := term.Same(a, b); got != (i == j) {
				t.Errorf("Same(%v, %v): %t", a, b, got)
			}
		}
	}
	swapped := node(4, 0, 0, "", said("b"), said("a"))
	if term.Same(node(4, 0, 0, "", said("a"), said("b")), swapped) {
		t.Error("Kids whose places are changed are the same")
	}
}

// P5.1, P5.4: a stands ahead of b just if its bytes do; one that may not be stands ahead of none, and none ahead of it.
func TestLess(t *testing.T) {
	l := terms()
	for i, a := range l {
		for j, b := range l {
			if got := term.Less(a, b); got != (i < j) {
				t.Errorf("Less(% x, % x): %t", bytesOf(a), bytesOf(b), got)
			}
		}
	}
	for _, bad := range []api.Term{{}, node(9, 0, 0, ""), node(3, 0, 0, ""), node(3, 7, 0, ""), chain(61), bush(1201), node(5, 0, 0, "")} {
		for _, x := range append(l, bad) {
			if term.Less(bad, x) || term.Less(x, bad) {
				t.Errorf("%v, which may not be, has a place in the order", bad)
			}
		}
	}
}

// P5.1: pairs of terms, written out, of which the first one stands ahead.
func TestLessWrittenOut(t *testing.T) {
	for _, x := range []struct{ a, b api.Term }{
		{said(""), said("a")},
		{said("b"), said("aa")},
		{said("\x7f"), said("\x80")},
		{said("a"), said("b")},
		{said(strings.Repeat("\xff", 64)), node(2, 1, 0, "")},
		{node(2, 1, 65535, ""), node(2, 2, 0, "")},
		{node(2, 1, 255, ""), node(2, 1, 256, "")},
		{node(2, 6, 65535, ""), node(3, 1, 0, "")},
		{node(3, 1, 0, ""), node(3, 2, 0, "")},
		{node(4, 0, 0, "", said(""), said("b")), node(4, 0, 0, "", said("a"), said(""))},
		{node(4, 0, 0, "", said("a"), said("a")), node(4, 0, 0, "", said("a"), said("b"))},
		{node(4, 0, 0, "", node(8, 6, 9, "", said("")), said("")), node(5, 0, 0, "", said(""))},
		{node(8, 1, 9, "", said("b")), node(8, 2, 0, "", said("a"))},
		{node(8, 1, 1, "", said("b")), node(8, 1, 2, "", said("a"))},
	} {
		if !term.Less(x.a, x.b) || term.Less(x.b, x.a) {
			t.Errorf("%v does not stand ahead of %v", x.a, x.b)
		}
	}
}

// P5.1, P5.2: terms that a fixed rule picks, and what comes of them when one field of them is changed.
func TestPickedTerms(t *testing.T) {
	pick := chance(2)
	for step := range 4000 {
		x := pick.term(pick.below(9))
		checkTerm(t, fmt.Sprintf("step %d", step), x)
		y := plain(x)
		all := places(&y)
		pick.spoil(all[pick.below(len(all))])
		checkTerm(t, fmt.Sprintf("step %d, changed", step), y)
		if got := term.Same(x, y); got != equal(x, y) {
			t.Errorf("step %d: Same: %t", step, got)
		}
		if mayBe(x) && mayBe(y) {
			if got, want := term.Less(x, y), bytesOf(x) < bytesOf(y); got != want {
				t.Errorf("step %d: Less: %t", step, got)
			}
		}
	}
}
