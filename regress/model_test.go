package regress_test

import (
	"math"
	"reflect"
	"strings"
	"testing"

	"safehouse/api"
)

// What stands here is the chapter's words once more, with terms laid field by field.

// node answers a term with these fields, and with just these Kids.
func node(kind, user, num int, text string, kids ...api.Term) api.Term {
	return api.Term{Kind: kind, User: user, Num: num, Text: text, Kids: kids}
}

func said(s string) api.Term             { return node(1, 0, 0, s) }
func atom(user, num int) api.Term        { return node(2, user, num, "") }
func secret(user int) api.Term           { return node(3, user, 0, "") }
func pair(a, b api.Term) api.Term        { return node(4, 0, 0, "", a, b) }
func hash(a api.Term) api.Term           { return node(5, 0, 0, "", a) }
func lock(k, x api.Term) api.Term        { return node(6, 0, 0, "", k, x) }
func seal(u int, x api.Term) api.Term    { return node(7, u, 0, "", x) }
func sign(u, n int, x api.Term) api.Term { return node(8, u, n, "", x) }

// back answers what so many states ahead of x come to.
func back(x api.Term, steps int) api.Term {
	if steps == 0 {
		return x
	}
	return hash(pair(said("state"), back(x, steps-1)))
}

// keyBy answers the key of x.
func keyBy(x api.Term) api.Term {
	return hash(pair(said("key"), x))
}

// statesOf answers the states of a seed, each at its epoch's place; at 0 stands none.
func statesOf(seed api.Term) [9]api.Term {
	var l [9]api.Term
	l[8] = seed
	for _, epoch := range []int{7, 6, 5, 4, 3, 2, 1} {
		l[epoch] = hash(pair(said("state"), l[epoch+1]))
	}
	return l
}

// chain answers a term of that depth, and of that size.
func chain(deep int) api.Term {
	x := atom(2, 9)
	for range deep - 1 {
		x = hash(x)
	}
	return x
}

// bush answers a term of that size, and of a depth that is small for it.
func bush(size int) api.Term {
	switch size {
	case 1:
		return atom(1, 7)
	case 2:
		return seal(3, said("x"))
	}
	return pair(bush((size-1)/2), bush(size-1-(size-1)/2))
}

// sizeOf counts x, and all beneath it.
func sizeOf(x api.Term) int {
	n := 1
	for _, kid := range x.Kids {
		n += sizeOf(kid)
	}
	return n
}

// depthOf answers how deep x is.
func depthOf(x api.Term) int {
	n := 0
	for _, kid := range x.Kids {
		n = max(n, depthOf(kid))
	}
	return 1 + n
}

// small tells whether x is not too great, and not too deep.
func small(x api.Term) bool {
	return sizeOf(x) <= 1200 && depthOf(x) <= 60
}

// seeds are terms of every Kind that may be, with the least and the greatest of their fields, and some that look as states and keys do.
func seeds() []api.Term {
	l := []api.Term{
		said(""), said("a"), said("state"), said("key"), said("\x00\xff"), said(strings.Repeat("q", 64)),
		atom(1, 0), atom(1, 1), atom(1, 2), atom(3, 256), atom(6, 65535),
		secret(1), secret(6),
		pair(said(""), said("")), pair(atom(1, 1), atom(1, 2)), pair(said("state"), atom(1, 1)), pair(said("key"), atom(1, 1)),
		hash(atom(1, 1)), hash(hash(said("state"))),
		lock(atom(1, 1), said("hi")), lock(hash(atom(1, 1)), pair(secret(2), atom(1, 2))),
		seal(1, atom(1, 1)), seal(6, pair(atom(1, 1), said("x"))),
		sign(1, 0, atom(1, 1)), sign(6, 65535, lock(atom(2, 2), secret(3))),
		bush(30), chain(20),
	}
	for _, x := range []api.Term{atom(1, 1), said("state"), secret(4)} {
		l = append(l, back(x, 1), back(x, 7), keyBy(x), keyBy(back(x, 3)), back(keyBy(x), 2))
	}
	return l
}

// wrongAlone are terms whose own fields are wrong, or which are too great.
func wrongAlone() []api.Term {
	x, y := atom(1, 1), said("y")
	l := []api.Term{
		{}, node(0, 1, 1, ""), node(0, 0, 0, "state"), node(0, 0, 0, "", x), node(-1, 0, 0, ""), node(9, 0, 0, ""), node(9, 1, 0, "", x), node(257, 0, 0, ""), node(math.MaxInt, 0, 0, ""), node(math.MinInt, 0, 0, ""),
		said(strings.Repeat("q", 65)), said(strings.Repeat("q", 1000)), node(1, 1, 0, "a"), node(1, 0, 1, "a"), node(1, 0, 0, "a", x),
		atom(0, 1), atom(7, 1), atom(-1, 1), atom(257, 1), atom(1, -1), atom(1, 65536), atom(1, math.MaxInt), atom(1, math.MinInt), node(2, 1, 1, "a"), node(2, 1, 1, "", x),
		secret(0), secret(7), secret(-1), secret(math.MaxInt), node(3, 1, 1, ""), node(3, 1, 0, "a"), node(3, 1, 0, "", x),
		node(4, 0, 0, ""), node(4, 0, 0, "", x), node(4, 0, 0, "", x, y, x), node(4, 1, 0, "", x, y), node(4, 0, 1, "", x, y), node(4, 0, 0, "a", x, y),
		node(5, 0, 0, ""), node(5, 0, 0, "", x, y), node(5, 1, 0, "", x), node(5, 0, 1, "", x), node(5, 0, 0, "a", x),
		node(6, 0, 0, ""), node(6, 0, 0, "", x), node(6, 0, 0, "", x, y, x), node(6, 1, 0, "", x, y), node(6, 0, 1, "", x, y), node(6, 0, 0, "a", x, y),
		node(7, 1, 0, ""), node(7, 1, 0, "", x, y), seal(0, x), seal(7, x), seal(-1, x), node(7, 1, 1, "", x), node(7, 1, 0, "a", x),
		node(8, 1, 0, ""), node(8, 1, 0, "", x, y), sign(0, 0, x), sign(7, 0, x), sign(1, -1, x), sign(1, 65536, x), node(8, 1, 0, "a", x),
	}
	return append(l, bush(1201), bush(1300), bush(5000), chain(61), chain(62), chain(500), pair(bush(600), bush(600)))
}

// wrongTerms are terms that may not be: alone, and beneath others, at each place that a state or a key has.
func wrongTerms() []api.Term {
	var l []api.Term
	for _, x := range wrongAlone() {
		l = append(l, x, hash(x), pair(x, atom(1, 1)), pair(atom(1, 1), x), lock(atom(1, 1), x), sign(2, 3, seal(1, x)), back(x, 1), back(x, 7), keyBy(x), hash(pair(x, atom(1, 1))))
	}
	return l
}

// noEpochs are numbers that are none, such as come to one in fewer bits among them.
func noEpochs() []int {
	return []int{
		-1, 0, 9, 10, 11, 15, 16, 100, 255, 256, 257, 264, 65536, 65537, 65544, 1 << 31, 1<<31 + 1, 1 << 32, 1<<32 + 1, 1<<32 + 8, math.MaxInt - 1, math.MaxInt,
		-2, -7, -8, -9, -248, -255, -256, -65535, -1 << 31, -1<<32 + 1, -1<<32 + 8, math.MinInt, math.MinInt + 1, math.MinInt + 8,
	}
}

// plain answers x with nil in the place of each empty list, all in new memory.
func plain(x api.Term) api.Term {
	var kids []api.Term
	for _, kid := range x.Kids {
		kids = append(kids, plain(kid))
	}
	x.Kids = kids
	return x
}

// equal tells whether a and b are the same, field by field and Kid by Kid.
func equal(a, b api.Term) bool {
	return reflect.DeepEqual(plain(a), plain(b))
}

// checkIs holds what was answered against that term, and no error.
func checkIs(t *testing.T, what string, got api.Term, err api.Errno, want api.Term) {
	t.Helper()
	if err != api.OK || !equal(got, want) {
		t.Errorf("%s: %v, %d, not %v", what, got, err, want)
	}
}

// checkOnly holds what was answered against that error, and nothing beside it.
func checkOnly(t *testing.T, what string, got api.Term, err, want api.Errno) {
	t.Helper()
	if err != want || !equal(got, api.Term{}) {
		t.Errorf("%s: %v, %d, not just %d", what, got, err, want)
	}
}

// checkEdge holds what was answered against that term if it is not too great, else against ErrTerm.
func checkEdge(t *testing.T, what string, got api.Term, err api.Errno, want api.Term) {
	t.Helper()
	if small(want) {
		checkIs(t, what, got, err, want)
	} else {
		checkOnly(t, what, got, err, api.ErrTerm)
	}
}
