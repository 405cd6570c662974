package close_test

import (
	"fmt"
	"maps"
	"math"
	"slices"
	"strings"
	"testing"

	"safehouse/api"
	"safehouse/close"
)

// The terms that the tests are about.
var (
	k  = node(2, 1, 1, "")
	n  = node(2, 1, 2, "")
	m  = node(2, 2, 1, "")
	s1 = node(3, 1, 0, "")
	s2 = node(3, 2, 0, "")
	a  = node(1, 0, 0, "a")
)

func pair(x, y api.Term) api.Term      { return node(4, 0, 0, "", x, y) }
func hash(x api.Term) api.Term         { return node(5, 0, 0, "", x) }
func lock(key, body api.Term) api.Term { return node(6, 0, 0, "", key, body) }
func seal(u int, x api.Term) api.Term  { return node(7, u, 0, "", x) }
func sign(u, leaf int, x api.Term) api.Term {
	return node(8, u, leaf, "", x)
}

// atom answers an atom that occurs nowhere else.
func atom(num int) api.Term { return node(2, 6, num, "") }

// chain answers digests of digests of x, so many of them.
func chain(depth int, x api.Term) api.Term {
	for range depth {
		x = hash(x)
	}
	return x
}

// bush answers a term of that size: as flat as it may be, with unlike atoms, from that Num on.
func bush(size, from int) api.Term {
	switch size {
	case 1:
		return atom(from)
	case 2:
		return sign(1, 0, atom(from))
	}
	left := size / 2
	return pair(bush(left, from), bush(size-1-left, from+left))
}

// none are terms that may not be.
func none() []api.Term {
	long := strings.Repeat("x", 65)
	return []api.Term{
		{}, node(0, 0, 0, "", k), node(-1, 0, 0, ""), node(math.MinInt, 1, 1, "", k, k), node(9, 1, 0, "", k), node(9, 0, 0, "", k, k), node(256+4, 0, 0, "", k, k), node(math.MaxInt, 0, 0, ""),
		node(1, 0, 0, long), node(1, 1, 0, ""), node(1, 0, 1, ""), node(1, 0, 0, "", k),
		node(2, 0, 1, ""), node(2, 7, 1, ""), node(2, 1, -1, ""), node(2, 1, 65536, ""), node(2, 1, 1, "x"), node(2, 1, 1, "", k),
		node(3, 0, 0, ""), node(3, 7, 0, ""), node(3, -1, 0, ""), node(3, 1, 1, ""), node(3, 1, 0, "", k),
		node(4, 0, 0, ""), node(4, 0, 0, "", k), node(4, 0, 0, "", k, k, k), node(4, 1, 0, "", k, k),
		node(5, 0, 0, ""), node(5, 0, 0, "", k, k), node(5, 0, 1, "", k),
		node(6, 0, 0, ""), node(6, 0, 0, "", k), node(6, 0, 0, "", k, n, k), node(6, 0, 0, "x", k, n),
		node(7, 1, 0, ""), node(7, 0, 0, "", k), node(7, 7, 0, "", k), node(7, 1, 0, "", k, k), node(7, 1, 1, "", k),
		node(8, 1, 0, ""), node(8, 0, 0, "", k), node(8, 7, 0, "", k), node(8, 1, -1, "", k), node(8, 1, 65536, "", k), node(8, 1, 0, "", k, k),
		chain(60, a), bush(1201, 0), pair(a, node(9, 0, 0, "")), lock(node(3, 7, 0, ""), a), seal(1, pair(a, lock(k, hash(api.Term{})))),
	}
}

// many answers so many unlike known terms.
func many(count int) []api.Term {
	var l []api.Term
	for i := range count {
		l = append(l, atom(i))
	}
	return l
}

// P7.1 to P7.3: the chapter's examples.
func TestExamples(t *testing.T) {
	shut := lock(k, n)
	checkCan(t, "without its key", row(shut), n, false)
	checkCan(t, "without its key", row(shut), shut, true)
	checkCan(t, "without its key", row(shut), hash(shut), true)
	checkCan(t, "with its key", row(shut, k), n, true)
	checkParts(t, "with its key", row(shut, k), k, n, shut)
	checkCan(t, "with the secret", row(seal(2, n), s2), n, true)
	checkCan(t, "with the secret", row(seal(2, n), s2), sign(2, 0, n), true)
	checkCan(t, "with the secret", row(seal(2, n), s2), sign(1, 0, n), false)
	checkCan(t, "a digest", row(hash(n)), n, false)
	checkCan(t, "a key put together", row(pair(lock(hash(k), n), pair(k, a))), n, true)
}

// P7.1 to P7.3: who knows nothing has texts, and what can be put together out of these.
func TestNothingKnown(t *testing.T) {
	full := many(5)
	for _, known := range [][]api.Term{nil, {}, full[:0], full[5:]} {
		checkParts(t, "nothing known", known)
		checkAtoms(t, "nothing known", known)
		for _, q := range []api.Term{a, node(1, 0, 0, ""), node(1, 0, 0, strings.Repeat("\xff", 64)), pair(a, a), hash(a), lock(a, a), seal(1, a), seal(6, hash(a)), pair(a, lock(hash(a), seal(3, a)))} {
			checkCan(t, "nothing known", known, q, true)
		}
		for _, q := range []api.Term{k, s1, sign(1, 0, a), pair(a, k), pair(k, a), hash(k), lock(a, k), lock(k, a), seal(1, k), seal(1, s1), pair(a, lock(hash(a), seal(3, sign(2, 0, a))))} {
			checkCan(t, "nothing known", known, q, false)
		}
	}
}

// P7.1 to P7.3: of each Kind one term alone.
func TestOneAlone(t *testing.T) {
	for _, q := range []struct {
		known        api.Term
		parts, atoms []api.Term
		no           []api.Term
	}{
		{a, row(a), nil, row(k, s1, sign(1, 0, a))},
		{k, row(k), row(k), row(n, m, s1, node(2, 2, 1, ""), sign(1, 0, k))},
		{s1, row(s1), row(s1), row(s2, k, node(2, 1, 0, ""))},
		{pair(k, n), row(k, n, pair(k, n)), row(k, n), row(m, s1)},
		{hash(k), row(hash(k)), nil, row(k, pair(k, a), lock(a, k))},
		{lock(k, n), row(lock(k, n)), nil, row(k, n, lock(n, k))},
		{lock(a, n), row(n, lock(a, n)), row(n), row(k)},
		{seal(1, n), row(seal(1, n)), nil, row(n, s1, seal(2, n))},
		{sign(1, 7, n), row(n, sign(1, 7, n)), row(n), row(s1, sign(1, 8, n), sign(2, 7, n), sign(1, 7, a))},
	} {
		what := say(q.known)
		checkParts(t, what, row(q.known), q.parts...)
		checkAtoms(t, what, row(q.known), q.atoms...)
		for _, x := range append(q.parts, pair(q.known, a), hash(q.known), lock(q.known, q.known), seal(4, q.known)) {
			checkCan(t, what, row(q.known), x, true)
		}
		for _, x := range q.no {
			checkCan(t, what, row(q.known), x, false)
		}
	}
}

// P7.1, P7.3: what is known twice and more stands there once; what comes out of several places, too.
func TestKnownTwice(t *testing.T) {
	for _, x := range []api.Term{a, k, s1, pair(k, k), hash(k), lock(k, n), seal(1, n), sign(1, 0, k)} {
		for _, times := range []int{2, 3, 500} {
			known := slices.Repeat(row(x), times)
			checkAll(t, fmt.Sprintf("%d times", times), known, x, k, n)
			one, _ := close.Parts(row(x))
			checkParts(t, fmt.Sprintf("%d times", times), known, one...)
		}
	}
	checkParts(t, "in several places", row(pair(k, n), lock(k, n), sign(1, 0, k), sign(2, 0, n), k), k, n, pair(k, n), lock(k, n), sign(1, 0, k), sign(2, 0, n))
	checkAtoms(t, "in several places", row(pair(k, n), lock(k, n), sign(1, 0, k), sign(2, 0, n), k), k, n)
}

// P7.1 to P7.3, R8: MaxKnown terms, and one more: they count as often as they stand there.
func TestMaxKnown(t *testing.T) {
	for _, l := range [][]api.Term{many(501), slices.Repeat(row(k), 501), slices.Repeat(row(a), 501), slices.Repeat(row(lock(k, n), k), 251)[:501]} {
		checkAll(t, "500 known", l[:500], l[0], l[499], hash(l[499]), s1)
		checkRefused(t, "501 known", l, l[0], api.ErrLong)
	}
	for _, count := range []int{502, 1000, 1001, 1 << 16} {
		checkRefused(t, fmt.Sprintf("%d known", count), slices.Repeat(row(a), count), a, api.ErrLong)
	}
}

// P7.1 to P7.3, R2: ErrLong goes ahead of ErrTerm.
func TestLongAheadOfTerm(t *testing.T) {
	for _, bad := range none() {
		for _, at := range []int{0, 250, 499, 500} {
			l := many(501)
			l[at] = bad
			checkRefused(t, fmt.Sprintf("501 known, %s at %d", say(bad), at), l, k, api.ErrLong)
			checkRefused(t, fmt.Sprintf("501 known, %s at %d, and asked for", say(bad), at), l, bad, api.ErrLong)
		}
		checkNoCan(t, "501 known, "+say(bad)+" asked for", many(501), bad, api.ErrLong)
		checkRefused(t, "501 times "+say(bad), slices.Repeat(row(bad), 501), bad, api.ErrLong)
	}
}

// P7.1 to P7.3: a known term that may not be, first, last and between; the one that is asked for may be told in any way.
func TestKnownMayNotBe(t *testing.T) {
	for _, bad := range none() {
		for _, count := range []int{1, 2, 3, 10, 500} {
			for _, at := range []int{0, count / 2, count - 1} {
				l := many(count)
				l[at] = bad
				what := fmt.Sprintf("%s as number %d of %d", say(bad), at, count)
				checkRefused(t, what, l, atom(0), api.ErrTerm)
				checkNoCan(t, what, l, a, api.ErrTerm)
				checkNoCan(t, what, l, bad, api.ErrTerm)
			}
		}
	}
}

// P7.2: one that is asked for and may not be, whatever is known: itself, too, beside it.
func TestAskedMayNotBe(t *testing.T) {
	for _, bad := range none() {
		for _, known := range [][]api.Term{nil, {}, row(a), row(k, n, s1), many(500)} {
			checkNoCan(t, say(bad)+" asked for", known, bad, api.ErrTerm)
			checkNoCan(t, say(bad)+" asked for in a pair", known, pair(a, bad), api.ErrTerm)
		}
	}
}

// allBeneath answers the terms of l, and all beneath them, each once.
func allBeneath(l ...api.Term) []api.Term {
	s := set{}
	for _, x := range l {
		s.beneath(x)
	}
	return slices.Collect(maps.Values(s))
}

// P7.1 to P7.3: terms as deep as they may be.
func TestDeep(t *testing.T) {
	deep := chain(59, n)
	checkParts(t, "as deep as may be", row(deep), deep)
	checkCan(t, "as deep as may be", row(n), deep, true)
	checkCan(t, "as deep as may be", row(k), deep, false)
	checkCan(t, "as deep as may be", row(chain(58, n)), deep, true)
	checkCan(t, "as deep as may be", row(deep), chain(58, n), false)
	locked, sealed, signed, paired := n, n, n, n
	for i := range 59 {
		locked, sealed, signed, paired = lock(k, locked), seal(1+i%2, sealed), sign(1+i%6, i, signed), pair(a, paired)
	}
	for _, x := range row(signed, paired) {
		checkParts(t, "as deep as may be", row(x), allBeneath(x)...)
		checkAtoms(t, "as deep as may be", row(x), n)
		checkCan(t, "as deep as may be", row(x), n, true)
	}
	for _, q := range []struct {
		shut api.Term
		keys []api.Term
	}{{locked, row(k)}, {sealed, row(s1, s2)}} {
		checkParts(t, "as deep as may be, shut", row(q.shut), q.shut)
		checkCan(t, "as deep as may be, shut", row(q.shut), n, false)
		known := append(row(q.shut), q.keys...)
		checkParts(t, "as deep as may be, open", known, allBeneath(known...)...)
		checkAtoms(t, "as deep as may be, open", known, append(row(n), q.keys...)...)
		checkCan(t, "as deep as may be, open", append(row(n), q.keys...), q.shut, true)
	}
	checkParts(t, "sealed, with one of two secrets", row(sealed, s2), s2, sealed)
	checkParts(t, "sealed, with one of two secrets", row(sealed, s1), s1, sealed, sealed.Kids[0])
}

// P7.1 to P7.3: terms as great as they may be.
func TestGreat(t *testing.T) {
	great := bush(1200, 0)
	all := allBeneath(great)
	if len(all) != 1200 {
		t.Fatalf("%d beneath", len(all))
	}
	checkParts(t, "as great as may be", row(great), all...)
	for _, x := range all {
		if x.Kind == 2 {
			checkCan(t, "as great as may be", row(great), x, true)
		}
	}
	checkCan(t, "as great as may be", row(great), great, true)
	checkCan(t, "as great as may be", row(great), atom(2000), false)
	key := bush(1198, 0)
	shut := lock(key, n)
	checkParts(t, "a key as great as may be", row(shut, key), append(allBeneath(key), shut, n)...)
	checkCan(t, "a key as great as may be", row(shut, hash(key)), n, false)
	key = pairs(many(498))
	shut = lock(key, n)
	checkCan(t, "a key put together of many", append(many(498), shut), n, true)
	checkCan(t, "a key put together of many", append(row(shut), many(498)...), n, true)
	checkAtoms(t, "a key put together of many", append(many(498), shut), append(many(498), n)...)
	for _, without := range []int{0, 249, 497} {
		checkCan(t, "a key put together of many, but for one", append(slices.Delete(many(498), without, without+1), shut), n, false)
	}
}

// pairs answers the terms of l, paired as flat as may be.
func pairs(l []api.Term) api.Term {
	if len(l) == 1 {
		return l[0]
	}
	return pair(pairs(l[:len(l)/2]), pairs(l[len(l)/2:]))
}

// P7.1 to P7.3: as much as may be known, all of it locks that open one another, the last one first: what is known is not gone over again for each lock.
func TestManyLocksInARow(t *testing.T) {
	thrown := func(i int) api.Term { return node(2, 1+i>>16, i&0xffff, "") }
	num := 0
	var known []api.Term
	for range 499 {
		var locks []api.Term
		for range 240 {
			num++
			locks = append(locks, lock(hash(thrown(num)), thrown(num-1)))
		}
		known = append(known, pairs(locks))
	}
	known = append(known, thrown(num))
	atoms, err := close.Atoms(known)
	if err != api.OK || len(atoms) != num+1 || !rising(atoms) {
		t.Errorf("%d locks in a row: %d atoms, %d", num, len(atoms), err)
	}
	for _, q := range []struct {
		known []api.Term
		want  bool
	}{{known, true}, {known[:499], false}, {append(known[:250:250], known[251:]...), false}} {
		if got, err := close.Can(q.known, thrown(0)); got != q.want || err != api.OK {
			t.Errorf("%d locks in a row: Can: %t, %d, not %t", num, got, err, q.want)
		}
	}
}
