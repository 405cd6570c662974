package close_test

import (
	"fmt"
	"slices"
	"testing"

	"safehouse/api"
	"safehouse/close"
)

// orders answers l in every order.
func orders(l []api.Term) [][]api.Term {
	if len(l) < 2 {
		return [][]api.Term{l}
	}
	var out [][]api.Term
	for i, first := range l {
		rest := slices.Concat(l[:i], l[i+1:])
		for _, o := range orders(rest) {
			out = append(out, append(row(first), o...))
		}
	}
	return out
}

// P7.1, P7.2: a lock whose key is had: known, out of a pair, out of a signed term, as a text.
func TestKeyIsHad(t *testing.T) {
	for _, key := range []api.Term{k, s1, a, node(1, 0, 0, ""), hash(k), pair(k, m), lock(k, m), seal(1, m), sign(1, 3, m)} {
		for _, known := range [][]api.Term{{lock(key, n), key}, {pair(key, lock(key, n))}, {sign(1, 0, pair(lock(key, n), key))}, {sign(2, 0, lock(key, n)), sign(3, 1, key)}} {
			for _, o := range orders(known) {
				what := "a key that is had: " + say(key)
				checkCan(t, what, o, n, true)
				checkAll(t, what, o, n, key, k, m, s1)
			}
		}
	}
}

// P7.1, P7.2: a lock whose key is not had, or another one, or only a digest of it, or what it is the digest of.
func TestKeyIsNotHad(t *testing.T) {
	for _, key := range []api.Term{k, s1, hash(k), pair(k, m), lock(k, m), seal(1, k), sign(1, 3, a)} {
		shut := lock(key, n)
		for _, known := range [][]api.Term{{shut}, {shut, hash(key)}, {shut, lock(n, key)}, {shut, lock(m, key)}, {shut, seal(2, key)}, {shut, lock(key, m), m}, {shut, lock(key, key)}, {pair(shut, shut), a, s2}} {
			what := "a key that is not had: " + say(key)
			checkCan(t, what, known, n, false)
			checkCan(t, what, known, shut, true)
			checkAll(t, what, known, n, key, k, s1)
			parts, _ := close.Parts(known)
			for _, x := range parts {
				if equal(row(x), row(key)) || equal(row(x), row(n)) {
					t.Errorf("%s: it comes out", what)
				}
			}
		}
	}
	// What is locked is no key, nor is the lock.
	checkCan(t, "the body is had", row(lock(k, n), n), k, false)
	checkParts(t, "the body is had", row(lock(k, n), n), lock(k, n), n)
	// A key opens what it locks alone.
	checkCan(t, "another lock", row(lock(k, n), lock(m, s1), m), n, false)
}

// P7.1, P7.2: a key that is had only out of another lock.
func TestKeyOutOfALock(t *testing.T) {
	for _, o := range orders(row(lock(k, m), lock(m, n), k)) {
		checkCan(t, "a key out of a lock", o, n, true)
		checkParts(t, "a key out of a lock", o, k, m, n, lock(k, m), lock(m, n))
		checkAtoms(t, "a key out of a lock", o, k, m, n)
	}
	for _, o := range orders(row(lock(k, m), lock(m, n))) {
		checkCan(t, "a key within a lock", o, n, false)
		checkAtoms(t, "a key within a lock", o)
	}
	checkAtoms(t, "the second one's key alone", row(lock(k, m), lock(m, n), m), m, n)
	for _, o := range orders(row(lock(k, pair(m, lock(hash(m), s1))), lock(s1, seal(1, n)), k)) {
		checkAtoms(t, "a lock within a lock", o, k, m, n, s1)
	}
}

// P7.1, P7.2: a key that is put together out of what is known: it is no part by that.
func TestKeyPutTogether(t *testing.T) {
	for _, q := range []struct {
		key      api.Term
		by, less []api.Term
	}{
		{hash(k), row(k), row(m)},
		{pair(k, m), row(k, m), row(k)},
		{pair(k, a), row(k), nil},
		{pair(k, k), row(k), row(n)},
		{lock(k, m), row(k, m), row(m)},
		{lock(k, m), row(m, k), row(k)},
		{seal(2, k), row(k), row(s2)},
		{sign(2, 9, k), row(k, s2), row(k, s1)},
		{sign(2, 9, k), row(s2, k), row(s2)},
		{sign(2, 9, a), row(s2), row(s1)},
		{hash(hash(hash(k))), row(k), row(m)},
		{pair(hash(pair(k, a)), sign(1, 1, lock(m, s1))), row(s1, m, k), row(m, k)},
	} {
		n := atom(5)
		shut := lock(q.key, n)
		for _, o := range orders(append(row(shut), q.by...)) {
			what := "a key put together: " + say(q.key)
			checkCan(t, what, o, n, true)
			checkParts(t, what, o, append(row(shut, n), q.by...)...)
			checkAll(t, what, o, n, q.key)
		}
		what := "a key that can't be put together: " + say(q.key)
		checkCan(t, what, append(row(shut), q.less...), n, false)
		checkParts(t, what, append(row(shut), q.less...), append(row(shut), q.less...)...)
	}
}

// P7.1, P7.2: what a key is put together of comes out of several locks, one behind the other.
func TestKeyOutOfManyPieces(t *testing.T) {
	known := row(lock(pair(atom(1), hash(pair(atom(2), atom(3)))), n), lock(k, atom(1)), lock(hash(atom(1)), atom(2)), lock(pair(atom(2), atom(1)), atom(3)), k)
	for _, o := range orders(known) {
		checkCan(t, "out of many pieces", o, n, true)
		checkAtoms(t, "out of many pieces", o, k, n, atom(1), atom(2), atom(3))
	}
	for i := range known {
		checkCan(t, "out of all pieces but one", slices.Delete(slices.Clone(known), i, i+1), n, false)
	}
}

// P7.1, P7.2: locks that open one another in a row, in every order, and in long rows forth, back and mixed.
func TestLocksInARow(t *testing.T) {
	key := func(i int) api.Term { return pair(atom(i), a) }
	for _, o := range orders(row(lock(key(0), atom(1)), lock(key(1), atom(2)), lock(key(2), atom(3)), lock(key(3), atom(4)), atom(0))) {
		checkCan(t, "in a row", o, atom(4), true)
		checkAtoms(t, "in a row", o, atom(0), atom(1), atom(2), atom(3), atom(4))
	}
	var forth []api.Term
	for i := range 499 {
		forth = append(forth, lock(key(i), atom(i+1)))
	}
	back := slices.Clone(forth)
	slices.Reverse(back)
	pick := chance(3)
	for _, l := range [][]api.Term{forth, back, few{&pick, 1, 1}.shuffled(forth)} {
		for _, o := range [][]api.Term{append(slices.Clone(l), atom(0)), append(row(atom(0)), l...)} {
			checkCan(t, "in a long row", o, atom(499), true)
			checkAtoms(t, "in a long row", o, many(500)...)
		}
		checkAtoms(t, "in a long row, without the first key", l)
		checkAtoms(t, "in a long row, the key in the middle", append(slices.Clone(l), atom(250)), many(500)[250:]...)
	}
}

// P7.1, P7.2: locks that would have to open one another in a ring open just with a key from elsewhere.
func TestRing(t *testing.T) {
	for size := 1; size < 6; size++ {
		var ring []api.Term
		for i := range size {
			ring = append(ring, lock(hash(atom(i)), atom((i+1)%size)))
		}
		checkAtoms(t, "a ring", ring)
		checkParts(t, "a ring", ring, ring...)
		for i := range size {
			checkCan(t, "a ring", ring, atom(i), false)
			checkAtoms(t, "a ring, and one of its keys", append(row(atom(i)), ring...), many(size)...)
		}
	}
}

// P7.1, P7.2: a lock whose key lies within the lock itself opens just with the key from elsewhere.
func TestKeyWithinItself(t *testing.T) {
	for _, key := range []api.Term{k, hash(k), pair(k, a), seal(2, k), sign(1, 0, k)} {
		for _, body := range []api.Term{key, k, pair(key, n), hash(key), lock(key, n), lock(n, key), sign(1, 0, pair(key, n)), seal(3, pair(key, n))} {
			shut := lock(key, body)
			what := "its key within itself: " + say(shut)
			checkParts(t, what, row(shut), shut)
			checkAtoms(t, what, row(shut))
			checkCan(t, what, row(shut), shut, true)
			checkCan(t, what, row(shut), k, false)
			checkCan(t, what, row(shut), body, false)
			checkAll(t, what, row(shut, key), k, n, body)
			checkCan(t, what, row(shut, key), body, true)
			checkAll(t, what, row(shut, k), k, n, body, key)
		}
	}
	// A lock as its own key's part: it would have to be opened to be opened.
	inner := lock(k, n)
	checkParts(t, "a lock as a key", row(lock(inner, k)), lock(inner, k))
	checkAtoms(t, "a lock as a key", row(lock(inner, k), inner), k, n)
}

// P7.1 to P7.3: a sealed term with its user's secret, without it, and with another user's one.
func TestSealed(t *testing.T) {
	for user := 1; user <= 6; user++ {
		for other := 1; other <= 6; other++ {
			secret, shut := node(3, other, 0, ""), seal(user, n)
			for _, o := range orders(row(secret, shut)) {
				what := fmt.Sprintf("sealed for %d, the secret of %d", user, other)
				checkCan(t, what, o, n, user == other)
				if user == other {
					checkParts(t, what, o, secret, shut, n)
					checkAtoms(t, what, o, n, secret)
				} else {
					checkParts(t, what, o, secret, shut)
					checkAtoms(t, what, o, secret)
				}
				checkCan(t, what, o, seal(other, n), user == other)
				checkCan(t, what, o, shut, true)
			}
		}
		checkCan(t, "sealed by anybody", row(n), seal(user, n), true)
		checkCan(t, "sealed, without what is in it", row(node(3, user, 0, "")), seal(user, n), false)
	}
	for _, known := range [][]api.Term{{seal(1, n), hash(s1)}, {seal(1, n), lock(k, s1)}, {seal(1, n), seal(1, s1)}, {seal(1, n), seal(2, s1)}, {seal(1, pair(n, s1))}, {seal(1, n), sign(1, 0, a)}, {seal(1, n), n}, {seal(1, n), node(2, 1, 0, "")}} {
		checkCan(t, "sealed, without the secret", known, s1, false)
		checkAll(t, "sealed, without the secret", known, n, s1)
	}
	checkAtoms(t, "sealed in what is sealed", row(seal(1, seal(2, n)), s1), s1)
	checkAtoms(t, "sealed in what is sealed", row(seal(1, seal(2, n)), s2), s2)
	checkAtoms(t, "sealed in what is sealed", row(seal(1, seal(2, n)), s2, s1), n, s1, s2)
}

// P7.1 to P7.3: a secret that comes out of a lock, out of what is sealed, out of what is signed.
func TestSecretOutOf(t *testing.T) {
	for _, known := range [][]api.Term{
		{lock(k, s1), k, seal(1, n)}, {lock(hash(k), pair(a, s1)), k, seal(1, n)}, {seal(2, pair(s1, k)), s2, seal(1, n)}, {sign(2, 0, pair(s1, k)), seal(1, n)},
		{lock(k, s2), seal(2, s1), k, seal(1, n)}, {pair(k, pair(lock(sign(1, 4, s2), n), s2)), lock(k, s1)}, {seal(1, lock(k, n)), lock(k, s1), k},
	} {
		for _, o := range orders(known) {
			checkCan(t, "a secret that comes out", o, n, true)
			checkCan(t, "a secret that comes out", o, s1, true)
			checkCan(t, "a secret that comes out", o, sign(1, 5, n), true)
			checkAll(t, "a secret that comes out", o, n, s1, s2, k)
		}
	}
	checkCan(t, "a secret that does not come out", row(lock(k, s1), seal(1, n)), n, false)
	checkCan(t, "a secret in what it opens", row(seal(1, lock(k, s1)), k), s1, false)
}

// P7.1, P7.2: a signed term tells its Kid without any secret.
func TestSigned(t *testing.T) {
	for user := 1; user <= 6; user++ {
		for _, leaf := range []int{0, 1, 255, 256, 65535} {
			known := row(sign(user, leaf, pair(n, lock(n, k))))
			checkParts(t, "signed", known, known[0], known[0].Kids[0], n, lock(n, k), k)
			checkAtoms(t, "signed", known, k, n)
			checkCan(t, "signed", known, node(3, user, 0, ""), false)
		}
	}
}

// P7.2: who has a user's secret signs whatever they can reckon, with any Num; with another user's secret nobody does.
func TestToSign(t *testing.T) {
	for user := 1; user <= 6; user++ {
		for other := 1; other <= 6; other++ {
			for _, leaf := range []int{0, 1, 7, 8, 65535} {
				known := row(node(3, other, 0, ""), k)
				checkCan(t, "to be signed", known, sign(user, leaf, k), user == other)
				checkCan(t, "to be signed", known, sign(user, leaf, a), user == other)
				checkCan(t, "to be signed", known, sign(user, leaf, hash(sign(user, leaf, pair(k, a)))), user == other)
				checkCan(t, "to be signed", known, sign(user, leaf, n), false)
			}
		}
	}
	has := row(sign(1, 3, k))
	checkCan(t, "signed already", has, sign(1, 3, k), true)
	for _, q := range []api.Term{sign(1, 2, k), sign(1, 4, k), sign(2, 3, k), sign(1, 3, a), sign(1, 3, pair(k, a)), sign(1, 3, sign(1, 3, k))} {
		checkCan(t, "signed otherwise", has, q, false)
		checkCan(t, "signed otherwise, with another user's secret", append(row(node(3, 3, 0, "")), has...), q, false)
	}
	checkCan(t, "a signed Kid", row(s1, lock(k, n)), sign(1, 0, lock(k, n)), true)
	checkCan(t, "what was signed, of it", has, pair(k, pair(sign(1, 3, k), hash(sign(1, 3, k)))), true)
}

// P7.1, P7.2: a digest does not tell its Kid, and is told by it.
func TestDigests(t *testing.T) {
	for _, x := range []api.Term{k, s1, pair(k, n), lock(k, n), seal(1, n), sign(1, 0, n), hash(k)} {
		checkParts(t, "a digest", row(hash(x)), hash(x))
		checkCan(t, "a digest", row(hash(x)), x, false)
		checkCan(t, "a digest of a digest", row(hash(x)), hash(hash(x)), true)
		checkCan(t, "a digest of a digest", row(hash(hash(x))), hash(x), false)
		checkCan(t, "a digest of what is known", row(x), hash(x), true)
		checkAtoms(t, "a digest", row(hash(x), hash(hash(x))))
		checkAll(t, "a digest", row(hash(x), s1, s2), x, hash(x), hash(pair(x, x)), pair(hash(x), s2))
	}
	checkAtoms(t, "a digest of a text", row(hash(a)))
}

// P7.1, P7.2: everybody has every text; among the parts stand those alone that are known, or come out.
func TestTexts(t *testing.T) {
	checkParts(t, "a text as a key", row(lock(a, n)), lock(a, n), n)
	checkParts(t, "a key put together of texts", row(lock(pair(a, hash(a)), n)), lock(pair(a, hash(a)), n), n)
	checkParts(t, "a text that comes out", row(pair(a, n)), pair(a, n), a, n)
	checkParts(t, "a text in a lock that is shut", row(lock(k, a)), lock(k, a))
	checkCan(t, "a text in a lock that is shut", row(lock(k, a)), a, true)
	checkParts(t, "a text in a digest", row(hash(a)), hash(a))
	checkAtoms(t, "texts", row(a, node(1, 0, 0, ""), pair(a, a)))
	for c := range 256 {
		checkCan(t, "a text", row(k), node(1, 0, 0, string([]byte{byte(c)})), true)
	}
}

// P7.2: terms that differ in one field alone are not the same.
func TestOneFieldOther(t *testing.T) {
	l := row(k, node(2, 1, 3, ""), node(2, 3, 1, ""), node(2, 1, 257, ""), s1, s2, hash(k), hash(n), seal(1, k), seal(2, k), sign(1, 1, k), sign(1, 2, k), sign(2, 1, k), pair(k, n), pair(n, k), lock(k, n), lock(n, k),
		hash(node(1, 0, 0, "b")), hash(a), hash(node(1, 0, 0, "")), hash(node(1, 0, 0, "ab")), pair(node(1, 0, 0, "a"), node(1, 0, 0, "ab")), pair(node(1, 0, 0, "aa"), node(1, 0, 0, "b")))
	for _, x := range l {
		for _, y := range l {
			checkAll(t, "one field other", row(x), y)
			checkAll(t, "one field other, as a key", row(lock(x, atom(9)), y), atom(9), x)
		}
	}
}
