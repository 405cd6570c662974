package wots_test

import (
	"fmt"
	"slices"
	"testing"

	"safehouse/api"
	"safehouse/wots"
)

// P6.4: what a seed signs its key verifies.
func TestSignedIsVerified(t *testing.T) {
	for _, seed := range seeds() {
		key := wots.Key(seed)
		for _, m := range ids() {
			s := wots.Sign(seed, m)
			got, err := wots.Recover(m, s)
			checkIs(t, "what a signature leads to", got, err, key)
			if !wots.Verify(key, m, s) {
				t.Errorf("what %x signs of %x is not verified", seed, m)
			}
		}
	}
}

// below tells whether one of a's digits is below b's.
func below(a, b api.Id) bool {
	other := wots.Digits(b)
	for k, x := range wots.Digits(a) {
		if x < other[k] {
			return true
		}
	}
	return false
}

// many are all that differ from noughts, from 255 and from mixed bytes in one bit, and such of every check sum.
func many() []api.Id {
	l := ids()
	for bit := range 256 {
		l = append(l, turned(filled(0), bit), turned(filled(255), bit), turned(mixed(), bit))
	}
	for sum := 0; sum < 961; sum += 7 {
		l = append(l, summing(sum))
	}
	for x := range 256 {
		l = append(l, filled(byte(x)))
	}
	slices.SortFunc(l, func(a, b api.Id) int { return slices.Compare(a[:], b[:]) })
	return slices.Compact(l)
}

// P6.4: of two unlike digests each has a digit that is below the other's.
func TestEachHasOneBelow(t *testing.T) {
	for _, a := range ids() {
		for _, b := range many() {
			if a != b && (!below(a, b) || !below(b, a)) {
				t.Errorf("%x and %x: one has no digit below the other's", a, b)
			}
			if a == b && below(a, b) {
				t.Errorf("%x has a digit below its own", a)
			}
		}
	}
}

// P6.4: from one place to a second one and on to a third one is from the first to the third, step by step, too.
func TestOnAndOn(t *testing.T) {
	for _, chain := range []int{0, 7, 63, 64, 66} {
		x := turned(mixed(), chain)
		for first := range 16 {
			for second := first; second < 16; second++ {
				there := led(t, x, chain, first, second)
				for third := second; third < 16; third++ {
					got, err := wots.Chain(there, chain, second, third)
					checkIs(t, fmt.Sprintf("the chain %d from %d by %d to %d", chain, first, second, third), got, err, led(t, x, chain, first, third))
				}
				if second < 15 {
					got, err := wots.Step(there, chain, second)
					checkIs(t, fmt.Sprintf("the step %d of the chain %d", second, chain), got, err, led(t, x, chain, first, second+1))
				}
			}
		}
	}
}

// stretched answers what comes of a signature of m, if each chain goes on to the place that the digit of another digest says: false if one of them would have to go back.
func stretched(s []api.Id, m, other api.Id) ([]api.Id, bool) {
	digits, to := wots.Digits(m), wots.Digits(other)
	var l []api.Id
	for chain, x := range s {
		there, err := wots.Chain(x, chain, digits[chain], to[chain])
		if err != api.OK {
			return nil, false
		}
		l = append(l, there)
	}
	return l, true
}

// P6.4: who has a signature of m has one of each digest that has no digit below m's: and that is m alone.
func TestNobodyGoesBack(t *testing.T) {
	seed := rising()
	for _, m := range []api.Id{filled(0), filled(255), rising(), mixed(), turned(mixed(), 255)} {
		s := wots.Sign(seed, m)
		for _, other := range ids() {
			l, ok := stretched(s, m, other)
			if ok != (m == other) || ok && !slices.Equal(l, s) {
				t.Errorf("who has a signature of %x has one of %x: %t", m, other, ok)
			}
		}
	}
}

// P6.4: chain by chain, a signature leads on to another one wherever the digit is not below: the check sum alone stands in the way of greater digits.
func TestOneLeadsToAnother(t *testing.T) {
	seed := mixed()
	for _, m := range []api.Id{filled(0), rising(), filled(0x77)} {
		s, digits := wots.Sign(seed, m), wots.Digits(m)
		for _, other := range []api.Id{filled(255), turned(m, 0), turned(m, 255), filled(0x88)} {
			to := wots.Digits(other)
			for chain, want := range wots.Sign(seed, other) {
				if digits[chain] <= to[chain] && led(t, s[chain], chain, digits[chain], to[chain]) != want {
					t.Errorf("the chain %d of %x does not lead to that of %x", chain, m, other)
				}
			}
		}
	}
}

// R5: what is answered hangs on nothing that was asked ahead of it.
func TestAskedAgain(t *testing.T) {
	seed, m := rising(), mixed()
	key, s := wots.Key(seed), wots.Sign(seed, m)
	for _, x := range ids() {
		wots.Step(x, 67, 15)
		wots.Chain(x, 5, 9, 8)
		wots.Recover(x, s[:66])
		wots.Verify(x, x, s)
		if wots.Key(seed) != key || !slices.Equal(wots.Sign(seed, m), s) || !wots.Verify(key, m, s) {
			t.Fatalf("other answers behind %x was asked of", x)
		}
	}
}
