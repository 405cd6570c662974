package wots_test

import (
	"fmt"
	"slices"
	"testing"

	"safehouse/api"
	"safehouse/sha"
	"safehouse/wots"
)

// checkSign holds the seed's signature of m against the model's.
func checkSign(t *testing.T, seed, m api.Id) {
	t.Helper()
	if got, want := wots.Sign(seed, m), modelSign(seed, m); !slices.Equal(got, want) {
		t.Errorf("what %x signs of %x: %x, not %x", seed, m, got, want)
	}
}

// joined answers the digest of the digests of s, one behind the other.
func joined(s []api.Id) api.Id {
	var row []byte
	for _, x := range s {
		row = append(row, x[:]...)
	}
	return sha.Sum(row)
}

// P6.3: a key is the digest of the bytes that the chapter names.
func TestKey(t *testing.T) {
	for _, seed := range ids() {
		if got, want := wots.Key(seed), modelKey(seed); got != want {
			t.Errorf("the key of %x: %x, not %x", seed, got, want)
		}
	}
}

// P6.3: keys, signatures and what is recovered, as another program has reckoned them.
func TestKeysWrittenOut(t *testing.T) {
	for _, q := range []struct {
		seed      api.Id
		key       string
		of0, of1  string
		of2, of3  string
		recovered string
	}{
		{filled(0), "84cf475bdbf35fc86011fb27b4827b224fe3df96cacdf83145d85739ef2ab6a7",
			"b1b04c635e8c18ad4dead13b1c77cc5249a2b1cf52eb0de883edb6b8f73711cb", "2d500f42e338c95e804f0d086b741b223f4bae8453d1da723900a518fdb3a99d",
			"c23fe47b672717ae376769aea22f0b2a19738e2bff53e129bd07b48625f3a174", "ea4e3c603bbee422f9d32c26c3c214c885b3beab6029ea798b9fdc2b9e05a264",
			"d7a78c29a54ea3ef2d594bd79435e6f4e64f477697b37b197157a50f3a0d6067"},
		{filled(255), "78c93beff0fd49c39c3357d36a4123b457efc7e07d435e81e644d0456530323e",
			"4f62732e81171f82c5113ddfbf8ad2e8d5d00370329e5c5867f1aee52590f124", "d45ef149dd98e4912b7873ce4e833712099ed80e29f94f0f8011b8997feab4f5",
			"2656668626971440dc9b1edbdcb819271468623ab3c882735d7351f20c251203", "bd42c8352158391a2e79dbee16b3592331ad5a3e963286ac25fbcd84e72bc8e5",
			"94924a8fe4153f4c6f3fa0ce7f729ed3656fdb88607cc966f9a1f120b86c97ed"},
		{rising(), "9ad5c93bd2d464a37235662d934f673a19cd5df3242b72ba187c1b731ad45b43",
			"dce2140e5f9393e9c3694d3a22b2da133c0e4652fcf7806838843760b5934f90", "ad9e3c4f7bd7b2d99fb67b2cc040144e56187f7dd3cff9d2ef423a571a6eb808",
			"046b24a6c7a63bae2dfa35e4377e9338d6caa3b0b05dce1e006f868a8c9e3cfd", "41d208efdc6296c1157afc941034dd9268f2c6d8851513eef8230d58abe35cbf",
			"3ef8d7962955b91bc6171791b7a2f5fb8b0e9e5224b43081c142efcd685b698b"},
		{mixed(), "ba14a233fb5f1191558af1bf62b82d1b8c5e8849eed270f02c294f371c28e9f6",
			"63b50cc1c55c0e932af6a220bdcebef9b9afa2984b212ae1af020543eb3de8aa", "73066f6fe9ddadef63f14d38ab6b2b9ae21c18dd7b41659ca02d1a39993d7951",
			"805027abbead8dfe94cc671b0ede443e44ab209485a654edab8df6ced3f52c5f", "7b56f8cb7798ad27381f6e8209b0c990c439d7212427c0d12e72950c30494e72",
			"9aab10bf82d551e7affd3ff2c532bef54fba91c802b01cf50dec9cdaff7064d3"},
	} {
		if got := wots.Key(q.seed); got != idOf(t, q.key) {
			t.Errorf("the key of %x: %x", q.seed, got)
		}
		for m, want := range map[api.Id]string{filled(0): q.of0, filled(255): q.of1, rising(): q.of2, mixed(): q.of3} {
			if got := joined(wots.Sign(q.seed, m)); got != idOf(t, want) {
				t.Errorf("what %x signs of %x: %x", q.seed, m, got)
			}
		}
		got, err := wots.Recover(q.seed, junk())
		checkIs(t, "what junk leads to", got, err, idOf(t, q.recovered))
	}
}

// P6.3: of noughts the starts of the first 64 chains are shown, of 255 their ends, and of the check sum the other way about.
func TestSignAtTheEnds(t *testing.T) {
	for _, seed := range seeds() {
		none, all := wots.Sign(seed, filled(0)), wots.Sign(seed, filled(255))
		if len(none) != 67 || len(all) != 67 {
			t.Fatalf("%x signs with %d and %d digests", seed, len(none), len(all))
		}
		for chain := range 67 {
			low, high := 0, 15
			if chain >= 64 {
				low, high = []int{3, 12, 0}[chain-64], 0
			}
			start := modelStart(seed, chain)
			if none[chain] != modelChain(start, chain, 0, low) || all[chain] != modelChain(start, chain, 0, high) {
				t.Errorf("%x shows another place of the chain %d", seed, chain)
			}
		}
	}
}

// P6.3: a signature of each place that a digit can say, in each chain; of the last three chains those that a check sum can say.
func TestSignEachPlace(t *testing.T) {
	seed := mixed()
	for x := range 16 {
		checkSign(t, seed, filled(byte(16*x+x)))
		checkSign(t, seed, filled(byte(16*x+15-x)))
	}
	for sum := 0; sum < 961; sum += 31 {
		checkSign(t, seed, summing(sum))
	}
}

// P6.3: unlike seeds, and unlike digests.
func TestSign(t *testing.T) {
	for _, seed := range seeds() {
		for _, m := range ids() {
			checkSign(t, seed, m)
		}
	}
}

// P6.3: Recover of any 67 digests goes on from the place that each digit says.
func TestRecover(t *testing.T) {
	for _, m := range ids() {
		for _, s := range [][]api.Id{junk(), make([]api.Id, 67), slices.Repeat([]api.Id{filled(255)}, 67), wots.Sign(rising(), mixed())} {
			got, err := wots.Recover(m, s)
			checkIs(t, fmt.Sprintf("what is recovered of %x", m), got, err, modelRecover(m, s))
		}
	}
}

// P6.3: Recover of more digests and of fewer; neither does the room behind their end count.
func TestRecoverLengths(t *testing.T) {
	seed, m := mixed(), rising()
	many := slices.Concat(wots.Sign(seed, m), wots.Sign(seed, m), junk())
	lists := [][]api.Id{nil, {}, many[:0], many[67:67], make([]api.Id, 1000), make([]api.Id, 1<<16)}
	for _, n := range []int{1, 2, 3, 32, 63, 64, 65, 66, 68, 69, 128, 134, 201} {
		lists = append(lists, many[:n], make([]api.Id, n))
	}
	for _, s := range lists {
		got, err := wots.Recover(m, s)
		checkOnly(t, fmt.Sprintf("what is recovered of %d digests", len(s)), got, err, api.ErrLong)
		if wots.Verify(wots.Key(seed), m, s) || wots.Verify(api.Id{}, m, s) || wots.Verify(got, filled(0), s) {
			t.Errorf("%d digests are verified", len(s))
		}
	}
	got, err := wots.Recover(m, many[:67])
	checkIs(t, "what is recovered of 67 digests", got, err, wots.Key(seed))
}

// P6.3: Verify tells whether Recover tells that key, and of no other one.
func TestVerify(t *testing.T) {
	for _, m := range []api.Id{filled(0), filled(255), rising(), mixed()} {
		key, err := wots.Recover(m, junk())
		if err != api.OK || !wots.Verify(key, m, junk()) {
			t.Errorf("the key that junk leads to is not verified")
		}
		for bit := range 256 {
			if wots.Verify(turned(key, bit), m, junk()) {
				t.Errorf("a key is verified whose bit %d is turned", bit)
			}
		}
		if wots.Verify(api.Id{}, m, junk()) {
			t.Error("the key of noughts is verified")
		}
	}
}

// P6.3: a signature of which one digest is turned, at its first bit, at its last one, and on the way.
func TestVerifyOneTurned(t *testing.T) {
	for _, m := range []api.Id{filled(0), filled(255), mixed()} {
		seed := rising()
		key, s := wots.Key(seed), wots.Sign(seed, m)
		for chain := range s {
			for _, bit := range []int{0, 3*chain + 7, 255} {
				other := slices.Clone(s)
				other[chain] = turned(other[chain], bit)
				if wots.Verify(key, m, other) {
					t.Errorf("%x: verified, with the bit %d of the digest %d turned", m, bit, chain)
				}
			}
		}
	}
}

// P6.3: a signature of which two digests are changed for one another.
func TestVerifyChanged(t *testing.T) {
	seed, m := rising(), mixed()
	key, s := wots.Key(seed), wots.Sign(seed, m)
	for first := range s {
		for _, second := range []int{(first + 1) % 67, (first + 33) % 67} {
			other := slices.Clone(s)
			other[first], other[second] = other[second], other[first]
			if wots.Verify(key, m, other) {
				t.Errorf("verified, with the digests %d and %d changed for one another", first, second)
			}
		}
	}
	slices.Reverse(s)
	if wots.Verify(key, m, s) {
		t.Error("verified, the last digest first")
	}
}

// P6.3: another seed's key, another seed's signature, another digest, another place of one chain.
func TestVerifyOthers(t *testing.T) {
	seed, m := rising(), mixed()
	key, s := wots.Key(seed), wots.Sign(seed, m)
	if !wots.Verify(key, m, s) {
		t.Error("a signature is not verified")
	}
	for _, other := range append(seeds(), turned(seed, 0), turned(seed, 255), key) {
		if other != seed && (wots.Verify(wots.Key(other), m, s) || wots.Verify(key, m, wots.Sign(other, m))) {
			t.Errorf("the seed %x is taken for another one", other)
		}
	}
	for bit := range 256 {
		if wots.Verify(key, turned(m, bit), s) {
			t.Errorf("verified, of a digest whose bit %d is turned", bit)
		}
	}
	if wots.Verify(seed, m, s) || wots.Verify(m, m, s) || wots.Verify(key, seed, s) || wots.Verify(key, key, s) {
		t.Error("verified, of what is no key of it, or no digest")
	}
	for chain, digit := range modelDigits(m) {
		other := slices.Clone(s)
		if digit < 15 {
			other[chain] = modelStep(s[chain], chain, digit)
		} else {
			other[chain] = modelChain(modelStart(seed, chain), chain, 0, 14)
		}
		if wots.Verify(key, m, other) {
			t.Errorf("verified, with another place of the chain %d", chain)
		}
	}
}

// R3, P6.3: neither digests that are handed in nor the room behind their end are written to, and what is done to them later changes no answer.
func TestHandedInIsKept(t *testing.T) {
	seed, m := rising(), mixed()
	room := slices.Concat(wots.Sign(seed, m), junk())
	before := slices.Clone(room)
	s := room[:67]
	key, err := wots.Recover(m, s)
	checkIs(t, "what is recovered", key, err, wots.Key(seed))
	if !wots.Verify(key, m, s) {
		t.Error("a signature is not verified")
	}
	if !slices.Equal(room, before) {
		t.Error("what was handed in is changed")
	}
	clear(s)
	if key != modelKey(seed) || wots.Verify(key, m, s) || !wots.Verify(key, m, before[:67]) {
		t.Error("what was handed in is kept")
	}
}

// R3, P6.3: a signature is memory of its own: who changes one changes no other one.
func TestSignaturesAreOwn(t *testing.T) {
	seed, m := rising(), mixed()
	first, second := wots.Sign(seed, m), wots.Sign(seed, m)
	key := wots.Key(seed)
	clear(first)
	_ = append(first, first...)
	want := modelSign(seed, m)
	if !slices.Equal(second, want) || !slices.Equal(wots.Sign(seed, m), want) || wots.Key(seed) != key || !wots.Verify(key, m, second) {
		t.Error("a signature is not in memory of its own")
	}
}
