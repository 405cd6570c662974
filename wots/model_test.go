package wots_test

import (
	"fmt"
	"strconv"
	"testing"

	"safehouse/api"
	"safehouse/sha"
	"safehouse/wots"
)

// What stands here is the chapter's words once more, by other means than the package's, and what the tests are tried on.

// modelDigits are read off m's bytes, and off its check sum, written to the base 16.
func modelDigits(m api.Id) []int {
	l := readDigits(fmt.Sprintf("%x", m))
	sum := 0
	for _, x := range l {
		sum += 15 - x
	}
	return append(l, readDigits(fmt.Sprintf("%03x", sum))...)
}

// readDigits answers what each digit of text is, to the base 16.
func readDigits(text string) []int {
	var l []int
	for k := range text {
		x, err := strconv.ParseInt(text[k:k+1], 16, 8)
		if err != nil {
			panic(err)
		}
		l = append(l, int(x))
	}
	return l
}

// modelStep is the digest of the bytes that the chapter names.
func modelStep(x api.Id, chain, n int) api.Id {
	return sha.Sum([]byte("C" + string([]byte{byte(chain), byte(n)}) + string(x[:])))
}

// modelStart is the digest of the bytes that the chapter names.
func modelStart(seed api.Id, chain int) api.Id {
	return sha.Sum([]byte("S" + string([]byte{byte(chain)}) + string(seed[:])))
}

// modelChain goes from one place to the other one.
func modelChain(x api.Id, chain, from, to int) api.Id {
	if from == to {
		return x
	}
	return modelStep(modelChain(x, chain, from, to-1), chain, to-1)
}

// modelSign shows of each chain the place that m's digit says.
func modelSign(seed, m api.Id) []api.Id {
	var s []api.Id
	for chain, digit := range modelDigits(m) {
		s = append(s, modelChain(modelStart(seed, chain), chain, 0, digit))
	}
	return s
}

// modelRecover is the digest of the bytes that the chapter names: each chain goes on to its end.
func modelRecover(m api.Id, s []api.Id) api.Id {
	row := "K"
	for chain, digit := range modelDigits(m) {
		end := modelChain(s[chain], chain, digit, 15)
		row += string(end[:])
	}
	return sha.Sum([]byte(row))
}

// modelKey is the digest of the bytes that the chapter names, of the ends of a seed's chains.
func modelKey(seed api.Id) api.Id {
	row := "K"
	for chain := range 67 {
		end := modelChain(modelStart(seed, chain), chain, 0, 15)
		row += string(end[:])
	}
	return sha.Sum([]byte(row))
}

// filled answers 32 bytes that are x.
func filled(x byte) api.Id {
	var id api.Id
	for k := range id {
		id[k] = x
	}
	return id
}

// rising answers the bytes 0 to 31.
func rising() api.Id {
	var id api.Id
	for k := range id {
		id[k] = byte(k)
	}
	return id
}

// mixed answers bytes by a rule that other programs can be asked by, too: the byte k is 37 k^2 + 11 k + 5.
func mixed() api.Id {
	var id api.Id
	for k := range id {
		id[k] = byte(37*k*k + 11*k + 5)
	}
	return id
}

// turned answers id, one bit of which is the other way: the bit 0 is the highest one of the first byte.
func turned(id api.Id, bit int) api.Id {
	id[bit/8] ^= 128 >> (bit % 8)
	return id
}

// ids are unlike digests: of noughts alone, of 255 alone, such as differ from them in one bit, and others.
func ids() []api.Id {
	l := []api.Id{filled(0), filled(255), rising(), mixed(), filled(1), filled(15), filled(16), filled(240), filled(128)}
	for _, bit := range []int{0, 3, 4, 7, 128, 248, 251, 252, 255} {
		l = append(l, turned(filled(0), bit), turned(filled(255), bit), turned(mixed(), bit))
	}
	return l
}

// seeds are unlike ones, fewer of them, as a key takes a thousand digests.
func seeds() []api.Id {
	return []api.Id{filled(0), filled(255), rising(), mixed(), turned(filled(0), 255), turned(filled(0), 0)}
}

// junk are 67 digests that no seed has signed with.
func junk() []api.Id {
	l := make([]api.Id, 67)
	for i := range l {
		for j := range l[i] {
			l[i][j] = byte(i + 7*j)
		}
	}
	return l
}

// idOf answers the digest that stands there in digits.
func idOf(t *testing.T, text string) api.Id {
	t.Helper()
	id, err := sha.Parse(text)
	if err != api.OK {
		t.Fatalf("%s is no digest", text)
	}
	return id
}

// checkOnly holds what was answered beside an error: that error, and noughts.
func checkOnly(t *testing.T, what string, id api.Id, err, want api.Errno) {
	t.Helper()
	if err != want || id != (api.Id{}) {
		t.Errorf("%s: %x with the error %d, not noughts with %d", what, id, err, want)
	}
}

// checkIs holds what was answered without an error.
func checkIs(t *testing.T, what string, id api.Id, err api.Errno, want api.Id) {
	t.Helper()
	if err != api.OK || id != want {
		t.Errorf("%s: %x with the error %d, not %x", what, id, err, want)
	}
}

// led answers what a chain leads to that there is.
func led(t *testing.T, x api.Id, chain, from, to int) api.Id {
	t.Helper()
	there, err := wots.Chain(x, chain, from, to)
	if err != api.OK {
		t.Fatalf("the chain %d from %d to %d: error %d", chain, from, to, err)
	}
	return there
}
