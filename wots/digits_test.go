package wots_test

import (
	"fmt"
	"slices"
	"testing"

	"safehouse/api"
	"safehouse/wots"
)

// checkDigits holds the digits of m against the model's.
func checkDigits(t *testing.T, m api.Id) {
	t.Helper()
	if got, want := wots.Digits(m), modelDigits(m); !slices.Equal(got, want) {
		t.Errorf("the digits of %x: %v, not %v", m, got, want)
	}
}

// P6.1: digits of noughts alone, and of 255 alone.
func TestDigitsAtTheEnds(t *testing.T) {
	none := append(make([]int, 64), 3, 12, 0)
	if got := wots.Digits(filled(0)); !slices.Equal(got, none) {
		t.Errorf("the digits of noughts: %v", got)
	}
	all := append(slices.Repeat([]int{15}, 64), 0, 0, 0)
	if got := wots.Digits(filled(255)); !slices.Equal(got, all) {
		t.Errorf("the digits of bytes 255: %v", got)
	}
}

// P6.1: of each byte the higher digit stands first, of the bytes the first one, of the check sum the highest digit.
func TestDigitsWrittenOut(t *testing.T) {
	rise := []int{
		0, 0, 0, 1, 0, 2, 0, 3, 0, 4, 0, 5, 0, 6, 0, 7, 0, 8, 0, 9, 0, 10, 0, 11, 0, 12, 0, 13, 0, 14, 0, 15,
		1, 0, 1, 1, 1, 2, 1, 3, 1, 4, 1, 5, 1, 6, 1, 7, 1, 8, 1, 9, 1, 10, 1, 11, 1, 12, 1, 13, 1, 14, 1, 15,
		2, 12, 0,
	}
	mix := []int{
		0, 5, 3, 5, 10, 15, 7, 3, 8, 1, 13, 9, 7, 11, 6, 7, 9, 13, 1, 13, 14, 7, 15, 11, 5, 9, 0, 1, 15, 3, 2, 15,
		11, 5, 8, 5, 9, 15, 0, 3, 11, 1, 10, 9, 14, 11, 7, 7, 4, 13, 6, 13, 13, 7, 8, 11, 8, 9, 13, 1, 6, 3, 3, 15,
		1, 12, 10,
	}
	if got := wots.Digits(rising()); !slices.Equal(got, rise) {
		t.Errorf("the digits of the bytes 0 to 31: %v", got)
	}
	if got := wots.Digits(mixed()); !slices.Equal(got, mix) {
		t.Errorf("the digits of mixed bytes: %v", got)
	}
}

// P6.1: each bit of m stands in its digit, and lowers the check sum.
func TestDigitsOfOneBit(t *testing.T) {
	for bit := range 256 {
		worth := 8 >> (bit % 4)
		want := make([]int, 67)
		want[bit/4] = worth
		want[64], want[65], want[66] = (960-worth)/256, (960-worth)/16%16, (960-worth)%16
		if got := wots.Digits(turned(filled(0), bit)); !slices.Equal(got, want) {
			t.Errorf("the digits of the bit %d: %v, not %v", bit, got, want)
		}
		checkDigits(t, turned(filled(255), bit))
	}
}

// P6.1: each byte at each place.
func TestDigitsOfOneByte(t *testing.T) {
	for place := range 32 {
		for x := range 256 {
			m := mixed()
			m[place] = byte(x)
			checkDigits(t, m)
		}
	}
}

// summing answers a digest whose check sum is that, from 0 to 960.
func summing(sum int) api.Id {
	m := filled(255)
	for k := range m {
		high := min(sum, 15)
		low := min(sum-high, 15)
		m[k] -= byte(16*high + low)
		sum -= high + low
	}
	return m
}

// P6.1: every check sum from 0 to 960.
func TestCheckSums(t *testing.T) {
	for sum := range 961 {
		m := summing(sum)
		want := readDigits(fmt.Sprintf("%03x", sum))
		if got := wots.Digits(m); len(got) != 67 || !slices.Equal(got[64:], want) {
			t.Errorf("the check sum %d of %x: %v, not %v behind 64", sum, m, got, want)
		}
		checkDigits(t, m)
	}
}

// P6.1: there are as many as there are chains, and each is a place of its chain.
func TestDigitsArePlaces(t *testing.T) {
	for _, m := range ids() {
		l := wots.Digits(m)
		if len(l) != api.MaxChain {
			t.Errorf("%x has %d digits", m, len(l))
		}
		for k, x := range l {
			if x < 0 || x > api.MaxStep {
				t.Errorf("the digit %d of %x is %d", k, m, x)
			}
		}
	}
}

// R3, P6.1: who changes digits that were answered changes none that are answered next, and none that were.
func TestDigitsAreOwn(t *testing.T) {
	m := mixed()
	first, second := wots.Digits(m), wots.Digits(m)
	clear(first)
	_ = append(first, first...)
	if want := modelDigits(m); !slices.Equal(second, want) || !slices.Equal(wots.Digits(m), want) {
		t.Error("digits are not in memory of their own")
	}
}
