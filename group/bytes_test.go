package group_test

import (
	"slices"
	"strings"
	"testing"

	"safehouse/api"
	"safehouse/group"
)

// groupOf answers the group of 42 bytes, whether it may be or not.
func groupOf(b []byte) api.Group {
	two := func(at int) int { return 256*int(b[at]) + int(b[at+1]) }
	g := api.Group{Number: int(b[0]), Owner: int(b[1]), Epoch: two(2)}
	for place := range 8 {
		g.Places[place] = int(b[4+place])
	}
	for node := 1; node <= 15; node++ {
		g.Nums[node] = two(10 + 2*node)
	}
	return g
}

// checkDecode holds Decode against the chapter's words.
func checkDecode(t *testing.T, b []byte) {
	t.Helper()
	var want api.Group
	wanted := api.ErrShort
	if len(b) >= 42 {
		wanted = api.ErrGroup
	}
	if len(b) == 42 && mayBe(groupOf(b)) {
		want, wanted = groupOf(b), api.OK
	}
	if got, err := group.Decode(b); got != want || err != wanted {
		t.Errorf("Decode(% x): %v, %d, not %v, %d", b, got, err, want, wanted)
	}
}

// P12.5: the bytes of groups, written out, there and back.
func TestBytesWrittenOut(t *testing.T) {
	for _, x := range []struct {
		g    api.Group
		want string
	}{
		{api.Group{Number: 1, Owner: 1}, "\x01\x01" + strings.Repeat("\x00", 40)},
		{api.Group{Number: 3, Owner: 6, Epoch: 65535}, "\x03\x06\xff\xff" + strings.Repeat("\x00", 38)},
		{api.Group{Number: 2, Owner: 5, Epoch: 515, Places: [8]int{6, 0, 0, 0, 0, 0, 0, 4}, Nums: nums(1, 1, 2, 256, 3, 65535, 4, 4, 7, 7, 8, 2056, 15, 3855)},
			"\x02\x05\x02\x03" + "\x06\x00\x00\x00\x00\x00\x00\x04" + "\x00\x01\x01\x00\xff\xff\x00\x04\x00\x00\x00\x00\x00\x07\x08\x08\x00\x00\x00\x00\x00\x00\x00\x00\x00\x00\x00\x00\x0f\x0f"},
	} {
		got, err := group.Encode(x.g)
		if string(got) != x.want || err != api.OK || len(got) != 42 {
			t.Errorf("Encode(%v): % x, %d", x.g, got, err)
		}
		back, err := group.Decode([]byte(x.want))
		if back != x.g || err != api.OK {
			t.Errorf("Decode(% x): %v, %d", x.want, back, err)
		}
	}
}

// P12.5: all groups there and back, with fewer bytes and with more.
func TestBytesThereAndBack(t *testing.T) {
	for g := range everyGroup() {
		b, err := group.Encode(g)
		if string(b) != bytesOf(g) || err != api.OK {
			t.Fatalf("Encode(%v): % x, %d", g, b, err)
		}
		if got, err := group.Decode(b); got != g || err != api.OK {
			t.Fatalf("Decode(% x): %v, %d", b, got, err)
		}
		for n := range b {
			checkDecode(t, b[:n:n])
			checkDecode(t, b[:n])
		}
		for _, more := range []string{"\x00", "\x01", "\xff", strings.Repeat("\x00", 42), string(b)} {
			checkDecode(t, []byte(string(b)+more))
		}
		if t.Failed() {
			return
		}
	}
}

// P12.5: none, 41, 42 and 43 bytes, and very many, of whatever.
func TestDecodeLengths(t *testing.T) {
	checkDecode(t, nil)
	checkDecode(t, []byte{})
	right := bytesOf(laid(1, 1, 1, [8]int{2}, from(1, 1)))
	for _, b := range []string{right, "\x00" + right[1:], "\xff" + right[1:], strings.Repeat("\x00", 42), strings.Repeat("\xff", 42), strings.Repeat("\x01", 42)} {
		for _, n := range []int{1, 2, 3, 4, 11, 12, 40, 41, 42} {
			checkDecode(t, []byte(b[:n]))
		}
		checkDecode(t, []byte(b+"\x00"))
		checkDecode(t, []byte("\x00"+b))
		checkDecode(t, []byte(b+strings.Repeat("\x00", 1<<16)))
	}
	for _, x := range []struct {
		b    string
		want api.Errno
	}{{"", api.ErrShort}, {right[:41], api.ErrShort}, {right, api.OK}, {right + "\x00", api.ErrGroup}, {"\x09" + right[1:41], api.ErrShort}, {"\x09" + right[1:], api.ErrGroup}, {"\x09" + right[1:] + "\x00", api.ErrGroup}} {
		if _, err := group.Decode([]byte(x.b)); err != x.want {
			t.Errorf("%d bytes: %d, not %d", len(x.b), err, x.want)
		}
	}
}

// P12.5: each byte another one: other groups that may be, and bytes of none.
func TestDecodeTurned(t *testing.T) {
	k := 0
	for g := range everyGroup() {
		if k++; k%37 != 0 {
			continue
		}
		b := []byte(bytesOf(g))
		for at := range b {
			for other := range 256 {
				c := slices.Clone(b)
				c[at] = byte(other)
				checkDecode(t, c)
			}
		}
	}
	// Two Nums of one group exchanged, and one of them the other's.
	b := []byte(bytesOf(laid(2, 2, 2, [8]int{1, 2, 3, 0, 4, 0, 0, 5}, from(250, 3))))
	for a := 12; a < 42; a += 2 {
		for c := 12; c < 42; c += 2 {
			x, y := slices.Clone(b), slices.Clone(b)
			copy(x[a:a+2], b[c:c+2])
			copy(y[a:a+2], b[c:c+2])
			copy(y[c:c+2], b[a:a+2])
			checkDecode(t, x)
			checkDecode(t, y)
		}
	}
}

// P12.5: bytes that a fixed rule picks.
func TestDecodePicked(t *testing.T) {
	pick := chance(9)
	for range 20000 {
		b := make([]byte, 40+pick.below(4))
		for k := range b {
			b[k] = byte(pick.below([]int{2, 4, 8, 256}[pick.below(4)]))
		}
		checkDecode(t, b)
	}
}
