package term_test

import (
	"bytes"
	"fmt"
	"slices"
	"strings"
	"testing"

	"safehouse/api"
	"safehouse/term"
)

// P5.2: the bytes of each Kind, and of the document's examples, written out.
func TestEncodeWrittenOut(t *testing.T) {
	long := strings.Repeat("q", 64)
	for _, x := range []struct {
		t    api.Term
		want string
	}{
		{said(""), "\x01\x00"},
		{said("hi"), "\x01\x02hi"},
		{said("\x00\xff"), "\x01\x02\x00\xff"},
		{said(long), "\x01\x40" + long},
		{node(2, 1, 0, ""), "\x02\x01\x00\x00"},
		{node(2, 3, 515, ""), "\x02\x03\x02\x03"},
		{node(2, 6, 65535, ""), "\x02\x06\xff\xff"},
		{node(3, 1, 0, ""), "\x03\x01"},
		{node(3, 6, 0, ""), "\x03\x06"},
		{node(4, 0, 0, "", said("a"), node(3, 2, 0, "")), "\x04\x01\x01a\x03\x02"},
		{node(5, 0, 0, "", said("b")), "\x05\x01\x01b"},
		{node(6, 0, 0, "", node(2, 1, 2, ""), said("hi")), "\x06\x02\x01\x00\x02\x01\x02hi"},
		{node(7, 4, 0, "", said("c")), "\x07\x04\x01\x01c"},
		{node(8, 5, 0x0708, "", said("d")), "\x08\x05\x07\x08\x01\x01d"},
		{node(8, 6, 65535, "", node(7, 1, 0, "", node(5, 0, 0, "", node(2, 2, 1, "")))), "\x08\x06\xff\xff\x07\x01\x05\x02\x02\x00\x01"},
		{node(4, 0, 0, "", node(4, 0, 0, "", said(""), said("x")), node(4, 0, 0, "", said("y"), said(""))), "\x04\x04\x01\x00\x01\x01x\x04\x01\x01y\x01\x00"},
	} {
		got, err := term.Encode(x.t)
		if string(got) != x.want || err != api.OK {
			t.Errorf("Encode(%v): % x, %d, not % x", x.t, got, err, x.want)
		}
		back, n, err := term.Decode([]byte(x.want))
		if !equal(back, x.t) || n != len(x.want) || err != api.OK {
			t.Errorf("Decode(% x): %v, %d, %d, not %v", x.want, back, n, err, x.t)
		}
	}
}

// P5.2: bytes that are none of a term, written out.
func TestDecodeWrittenOut(t *testing.T) {
	hashes := func(n int) string { return strings.Repeat("\x05", n) }
	for _, x := range []struct {
		b    string
		want api.Errno
	}{
		{"", api.ErrShort},
		{"\x00", api.ErrTerm}, {"\x09", api.ErrTerm}, {"\xff", api.ErrTerm}, {"\x00\x01\x00", api.ErrTerm},
		{"\x01", api.ErrShort}, {"\x01\x40", api.ErrShort}, {"\x01\x41", api.ErrTerm}, {"\x01\xff", api.ErrTerm}, {"\x01\x02a", api.ErrShort},
		{"\x01\x41" + strings.Repeat("a", 65), api.ErrTerm}, {"\x01\x40" + strings.Repeat("a", 63), api.ErrShort},
		{"\x02", api.ErrShort}, {"\x02\x00", api.ErrTerm}, {"\x02\x07", api.ErrTerm}, {"\x02\x01", api.ErrShort}, {"\x02\x01\x00", api.ErrShort}, {"\x02\xff\x00\x00", api.ErrTerm},
		{"\x03", api.ErrShort}, {"\x03\x00", api.ErrTerm}, {"\x03\x07", api.ErrTerm}, {"\x03\xff", api.ErrTerm},
		{"\x04", api.ErrShort}, {"\x04\x01\x00", api.ErrShort}, {"\x04\x01\x00\x00", api.ErrTerm}, {"\x04\x01\x00\x01", api.ErrShort}, {"\x04\x09\x01\x00", api.ErrTerm},
		{"\x05", api.ErrShort}, {"\x05\x03\x07", api.ErrTerm}, {"\x05\x00", api.ErrTerm},
		{"\x06\x02\x01\x00\x02", api.ErrShort}, {"\x06\x02\x01\x00\x02\x0a", api.ErrTerm},
		{"\x07", api.ErrShort}, {"\x07\x01", api.ErrShort}, {"\x07\x00", api.ErrTerm}, {"\x07\x07", api.ErrTerm},
		{"\x08", api.ErrShort}, {"\x08\x06", api.ErrShort}, {"\x08\x06\x00", api.ErrShort}, {"\x08\x06\x00\x00", api.ErrShort}, {"\x08\x00", api.ErrTerm}, {"\x08\x07\x00", api.ErrTerm},
		{"\x04\x01\x41\x00", api.ErrTerm}, {"\x04\x01\x02a", api.ErrShort},
		// At the depth 60 a digest's Kind may stand; the next byte is the first one that is too deep.
		{hashes(59), api.ErrShort}, {hashes(60), api.ErrShort}, {hashes(61), api.ErrTerm}, {hashes(60) + "\x01", api.ErrTerm}, {hashes(60) + "\x01\x00", api.ErrTerm}, {hashes(59) + "\x01", api.ErrShort},
		{hashes(2000), api.ErrTerm},
	} {
		got, n, err := term.Decode([]byte(x.b))
		if !equal(got, api.Term{}) || n != 0 || err != x.want {
			t.Errorf("Decode(% x): %v, %d, %d, not %d", x.b, got, n, err, x.want)
		}
		checkBytes(t, "written out", []byte(x.b))
	}
	if got, n, err := term.Decode([]byte(hashes(59) + "\x01\x00\x05")); err != api.OK || n != 61 || depthOf(got) != 60 {
		t.Errorf("a term of depth 60: %d, %d", n, err)
	}
	if _, n, err := term.Decode(nil); n != 0 || err != api.ErrShort {
		t.Errorf("Decode of nil: %d, %d", n, err)
	}
}

// P5.2, P5.4: Decode of Encode is the term, whatever stands behind; each beginning is too short; Encode of Decode are the bytes.
func TestThereAndBack(t *testing.T) {
	for _, x := range terms() {
		b, err := term.Encode(x)
		if err != api.OK {
			t.Fatalf("Encode(%v): %d", x, err)
		}
		for _, more := range []string{"", "\x00", "\xff", "\x01", string(b)} {
			got, n, err := term.Decode([]byte(string(b) + more))
			if !equal(got, x) || !term.Same(got, x) || n != len(b) || err != api.OK {
				t.Errorf("Decode(% x, and % x): %v, %d, %d", b, more, got, n, err)
			}
			if again, err := term.Encode(got); !bytes.Equal(again, b) || err != api.OK {
				t.Errorf("Encode of that: % x, %d, not % x", again, err, b)
			}
		}
		step := 1 + len(b)/400
		for k := 0; k < len(b); k += step {
			got, n, err := term.Decode(b[:k:k])
			if !equal(got, api.Term{}) || n != 0 || err != api.ErrShort {
				t.Errorf("Decode(% x), of % x: %v, %d, %d", b[:k], b, got, n, err)
			}
		}
		if _, _, err := term.Decode(b[:len(b)-1]); err != api.ErrShort {
			t.Errorf("all but the last byte of % x: %d", b, err)
		}
	}
}

// P5.2: the bytes of terms of each size and depth around the greatest ones, and each beginning of them.
func TestDecodeTooGreat(t *testing.T) {
	l := []api.Term{chain(59), chain(60), chain(61), chain(62), chain(200), bush(1199), bush(1200), bush(1201), bush(1202), bush(3000)}
	for _, more := range []int{-1, 0, 1, 2} {
		l = append(l, node(4, 0, 0, "", chain(59), bush(1140+more)), node(6, 0, 0, "", bush(1140+more), chain(59)), node(6, 0, 0, "", said("k"), chain(59+more)))
	}
	for _, x := range l {
		b := []byte(bytesOf(x))
		for k := 0; k <= len(b); k += 1 + len(b)/1500 {
			checkBytes(t, fmt.Sprintf("%d of %d bytes", k, len(b)), b[:k:k])
		}
		checkBytes(t, "all of it", b)
		if _, n, err := term.Decode(b); (err == api.OK) != mayBe(x) || mayBe(x) && n != len(b) {
			t.Errorf("size %d, depth %d: %d bytes, %d", sizeOf(x), depthOf(x), n, err)
		}
	}
}

// P5.2: of the term that would have one part too many the first byte of that part is the one that is wrong.
func TestDecodeWhereTooGreat(t *testing.T) {
	// 1199 parts, and of the two Kids that stand last the first one; the second one is too many.
	x := node(4, 0, 0, "", bush(1198), node(4, 0, 0, "", said("a"), said("b")))
	b := bytesOf(x)
	last := len(b) - len("\x01\x01b")
	for _, y := range []struct {
		n    int
		want api.Errno
	}{{last - 4, api.ErrShort}, {last - 3, api.ErrShort}, {last - 2, api.ErrTerm}, {last, api.ErrTerm}, {len(b), api.ErrTerm}} {
		if _, _, err := term.Decode([]byte(b[:y.n])); err != y.want {
			t.Errorf("%d of %d bytes: %d, not %d", y.n, len(b), err, y.want)
		}
	}
}

// P5.2: each first byte, alone and with others behind it.
func TestDecodeFirstByte(t *testing.T) {
	for first := range 256 {
		for second := range 256 {
			for _, more := range []string{"", "\x00", "\x01\x00", "\x02\x01\x00\x00\x01\x00", strings.Repeat("\x01", 70)} {
				checkBytes(t, "two bytes", []byte(string([]byte{byte(first), byte(second)})+more))
			}
		}
		checkBytes(t, "one byte", []byte{byte(first)})
	}
}

// P5.2, P5.4: bytes of terms of which one is turned, at the first place, at the last one, and at all between; what comes is another term, or none.
func TestDecodeTurned(t *testing.T) {
	for _, x := range append(terms(), chain(60)) {
		b := []byte(bytesOf(x))
		for at := 0; at < len(b); at += 1 + len(b)/50 {
			for _, turn := range []byte{1, 2, 4, 8, 128, 255} {
				c := slices.Clone(b)
				c[at] ^= turn
				checkBytes(t, fmt.Sprintf("turned at %d", at), c)
			}
		}
		c := slices.Clone(b)
		c[len(c)-1] ^= 1
		checkBytes(t, "turned at the end", c)
		if got, _, err := term.Decode(c); err == api.OK && (term.Same(got, x) || term.Less(got, x) == term.Less(x, got)) {
			t.Errorf("% x turned at the end is the same", b)
		}
	}
}

// P5.2: bytes that a fixed rule picks, most of them such as terms have.
func TestDecodePicked(t *testing.T) {
	pick := chance(3)
	for range 30000 {
		b := make([]byte, pick.below(40))
		for k := range b {
			b[k] = byte(pick.below([]int{9, 10, 70, 256}[pick.below(4)]))
		}
		checkBytes(t, "picked", b)
	}
}

// P5.4: unlike terms have unlike bytes, and no one's bytes begin with another one's.
func TestNoneBeginsWithAnother(t *testing.T) {
	l := terms()
	rows := make([]string, len(l))
	for k, x := range l {
		b, _ := term.Encode(x)
		rows[k] = string(b)
	}
	for i, a := range rows {
		for j, b := range rows {
			if i != j && strings.HasPrefix(a, b) {
				t.Errorf("the bytes % x begin with % x", a, b)
			}
		}
	}
}

// R3: what Encode and Decode answer is memory of its own, whatever the caller does with it, or with what was handed in.
func TestBytesAreNew(t *testing.T) {
	x := node(4, 0, 0, "", node(5, 0, 0, "", said("abc")), node(5, 0, 0, "", said("abc")))
	first, _ := term.Encode(x)
	second, _ := term.Encode(x)
	clear(first[:cap(first)])
	if string(second) != bytesOf(x) {
		t.Errorf("two answers of Encode share memory: % x", second)
	}
	third, _ := term.Encode(x)
	x.Kids[0].Kids[0].Text = "x"
	if !bytes.Equal(third, second) {
		t.Error("a term that was changed changed its bytes")
	}
	got, _, _ := term.Decode(second)
	other, _, _ := term.Decode(second)
	clear(second)
	if string(third) != bytesOf(got) {
		t.Error("bytes that were changed changed the term")
	}
	got.Kids[0].Kids[0] = said("new")
	got.Kids[1] = said("new")
	if string(third) != bytesOf(other) {
		t.Error("two answers of Decode share memory")
	}
	_ = append(got.Kids[:1], said("behind"))
	if again, _, _ := term.Decode(third); string(third) != bytesOf(again) {
		t.Error("an answer that was changed changed the next one")
	}
}

// R3: Decode neither changes nor reads the room behind the end of what it is handed.
func TestDecodeRoom(t *testing.T) {
	b := []byte("\x04\x01\x01a\x01\x01b\x05\x05")
	for k := range 7 {
		if _, _, err := term.Decode(b[:k]); err != api.ErrShort {
			t.Errorf("%d bytes: %d", k, err)
		}
	}
	if string(b) != "\x04\x01\x01a\x01\x01b\x05\x05" {
		t.Errorf("changed: % x", b)
	}
}
