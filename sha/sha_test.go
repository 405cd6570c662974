package sha_test

import (
	"bytes"
	"slices"
	"strings"
	"testing"
	"unicode/utf8"

	"safehouse/api"
	"safehouse/sha"
)

// rowOf answers n bytes by a rule that other programs can be asked by, too: the byte i is 3 i^2 + 7 i + 1.
func rowOf(n int) []byte {
	b := make([]byte, n)
	for i := range b {
		b[i] = byte(3*i*i + 7*i + 1)
	}
	return b
}

// idOf answers the digest whose first bytes are these.
func idOf(l ...byte) api.Id {
	var id api.Id
	copy(id[:], l)
	return id
}

// with answers a digest that has x at the place i.
func with(id api.Id, i int, x byte) api.Id {
	id[i] = x
	return id
}

// lastBytes answers x in the 8 bytes at the end of a row that was filled up.
func lastBytes(x uint64) []byte {
	var b []byte
	for k := range 8 {
		b = append(b, byte(x>>(56-8*k)))
	}
	return b
}

// checkPad holds what b is filled up to against what the chapter says, byte by byte.
func checkPad(t *testing.T, b []byte) {
	t.Helper()
	want := append(bytes.Clone(b), 128)
	for (len(want)+8)%64 != 0 {
		want = append(want, 0)
	}
	want = append(want, lastBytes(8*uint64(len(b)))...)
	if got := sha.Pad(b); !bytes.Equal(got, want) {
		t.Errorf("Pad of %d bytes: % x, not % x", len(b), got, want)
	}
}

// P3.2: the lengths at which one more block begins, just ahead of them and behind them.
func TestPadLengths(t *testing.T) {
	for _, x := range []struct{ n, want int }{
		{0, 64}, {1, 64}, {54, 64}, {55, 64},
		{56, 128}, {57, 128}, {63, 128}, {64, 128}, {65, 128}, {118, 128}, {119, 128},
		{120, 192}, {127, 192}, {128, 192}, {183, 192}, {184, 256},
		{1<<16 - 9, 1 << 16}, {1<<16 - 8, 1<<16 + 64},
	} {
		if got := len(sha.Pad(rowOf(x.n))); got != x.want {
			t.Errorf("Pad of %d bytes has %d, not %d", x.n, got, x.want)
		}
	}
}

// P3.2: behind the bytes stand 128, noughts and the count, whatever the bytes are.
func TestPadBytes(t *testing.T) {
	checkPad(t, nil)
	for n := range 300 {
		checkPad(t, rowOf(n))
		checkPad(t, make([]byte, n))
		checkPad(t, bytes.Repeat([]byte{255}, n))
		checkPad(t, bytes.Repeat([]byte{128}, n))
	}
	for _, n := range []int{8191, 8192, 1 << 16, 1<<21 - 1, 1 << 21, 1<<21 + 1} {
		checkPad(t, rowOf(n))
	}
}

// P3.2: two rows that are filled up, written out.
func TestPadWrittenOut(t *testing.T) {
	empty := append([]byte{128}, make([]byte, 63)...)
	for _, b := range [][]byte{nil, {}} {
		if got := sha.Pad(b); !bytes.Equal(got, empty) {
			t.Errorf("nothing, filled up: % x", got)
		}
	}
	abc := append(append([]byte{97, 98, 99, 128}, make([]byte, 59)...), 24)
	if got := sha.Pad([]byte("abc")); !bytes.Equal(got, abc) {
		t.Errorf("abc, filled up: % x", got)
	}
}

// checkSum holds a digest against one known from elsewhere.
func checkSum(t *testing.T, what string, b []byte, want string) {
	t.Helper()
	if got := sha.Text(sha.Sum(b)); got != want {
		t.Errorf("the digest of %q: %s, not %s", what, got, want)
	}
}

// P3.2: digests of texts that others have told, too.
func TestSumTexts(t *testing.T) {
	for _, x := range []struct{ text, want string }{
		{"", "e3b0c44298fc1c149afbf4c8996fb92427ae41e4649b934ca495991b7852b855"},
		{"a", "ca978112ca1bbdcafac231b39a23dc4da786eff8147c4e72b9807785afee48bb"},
		{"abc", "ba7816bf8f01cfea414140de5dae2223b00361a396177a9cb410ff61f20015ad"},
		{"message digest", "f7846f55cf23e14eebeab5b4e1550cad5b509e3348fbc4efa3a1413d393cb650"},
		{"\xbd", "68325720aabd7c82f30f554b313d0570c95accbb7dc4b5aae11204c08ffe732b"},
		{"\xc9\x8c\x8e\x55", "7abc22c0ae5af26ce93dbb94433a0e0b2e119d014f8e7f65bd56c61ccccd9504"},
		{"The quick brown fox jumps over the lazy dog", "d7a8fbb307d7809469ca9abcb0082e4f8d5651e46d3cdb762d02d0bf37c9e592"},
		{"abcdbcdecdefdefgefghfghighijhijkijkljklmklmnlmnomnopnopq", "248d6a61d20638b8e5c026930c3e6039a33ce45964ff2167f6ecedd419db06c1"},
		{"abcdefghbcdefghicdefghijdefghijkefghijklfghijklmghijklmnhijklmnoijklmnopjklmnopqklmnopqrlmnopqrsmnopqrstnopqrstu", "cf5b16a778af8380036ce59e7b0492370b249b11e8f07a51afac45037afee9d1"},
		{strings.Repeat("a", 1000000), "cdc76e5c9914fb9281a1c7e284d73e67f1809a48a497200e046d39ccc7112cd0"},
		{strings.Repeat("\x00", 32), "66687aadf862bd776c8fc18b8e9f8e20089714856ee233b3902a591d0d5f2925"},
		{strings.Repeat("\xff", 64), "8667e718294e9e0df1d30600ba3eeb201f764aad2dad72748643e4a285e1d1f7"},
	} {
		checkSum(t, x.text[:min(len(x.text), 20)], []byte(x.text), x.want)
	}
}

// P3.2: digests of rows about the lengths at which a block begins, and of all lengths up to 300 at once.
func TestSumLengths(t *testing.T) {
	for _, x := range []struct {
		n    int
		want string
	}{
		{0, "e3b0c44298fc1c149afbf4c8996fb92427ae41e4649b934ca495991b7852b855"},
		{1, "4bf5122f344554c53bde2ebb8cd2b7e3d1600ad631c385a5d7cce23c7785459a"},
		{55, "e40eb3dba50307585c52175967b9eae9ceb91ddd3783940c53f57a9fb9a4fe17"},
		{56, "127211199b48ba07d62ccafefda82088c741bc3cd345e84076fd02762c17a0b6"},
		{63, "4dde33e1a0c2fc0c60458865e80198a13fc3da974b4dea17ff2630d63f745bcf"},
		{64, "219f213b00f38693f259d567238361dca8339b0e1fa8a459a27b04c93fdbdb85"},
		{65, "60b52f772e664f36f9216d01bdc443bcbd61f5625e5873698e9374e6d66325fd"},
		{119, "d146cb83f7108b0bd8611d1642c04965f085798eb043848326f6ce8077facb15"},
		{120, "ce85a3088ba81ee36324465d740d10ae4ad8c1d6227f5ac05f0cce9c528cab27"},
		{127, "70b17025c9026dcbf2ff9bb52f311acfa78ef67b65e3177f512c8a8f1a1cb759"},
		{128, "7b81f7949dc06902ba2e95615f0596451b874d9917f6bf078bf31dbcb39f5473"},
		{129, "d15117c3dae16c178e1e1d62144efb16103366f2366e6f9ea99d29186740b077"},
		{1000, "a60b4c3328412209055ed991188bab5109545fc6a362a24372feb57b341c1f35"},
	} {
		checkSum(t, "a row", rowOf(x.n), x.want)
	}
	var all []byte
	for n := range 300 {
		id := sha.Sum(rowOf(n))
		all = append(all, id[:]...)
	}
	checkSum(t, "all digests", all, "58791bc803974b2aa061edd0da9e7175b8071668a275a362b812387dacde3170")
}

// P3.4: the digest is what comes of the blocks of Pad, one behind the other, from the start on.
func TestSumOfBlocks(t *testing.T) {
	for n := range 400 {
		b := rowOf(n)
		h := sha.Start()
		for rest := sha.Pad(b); len(rest) > 0; rest = rest[64:] {
			h = sha.Block(h, [64]byte(rest))
		}
		var want []byte
		for _, x := range h {
			want = append(want, lastBytes(uint64(x))[4:]...)
		}
		if got := sha.Sum(b); !bytes.Equal(got[:], want) {
			t.Errorf("the digest of %d bytes: % x, not % x", n, got, want)
		}
	}
}

// alikeRows are rows that a careless filling up would make alike: noughts, 128 and counts at their ends.
func alikeRows() [][]byte {
	l := [][]byte{nil}
	for _, n := range []int{0, 1, 53, 54, 55, 56, 62, 63, 64, 65, 118, 119, 120, 128} {
		for _, end := range [][]byte{{}, {0}, {128}, {0, 0}, {128, 0}, {0, 128}, {0, 8}, {128, 128}} {
			l = append(l, append(rowOf(n), end...), append(make([]byte, n), end...))
		}
		l = append(l, sha.Pad(rowOf(n)), append(rowOf(64), sha.Pad(rowOf(n))...), sha.Pad(sha.Pad(rowOf(n))))
	}
	slices.SortFunc(l, bytes.Compare)
	return slices.CompactFunc(l, bytes.Equal)
}

// P3.4: unlike bytes are unlike when they are filled up, and neither is then the other one's end.
func TestPadUnlike(t *testing.T) {
	l := alikeRows()
	for i, a := range l {
		for j, b := range l {
			if i != j && bytes.HasSuffix(sha.Pad(a), sha.Pad(b)) {
				t.Errorf("% x, filled up, ends with % x, filled up", a, b)
			}
		}
	}
}

// R3, P3.2: neither a row nor the room behind its end is written to, nor does that room count; what is answered is memory of its own.
func TestRowsAreKept(t *testing.T) {
	for _, n := range []int{0, 1, 55, 56, 63, 64, 65, 130} {
		room := rowOf(300)
		b := room[:n]
		sum, first, second := sha.Sum(b), sha.Pad(b), sha.Pad(b)
		if !bytes.Equal(room, rowOf(300)) {
			t.Errorf("%d bytes: what was handed in is changed: % x", n, room)
		}
		if sum != sha.Sum(bytes.Clone(b)) {
			t.Errorf("%d bytes: the room behind them counts", n)
		}
		clear(first)
		if !bytes.Equal(room, rowOf(300)) {
			t.Errorf("%d bytes: what was answered is what was handed in", n)
		}
		clear(b)
		if !bytes.HasPrefix(second, rowOf(n)) || sha.Sum(rowOf(n)) != sum {
			t.Errorf("%d bytes: what is done to them, or to an answer, changes another answer", n)
		}
		checkPad(t, rowOf(n))
	}
}

// P3.3: digests in digits, written out.
func TestText(t *testing.T) {
	for _, x := range []struct {
		id   api.Id
		want string
	}{
		{api.Id{}, strings.Repeat("0", 64)},
		{api.Id(bytes.Repeat([]byte{255}, 32)), strings.Repeat("f", 64)},
		{idOf(0x01, 0x23, 0x45, 0x67, 0x89, 0xab, 0xcd, 0xef), "0123456789abcdef" + strings.Repeat("0", 48)},
		{idOf(0x10, 0x0f), "100f" + strings.Repeat("0", 60)},
		{with(api.Id{}, 31, 0xa5), strings.Repeat("0", 62) + "a5"},
	} {
		if got := sha.Text(x.id); got != x.want {
			t.Errorf("Text(% x): %s, not %s", x.id, got, x.want)
		}
		if got, err := sha.Parse(x.want); got != x.id || err != api.OK {
			t.Errorf("Parse(%s): % x, %d", x.want, got, err)
		}
	}
}

// P3.4: digits lead to their digest, and a digest to its digits: each byte, at each place.
func TestTextThereAndBack(t *testing.T) {
	const digits = "0123456789abcdef"
	for i := range 32 {
		for x := range 256 {
			id := with(sha.Sum(rowOf(i)), i, byte(x))
			text := sha.Text(id)
			if len(text) != 64 || text[2*i] != digits[x/16] || text[2*i+1] != digits[x%16] {
				t.Fatalf("Text(% x): %q", id, text)
			}
			if got, err := sha.Parse(text); got != id || err != api.OK {
				t.Fatalf("Parse(%q): % x, %d", text, got, err)
			}
		}
	}
}

// checkNoId asks for a text that is no digest.
func checkNoId(t *testing.T, s string) {
	t.Helper()
	if id, err := sha.Parse(s); err != api.ErrId || id != (api.Id{}) {
		t.Errorf("Parse(%q): % x, %d", s, id, err)
	}
}

// P3.3: other counts of digits than 64.
func TestParseLengths(t *testing.T) {
	for _, n := range []int{0, 1, 2, 31, 32, 62, 63, 65, 66, 127, 128, 1 << 20} {
		for _, digit := range []string{"0", "1", "f"} {
			checkNoId(t, strings.Repeat(digit, n))
		}
	}
	whole := sha.Text(sha.Sum(nil))
	for _, s := range []string{whole[1:], whole[:63], "0" + whole, whole + "0", whole + whole, whole + "\n", " " + whole, whole + "\x00", "0x" + whole, "0x" + whole[2:], whole[:63] + "\n"} {
		checkNoId(t, s)
	}
}

// P3.3: every byte that is no digit, at every place.
func TestParseNoDigits(t *testing.T) {
	whole := sha.Text(sha.Sum(nil))
	for i := range 64 {
		for x := range 256 {
			s := whole[:i] + string([]byte{byte(x)}) + whole[i+1:]
			if isDigit := x >= '0' && x <= '9' || x >= 'a' && x <= 'f'; !isDigit {
				checkNoId(t, s)
			} else if id, err := sha.Parse(s); err != api.OK || sha.Text(id) != s {
				t.Errorf("Parse(%q): % x, %d", s, id, err)
			}
		}
	}
	checkNoId(t, strings.ToUpper(whole))
	checkNoId(t, strings.Repeat("F", 64))
}

// P3.3: characters of several bytes, some of which are digits to other people or end like digits do, where they leave 64 bytes and where they leave 64 characters; and bytes that are no characters.
func TestParseLongCharacters(t *testing.T) {
	zeros := strings.Repeat("0", 64)
	for _, c := range []string{"é", "š", "ı", "İ", "٣", "０", "ａ", "\ufeff", "\ufffd", "\u0361", "𝟎", "😀", "\U00010030", "\xc3", "\xff\xfe", "\xed\xa0\x80", "\xc0\xb0", "\xe0\x80\xb0"} {
		for _, most := range []int{64 - len(c), 64 - utf8.RuneCountInString(c)} {
			for _, i := range []int{0, 1, most / 2, most - 1, most} {
				checkNoId(t, zeros[:i]+c+zeros[:most-i])
			}
		}
		checkNoId(t, c)
		checkNoId(t, strings.Repeat(c, 64))
		checkNoId(t, strings.Repeat(c, 64/len(c)))
	}
}

// orderedIds are digests that rise.
func orderedIds() []api.Id {
	ones := api.Id(bytes.Repeat([]byte{255}, 32))
	return []api.Id{
		{},
		with(api.Id{}, 31, 1),
		with(api.Id{}, 31, 127),
		with(api.Id{}, 31, 128),
		with(api.Id{}, 31, 255),
		with(api.Id{}, 30, 1),
		with(with(api.Id{}, 30, 1), 31, 9),
		with(api.Id{}, 15, 3),
		idOf(0, 1),
		idOf(0, 255),
		idOf(1),
		idOf(1, 0, 2),
		idOf(1, 2),
		idOf(2, 1),
		idOf(127, 255),
		idOf(128),
		with(ones, 0, 254),
		with(ones, 31, 0),
		with(ones, 31, 254),
		ones,
	}
}

// P3.3, P3.4: of each two the one that stands ahead is the less one, and no other; its digits are so, too.
func TestLess(t *testing.T) {
	l := orderedIds()
	for i, a := range l {
		for j, b := range l {
			if got := sha.Less(a, b); got != (i < j) || got != (sha.Text(a) < sha.Text(b)) {
				t.Errorf("Less(% x, % x): %t", a, b, got)
			}
		}
	}
}

// P3.3: the first byte at which both differ decides, wherever it is, and whatever stands behind it.
func TestLessAtEachPlace(t *testing.T) {
	for i := range 32 {
		a := sha.Sum(rowOf(i))
		a[i] = 100
		b := with(a, i, 101)
		if !sha.Less(a, b) || sha.Less(b, a) || sha.Less(a, a) {
			t.Errorf("a difference at %d alone is told otherwise", i)
		}
		for j := i + 1; j < 32; j++ {
			c, d := with(a, j, 200), with(b, j, 7)
			if !sha.Less(c, d) || sha.Less(d, c) || sha.Less(c, c) {
				t.Errorf("differences at %d and, the other way round, at %d are told otherwise", i, j)
			}
		}
	}
}
