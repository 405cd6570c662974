package sha

import (
	"bytes"
	"testing"
)

// P3.2: the count at the end has 8 bytes. It is asked here, so that nobody needs to lay rows out that are as long.
func TestLongCounts(t *testing.T) {
	for _, x := range []struct {
		end, length int
		count       [8]byte
	}{
		{0, 0, [8]byte{}},
		{31, 31, [8]byte{7: 248}},
		{32, 32, [8]byte{6: 1}},
		{0, 64, [8]byte{6: 2}},
		{63, 1<<13 - 1, [8]byte{6: 255, 7: 248}},
		{0, 1 << 13, [8]byte{5: 1}},
		{1, 1<<21 + 1, [8]byte{4: 1, 7: 8}},
		{63, 1<<29 - 1, [8]byte{4: 255, 255, 255, 248}},
		{0, 1 << 29, [8]byte{3: 1}},
		{55, 1<<30 + 55, [8]byte{3: 2, 6: 1, 7: 184}},
		{63, 1<<31 - 1, [8]byte{3: 3, 255, 255, 255, 248}},
	} {
		end := bytes.Repeat([]byte{7}, x.end)
		got := filledUp(end, x.length)
		if len(got)%64 != 0 || !bytes.HasPrefix(got, append(end, 128)) || !bytes.HasSuffix(got, x.count[:]) {
			t.Errorf("the end of %d bytes, filled up: % x", x.length, got)
		}
	}
}
