package signer_test

import (
	"bytes"
	"encoding/hex"
	"fmt"
	"math"
	"slices"
	"testing"

	"safehouse/api"
	"safehouse/disk"
	"safehouse/merkle"
	"safehouse/sha"
	"safehouse/signer"
)

// bytesOf lays the sectors' bytes one behind the other.
func bytesOf(image []api.Block) []byte {
	var row []byte
	for _, b := range image {
		row = append(row, b[:]...)
	}
	return row
}

// P10.1: a Format's disk, in bytes that another program has laid by the chapters' words.
func TestFormatWrittenOut(t *testing.T) {
	d, s := formatted(t, 10, 4, mixed())
	image := imageOf(t, d)
	for i, want := range map[int]string{
		1: "9fba35c1000000040000000153414645484f55534500000000000000000000000000000000000000000000000000000000000000000000000000000000000000",
		6: "226ad0620000000100000000002100210535af7381d97b679d1de7fb5901f32fb5859f03b1a9eb774d6dd78b89d1633f00000000000000000000000000000000",
	} {
		if got := hex.EncodeToString(image[i][:]); got != want {
			t.Errorf("the sector %d holds %s, not %s", i, got, want)
		}
	}
	if got := sha.Text(sha.Sum(bytesOf(image))); got != "84962dcaa424be6086d8924a7a2b56c7b7266f1948adc65cb559c9f56aaa7f67" {
		t.Errorf("the digest of all sectors is %s", got)
	}
	if got := sha.Text(s.Root()); got != "b4310a1f10db8c73481c3bed3b02f7194ab388f606dbfad609b12dea6c4c1012" {
		t.Errorf("the root is %s", got)
	}
	_, s = formatted(t, 10, 4, api.Id{})
	if got := sha.Text(s.Root()); got != "718ecce25c360769cbb956a9ce7f806dfaa90700d1fbde9e1e41c71750fb04dc" {
		t.Errorf("the root of noughts is %s", got)
	}
}

// P10.1: what a Format does with the disk, write by write, and what the sectors hold behind it: on disks of all sizes that fit, and on such as hold something already.
func TestFormatLays(t *testing.T) {
	for _, area := range []int{4, 5, 6, 7, 8, 9, 10, 20} {
		for _, more := range []int{0, 1, 7} {
			for _, d := range []*disk.Disk{newDisk(t, 2*area+2+more), prefilled(t, 2*area+2+more)} {
				what := fmt.Sprintf("areas of %d on %d sectors", area, d.Len())
				want := fresh(area, mixed()).formatting()
				image, before := replay(imageOf(t, d), want), d.Ops()
				checkOps(t, what, opsOf(t, d, func(d *disk.Disk) { signer.Format(d, area, mixed()) }), want)
				s, err := signer.Format(d, area, mixed())
				if err != api.OK || s == nil {
					t.Fatalf("%s: error %d", what, err)
				}
				checkTold(t, what, s, 0, false)
				checkImage(t, what, d, image)
				if len(d.Pending()) > 0 || d.Ops() != before+len(want) {
					t.Errorf("%s: %d writes are loose, %d things were done, not %d", what, len(d.Pending()), d.Ops()-before, len(want))
				}
			}
		}
	}
}

// P10.1: the greatest areas, and the greatest disk.
func TestFormatGreat(t *testing.T) {
	for _, c := range [][2]int{{999, 2000}, {1000, 2002}, {1000, 2048}, {4, 2048}, {20, 2048}} {
		d, s := formatted(t, c[1], c[0], mixed())
		what := fmt.Sprintf("areas of %d on %d sectors", c[0], c[1])
		checkTold(t, what, s, 0, false)
		checkImage(t, what, d, replay(make([]api.Block, c[1]), fresh(c[0], mixed()).formatting()))
		for leaf := range 8 {
			signed(t, what, s, rising(leaf), leaf)
		}
		checkUnsigned(t, what, s, api.ErrSpent)
		checkImage(t, what+", signed", d, imageBehind(fresh(c[0], mixed()), c[1], 8))
	}
}

// imageBehind answers what the sectors hold behind a Format and n calls of Sign.
func imageBehind(s story, sectors, n int) []api.Block {
	image := replay(make([]api.Block, sectors), s.formatting())
	for range n {
		_, ops, then := s.signing()
		image, s = replay(image, ops), then
	}
	return image
}

// P10.1: the log of a Format stands with the seed and no leaf taken as its snapshot, whatever the seed is, and opens so.
func TestFormatSeeds(t *testing.T) {
	for _, seed := range []api.Id{{}, filled(255), {0: 1}, {31: 1}, mixed(), rising(0), rising(200)} {
		d, s := formatted(t, 11, 4, seed)
		w := logOf(t, d)
		if !bytes.Equal(w.Snapshot(), append(bytes.Clone(seed[:]), 0)) || w.Len() != 0 || w.Turn() != 1 || w.Left() != 3 {
			t.Errorf("of %x: a snapshot %x, Len %d, Turn %d, Left %d", seed, w.Snapshot(), w.Len(), w.Turn(), w.Left())
		}
		if s.Root() != merkle.Root(seed) || opened(t, "a seed", d).Root() != merkle.Root(seed) {
			t.Errorf("of %x: the root is not the seed's", seed)
		}
	}
}

// noAreas are numbers that no area may have, such as come to one in fewer bits, or when they are doubled, among them.
func noAreas() []int {
	return []int{
		-1, 0, 1, 2, 3, 1001, 1002, 1023, 1024, 2048, 65540, 1 << 31, 1<<32 + 4, 1<<62 + 4, 1<<63 - 1 - 3, math.MaxInt,
		-4, -5, -1000, -1 << 31, -1<<32 + 4, -1<<62 + 4, math.MinInt, math.MinInt + 1, math.MinInt + 4, math.MinInt + 20,
	}
}

// P10.1, R2: wal.Format's errors, and nothing done with the disk then.
func TestFormatRefuses(t *testing.T) {
	for _, area := range append(noAreas(), 4, 20, 1000) {
		s, err := signer.Format(nil, area, mixed())
		checkNone(t, fmt.Sprintf("no disk, areas of %d", area), s, err, api.ErrNil)
	}
	for _, sectors := range []int{1, 2, 9, 10, 42, 2002, 2048} {
		d := prefilled(t, sectors)
		image, done := imageOf(t, d), d.Ops()
		for _, area := range append(noAreas(), sectors/2, sectors/2+1, sectors) {
			if area >= 4 && area <= 1000 && 2*area+2 <= sectors {
				t.Fatalf("areas of %d fit on %d sectors", area, sectors)
			}
			s, err := signer.Format(d, area, mixed())
			checkNone(t, fmt.Sprintf("areas of %d on %d sectors", area, sectors), s, err, api.ErrArg)
		}
		if d.Ops() != done || len(d.Pending()) > 0 || !slices.Equal(imageOf(t, d), image) {
			t.Errorf("%d sectors: refused, and yet %d things were done", sectors, d.Ops()-done)
		}
	}
	// What is wrong with the area is told ahead of what the disk would come to.
	d := newDisk(t, 42)
	d.Arm(0)
	d.Sync()
	s, err := signer.Format(d, 3, mixed())
	checkNone(t, "areas of 3 on a dead disk", s, err, api.ErrArg)
	s, err = signer.Format(d, 20, mixed())
	checkNone(t, "areas of 20 on a dead disk", s, err, api.ErrDead)
}

// P10.1: an error of the disk at each of the things that a Format does with it, those of the checkpoint among them; nothing is done behind it.
func TestFormatFails(t *testing.T) {
	want := fresh(4, mixed()).formatting()
	for k := range len(want) + 1 {
		for _, fail := range []bool{false, true} {
			d, told := newDisk(t, 10), api.ErrDead
			if fail {
				d.Fail(k)
				told = api.ErrIo
			} else {
				d.Arm(k)
			}
			what := fmt.Sprintf("a Format with %d things done, failing: %v", k, fail)
			s, err := signer.Format(d, 4, mixed())
			if k == len(want) {
				if err != api.OK || s == nil {
					t.Errorf("%s: error %d", what, err)
				}
				continue
			}
			checkNone(t, what, s, err, told)
			if d.Ops() != k {
				t.Errorf("%s: %d were done", what, d.Ops())
			}
			checkImage(t, what, d, replay(make([]api.Block, 10), want[:k]))
		}
	}
}

// P10.1: a Format where a signer is makes another one, with its own seed, and all its leaves.
func TestFormatAnew(t *testing.T) {
	for _, area := range []int{4, 5, 20} {
		d, s := formatted(t, 42, 20, mixed())
		for leaf := range 5 {
			signed(t, "the first signer", s, rising(leaf), leaf)
		}
		image := replay(imageOf(t, d), fresh(area, rising(3)).formatting())
		s, err := signer.Format(d, area, rising(3))
		if err != api.OK {
			t.Fatalf("Format anew: error %d", err)
		}
		checkImage(t, "Format anew", d, image)
		for _, x := range []*signer.Signer{s, opened(t, "Format anew", d)} {
			checkTold(t, "Format anew", x, 0, false)
			if x.Root() != merkle.Root(rising(3)) {
				t.Error("the root is not the new seed's")
			}
		}
		checkSigned(t, "Format anew", s, signed(t, "Format anew", s, rising(1), 0), rising(3), rising(1), 0)
	}
}
