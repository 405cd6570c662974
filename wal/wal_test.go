package wal_test

import (
	"bytes"
	"encoding/hex"
	"fmt"
	"math"
	"slices"
	"testing"

	"safehouse/api"
	"safehouse/disk"
	"safehouse/wal"
)

// prefilled makes a disk whose sectors all hold something, firm.
func prefilled(t testing.TB, sectors int) *disk.Disk {
	blocks := make(map[int]api.Block)
	for i := range sectors {
		blocks[i] = api.Block(textOf(64, byte(i+1)))
	}
	return laid(t, sectors, blocks)
}

// P4.1: no disk, fields that may not be, and disks with too few sectors, whether they have power or not; nothing is done with them.
func TestFormatRefuses(t *testing.T) {
	if w, err := wal.Format(nil, 3); w != nil || err != api.ErrNil {
		t.Errorf("no disk: %v, %d", w, err)
	}
	cases := []struct{ sectors, area int }{
		{10, 3}, {2048, 3}, {2048, 0}, {2048, -1}, {2048, -4}, {2048, math.MinInt}, {2048, math.MaxInt}, {2048, 1 << 62}, {2048, 1 << 31},
		{2048, 1001}, {2048, 1023}, {2001, 1000}, {9, 4}, {1, 4}, {2, 4}, {11, 5}, {8, 4},
	}
	for _, c := range cases {
		d := prefilled(t, c.sectors)
		before, ops := imageOf(t, d), d.Ops()
		for _, power := range []bool{true, false} {
			if !power {
				d.Arm(0)
				d.Sync()
			}
			if w, err := wal.Format(d, c.area); w != nil || err != api.ErrArg {
				t.Errorf("%d sectors, fields of %d, power %v: %v, %d", c.sectors, c.area, power, w != nil, err)
			}
		}
		if d.Ops() != ops || !slices.Equal(imageOf(t, d), before) {
			t.Errorf("%d sectors, fields of %d: the disk was touched", c.sectors, c.area)
		}
	}
}

// P4.1: a book of turn 0 whose entry 0 has no bytes, noughts in all other sectors of titles and fields; those behind them stay; all is firm.
func TestFormatMakes(t *testing.T) {
	for _, c := range []struct{ sectors, area int }{{10, 4}, {11, 4}, {12, 4}, {12, 5}, {100, 49}, {2002, 1000}, {2048, 1000}, {2048, 4}} {
		d := prefilled(t, c.sectors)
		want := imageOf(t, d)
		ops := d.Ops()
		w, err := wal.Format(d, c.area)
		what := fmt.Sprintf("%d sectors, fields of %d", c.sectors, c.area)
		if err != api.OK {
			t.Fatalf("%s: %d", what, err)
		}
		clear(want[:2*c.area+2])
		want[0] = titleOf(uint32(c.area), 0)
		want[2] = leavesOf(0, 0, nil)[0]
		if !slices.Equal(imageOf(t, d), want) || len(d.Pending()) > 0 {
			t.Errorf("%s: the disk holds something else, or not for good", what)
		}
		if d.Ops()-ops != 2*c.area+2+1+4 {
			t.Errorf("%s: %d things done", what, d.Ops()-ops)
		}
		checkTold(t, what, w, said{area: c.area})
		checkTold(t, what+", opened", opened(t, d), said{area: c.area})
	}
}

// P4.1: what is written, in its order, with the syncs between.
func TestFormatInOrder(t *testing.T) {
	for _, c := range []struct{ sectors, area int }{{10, 4}, {13, 4}, {16, 7}} {
		got := traceOf(t, func() (*disk.Disk, func()) {
			d := prefilled(t, c.sectors)
			return d, func() { wal.Format(d, c.area) }
		})
		checkOps(t, fmt.Sprintf("fields of %d", c.area), got, formatting(c.area).ops)
	}
}

// P4.1: an error of the disk is told alone, and nothing more is done: at each of the writes and syncs.
func TestFormatErrors(t *testing.T) {
	all := len(formatting(4).ops)
	for k := range all + 1 {
		for _, want := range []api.Errno{api.ErrDead, api.ErrIo} {
			d := newDisk(t, 10)
			if want == api.ErrDead {
				d.Arm(k)
			} else {
				d.Fail(k)
			}
			if k == all {
				want = api.OK
			}
			w, err := wal.Format(d, 4)
			if err != want || (w != nil) != (want == api.OK) || d.Ops() != k {
				t.Errorf("error %d behind %d: told %d, a log %v, %d done", want, k, err, w != nil, d.Ops())
			}
		}
	}
	d := newDisk(t, 10)
	d.Arm(0)
	d.Sync()
	if w, err := wal.Format(d, 4); w != nil || err != api.ErrDead {
		t.Errorf("without power: %v, %d", w, err)
	}
}

// P4.1, P4.3: bytes known from elsewhere.
func TestKnownBytes(t *testing.T) {
	known := func(text string) api.Block {
		b, err := hex.DecodeString(text)
		if err != nil || len(b) > api.Sector {
			t.Fatal(text)
		}
		var block api.Block
		copy(block[:], b)
		return block
	}
	d, w := formatted(t, 10, 4)
	want := map[int]api.Block{
		0: known("67c41efb000000040000000053414645484f555345"),
		2: known("7588ab31"),
	}
	for i, b := range imageOf(t, d) {
		if b != want[i] {
			t.Errorf("behind Format the sector %d holds %x", i, b)
		}
	}
	var entry []byte
	for k := range 49 {
		entry = append(entry, byte(k+1))
	}
	for _, err := range []api.Errno{w.Checkpoint(nil), w.Checkpoint(nil), w.Checkpoint(nil), w.Append(nil), w.Append(entry)} {
		if err != api.OK {
			t.Fatalf("error %d", err)
		}
	}
	image := imageOf(t, d)
	first := known("928ab8900000000300000002003100310102030405060708090a0b0c0d0e0f101112131415161718191a1b1c1d1e1f202122232425262728292a2b2c2d2e2f30")
	second := known("2ef7bd1d00000003000000020031000131")
	if image[8] != first || image[9] != second {
		t.Errorf("an entry of 49 bytes: %x %x", image[8], image[9])
	}
	if titleOf(1000, math.MaxUint32-1) != known("f248a86a000003e8fffffffe53414645484f555345") {
		t.Error("the model's title")
	}
}

// changed answers a block with one byte changed; its seal is right behind that, unless the byte is one of the seal.
func changed(b api.Block, at int) api.Block {
	b[at] ^= 1
	if at < 4 {
		return b
	}
	return sealing([60]byte(b[4:]))
}

// P4.2: no disk, none with power, and disks with too few sectors to read two.
func TestOpenRefuses(t *testing.T) {
	notOpened(t, "nil", nil, api.ErrNil)
	notOpened(t, "one sector", newDisk(t, 1), api.ErrArg)
	notOpened(t, "one sector, with a title", laid(t, 1, map[int]api.Block{0: titleOf(4, 0)}), api.ErrArg)
	for _, sectors := range []int{2, 10, 2048} {
		d := newDisk(t, sectors)
		notOpened(t, "a new disk", d, api.ErrWal)
		if d.Ops() != 2 {
			t.Errorf("a new disk of %d sectors: %d done", sectors, d.Ops())
		}
	}
	d, _ := formatted(t, 10, 4)
	d.Arm(0)
	d.Sync()
	notOpened(t, "without power", d, api.ErrDead)
}

// P4.2: which title holds, and which of two counts.
func TestOpenTitles(t *testing.T) {
	const max = math.MaxUint32
	// Fields of 4 and of 5 sectors: an entry 0 of each turn that the titles say, where the one or the other has its field.
	book := func(turn uint32) api.Block { return leavesOf(turn, 0, highest(uint64(turn), 4))[0] }
	type row struct {
		what   string
		blocks map[int]api.Block
		area   int // 0: no title holds
		turn   uint32
	}
	rows := []row{
		{"none", map[int]api.Block{2: book(0), 6: book(1)}, 0, 0},
		{"0 alone", map[int]api.Block{0: titleOf(4, 0), 2: book(0), 6: book(1)}, 4, 0},
		{"0 alone, of turn 2", map[int]api.Block{0: titleOf(4, 2), 2: book(2), 6: book(1)}, 4, 2},
		{"1 alone", map[int]api.Block{1: titleOf(4, 1), 2: book(0), 6: book(1)}, 4, 1},
		{"1 alone, of the last turn", map[int]api.Block{1: titleOf(4, max), 6: book(max)}, 4, max},
		{"both, 1 greater", map[int]api.Block{0: titleOf(4, 6), 1: titleOf(4, 7), 2: book(6), 6: book(7)}, 4, 7},
		{"both, 0 greater", map[int]api.Block{0: titleOf(4, 8), 1: titleOf(4, 7), 2: book(8), 6: book(7)}, 4, 8},
		{"both, 0 much greater", map[int]api.Block{0: titleOf(4, max-1), 1: titleOf(4, 1), 2: book(max - 1), 6: book(1)}, 4, max - 1},
		{"both, 1 much greater", map[int]api.Block{0: titleOf(4, 0), 1: titleOf(4, max), 2: book(0), 6: book(max)}, 4, max},
		{"both, 1 greater by its first bit", map[int]api.Block{0: titleOf(4, 2), 1: titleOf(4, 1<<31+1), 2: book(2), 6: book(1<<31 + 1)}, 4, 1<<31 + 1},
		{"both, of other fields, 0 greater", map[int]api.Block{0: titleOf(5, 8), 1: titleOf(4, 7), 2: book(8), 6: book(7)}, 5, 8},
		{"both, of other fields, 1 greater", map[int]api.Block{0: titleOf(4, 6), 1: titleOf(5, 7), 2: book(6), 7: book(7)}, 5, 7},
		{"both in the wrong place", map[int]api.Block{0: titleOf(4, 7), 1: titleOf(4, 6), 2: book(6), 6: book(7)}, 0, 0},
		{"the greater one in the wrong place", map[int]api.Block{0: titleOf(4, 7), 1: titleOf(4, 5), 2: book(6), 6: book(5)}, 4, 5},
		{"1 in the wrong place", map[int]api.Block{0: titleOf(4, 2), 1: titleOf(4, 4), 2: book(2), 6: book(4)}, 4, 2},
		{"fields of 3", map[int]api.Block{0: titleOf(3, 0), 2: book(0)}, 0, 0},
		{"fields of 0", map[int]api.Block{0: titleOf(0, 0), 2: book(0)}, 0, 0},
		{"fields of 6, too many for the disk", map[int]api.Block{0: titleOf(6, 0), 2: book(0)}, 0, 0},
		{"fields of 2^32 - 1", map[int]api.Block{0: titleOf(max, 0), 2: book(0)}, 0, 0},
		{"fields of 2^31", map[int]api.Block{0: titleOf(1<<31, 0), 2: book(0)}, 0, 0},
		{"fields of 2^31 + 4", map[int]api.Block{0: titleOf(1<<31+4, 0), 2: book(0)}, 0, 0},
		{"the greater one with fields of 6", map[int]api.Block{0: titleOf(4, 6), 1: titleOf(6, 7), 2: book(6), 8: book(7)}, 4, 6},
		{"the greater one is a leaf", map[int]api.Block{0: titleOf(4, 6), 1: book(7), 2: book(6), 6: book(7)}, 4, 6},
	}
	for at := range api.Sector {
		area := 0
		rows = append(rows, row{fmt.Sprintf("0 alone, the byte %d changed", at), map[int]api.Block{0: flipped(titleOf(4, 0), at), 2: book(0), 6: book(1)}, area, 0})
		rows = append(rows, row{fmt.Sprintf("both, the byte %d of the greater one changed", at), map[int]api.Block{0: titleOf(4, 6), 1: flipped(titleOf(4, 7), at), 2: book(6), 6: book(7)}, 4, 6})
		if at >= 12 { // ahead of that it is a title of other fields, or of another turn
			rows = append(rows, row{fmt.Sprintf("0 alone, the byte %d changed ahead of the sealing", at), map[int]api.Block{0: changed(titleOf(4, 0), at), 2: book(0)}, area, 0})
		}
	}
	for _, r := range rows {
		d := laid(t, 12, r.blocks)
		if r.area == 0 {
			ops := d.Ops()
			notOpened(t, r.what, d, api.ErrWal)
			if d.Ops()-ops != 2 {
				t.Errorf("%s: %d done", r.what, d.Ops()-ops)
			}
			continue
		}
		w, err := wal.Open(d)
		if err != api.OK {
			t.Errorf("%s: error %d", r.what, err)
			continue
		}
		checkTold(t, r.what, w, said{area: r.area, turn: r.turn, stood: highest(uint64(r.turn), 4)})
	}
}

// flipped answers a block with one byte changed, seal or no seal.
func flipped(b api.Block, at int) api.Block {
	b[at] ^= 0x40
	return b
}

// P4.2: the number of sectors that a title says may be from 4 to 1000, and the disk must have room for two fields.
func TestOpenAreas(t *testing.T) {
	for _, c := range []struct {
		sectors, area int
		err           api.Errno
	}{
		{8, 3, api.ErrWal}, {2048, 3, api.ErrWal}, {9, 4, api.ErrWal}, {10, 4, api.OK}, {11, 4, api.OK}, {2048, 4, api.OK},
		{2001, 1000, api.ErrWal}, {2002, 1000, api.OK}, {2048, 1000, api.OK}, {2004, 1001, api.ErrWal}, {2048, 1001, api.ErrWal}, {2048, 1023, api.ErrWal},
	} {
		for turn := range uint32(2) {
			blocks := map[int]api.Block{int(turn): titleOf(uint32(c.area), turn)}
			if at := 2 + int(turn)*c.area; at < c.sectors {
				blocks[at] = leavesOf(turn, 0, nil)[0]
			}
			d := laid(t, c.sectors, blocks)
			ops := d.Ops()
			w, err := wal.Open(d)
			if err != c.err || (w != nil) != (err == api.OK) {
				t.Errorf("%d sectors, fields of %d, turn %d: %d", c.sectors, c.area, turn, err)
			}
			reads := 2
			if err == api.OK {
				checkTold(t, "a title of turn", w, said{area: c.area, turn: turn})
				reads += c.area
			}
			if d.Ops()-ops != reads {
				t.Errorf("%d sectors, fields of %d, turn %d: %d done, not %d", c.sectors, c.area, turn, d.Ops()-ops, reads)
			}
		}
	}
}

// fieldOf makes a disk with a title of turn 5 and fields of 8 sectors, and what is handed in at the beginning of its field.
func fieldOf(t testing.TB, blocks ...api.Block) *disk.Disk {
	all := map[int]api.Block{0: titleOf(8, 4), 2: leavesOf(4, 0, textOf(3, 9))[0], 1: titleOf(8, 5)}
	for k, b := range blocks {
		all[10+k] = b
	}
	return laid(t, 18, all)
}

// P4.2: a field whose first entry does not stand says nothing: ErrWal, however good the other field is.
func TestOpenFieldsWithoutEntry(t *testing.T) {
	one, long := leavesOf(5, 0, textOf(20, 1))[0], leavesOf(5, 0, textOf(100, 1))
	huge := leaf(5, 0, 40000, 40000, textOf(48, 1))
	cases := map[string][]api.Block{
		"noughts":                      {},
		"not at its beginning":         {nought, one},
		"of another turn":              {leavesOf(4, 0, nil)[0]},
		"of the next turn":             {leavesOf(6, 0, nil)[0]},
		"of the number 1":              {leavesOf(5, 1, nil)[0]},
		"of the number 2^31":           {leaf(5, 1<<31, 0, 0, nil)},
		"of the number 2^32 - 1":       {leaf(5, math.MaxUint32, 0, 0, nil)},
		"a length too little":          {leaf(5, 0, 19, 20, textOf(20, 1))},
		"a length too great":           {leaf(5, 0, 21, 20, textOf(20, 1))},
		"a rest too little":            {leaf(5, 0, 20, 19, textOf(20, 1))},
		"a rest too great":             {leaf(5, 0, 20, 21, textOf(20, 1))},
		"no length":                    {leaf(5, 0, 0, 20, textOf(20, 1))},
		"a byte behind the end":        {leaf(5, 0, 20, 20, textOf(21, 1))},
		"the last byte behind the end": {leaf(5, 0, 20, 20, append(textOf(20, 1), append(make([]byte, 27), 1)...))},
		"a byte behind no bytes":       {leaf(5, 0, 0, 0, []byte{1})},
		"the second leaf is missing":   {long[0], nought, long[2]},
		"the last leaf is missing":     {long[0], long[1]},
		"the leaves stand turned":      {long[0], long[2], long[1]},
		"the first leaf twice":         {long[0], long[0], long[1], long[2]},
		"a leaf of another number":     {long[0], leavesOf(5, 1, textOf(100, 1))[1], long[2]},
		"a leaf of another turn":       {long[0], leavesOf(3, 0, textOf(100, 1))[1], long[2]},
		"a leaf of another length":     {long[0], leavesOf(5, 0, textOf(101, 1))[1], long[2]},
		"a last leaf of another rest":  {long[0], long[1], leaf(5, 0, 100, 5, textOf(100, 1)[96:])},
		"a byte behind the last end":   {long[0], long[1], leaf(5, 0, 100, 4, textOf(101, 1)[96:])},
		"beyond the field":             leavesOf(5, 0, textOf(8*48+1, 1))[:8],
		"40000 bytes":                  {huge},
		"40001 bytes":                  {leaf(5, 0, 40001, 40001, textOf(48, 1))},
		"65535 bytes":                  {leaf(5, 0, 65535, 65535, textOf(48, 1))},
	}
	for at := range api.Sector {
		cases[fmt.Sprintf("the byte %d changed", at)] = []api.Block{flipped(one, at)}
		for k := range long {
			l := slices.Clone(long)
			l[k] = flipped(l[k], at)
			cases[fmt.Sprintf("the byte %d of the leaf %d changed", at, k)] = l
		}
	}
	for what, blocks := range cases {
		d := fieldOf(t, blocks...)
		before, ops := imageOf(t, d), d.Ops()
		notOpened(t, what, d, api.ErrWal)
		if d.Ops()-ops != 10 || !slices.Equal(imageOf(t, d), before) {
			t.Errorf("%s: %d done, or the disk was touched", what, d.Ops()-ops)
		}
		notOpened(t, what+", asked once more", d, api.ErrWal)
	}
}

// P4.2: entries are told as long as the next one stands; from there on all that isn't noughts goes.
func TestOpenFieldsUpToTheirEnd(t *testing.T) {
	zero, one := leavesOf(5, 0, textOf(48, 1)), leavesOf(5, 1, textOf(50, 2))
	two := leavesOf(5, 2, nil)
	full := leavesOf(5, 1, textOf(7*48, 3))
	stood, first := textOf(48, 1), textOf(50, 2)
	cases := []struct {
		what   string
		blocks []api.Block
		came   [][]byte
		wiped  []int // places of the field
	}{
		{"entry 0 alone", zero, nil, nil},
		{"three entries", slices.Concat(zero, one, two), [][]byte{first, nil}, nil},
		{"up to the field's end", slices.Concat(zero, full), [][]byte{textOf(7*48, 3)}, nil},
		{"cut off at the field's end", slices.Concat(zero, leavesOf(5, 1, textOf(7*48+1, 3))[:7]), nil, []int{1, 2, 3, 4, 5, 6, 7}},
		{"of no bytes, in all sectors", slices.Concat(zero, leavesOf(5, 1, nil), leavesOf(5, 2, nil), leavesOf(5, 3, nil), leavesOf(5, 4, nil), leavesOf(5, 5, nil), leavesOf(5, 6, nil), leavesOf(5, 7, nil)), [][]byte{nil, nil, nil, nil, nil, nil, nil}, nil},
		{"the first leaf alone", slices.Concat(zero, one[:1]), nil, []int{1}},
		{"the second leaf alone", slices.Concat(zero, []api.Block{nought}, one[1:]), nil, []int{2}},
		{"a gap", slices.Concat(zero, []api.Block{nought}, one), nil, []int{2, 3}},
		{"a number left out", slices.Concat(zero, two), nil, []int{1}},
		{"the number 0 again", slices.Concat(zero, zero), nil, []int{1}},
		{"the number 1 again", slices.Concat(zero, one, one), [][]byte{first}, []int{3, 4}},
		{"of an older turn", slices.Concat(zero, leavesOf(3, 1, first)), nil, []int{1, 2}},
		{"of a greater turn", slices.Concat(zero, leavesOf(7, 1, first)), nil, []int{1, 2}},
		{"the entry behind what is cut off", slices.Concat(zero, one[:1], []api.Block{nought}, two), nil, []int{1, 3}},
		{"one more behind noughts", slices.Concat(zero, one, []api.Block{nought, nought}, two), [][]byte{first}, []int{5}},
		{"the field's last sector", slices.Concat(zero, []api.Block{6: {63: 1}}), nil, []int{7}},
		{"the first byte of the next one", slices.Concat(zero, []api.Block{{1}}), nil, []int{1}},
		{"a length above 40000", slices.Concat(zero, []api.Block{leaf(5, 1, 40001, 40001, nil)}), nil, []int{1}},
		{"a rest that is no length", slices.Concat(zero, []api.Block{leaf(5, 1, 10, 9, textOf(10, 1))}), nil, []int{1}},
		{"a byte behind the end", slices.Concat(zero, []api.Block{leaf(5, 1, 10, 10, textOf(11, 1))}), nil, []int{1}},
		{"a byte of the seal changed", slices.Concat(zero, one[:1], []api.Block{flipped(one[1], 3)}), nil, []int{1, 2}},
	}
	for _, c := range cases {
		for _, loose := range []string{"nothing", "a sector of the other field", "a sector of no field", "a sector of the field", "the title"} {
			what := fmt.Sprintf("%s, loose: %s", c.what, loose)
			prepare := func() (*disk.Disk, func()) {
				d := fieldOf(t, c.blocks...)
				image := imageOf(t, d)
				switch loose {
				case "a sector of the other field":
					d.Write(9, api.Block{1})
				case "a sector of no field":
					d.Write(17, image[17])
				case "a sector of the field":
					d.Write(10, image[10])
				case "the title":
					d.Write(1, image[1])
				}
				return d, func() { wal.Open(d) }
			}
			d, _ := prepare()
			held, ops := imageOf(t, d), d.Ops()
			var want []op
			for _, k := range c.wiped {
				want = append(want, op{sector: 10 + k})
				held[10+k] = nought
			}
			if len(want) > 0 || loose != "nothing" {
				want = append(want, op{sync: true})
			}
			checkTold(t, what, opened(t, d), said{area: 8, turn: 5, stood: stood, came: c.came})
			if d.Ops()-ops != 10+len(want) || len(d.Pending()) > 0 || !slices.Equal(imageOf(t, d), held) {
				t.Errorf("%s: %d done, %v loose, or the disk holds something else", what, d.Ops()-ops, d.Pending())
			}
			checkOps(t, what, traceOf(t, prepare), want)
			checkQuiet(t, what, d, said{area: 8, turn: 5, stood: stood, came: c.came})
		}
	}
}

// checkQuiet opens a disk of which nothing may be written, and on which nothing may be loose.
func checkQuiet(t testing.TB, what string, d *disk.Disk, want said) {
	t.Helper()
	c := d.Copy()
	c.Arm(0)
	w, err := wal.Open(c)
	if err != api.OK || c.Dead() || c.Ops()-d.Ops() != 2+want.area || len(c.Pending()) > 0 {
		t.Errorf("%s: opened once more: error %d, power gone %v, %d done", what, err, c.Dead(), c.Ops()-d.Ops())
		return
	}
	checkTold(t, what+", opened once more", w, want)
}

// P4.2: an error of the disk is told alone, and nothing more is done: at each read, write and sync.
func TestOpenErrors(t *testing.T) {
	stale := func() *disk.Disk {
		return fieldOf(t, slices.Concat(leavesOf(5, 0, nil), []api.Block{{1}, nought, {2}})...)
	}
	d := stale()
	ops := d.Ops()
	const reads, all = 10, 10 + 3
	for k := range all + 1 {
		want := api.ErrIo
		if k == all {
			want = api.OK
		}
		d := stale()
		d.Fail(k)
		w, err := wal.Open(d)
		if err != want || (w != nil) != (want == api.OK) || d.Ops()-ops != k {
			t.Errorf("failing behind %d: told %d, a log %v, %d done", k, err, w != nil, d.Ops()-ops)
		}
	}
	for k := range all - reads + 1 {
		want := api.ErrDead
		if k == all-reads {
			want = api.OK
		}
		d := stale()
		d.Arm(k)
		w, err := wal.Open(d)
		if err != want || (w != nil) != (want == api.OK) || d.Ops()-ops != reads+k {
			t.Errorf("the power going behind %d: told %d, a log %v, %d done", k, err, w != nil, d.Ops()-ops)
		}
	}
	// Both sectors are read, and the field is, ahead of what is said of them.
	for k, want := range []api.Errno{api.ErrIo, api.ErrIo, api.ErrWal} {
		d := newDisk(t, 10)
		d.Fail(k)
		notOpened(t, fmt.Sprintf("a new disk, failing behind %d", k), d, want)
	}
	for k := range 11 {
		d := fieldOf(t)
		want := api.ErrIo
		if k == 10 {
			want = api.ErrWal
		}
		d.Fail(k)
		notOpened(t, fmt.Sprintf("a field that says nothing, failing behind %d", k), d, want)
	}
}

// P4.3: no log, rows that are too long, a log that is broken: the first of these is told, and then ErrFull.
func TestRefusals(t *testing.T) {
	long := make([]byte, api.MaxTx+1)
	var none *wal.Wal
	for _, b := range [][]byte{nil, {}, {1}, long} {
		if a, c := none.Append(b), none.Checkpoint(b); a != api.ErrNil || c != api.ErrNil {
			t.Errorf("no log, %d bytes: %d, %d", len(b), a, c)
		}
	}
	d, w := formatted(t, 10, 4)
	ops := d.Ops()
	for size, want := range map[int]api.Errno{4*48 + 1: api.ErrFull, 39999: api.ErrFull, 40000: api.ErrFull, 40001: api.ErrLong, 65536: api.ErrLong, 65537: api.ErrLong, 100000: api.ErrLong} {
		b := make([]byte, size)
		if a, c := w.Append(b), w.Checkpoint(b); a != want || c != want {
			t.Errorf("%d bytes: %d, %d", size, a, c)
		}
	}
	if d.Ops() != ops || w.Broken() {
		t.Errorf("%d done by what was refused", d.Ops()-ops)
	}
	checkTold(t, "behind refusals", w, said{area: 4})
	d.Fail(0)
	if err := w.Append(nil); err != api.ErrIo || !w.Broken() {
		t.Fatalf("failing: %d, broken %v", err, w.Broken())
	}
	ops = d.Ops()
	for _, size := range []int{0, 1, 48, 4 * 48, 4*48 + 1, 40000} {
		if a, c := w.Append(make([]byte, size)), w.Checkpoint(make([]byte, size)); a != api.ErrIo || c != api.ErrIo {
			t.Errorf("broken, %d bytes: %d, %d", size, a, c)
		}
	}
	if a, c := w.Append(long), w.Checkpoint(long); a != api.ErrLong || c != api.ErrLong {
		t.Errorf("broken, too long: %d, %d", a, c)
	}
	if d.Ops() != ops {
		t.Errorf("%d done by a log that is broken", d.Ops()-ops)
	}
	checkTold(t, "broken", w, said{area: 4})
	checkTold(t, "opened anew", opened(t, d), said{area: 4})
}

// sizes are the edges of entries.
func sizes() []int {
	return []int{0, 1, 2, 47, 48, 49, 95, 96, 97, 143, 144, 145, 4799, 4800, 4801, 39936, 39937, 39984, 39985, 39999, 40000}
}

// P4.3, P4.4: an Append and a Checkpoint of each size are told, stand on the disk just so, and are there behind a crash.
func TestSizes(t *testing.T) {
	for _, n := range sizes() {
		for _, area := range []int{1000, 840} {
			d, w := formatted(t, 2048, area)
			s := said{area: area}
			want := imageOf(t, d)
			do := func(what string, call func([]byte) api.Errno, p deed) {
				t.Helper()
				if err := call(textOf(n, 7)); err != api.OK {
					t.Fatalf("%s of %d bytes: %d", what, n, err)
				}
				for _, o := range p.ops {
					if !o.sync {
						want[o.sector] = o.block
					}
				}
				s = p.then
				if got := imageOf(t, d); !slices.Equal(got, want) || len(d.Pending()) > 0 {
					t.Errorf("%s of %d bytes: the disk holds something else, or not for good", what, n)
				}
				checkTold(t, what, w, s)
				d.Crash(nil)
				checkTold(t, what+", opened", opened(t, d), s)
			}
			do("Append", w.Append, s.appending(textOf(n, 7)))
			do("Checkpoint", w.Checkpoint, s.checkpointing(textOf(n, 7)))
			if fills(n) <= s.left() {
				do("Append", w.Append, s.appending(textOf(n, 7)))
			}
			do("Checkpoint", w.Checkpoint, s.checkpointing(textOf(n, 7)))
		}
	}
}

// P4.3: an entry that fills just what is left is taken down, one that fills a sector more is not, and nothing has changed then.
func TestFull(t *testing.T) {
	for area := 4; area <= 9; area++ {
		for used := 1; used <= area; used++ {
			for extra := -1; extra <= 1; extra++ {
				for _, bytesMore := range []int{0, 1} {
					d, w := formatted(t, 30, area)
					s := said{area: area, turn: 1, stood: textOf(48*used, 3)}
					if err := w.Checkpoint(s.stood); err != api.OK || w.Left() != area-used {
						t.Fatalf("Checkpoint of %d sectors of %d: %d, %d left", used, area, err, w.Left())
					}
					size := 48*(area-used+extra) + bytesMore
					if size < 0 {
						continue
					}
					p := s.appending(textOf(size, 5))
					ops := d.Ops()
					if err := w.Append(textOf(size, 5)); err != p.err || d.Ops()-ops != len(p.ops) || w.Broken() {
						t.Errorf("fields of %d, %d used, %d bytes: %d, not %d", area, used, size, err, p.err)
					}
					checkTold(t, "behind it", w, p.then)
					checkTold(t, "opened", opened(t, d), p.then)
				}
			}
		}
		for size, want := range map[int]api.Errno{48 * area: api.OK, 48*area + 1: api.ErrFull, 48*area - 1: api.OK} {
			_, w := formatted(t, 2*area+2, area)
			if err := w.Checkpoint(make([]byte, size)); err != want || int(w.Turn()) != map[api.Errno]int{api.OK: 1}[want] {
				t.Errorf("fields of %d, a Checkpoint of %d bytes: %d, turn %d", area, size, err, w.Turn())
			}
		}
	}
}

// P4.3: what is written by an Append and by a Checkpoint, in its order, with the syncs between; behind a Format, and behind an Open.
func TestInOrder(t *testing.T) {
	type call struct {
		checkpoint bool
		size       int
	}
	runs := [][]call{
		{{false, 0}}, {{false, 1}}, {{false, 48}}, {{false, 49}}, {{false, 97}}, {{false, 6 * 48}},
		{{true, 0}}, {{true, 1}}, {{true, 49}}, {{true, 7 * 48}},
		{{false, 49}, {false, 0}, {false, 97}}, {{true, 49}, {false, 96}}, {{true, 96}, {false, 0}, {false, 49}, {true, 97}},
		{{true, 0}, {true, 0}, {false, 50}}, {{true, 300}, {true, 200}, {true, 100}, {false, 100}},
	}
	for _, anew := range []bool{false, true} {
		for _, run := range runs {
			s := said{area: 7}
			var p deed
			for k, c := range run {
				b := textOf(c.size, byte(k))
				p = s.appending(b)
				if c.checkpoint {
					p = s.checkpointing(b)
				}
				s = p.then
			}
			got := traceOf(t, func() (*disk.Disk, func()) {
				d, w := formatted(t, 17, 7)
				do := func(k int) {
					if b := textOf(run[k].size, byte(k)); run[k].checkpoint {
						w.Checkpoint(b)
					} else {
						w.Append(b)
					}
				}
				last := len(run) - 1
				for k := range last {
					do(k)
				}
				if anew {
					w = opened(t, d)
				}
				return d, func() { do(last) }
			})
			checkOps(t, fmt.Sprintf("%v, opened %v", run, anew), got, p.ops)
		}
	}
}

// P4.3: no book comes behind that of the last turn; what is taken down in it is.
func TestLastTurns(t *testing.T) {
	const max = math.MaxUint32
	d := laid(t, 10, map[int]api.Block{0: titleOf(4, max-1), 2: leavesOf(max-1, 0, []byte{1})[0], 9: {1}})
	w := opened(t, d)
	s := said{area: 4, turn: max - 1, stood: []byte{1}}
	checkTold(t, "the turn 2^32 - 2", w, s)
	for k, call := range []func([]byte) api.Errno{w.Append, w.Checkpoint, w.Append} {
		if err := call(textOf(49, byte(k))); err != api.OK {
			t.Fatalf("call %d: %d", k, err)
		}
	}
	s = said{area: 4, turn: max, stood: textOf(49, 1), came: [][]byte{textOf(49, 2)}}
	checkTold(t, "the turn 2^32 - 1", w, s)
	before, ops := imageOf(t, d), d.Ops()
	for _, size := range []int{0, 1, 192, 193} {
		if err := w.Checkpoint(make([]byte, size)); err != api.ErrFull {
			t.Errorf("a Checkpoint behind the last turn: %d", err)
		}
	}
	if err := w.Checkpoint(make([]byte, 40001)); err != api.ErrLong {
		t.Errorf("a Checkpoint behind the last turn, too long: %d", err)
	}
	if d.Ops() != ops || !slices.Equal(imageOf(t, d), before) || w.Broken() {
		t.Error("what was refused was done")
	}
	checkTold(t, "behind what was refused", w, s)
	checkTold(t, "opened", opened(t, d), s)
}

// P4.3: of an error of the disk, at each write and sync, a log is broken, tells it, does nothing more, and tells what it told; the deed before and the same deed without an error leave it whole.
func TestBroken(t *testing.T) {
	s := said{area: 4, turn: 1, stood: []byte{1}, came: [][]byte{{2}}}
	for _, checkpoint := range []bool{false, true} {
		b := textOf(60, 1)
		p := s.appending(b)
		if checkpoint {
			p = s.checkpointing(b)
		}
		for k := range len(p.ops) + 1 {
			for _, want := range []api.Errno{api.ErrDead, api.ErrIo} {
				d, w := formatted(t, 10, 4)
				w.Checkpoint([]byte{1})
				w.Append([]byte{2})
				if want == api.ErrDead {
					d.Arm(k)
				} else {
					d.Fail(k)
				}
				if k == len(p.ops) {
					want = api.OK
				}
				call := w.Append
				if checkpoint {
					call = w.Checkpoint
				}
				ops := d.Ops()
				err := call(b)
				what := fmt.Sprintf("checkpoint %v, error %d behind %d", checkpoint, want, k)
				if err != want || w.Broken() != (want != api.OK) || d.Ops()-ops != k || w.Disk() != d {
					t.Errorf("%s: told %d, broken %v, %d done", what, err, w.Broken(), d.Ops()-ops)
				}
				if want == api.OK {
					checkTold(t, what, w, p.then)
					continue
				}
				checkTold(t, what, w, s)
				d.Crash(slices.Repeat([]bool{true}, 9))
				if a, c := w.Append(nil), w.Checkpoint(nil); a != api.ErrIo || c != api.ErrIo || !w.Broken() {
					t.Errorf("%s: broken, with power again: %d, %d", what, a, c)
				}
			}
		}
	}
}

// P4.4: what is told of no log.
func TestNoLog(t *testing.T) {
	var w *wal.Wal
	if len(w.Snapshot()) != 0 || w.Len() != 0 || w.Left() != 0 || w.Turn() != 0 || w.Broken() || w.Disk() != nil {
		t.Error("something is told of no log")
	}
	for n, b := range w.All() {
		t.Errorf("All of no log tells %d, %v", n, b)
	}
}

// P4.4: the disk is the one that was handed in.
func TestDisk(t *testing.T) {
	d, w := formatted(t, 10, 4)
	if w.Disk() != d || opened(t, d).Disk() != d {
		t.Error("the disk is another one")
	}
}

// P4.4: All tells what came up to when it was called, however often it is gone through, and whatever is taken down then.
func TestAll(t *testing.T) {
	gather := func(all func(func(int, []byte) bool)) (l [][]byte) {
		for number, b := range all {
			if number != len(l)+1 {
				t.Errorf("the number %d in the place %d", number, len(l))
			}
			l = append(l, b)
		}
		return l
	}
	for _, anew := range []bool{false, true} {
		d, w := formatted(t, 102, 50)
		var came [][]byte
		var alls []func(func(int, []byte) bool)
		again := func() {
			t.Helper()
			for n, all := range alls {
				want := came[:min(n, len(came))]
				for range 2 {
					if got := gather(all); !slices.EqualFunc(got, want, bytes.Equal) {
						t.Errorf("All of %d entries tells %d, or others", n, len(got))
					}
				}
			}
		}
		for k := range 20 {
			alls = append(alls, w.All())
			b := textOf(k*3, byte(k))
			if err := w.Append(b); err != api.OK {
				t.Fatalf("Append: %d", err)
			}
			came = append(came, b)
			if anew {
				w = opened(t, d)
			}
		}
		alls = append(alls, w.All())
		again()
		w.Checkpoint(textOf(9, 9))
		again()
		for k := range 20 {
			w.Append(textOf(40, byte(100+k)))
		}
		again()
		d.Fail(0)
		w.Append(nil)
		again()
		if n := len(gather(w.All())); n != 20 {
			t.Errorf("All behind a Checkpoint, and more, tells %d", n)
		}
	}
}

// P4.4, R6: All may be left early, gone through again, and one within the other.
func TestAllLeftEarly(t *testing.T) {
	_, w := formatted(t, 30, 14)
	for k := range 5 {
		w.Append(textOf(k, byte(k)))
	}
	all := w.All()
	for leave := 1; leave <= 5; leave++ {
		n := 0
		for number, b := range all {
			n++
			if number != n || !bytes.Equal(b, textOf(n-1, byte(n-1))) {
				t.Errorf("the place %d: %d, %v", n, number, b)
			}
			if n == leave {
				break
			}
		}
		if n != leave {
			t.Errorf("left behind %d: %d", leave, n)
		}
	}
	pairs := 0
	for a := range all {
		for b := range all {
			if b > a {
				break
			}
			pairs++
		}
	}
	if pairs != 15 {
		t.Errorf("one within the other: %d", pairs)
	}
	n := 0
	for number := range all {
		n++
		if err := w.Append([]byte{byte(number)}); err != api.OK {
			t.Fatalf("Append while All is gone through: %d", err)
		}
		if number == 3 {
			w.Checkpoint(nil)
		}
	}
	if n != 5 || w.Len() != 2 {
		t.Errorf("while more was taken down: %d told, %d came", n, w.Len())
	}
}

// R3: what was handed in may be changed behind the call, what was answered, too; neither the log nor the disk, nor an All asked for ahead, changes with it.
func TestNothingShared(t *testing.T) {
	for _, anew := range []bool{false, true} {
		d, w := formatted(t, 42, 20)
		room := bytes.Repeat([]byte{0xee}, 200)
		stood := room[:60:150]
		copy(stood, textOf(60, 1))
		first := room[60:120:200]
		copy(first, textOf(60, 2))
		if a, b := w.Checkpoint(stood), w.Append(first); a != api.OK || b != api.OK {
			t.Fatal(a, b)
		}
		if !bytes.Equal(room[:60], textOf(60, 1)) || !bytes.Equal(room[60:120], textOf(60, 2)) || !bytes.Equal(room[120:], bytes.Repeat([]byte{0xee}, 80)) {
			t.Error("what was handed in, or the room behind it, has changed")
		}
		clear(room)
		if anew {
			w = opened(t, d)
		}
		w.Append(textOf(50, 3))
		want := said{area: 20, turn: 1, stood: textOf(60, 1), came: [][]byte{textOf(60, 2), textOf(50, 3)}}
		all := w.All()
		spoil := func(b []byte) {
			whole := b[:cap(b)]
			for k := range whole {
				whole[k] = 0xaa
			}
			_ = append(b, 1, 2, 3)
		}
		spoil(w.Snapshot())
		for _, b := range all {
			spoil(b)
		}
		for number, b := range all {
			if !bytes.Equal(b, want.came[number-1]) {
				t.Errorf("opened %v: All tells what was changed in its answer", anew)
			}
		}
		checkTold(t, "behind all that", w, want)
		w.Append([]byte{1})
		want.came = append(want.came, []byte{1})
		checkTold(t, "behind one more", w, want)
		checkTold(t, "opened", opened(t, d), want)
	}
}

// P4.3: nil and empty rows are one.
func TestNilAndEmpty(t *testing.T) {
	var images [][]api.Block
	for _, b := range [][]byte{nil, {}, make([]byte, 0, 10)} {
		d, w := formatted(t, 10, 4)
		if a, c, x := w.Append(b), w.Checkpoint(b), w.Append(b); a != api.OK || c != api.OK || x != api.OK {
			t.Errorf("%d, %d, %d", a, c, x)
		}
		checkTold(t, "nil and empty", w, said{area: 4, turn: 1, came: [][]byte{nil}})
		images = append(images, imageOf(t, d))
	}
	if !slices.Equal(images[0], images[1]) || !slices.Equal(images[0], images[2]) {
		t.Error("they stand otherwise on the disk")
	}
}

// P4.4: one sector for 48 bytes, one for none of them, none for what may not be.
func TestSectors(t *testing.T) {
	for n, want := range map[int]int{math.MinInt: 0, -49: 0, -48: 0, -1: 0, 0: 1, 1: 1, 47: 1, 48: 1, 49: 2, 95: 2, 96: 2, 97: 3, 39984: 833, 39985: 834, 39999: 834, 40000: 834, 40001: 0, 65536: 0, math.MaxInt: 0, math.MaxInt - 46: 0} {
		if got := wal.Sectors(n); got != want {
			t.Errorf("Sectors(%d): %d, not %d", n, got, want)
		}
	}
	for n := range 40001 {
		if got := wal.Sectors(n); got != fills(n) {
			t.Fatalf("Sectors(%d): %d", n, got)
		}
	}
}

// P4.1 to P4.4: the chapter's examples.
func TestExamples(t *testing.T) {
	d, w := formatted(t, 10, 4)
	if w.Left() != 3 || w.Turn() != 0 || w.Len() != 0 || len(w.Snapshot()) != 0 {
		t.Error("Format")
	}
	if a, b, c := w.Append(make([]byte, 48)), w.Append(make([]byte, 49)), w.Append(nil); a != api.OK || b != api.OK || c != api.ErrFull || w.Left() != 0 {
		t.Errorf("Append: %d, %d, %d; %d", a, b, c, w.Left())
	}
	if err := w.Checkpoint([]byte{5}); err != api.OK || w.Turn() != 1 || w.Left() != 3 || w.Len() != 0 {
		t.Errorf("Checkpoint: %d", err)
	}
	d.Arm(1)
	if err := w.Append(make([]byte, 49)); err != api.ErrDead {
		t.Errorf("Append without power: %d", err)
	}
	d.Crash([]bool{true})
	if w = opened(t, d); w.Len() != 0 || w.Left() != 3 || !bytes.Equal(w.Snapshot(), []byte{5}) {
		t.Error("Open")
	}
}
