package wal_test

import (
	"bytes"
	"fmt"
	"slices"
	"testing"

	"safehouse/api"
	"safehouse/disk"
	"safehouse/sha"
	"safehouse/wal"
)

// What stands here is the chapter's words once more, laid by other means than the package's: a model that says which sectors are written, and in which order.

var nought api.Block

// sealing answers a block of 60 bytes with their seal ahead.
func sealing(rest [60]byte) api.Block {
	id := sha.Sum(rest[:])
	var b api.Block
	copy(b[0:4], id[28:32])
	copy(b[4:64], rest[:])
	return b
}

// highest lays x in w bytes, the highest first.
func highest(x uint64, w int) []byte {
	row := make([]byte, w)
	for k := w - 1; k >= 0; k-- {
		row[k] = byte(x % 256)
		x /= 256
	}
	return row
}

// titleOf answers the title of a turn with fields of n sectors.
func titleOf(n uint32, turn uint32) api.Block {
	var rest [60]byte
	copy(rest[0:], highest(uint64(n), 4))
	copy(rest[4:], highest(uint64(turn), 4))
	copy(rest[8:], "SAFEHOUSE")
	return sealing(rest)
}

// leaf answers one leaf, whatever may stand in it.
func leaf(turn, number uint32, length, left int, text []byte) api.Block {
	var rest [60]byte
	copy(rest[0:], highest(uint64(turn), 4))
	copy(rest[4:], highest(uint64(number), 4))
	copy(rest[8:], highest(uint64(length), 2))
	copy(rest[10:], highest(uint64(left), 2))
	copy(rest[12:], text)
	return sealing(rest)
}

// leavesOf answers the leaves of an entry.
func leavesOf(turn uint32, number int, b []byte) []api.Block {
	l := []api.Block{leaf(turn, uint32(number), len(b), len(b), b[:min(48, len(b))])}
	for k := 48; k < len(b); k += 48 {
		l = append(l, leaf(turn, uint32(number), len(b), len(b)-k, b[k:min(k+48, len(b))]))
	}
	return l
}

// fills answers how many sectors n bytes fill.
func fills(n int) int {
	s := 1
	for s*48 < n {
		s++
	}
	return s
}

// op is a write, or a sync, that is done with a disk.
type op struct {
	sync   bool
	sector int
	block  api.Block
}

func (o op) String() string {
	switch {
	case o.sync:
		return "sync"
	case o.block == nought:
		return fmt.Sprintf("%d:0", o.sector)
	}
	return fmt.Sprintf("%d:%x", o.sector, o.block[:16])
}

// writes answers the writes of blocks, from a sector on, and a sync behind them.
func writes(first int, blocks ...api.Block) []op {
	var l []op
	for k, b := range blocks {
		l = append(l, op{sector: first + k, block: b})
	}
	return append(l, op{sync: true})
}

// said is all that a log tells, but for its disk and whether it is broken.
type said struct {
	area  int
	turn  uint32
	stood []byte
	came  [][]byte
}

func (s said) used() int {
	u := fills(len(s.stood))
	for _, b := range s.came {
		u += fills(len(b))
	}
	return u
}

func (s said) left() int { return s.area - s.used() }

// first answers the field's first sector.
func (s said) first() int {
	if s.turn%2 == 0 {
		return 2
	}
	return 2 + s.area
}

func (s said) same(o said) bool {
	return s.area == o.area && s.turn == o.turn && bytes.Equal(s.stood, o.stood) && slices.EqualFunc(s.came, o.came, bytes.Equal)
}

// deed is a call of a log, what it tells, what it does with the disk, and what is told behind it.
type deed struct {
	err  api.Errno
	ops  []op
	then said
}

// newBook answers the ops that make a book.
func newBook(s said) []op {
	return slices.Concat(
		writes(s.first(), leavesOf(s.turn, 0, s.stood)...),
		writes(int(s.turn%2), titleOf(uint32(s.area), s.turn)),
	)
}

func formatting(area int) deed {
	s := said{area: area}
	return deed{ops: append(writes(0, make([]api.Block, 2*area+2)...), newBook(s)...), then: s}
}

func (s said) appending(b []byte) deed {
	if len(b) > 40000 {
		return deed{err: api.ErrLong, then: s}
	}
	if fills(len(b)) > s.left() {
		return deed{err: api.ErrFull, then: s}
	}
	then := s
	then.came = append(slices.Clone(s.came), bytes.Clone(b))
	return deed{ops: writes(s.first()+s.used(), leavesOf(s.turn, len(s.came)+1, b)...), then: then}
}

func (s said) checkpointing(b []byte) deed {
	if len(b) > 40000 {
		return deed{err: api.ErrLong, then: s}
	}
	if fills(len(b)) > s.area || s.turn == 1<<32-1 {
		return deed{err: api.ErrFull, then: s}
	}
	then := said{area: s.area, turn: s.turn + 1, stood: bytes.Clone(b)}
	return deed{ops: newBook(then), then: then}
}

// opening answers what an Open does of a disk that holds the sectors of an image, with a loose write, or without.
func opening(image []api.Block, loose bool) deed {
	best := said{area: -1}
	for place := range 2 {
		b := image[place]
		n := uint32(b[4])<<24 | uint32(b[5])<<16 | uint32(b[6])<<8 | uint32(b[7])
		t := uint32(b[8])<<24 | uint32(b[9])<<16 | uint32(b[10])<<8 | uint32(b[11])
		may := n >= 4 && n <= 1000 && len(image) >= 2*int(n)+2
		if may && int(t%2) == place && b == titleOf(n, t) && (best.area < 0 || t > best.turn) {
			best = said{area: int(n), turn: t}
		}
	}
	if best.area < 0 {
		return deed{err: api.ErrWal}
	}
	field := image[best.first() : best.first()+best.area]
	end, number := 0, 0
	for end < len(field) {
		b, ok := standing(field[end:], best.turn, number)
		if !ok {
			break
		}
		if number == 0 {
			best.stood = b
		} else {
			best.came = append(best.came, b)
		}
		end += fills(len(b))
		number++
	}
	if number == 0 {
		return deed{err: api.ErrWal}
	}
	d := deed{then: best}
	for k := end; k < len(field); k++ {
		if field[k] != nought {
			d.ops = append(d.ops, op{sector: best.first() + k})
		}
	}
	if len(d.ops) > 0 || loose {
		d.ops = append(d.ops, op{sync: true})
	}
	return d
}

// standing answers the entry that stands at the front of sectors.
func standing(sectors []api.Block, turn uint32, number int) ([]byte, bool) {
	length := int(sectors[0][12])*256 + int(sectors[0][13])
	if length > 40000 || fills(length) > len(sectors) {
		return nil, false
	}
	var b []byte
	for k := range fills(length) {
		b = append(b, sectors[k][16:]...)
	}
	b = b[:length]
	return b, slices.Equal(leavesOf(turn, number, b), sectors[:fills(length)])
}

// newDisk makes a disk that there must be.
func newDisk(t testing.TB, sectors int) *disk.Disk {
	t.Helper()
	d, err := disk.New(sectors)
	if err != api.OK {
		t.Fatalf("a disk of %d sectors: %d", sectors, err)
	}
	return d
}

// laid makes a disk that holds blocks at sectors, all of them firm.
func laid(t testing.TB, sectors int, blocks map[int]api.Block) *disk.Disk {
	t.Helper()
	d := newDisk(t, sectors)
	for i, b := range blocks {
		if err := d.Write(i, b); err != api.OK {
			t.Fatalf("writing the sector %d: %d", i, err)
		}
	}
	d.Sync()
	return d
}

// imageOf answers what all sectors of a disk hold; the disk stays as it is.
func imageOf(t testing.TB, d *disk.Disk) []api.Block {
	t.Helper()
	c := d.Copy()
	if c.Dead() {
		c.Crash(slices.Repeat([]bool{true}, len(c.Pending())))
	}
	c.Arm(-1)
	c.Fail(-1)
	image := make([]api.Block, c.Len())
	for i := range image {
		var err api.Errno
		if image[i], err = c.Read(i); err != api.OK {
			t.Fatalf("reading the sector %d: %d", i, err)
		}
	}
	return image
}

// traceOf answers what a call does with a disk: both are prepared again and again, each time with the power going one write or sync later.
func traceOf(t testing.TB, prepare func() (*disk.Disk, func())) []op {
	t.Helper()
	var l []op
	for k := 1; ; k++ {
		d, call := prepare()
		d.Arm(k)
		call()
		if done(d, k) < k {
			return l
		}
		loose := d.Pending()
		if len(loose) == 0 {
			l = append(l, op{sync: true})
			continue
		}
		last := loose[len(loose)-1]
		l = append(l, op{sector: last, block: imageOf(t, d)[last]})
	}
}

// done answers how many writes and syncs were done of a disk that had been armed with k.
func done(d *disk.Disk, k int) int {
	c := d.Copy()
	for !c.Dead() && c.Sync() == api.OK {
		k--
	}
	return k
}

// checkOps holds what was done with a disk against what there is to do.
func checkOps(t testing.TB, what string, got, want []op) {
	t.Helper()
	if !slices.Equal(got, want) {
		t.Errorf("%s: done\n%v\nnot\n%v", what, got, want)
	}
}

// checkTold holds all that a log tells against what it ought to.
func checkTold(t testing.TB, what string, w *wal.Wal, want said) {
	t.Helper()
	if w == nil {
		t.Errorf("%s: no log", what)
		return
	}
	if w.Turn() != want.turn || w.Len() != len(want.came) || w.Left() != want.left() || !bytes.Equal(w.Snapshot(), want.stood) {
		t.Errorf("%s: Turn %d, Len %d, Left %d, a snapshot of %d bytes, not %d, %d, %d, %d", what, w.Turn(), w.Len(), w.Left(), len(w.Snapshot()), want.turn, len(want.came), want.left(), len(want.stood))
	}
	k := 0
	for number, b := range w.All() {
		if k >= len(want.came) || number != k+1 || !bytes.Equal(b, want.came[k]) {
			t.Errorf("%s: All tells %d bytes with the number %d in the place %d", what, len(b), number, k)
		}
		k++
	}
	if k != len(want.came) {
		t.Errorf("%s: All tells %d entries, not %d", what, k, len(want.came))
	}
}

// textOf answers n bytes that differ from place to place and with the seed.
func textOf(n int, seed byte) []byte {
	b := make([]byte, n)
	for k := range b {
		b[k] = seed + byte(k) + byte(k/251)
	}
	return b
}

// formatted makes a disk with a log on it.
func formatted(t testing.TB, sectors, area int) (*disk.Disk, *wal.Wal) {
	t.Helper()
	d := newDisk(t, sectors)
	w, err := wal.Format(d, area)
	if err != api.OK || w == nil {
		t.Fatalf("Format of %d sectors with fields of %d: %d", sectors, area, err)
	}
	return d, w
}

// opened opens a disk that must have a log.
func opened(t testing.TB, d *disk.Disk) *wal.Wal {
	t.Helper()
	w, err := wal.Open(d)
	if err != api.OK || w == nil {
		t.Fatalf("Open: %d", err)
	}
	return w
}

// notOpened holds an Open against the error that it ought to tell.
func notOpened(t testing.TB, what string, d *disk.Disk, want api.Errno) {
	t.Helper()
	if w, err := wal.Open(d); err != want || w != nil {
		t.Errorf("%s: Open: error %d, log %v, not the error %d alone", what, err, w != nil, want)
	}
}
