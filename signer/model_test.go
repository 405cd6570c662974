package signer_test

import (
	"bytes"
	"fmt"
	"slices"
	"testing"

	"safehouse/api"
	"safehouse/disk"
	"safehouse/merkle"
	"safehouse/sha"
	"safehouse/signer"
	"safehouse/wal"
)

// What stands here is the chapter's words once more: a model that says what a signer's log is, down to the sectors that are written, and in which order.

var nought api.Block

// sealing answers a block of 60 bytes, noughts behind them, with their seal ahead.
func sealing(parts ...[]byte) api.Block {
	row := slices.Concat(parts...)
	row = append(row, make([]byte, 60-len(row))...)
	id := sha.Sum(row)
	return api.Block(slices.Concat(id[28:], row))
}

// highest lays x in w bytes, the highest first.
func highest(x uint64, w int) []byte {
	row := make([]byte, w)
	for k := w - 1; k >= 0; k-- {
		row[k] = byte(x % 256)
		x /= 256
	}
	return row
}

// titleOf answers the title of a turn with fields of n sectors.
func titleOf(n int, turn uint32) api.Block {
	return sealing(highest(uint64(n), 4), highest(uint64(turn), 4), []byte("SAFEHOUSE"))
}

// leafOf answers the one leaf of an entry of at most 48 bytes.
func leafOf(turn uint32, number int, b []byte) api.Block {
	length := highest(uint64(len(b)), 2)
	return sealing(highest(uint64(turn), 4), highest(uint64(number), 4), length, length, b)
}

// op is a write, or a sync, that is done with a disk.
type op struct {
	sync   bool
	sector int
	block  api.Block
}

func (o op) String() string {
	switch {
	case o.sync:
		return "sync"
	case o.block == nought:
		return fmt.Sprintf("%d:0", o.sector)
	}
	return fmt.Sprintf("%d:%x", o.sector, o.block[:])
}

// lasting answers the write of a block, and a sync behind it.
func lasting(sector int, b api.Block) []op {
	return []op{{sector: sector, block: b}, {sync: true}}
}

// story is how a signer's log stands: how many leaves were taken ahead of its snapshot, and how many behind.
type story struct {
	seed        api.Id
	area        int
	turn        uint32
	ahead, came int
}

func (s story) next() int { return s.ahead + s.came }

// first answers the field's first sector.
func (s story) first() int {
	return 2 + s.area*int(s.turn%2)
}

// snapshot answers how things stood.
func (s story) snapshot() []byte {
	return append(bytes.Clone(s.seed[:]), byte(s.ahead))
}

// book answers the ops that make the log's book: the first two of them lay it, and with the last two it counts.
func (s story) book() []op {
	return append(lasting(s.first(), leafOf(s.turn, 0, s.snapshot())), lasting(int(s.turn%2), titleOf(s.area, s.turn))...)
}

// fresh is how a signer's log stands behind its Format.
func fresh(area int, seed api.Id) story {
	return story{seed: seed, area: area, turn: 1}
}

// formatting answers the ops of a Format: those of a log without entries, and of the checkpoint.
func (s story) formatting() []op {
	var l []op
	for k := range 2*s.area + 2 {
		l = append(l, op{sector: k})
	}
	l = append(l, op{sync: true})
	l = append(l, lasting(2, leafOf(0, 0, nil))...)
	l = append(l, lasting(0, titleOf(s.area, 0))...)
	return append(l, s.book()...)
}

// signing answers what a Sign tells, what it does with the disk, and how the log stands then.
func (s story) signing() (api.Errno, []op, story) {
	leaf, then := s.next(), s
	switch {
	case leaf == 8:
		return api.ErrSpent, nil, s
	case 1+s.came < s.area:
		then.came++
		return api.OK, lasting(s.first()+1+s.came, leafOf(s.turn, 1+s.came, []byte{byte(leaf)})), then
	case s.turn == 1<<32-1:
		return api.ErrFull, nil, s
	}
	then = story{seed: s.seed, area: s.area, turn: s.turn + 1, ahead: leaf + 1}
	return api.OK, then.book(), then
}

// behind answers how the log stands behind n calls of Sign.
func (s story) behind(n int) story {
	for range n {
		_, _, s = s.signing()
	}
	return s
}

// replay answers what sectors hold behind things done.
func replay(image []api.Block, ops []op) []api.Block {
	image = slices.Clone(image)
	for _, o := range ops {
		if !o.sync {
			image[o.sector] = o.block
		}
	}
	return image
}

// isSigners tells whether a log of that snapshot, and with those transactions, has a signer; and how many leaves are taken then.
func isSigners(snapshot []byte, came [][]byte) (int, bool) {
	if len(snapshot) != 33 || snapshot[32] > 8 {
		return 0, false
	}
	all := []byte{0, 1, 2, 3, 4, 5, 6, 7}
	next := all[snapshot[32]:]
	if len(came) > len(next) {
		return 0, false
	}
	for k, tx := range came {
		if !bytes.Equal(tx, next[k:k+1]) {
			return 0, false
		}
	}
	return int(snapshot[32]) + len(came), true
}

// filled answers 32 bytes that are x.
func filled(x byte) api.Id {
	return api.Id(bytes.Repeat([]byte{x}, 32))
}

// mixed answers bytes by a rule that other programs can be asked by, too: the byte k is 37 k^2 + 11 k + 5.
func mixed() (id api.Id) {
	for k := range id {
		id[k] = byte(37*k*k + 11*k + 5)
	}
	return id
}

// rising answers the bytes from x on.
func rising(x int) (id api.Id) {
	for k := range id {
		id[k] = byte(x + k)
	}
	return id
}

// newDisk makes a disk that there must be.
func newDisk(t testing.TB, sectors int) *disk.Disk {
	t.Helper()
	d, err := disk.New(sectors)
	if err != api.OK {
		t.Fatalf("a disk of %d sectors: error %d", sectors, err)
	}
	return d
}

// prefilled makes a disk whose sectors all hold something, firmly.
func prefilled(t testing.TB, sectors int) *disk.Disk {
	t.Helper()
	d := newDisk(t, sectors)
	for i := range sectors {
		d.Write(i, api.Block(bytes.Repeat([]byte{byte(1 + i%255)}, 64)))
	}
	d.Sync()
	return d
}

// laid makes a disk whose sectors hold what the image says, firmly.
func laid(t testing.TB, image []api.Block) *disk.Disk {
	t.Helper()
	d := newDisk(t, len(image))
	for i, b := range image {
		d.Write(i, b)
	}
	d.Sync()
	return d
}

// imageOf answers what all sectors of a disk hold; the disk stays as it is.
func imageOf(t testing.TB, d *disk.Disk) []api.Block {
	t.Helper()
	c := d.Copy()
	if c.Dead() {
		c.Crash(slices.Repeat([]bool{true}, len(c.Pending())))
	}
	c.Arm(-1)
	c.Fail(-1)
	image := make([]api.Block, c.Len())
	for i := range image {
		var err api.Errno
		if image[i], err = c.Read(i); err != api.OK {
			t.Fatalf("reading the sector %d: error %d", i, err)
		}
	}
	return image
}

// checkImage holds what all sectors hold against what they ought to.
func checkImage(t testing.TB, what string, d *disk.Disk, want []api.Block) {
	t.Helper()
	for i, b := range imageOf(t, d) {
		if b != want[i] {
			t.Errorf("%s: the sector %d holds %x, not %x", what, i, b, want[i])
		}
	}
}

// opsOf answers which writes and syncs a call does with a disk: it is called again and again, on a copy each time, with the power going one of them later.
func opsOf(t testing.TB, d *disk.Disk, call func(*disk.Disk)) []op {
	t.Helper()
	var l []op
	for k := 1; ; k++ {
		c := d.Copy()
		c.Arm(k)
		call(c)
		if powerLeft(c) > 0 {
			return l
		}
		// The last one that was done is at the end of the loose ones, if it was a write.
		loose := c.Pending()
		if len(loose) == 0 {
			l = append(l, op{sync: true})
			continue
		}
		last := loose[len(loose)-1]
		l = append(l, op{sector: last, block: imageOf(t, c)[last]})
	}
}

// powerLeft answers how many more writes and syncs an armed disk would do.
func powerLeft(d *disk.Disk) int {
	c, n := d.Copy(), 0
	for c.Sync() == api.OK {
		n++
	}
	return n
}

// checkOps holds what was done with a disk against what there is to do.
func checkOps(t testing.TB, what string, got, want []op) {
	t.Helper()
	if !slices.Equal(got, want) {
		t.Errorf("%s: done\n%v\nnot\n%v", what, got, want)
	}
}

// formatted makes a disk with a signer on it.
func formatted(t testing.TB, sectors, area int, seed api.Id) (*disk.Disk, *signer.Signer) {
	t.Helper()
	d := newDisk(t, sectors)
	s, err := signer.Format(d, area, seed)
	if err != api.OK || s == nil {
		t.Fatalf("Format of %d sectors with areas of %d: error %d", sectors, area, err)
	}
	return d, s
}

// opened opens a disk that must have a signer.
func opened(t testing.TB, what string, d *disk.Disk) *signer.Signer {
	t.Helper()
	s, err := signer.Open(d)
	if err != api.OK || s == nil {
		t.Fatalf("%s: Open: error %d", what, err)
	}
	return s
}

// logOf opens the log on a copy of the disk.
func logOf(t testing.TB, d *disk.Disk) *wal.Wal {
	t.Helper()
	w, err := wal.Open(d.Copy())
	if err != api.OK {
		t.Fatalf("no log stands on the disk: error %d", err)
	}
	return w
}

// signed signs m by a leaf that must be there.
func signed(t testing.TB, what string, s *signer.Signer, m api.Id, leaf int) api.Signed {
	t.Helper()
	x, err := s.Sign(m)
	if err != api.OK || x.Leaf != leaf {
		t.Fatalf("%s: signed by the leaf %d, error %d, not by the leaf %d", what, x.Leaf, err, leaf)
	}
	return x
}

// checkSigned holds a signature against the seed's by that leaf, and asks the root for it.
func checkSigned(t testing.TB, what string, s *signer.Signer, x api.Signed, seed, m api.Id, leaf int) {
	t.Helper()
	want, _ := merkle.Sign(seed, m, leaf)
	if x.Leaf != leaf || !slices.Equal(x.Chains, want.Chains) || !slices.Equal(x.Path, want.Path) {
		t.Errorf("%s: not the seed's signature by the leaf %d", what, leaf)
	}
	if !merkle.Verify(s.Root(), m, x) {
		t.Errorf("%s: the root does not verify what the leaf %d signed", what, leaf)
	}
}

// checkUnsigned signs, and holds the error against that one, and all that stands beside it against nothing.
func checkUnsigned(t testing.TB, what string, s *signer.Signer, want api.Errno) {
	t.Helper()
	x, err := s.Sign(rising(9))
	if err != want || x.Leaf != 0 || x.Chains != nil || x.Path != nil {
		t.Errorf("%s: signed by the leaf %d, %d chains, %d in the path, error %d; not just the error %d", what, x.Leaf, len(x.Chains), len(x.Path), err, want)
	}
}

// checkTold holds what a signer tells without much reckoning.
func checkTold(t testing.TB, what string, s *signer.Signer, next int, broken bool) {
	t.Helper()
	if s.Next() != next || s.Broken() != broken {
		t.Errorf("%s: Next %d, Broken %v, not %d, %v", what, s.Next(), s.Broken(), next, broken)
	}
}

// checkNone holds what a Format or an Open answered against that error, and no signer.
func checkNone(t testing.TB, what string, s *signer.Signer, err, want api.Errno) {
	t.Helper()
	if err != want || s != nil {
		t.Errorf("%s: error %d, a signer: %v; not just the error %d", what, err, s != nil, want)
	}
}

// keeps answers all ways to keep some of n loose writes.
func keeps(n int) (l [][]bool) {
	for bits := range 1 << n {
		keep := make([]bool, n)
		for k := range keep {
			keep[k] = bits>>k&1 == 1
		}
		l = append(l, keep)
	}
	return l
}

// chance answers numbers that look picked, always the same ones.
type chance uint32

func (c *chance) below(n int) int {
	*c = *c*1664525 + 1013904223
	return int(*c>>8) % n
}
