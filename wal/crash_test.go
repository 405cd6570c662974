package wal_test

import (
	"bytes"
	"fmt"
	"slices"
	"testing"

	"safehouse/api"
	"safehouse/disk"
	"safehouse/wal"
)

// keeps answers all ways to keep some of n loose writes.
func keeps(n int) (l [][]bool) {
	for bits := range 1 << n {
		keep := make([]bool, n)
		for k := range keep {
			keep[k] = bits>>k&1 == 1
		}
		l = append(l, keep)
	}
	return l
}

// change is an Append or a Checkpoint.
type change struct {
	checkpoint bool
	size       int
}

func (c change) String() string {
	if c.checkpoint {
		return fmt.Sprintf("Checkpoint(%d)", c.size)
	}
	return fmt.Sprintf("Append(%d)", c.size)
}

// do does a change, whose bytes hang on its place.
func (c change) do(w *wal.Wal, place int) api.Errno {
	if c.checkpoint {
		return w.Checkpoint(textOf(c.size, byte(place)))
	}
	return w.Append(textOf(c.size, byte(place)))
}

// of answers what the model says of a change.
func (c change) of(s said, place int) deed {
	if c.checkpoint {
		return s.checkpointing(textOf(c.size, byte(place)))
	}
	return s.appending(textOf(c.size, byte(place)))
}

// stories are changes, one behind the other, on fields of 4 sectors. In their fields there is first nothing, then what an older turn left there.
var stories = [][]change{
	{{false, 0}, {false, 60}, {true, 10}, {false, 100}, {true, 150}, {false, 3}, {true, 192}, {true, 0}, {false, 144}},
	{{true, 190}, {true, 49}, {false, 96}, {true, 1}, {true, 97}, {false, 48}, {true, 180}, {true, 3}, {false, 49}, {false, 1}},
}

// checkOpening opens a disk, with the power going at each place on the way, and all loose writes kept in all ways; what is told behind that is what is to be told.
func checkOpening(t *testing.T, what string, d *disk.Disk, want said) {
	t.Helper()
	for k := 0; ; k++ {
		c := d.Copy()
		c.Arm(k)
		w, err := wal.Open(c)
		if err == api.OK {
			checkTold(t, what, w, want)
			// What an Open has told stays, whatever power does then.
			c.Crash(nil)
			checkTold(t, what+", and power gone", opened(t, c), want)
			checkQuiet(t, what, c, want)
			return
		}
		if err != api.ErrDead || w != nil || k > 20 {
			t.Fatalf("%s: an Open whose power goes behind %d: %d", what, k, err)
		}
		for _, keep := range keeps(len(c.Pending())) {
			again := c.Copy()
			again.Crash(keep)
			checkTold(t, what+", an Open cut off", opened(t, again), want)
			again.Crash(nil)
			checkQuiet(t, what+", an Open cut off", again, want)
		}
	}
}

// checkBehindCut holds what is told of a disk behind a change that was cut off behind k things done against both that may be told; the model says which.
func checkBehindCut(t *testing.T, what string, d *disk.Disk, before, after said) {
	t.Helper()
	p := opening(imageOf(t, d), len(d.Pending()) > 0)
	if p.err != api.OK || !p.then.same(before) && !p.then.same(after) {
		t.Fatalf("%s: the disk says neither what was told nor what was under way: %d", what, p.err)
	}
	checkOpening(t, what, d, p.then)
	// The log goes on behind it as if there had been no cut.
	c := d.Copy()
	w := opened(t, c)
	s := p.then
	for place, next := range []change{{false, 20}, {true, 70}, {false, 50}, {true, 0}, {true, 100}} {
		q := next.of(s, place)
		if err := next.do(w, place); err != q.err {
			t.Fatalf("%s: behind it %v: %d, not %d", what, next, err, q.err)
		}
		s = q.then
		checkTold(t, what+", and on", w, s)
		c.Crash(nil)
		checkTold(t, what+", and on, opened", opened(t, c), s)
	}
}

// P4.5: power that goes before, between and behind each of the writes and syncs of a change, with each choice of loose writes kept.
func TestPowerGoes(t *testing.T) {
	for number, story := range stories {
		d, w := formatted(t, 10, 4)
		s := said{area: 4}
		for place, c := range story {
			p := c.of(s, place)
			for k := range len(p.ops) + 1 {
				cut := d.Copy()
				log := opened(t, cut)
				cut.Arm(k)
				err := c.do(log, place)
				if want := map[bool]api.Errno{true: p.err, false: api.ErrDead}[k >= len(p.ops)]; err != want {
					t.Fatalf("story %d, %v, power for %d: %d", number, c, k, err)
				}
				for _, keep := range keeps(len(cut.Pending())) {
					crashed := cut.Copy()
					crashed.Crash(keep)
					before := s
					if err == api.OK {
						before = p.then
					}
					checkBehindCut(t, fmt.Sprintf("story %d, %d: %v, power for %d, kept %v", number, place, c, k, keep), crashed, before, p.then)
				}
			}
			if err := c.do(w, place); err != p.err {
				t.Fatalf("story %d, %v: %d", number, c, err)
			}
			s = p.then
			checkTold(t, c.String(), w, s)
		}
	}
}

// P4.5: a disk that fails at each of the writes and syncs of a change: opened with its writes loose, and behind a crash.
func TestDiskFails(t *testing.T) {
	for number, story := range stories {
		d, w := formatted(t, 10, 4)
		s := said{area: 4}
		for place, c := range story {
			p := c.of(s, place)
			for k := range p.ops {
				what := fmt.Sprintf("story %d, %d: %v, failing behind %d", number, place, c, k)
				cut := d.Copy()
				log := opened(t, cut)
				cut.Fail(k)
				if err := c.do(log, place); err != api.ErrIo || !log.Broken() {
					t.Fatalf("%s: %d", what, err)
				}
				checkTold(t, what, log, s)
				for _, keep := range keeps(len(cut.Pending())) {
					crashed := cut.Copy()
					crashed.Crash(keep)
					checkBehindCut(t, what, crashed, s, p.then)
				}
				checkOpeningLoose(t, what, cut, s, p.then)
			}
			c.do(w, place)
			s = p.then
		}
	}
}

// checkOpeningLoose opens a disk on which writes are loose; when that is cut off, either may be told.
func checkOpeningLoose(t *testing.T, what string, d *disk.Disk, before, after said) {
	t.Helper()
	want := opening(imageOf(t, d), len(d.Pending()) > 0).then
	for k := 0; ; k++ {
		c := d.Copy()
		c.Arm(k)
		w, err := wal.Open(c)
		if err == api.OK {
			checkTold(t, what+", opened at once", w, want)
			c.Crash(nil)
			checkTold(t, what+", opened at once, and power gone", opened(t, c), want)
			checkQuiet(t, what, c, want)
			return
		}
		if k > 20 {
			t.Fatalf("%s: opened at once: %d", what, err)
		}
		for _, keep := range keeps(len(c.Pending())) {
			again := c.Copy()
			again.Crash(keep)
			checkBehindCut(t, what+", opened at once, cut off", again, before, after)
		}
	}
}

// P4.5: an entry of the greatest size, cut off where it begins, within it, and behind its last leaf.
func TestLongEntryCutOff(t *testing.T) {
	const leaves = 834
	b := textOf(api.MaxTx, 3)
	for _, checkpoint := range []bool{false, true} {
		d, w := formatted(t, 2002, 1000)
		w.Append([]byte{1})
		before := said{area: 1000, came: [][]byte{{1}}}
		after := before.appending(b).then
		if checkpoint {
			after = before.checkpointing(b).then
		}
		for _, k := range []int{0, 1, 417, leaves - 1, leaves, leaves + 1, leaves + 2} {
			cut := d.Copy()
			log := opened(t, cut)
			cut.Arm(k)
			if checkpoint {
				log.Checkpoint(b)
			} else {
				log.Append(b)
			}
			n := len(cut.Pending())
			all, butLast, butFirst := slices.Repeat([]bool{true}, n), slices.Repeat([]bool{true}, n), slices.Repeat([]bool{true}, n)
			if n > 0 {
				butLast[n-1], butFirst[0] = false, false
			}
			for _, keep := range [][]bool{nil, all, butLast, butFirst} {
				c := cut.Copy()
				c.Crash(keep)
				p := opening(imageOf(t, c), false)
				what := fmt.Sprintf("40000 bytes, checkpoint %v, cut off behind %d", checkpoint, k)
				if p.err != api.OK || !p.then.same(before) && !p.then.same(after) {
					t.Fatalf("%s: the disk says neither what was told nor what was under way", what)
				}
				checkTold(t, what, opened(t, c), p.then)
				checkQuiet(t, what, c, p.then)
			}
		}
	}
}

// P4.1, P4.5: a Format that is cut off leaves no log, or, of a disk that was new, its own one; of one that had a log what stands there then is told.
func TestFormatCutOff(t *testing.T) {
	old := func() *disk.Disk {
		d, w := formatted(t, 10, 4)
		w.Append([]byte{1})
		w.Checkpoint([]byte{2})
		w.Append([]byte{3})
		return d
	}
	all := formatting(4)
	for name, prepare := range map[string]func() *disk.Disk{"new": func() *disk.Disk { return newDisk(t, 10) }, "with a log": old, "full": func() *disk.Disk { return prefilled(t, 10) }} {
		for k := range len(all.ops) + 1 {
			for _, fail := range []bool{false, true} {
				d := prepare()
				if fail {
					d.Fail(k)
				} else {
					d.Arm(k)
				}
				_, err := wal.Format(d, 4)
				what := fmt.Sprintf("a Format of a disk that is %s, cut off behind %d", name, k)
				for _, keep := range keeps(len(d.Pending())) {
					c := d.Copy()
					c.Crash(keep)
					p := opening(imageOf(t, c), false)
					if name != "with a log" && p.err == api.OK && !p.then.same(all.then) || err == api.OK && p.err != api.OK {
						t.Fatalf("%s: the disk says what was never told", what)
					}
					if p.err != api.OK {
						notOpened(t, what, c, p.err)
						continue
					}
					checkOpening(t, what, c, p.then)
				}
			}
		}
	}
}

// chance answers numbers that look picked, always the same ones.
type chance uint32

func (c *chance) below(n int) int {
	*c = *c*1664525 + 1013904223
	return int(*c>>8) % n
}

// size picks a count of bytes, the edges often.
func (c *chance) size() int {
	return c.below(4)*48 + []int{-1, 0, 1, c.below(48)}[c.below(4)]
}

// P4.1 to P4.5: long ways, in which power goes and the disk fails wherever it may; the log, and all that the disk holds, is held against the model.
func TestLongWays(t *testing.T) {
	for seed := range 60 {
		pick := chance(seed)
		area := 4 + pick.below(6)
		d, w := formatted(t, 2*area+2+pick.below(3), area)
		s := said{area: area}
		image := imageOf(t, d)
		for step := range 200 {
			what := fmt.Sprintf("way %d, step %d", seed, step)
			c := change{pick.below(4) == 0, max(0, pick.size())}
			b := textOf(c.size, byte(step))
			p := c.of(s, step)
			cut := len(p.ops) + 1
			if pick.below(3) == 0 {
				cut = pick.below(8)
			}
			fail := pick.below(2) == 0
			if fail {
				d.Fail(cut)
			} else {
				d.Arm(cut)
			}
			err := c.do(w, step)
			d.Fail(-1)
			d.Arm(-1)
			if !bytes.Equal(b, textOf(c.size, byte(step))) {
				t.Fatalf("%s: what was handed in has changed", what)
			}
			if cut >= len(p.ops) {
				if err != p.err {
					t.Fatalf("%s: %v: %d, not %d", what, c, err, p.err)
				}
				s = p.then
				checkTold(t, what, w, s)
				image = replay(image, p.ops)
				if !slices.Equal(imageOf(t, d), image) {
					t.Fatalf("%s: %v: the disk holds something else", what, c)
				}
				continue
			}
			checkTold(t, what, w, s)
			if !fail || pick.below(2) == 0 {
				keep := make([]bool, len(d.Pending()))
				for k := range keep {
					keep[k] = pick.below(2) == 0
				}
				d.Crash(keep)
			}
			q := opening(imageOf(t, d), len(d.Pending()) > 0)
			image = replay(imageOf(t, d), q.ops)
			if q.err != api.OK || !q.then.same(s) && !q.then.same(p.then) {
				t.Fatalf("%s: %v: the disk says neither what was told nor what was under way", what, c)
			}
			s = q.then
			w = opened(t, d)
			checkTold(t, what+", opened", w, s)
			if !slices.Equal(imageOf(t, d), image) || len(d.Pending()) > 0 {
				t.Fatalf("%s: opened, the disk holds something else", what)
			}
		}
	}
}

// replay answers what sectors hold behind things done.
func replay(image []api.Block, ops []op) []api.Block {
	image = slices.Clone(image)
	for _, o := range ops {
		if !o.sync {
			image[o.sector] = o.block
		}
	}
	return image
}
