package signer_test

import (
	"fmt"
	"slices"
	"testing"

	"safehouse/api"
	"safehouse/disk"
	"safehouse/merkle"
	"safehouse/signer"
)

// life is what power leaves of a disk: what its sectors hold, and the last leaf that was told by then, by whatever signer; -1 if none was.
type life struct {
	image string
	last  int
}

// disk makes a disk that holds what is left.
func (l life) disk(t testing.TB) *disk.Disk {
	image := make([]api.Block, len(l.image)/64)
	for k := range image {
		image[k] = api.Block([]byte(l.image[64*k : 64*k+64]))
	}
	return laid(t, image)
}

// lives are all that were met, and those of them that are still to be gone on with.
type lives struct {
	t    *testing.T
	seed api.Id
	root api.Id
	met  map[life]bool
	open []life
}

func newLives(t *testing.T, seed api.Id) *lives {
	return &lives{t: t, seed: seed, root: merkle.Root(seed), met: map[life]bool{}}
}

// crash lets the power go, and meets what is left of each choice of loose writes.
func (l *lives) crash(d *disk.Disk, last int) {
	for _, keep := range keeps(len(d.Pending())) {
		c := d.Copy()
		c.Crash(keep)
		x := life{string(bytesOf(imageOf(l.t, c))), last}
		if !l.met[x] {
			l.met[x] = true
			l.open = append(l.open, x)
		}
	}
}

// sign signs so often, or till that fails. No leaf may be told that is not behind all that were told before, by whomever; all of them the root verifies.
func (l *lives) sign(what string, s *signer.Signer, times, last int) (int, api.Errno) {
	l.t.Helper()
	for range times {
		next, m := s.Next(), rising(7*last)
		x, err := s.Sign(m)
		if err != api.OK {
			if s.Next() != next {
				l.t.Fatalf("%s: a Sign told the error %d, and Next fell or rose from %d to %d", what, err, next, s.Next())
			}
			return last, err
		}
		if x.Leaf <= last || x.Leaf != next || s.Next() != next+1 {
			l.t.Fatalf("%s: signed by the leaf %d, though %d was told, and %d was next", what, x.Leaf, last, next)
		}
		if !merkle.Verify(l.root, m, x) {
			l.t.Fatalf("%s: the root does not verify what the leaf %d signed", what, x.Leaf)
		}
		last = x.Leaf
	}
	return last, api.OK
}

// format begins on a disk, with the power going behind each of the things that are done.
func (l *lives) format(prepare func() *disk.Disk, area int) {
	for k := 0; ; k++ {
		d := prepare()
		d.Arm(k)
		s, err := signer.Format(d, area, l.seed)
		last := -1
		if err == api.OK {
			last, err = l.sign("formatted", s, 2, last)
		}
		l.crash(d, last)
		if err == api.OK {
			return
		}
	}
}

// next goes on with one of them: a signer is opened, and signs, with the power going behind each of the things that are done.
func (l *lives) next(x life) {
	for k := 0; ; k++ {
		d, last := x.disk(l.t), x.last
		what := fmt.Sprintf("last told %d, power for %d", last, k)
		d.Arm(k)
		s, err := signer.Open(d)
		if err == api.OK {
			l.checkOpened(what, s, last)
			last, err = l.sign(what, s, 1, last)
		} else if err != api.ErrDead && last >= 0 {
			l.t.Fatalf("%s: no signer is there any more, error %d", what, err)
		}
		l.crash(d, last)
		if !d.Dead() {
			return
		}
	}
}

// fail goes on with one of them, with the disk failing once behind each of the things that are asked of it: a signer whose log is broken signs no more; others are opened, at once, or behind a crash.
func (l *lives) fail(x life) {
	for k := 0; ; k++ {
		d, last := x.disk(l.t), x.last
		what := fmt.Sprintf("last told %d, failing behind %d", last, k)
		d.Fail(k)
		s, err := signer.Open(d)
		if err == api.OK {
			last, err = l.sign(what, s, 1, last)
		}
		failed := err == api.ErrIo
		l.crash(d, last)
		if !failed {
			return
		}
		if s != nil {
			checkUnsigned(l.t, what+", broken", s, api.ErrIo)
		}
		if other, err := signer.Open(d); err == api.OK {
			l.checkOpened(what+", another one", other, last)
			last, _ = l.sign(what+", another one", other, 1, last)
			l.crash(d, last)
		} else if last >= 0 {
			l.t.Fatalf("%s: no other signer can be opened, error %d", what, err)
		}
		if s != nil {
			checkUnsigned(l.t, what+", broken, and another one opened", s, api.ErrIo)
		}
	}
}

// checkOpened holds an opened signer against what was told: at most one leaf was taken and not told, as behind one whose telling was cut off another one may be lost.
func (l *lives) checkOpened(what string, s *signer.Signer, last int) {
	l.t.Helper()
	if s.Next() <= last || s.Next() > 8 || s.Broken() {
		l.t.Fatalf("%s: opened, Next is %d, Broken %v", what, s.Next(), s.Broken())
	}
}

// P10.4, P10.1: all that can come of a disk, on the smallest areas and on others, from its Format to its last leaf: the power goes wherever it may, as often as it may, in Format, in Open and in Sign, and whatever loose writes survive; or the disk fails.
func TestNoLeafIsToldTwice(t *testing.T) {
	for _, area := range []int{4, 5, 9} {
		t.Run(fmt.Sprintf("areas of %d", area), func(t *testing.T) {
			t.Parallel()
			l := newLives(t, mixed())
			if area == 4 {
				l.format(func() *disk.Disk { return newDisk(t, 2*area+2) }, area)
			} else {
				// Of a disk that is wiped already each choice of the noughts that survive is the same; so it is begun behind the first sync.
				d, _ := formatted(t, 2*area+2, area, mixed())
				l.crash(d, -1)
			}
			spent := 0
			for len(l.open) > 0 && !t.Failed() {
				x := l.open[0]
				l.open = l.open[1:]
				l.next(x)
				l.fail(x)
				if x.last == 7 {
					spent++
				}
			}
			if spent == 0 || len(l.met) < 30 {
				t.Errorf("only %d disks were met, of %d the last leaf was told", len(l.met), spent)
			}
		})
	}
}

// P10.1: a Format that is cut off where an older signer was leaves none, or the new one with no leaf taken, or the older one as it stood at some time: whoever formats a disk gives up what was there.
func TestFormatCutOff(t *testing.T) {
	made, s := formatted(t, 10, 4, rising(8))
	for leaf := range 5 {
		signed(t, "the older signer", s, rising(leaf), leaf)
	}
	want := fresh(4, mixed()).formatting()
	seen := map[string]int{}
	for k := range len(want) + 1 {
		d := made.Copy()
		d.Arm(k)
		_, err := signer.Format(d, 4, mixed())
		if (err == api.OK) != (k == len(want)) {
			t.Fatalf("a Format with power for %d: error %d", k, err)
		}
		for _, keep := range keeps(len(d.Pending())) {
			c := d.Copy()
			c.Crash(keep)
			seen[leftOf(t, c)]++
		}
	}
	if seen["none"] == 0 || seen["new, 0"] != 2 || seen["older, 5"] == 0 {
		t.Errorf("seen: %v", seen)
	}
	for what := range seen {
		if !slices.Contains([]string{"none", "new, 0", "older, 0", "older, 1", "older, 2", "older, 3", "older, 4", "older, 5"}, what) {
			t.Errorf("what a Format left is %s", what)
		}
	}
}

// leftOf answers which signer a disk has, and how many of its leaves are taken.
func leftOf(t *testing.T, d *disk.Disk) string {
	t.Helper()
	s, err := signer.Open(d)
	if err == api.ErrWal || err == api.ErrSigner {
		checkNone(t, "cut off", s, err, err)
		return "none"
	}
	if err != api.OK {
		t.Fatalf("cut off: Open tells %d", err)
	}
	who := map[api.Id]string{mixed(): "new", rising(8): "older"}[api.Id(logOf(t, d).Snapshot()[:32])]
	return fmt.Sprintf("%s, %d", who, s.Next())
}

// P10.4: power that comes and goes while nothing is under way takes nothing, and the signer goes on.
func TestQuietCrash(t *testing.T) {
	d, s := formatted(t, 10, 4, mixed())
	l := newLives(t, mixed())
	last := -1
	for range 8 {
		d.Crash(nil)
		last, _ = l.sign("a quiet crash", s, 1, last)
	}
	if last != 7 || s.Broken() {
		t.Errorf("the last leaf that was told is %d, the log is broken: %v", last, s.Broken())
	}
}

// way is one long way of a disk: the signer that is used, those that were, and what was told.
type way struct {
	*lives
	d    *disk.Disk
	s    *signer.Signer
	gone []*signer.Signer
	last int
}

// reopen opens a signer, which is used from then on.
func (w *way) reopen(what string) {
	s, err := signer.Open(w.d)
	if err != api.OK {
		return
	}
	w.checkOpened(what, s, w.last)
	w.gone = append(w.gone, w.s)
	w.s = s
}

// step does something that is picked.
func (w *way) step(what string, pick *chance) {
	switch pick.below(6) {
	case 0:
		w.d.Arm(pick.below(5))
	case 1:
		w.d.Fail(pick.below(12))
	case 2:
		keep := make([]bool, len(w.d.Pending()))
		for k := range keep {
			keep[k] = pick.below(2) == 0
		}
		w.d.Crash(keep)
	case 3:
		w.reopen(what)
	default:
		w.last, _ = w.sign(what, w.s, 1, w.last)
	}
}

// P10.4: long ways in which all comes as it may: power, failing disks, crashes, one signer opened behind the other.
func TestLongWays(t *testing.T) {
	t.Parallel()
	leaves := 0
	for n := range 60 {
		pick := chance(n)
		area := 4 + pick.below(3)
		w := &way{lives: newLives(t, rising(n)), last: -1}
		w.d, w.s = formatted(t, 2*area+2+pick.below(3), area, rising(n))
		for step := range 60 {
			what := fmt.Sprintf("way %d, step %d", n, step)
			w.step(what, &pick)
			for _, s := range w.gone {
				if s.Broken() {
					checkUnsigned(t, what+", one that is broken", s, api.ErrIo)
				}
			}
		}
		leaves += w.last + 1
	}
	if leaves < 200 {
		t.Errorf("only %d leaves were told in all", leaves)
	}
}
