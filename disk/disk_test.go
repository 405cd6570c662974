package disk_test

import (
	"math"
	"slices"
	"testing"

	"safehouse/api"
	"safehouse/disk"
)

// sectorOf answers a block that differs from that of any other number in its first and in its last byte, and from noughts.
func sectorOf(n byte) api.Block {
	var b api.Block
	for i := range b {
		b[i] = n + 1
	}
	return b
}

var noughts, x, y, z = api.Block{}, sectorOf(1), sectorOf(2), sectorOf(3)

// newDisk makes a disk that there must be.
func newDisk(t *testing.T, sectors int) *disk.Disk {
	t.Helper()
	d, err := disk.New(sectors)
	if err != api.OK || d == nil {
		t.Fatalf("New(%d): %v, %d", sectors, d, err)
	}
	return d
}

// errs gathers what calls told, one behind the other.
func errs(l ...api.Errno) []api.Errno { return l }

// checkErrs holds what calls told against what they ought to tell.
func checkErrs(t *testing.T, what string, got []api.Errno, want ...api.Errno) {
	t.Helper()
	if !slices.Equal(got, want) {
		t.Errorf("%s: told %v, not %v", what, got, want)
	}
}

// readErr reads the sector i: its error, beside which there must be noughts.
func readErr(t *testing.T, d *disk.Disk, i int) api.Errno {
	t.Helper()
	b, err := d.Read(i)
	if err != api.OK && b != noughts {
		t.Errorf("Read(%d) tells error %d, and a block", i, err)
	}
	return err
}

// checkHolds reads all sectors of a disk that is neither armed nor set to fail.
func checkHolds(t *testing.T, what string, d *disk.Disk, want ...api.Block) {
	t.Helper()
	if d.Len() != len(want) {
		t.Errorf("%s: %d sectors, not %d", what, d.Len(), len(want))
		return
	}
	for i := range want {
		if b, err := d.Read(i); err != api.OK || b != want[i] {
			t.Errorf("%s: sector %d: error %d, holds %d.., not %d..", what, i, err, b[0], want[i][0])
		}
	}
}

// checkPending holds the loose writes' sectors against those that there ought to be.
func checkPending(t *testing.T, what string, d *disk.Disk, want ...int) {
	t.Helper()
	if got := d.Pending(); !slices.Equal(got, want) {
		t.Errorf("%s: pending %v, not %v", what, got, want)
	}
}

// P2.1: from 1 to 2048 sectors there is a disk, with one less or one more there is none.
func TestNewSizes(t *testing.T) {
	for _, n := range []int{1, 2, 3, 64, 2047, 2048} {
		d := newDisk(t, n)
		if d.Len() != n {
			t.Errorf("New(%d): Len %d", n, d.Len())
		}
	}
	for _, n := range []int{math.MinInt, -2048, -1, 0, 2049, 1 << 32, math.MaxInt} {
		if d, err := disk.New(n); d != nil || err != api.ErrArg {
			t.Errorf("New(%d): %v, %d", n, d, err)
		}
	}
}

// P2.1: a new disk has power and no story, and neither an end of the power nor a failure comes.
func TestNewStands(t *testing.T) {
	for _, n := range []int{1, 5, 2048} {
		d := newDisk(t, n)
		checkPending(t, "a new one", d)
		if d.Dead() || d.Ops() != 0 {
			t.Errorf("a new one: Dead %t, Ops %d", d.Dead(), d.Ops())
		}
		checkHolds(t, "a new one", d, make([]api.Block, n)...)
		for k := range 3000 {
			if err := d.Write(k%n, x); err != api.OK {
				t.Fatalf("write %d of %d sectors: %d", k, n, err)
			}
			if err := d.Sync(); err != api.OK {
				t.Fatalf("sync %d of %d sectors: %d", k, n, err)
			}
		}
		if d.Ops() != n+6000 || d.Dead() {
			t.Errorf("behind %d done: Ops %d, Dead %t", n+6000, d.Ops(), d.Dead())
		}
	}
}

// P2.1: each disk has a story of its own.
func TestNewApart(t *testing.T) {
	a, b := newDisk(t, 2), newDisk(t, 2)
	checkErrs(t, "one of two", errs(a.Write(0, x), a.Sync(), a.Write(1, y), a.Fail(0), b.Write(1, z)), 0, 0, 0, 0, 0)
	checkHolds(t, "the other one", b, noughts, z)
	checkPending(t, "the one", a, 1)
	checkPending(t, "the other one", b, 1)
}

// P2.2: a sector holds the block of its last write, wherever that is in the story, and noughts without one.
func TestReadLastWrite(t *testing.T) {
	d := newDisk(t, 4)
	checkErrs(t, "writes", errs(d.Write(0, x), d.Write(3, y), d.Write(0, y), d.Write(2, x), d.Write(0, z)), 0, 0, 0, 0, 0)
	checkHolds(t, "loose writes", d, z, noughts, x, y)
	checkErrs(t, "sync", errs(d.Sync()), 0)
	checkHolds(t, "firm writes", d, z, noughts, x, y)
	checkErrs(t, "writes over firm ones", errs(d.Write(3, x), d.Write(0, noughts)), 0, 0)
	checkHolds(t, "loose ones over firm ones", d, noughts, noughts, x, x)
	checkErrs(t, "another sync", errs(d.Sync(), d.Sync()), 0, 0)
	checkHolds(t, "firm ones over firm ones", d, noughts, noughts, x, x)
}

// P2.2: every byte of a block is kept.
func TestWholeBlock(t *testing.T) {
	d := newDisk(t, 64)
	for i := range 64 {
		var b api.Block
		b[i] = 1
		checkErrs(t, "write", errs(d.Write(i, b)), 0)
		b[i] = 2 // the caller's own one
	}
	for range 2 {
		for i := range 64 {
			var want api.Block
			want[i] = 1
			if b, err := d.Read(i); b != want || err != api.OK {
				t.Errorf("sector %d: %v, %d", i, b, err)
			}
		}
		checkErrs(t, "sync", errs(d.Sync()), 0)
	}
}

// P2.2: the first and the last sector are there, those one below and one behind are not, and asking for them does nothing.
func TestSectorEdges(t *testing.T) {
	for _, n := range []int{1, 2, 7, 2048} {
		d := newDisk(t, n)
		for _, i := range []int{math.MinInt, -1, n, n + 1, 1 << 32, math.MaxInt} {
			checkErrs(t, "no sector", errs(readErr(t, d, i), d.Write(i, x)), api.ErrArg, api.ErrArg)
		}
		checkPending(t, "no sector", d)
		if d.Ops() != 0 {
			t.Errorf("what was refused counts: %d", d.Ops())
		}
		checkErrs(t, "first and last", errs(d.Write(0, x), d.Write(n-1, y), readErr(t, d, 0), readErr(t, d, n-1)), 0, 0, 0, 0)
		if b, _ := d.Read(n - 1); b != y {
			t.Errorf("the last of %d sectors holds %v", n, b)
		}
	}
}

// P2.2: by a sync the whole story is firm; what is written behind it is loose.
func TestSyncMakesFirm(t *testing.T) {
	d := newDisk(t, 3)
	checkErrs(t, "writes", errs(d.Write(1, x), d.Write(2, x), d.Write(1, y), d.Sync(), d.Write(2, z), d.Write(0, z)), 0, 0, 0, 0, 0, 0)
	checkPending(t, "behind the sync", d, 2, 0)
	checkErrs(t, "crash", errs(d.Crash(nil)), 0)
	checkHolds(t, "behind the crash", d, noughts, y, x)
}

// P2.2, cases 1 and 2: without power nothing is asked, not even whether the sector is there.
func TestDeadIsFirst(t *testing.T) {
	d := newDisk(t, 2)
	checkErrs(t, "the power goes", errs(d.Write(0, x), d.Arm(0), d.Write(0, y)), 0, 0, api.ErrDead)
	for range 3 {
		checkErrs(t, "without power",
			errs(readErr(t, d, 0), readErr(t, d, -1), readErr(t, d, 2), d.Write(0, y), d.Write(2, y), d.Sync()),
			api.ErrDead, api.ErrDead, api.ErrDead, api.ErrDead, api.ErrDead, api.ErrDead)
	}
	checkPending(t, "without power", d, 0)
	if !d.Dead() || d.Ops() != 1 || d.Len() != 2 {
		t.Errorf("without power: Dead %t, Ops %d, Len %d", d.Dead(), d.Ops(), d.Len())
	}
}

// P2.2, cases 2 to 4: a sector that is not there counts nothing down.
func TestNoSectorCountsNothing(t *testing.T) {
	d := newDisk(t, 2)
	checkErrs(t, "fail 0", errs(d.Fail(0), readErr(t, d, 2), d.Write(-1, x), readErr(t, d, 1), readErr(t, d, 1)),
		0, api.ErrArg, api.ErrArg, api.ErrIo, 0)
	checkErrs(t, "fail 1", errs(d.Fail(1), readErr(t, d, 2), d.Write(-1, x), readErr(t, d, 1), readErr(t, d, 1), readErr(t, d, 1)),
		0, api.ErrArg, api.ErrArg, 0, api.ErrIo, 0)
	checkErrs(t, "armed 1", errs(d.Arm(1), d.Write(2, x), d.Write(-1, x), d.Sync(), d.Write(2, x), d.Sync()),
		0, api.ErrArg, api.ErrArg, 0, api.ErrArg, api.ErrDead)
}

// P2.2, cases 3 and 4: of what is asked, reads too, the n first go well, the next one fails, and no other one.
func TestFailCounts(t *testing.T) {
	for n := range 6 {
		d := newDisk(t, 1)
		ask := []func() api.Errno{
			func() api.Errno { return readErr(t, d, 0) },
			func() api.Errno { return d.Write(0, x) },
			d.Sync,
		}
		for k := range ask {
			checkErrs(t, "Fail", errs(d.Fail(n)), 0)
			for i := range 12 {
				want := api.OK
				if i == n {
					want = api.ErrIo
				}
				checkErrs(t, "set to fail", errs(ask[(k+i)%3]()), want)
			}
		}
		if d.Dead() || d.Ops() != 33 {
			t.Errorf("behind failures: Dead %t, Ops %d", d.Dead(), d.Ops())
		}
	}
}

// P2.2, P2.7: what fails is as if it had not been asked.
func TestFailChangesNothing(t *testing.T) {
	d := newDisk(t, 2)
	checkErrs(t, "a write fails", errs(d.Write(0, x), d.Fail(0), d.Write(0, y)), 0, 0, api.ErrIo)
	checkPending(t, "a write failed", d, 0)
	checkHolds(t, "a write failed", d, x, noughts)
	checkErrs(t, "a sync fails", errs(d.Fail(0), d.Sync()), 0, api.ErrIo)
	checkPending(t, "a sync failed", d, 0)
	checkErrs(t, "crash", errs(d.Crash(nil)), 0)
	checkHolds(t, "what a failed sync left loose", d, noughts, noughts)
}

// P2.2, cases 5 and 6: of writes and syncs the n first go well, the next one takes the power; reads count nothing.
func TestArmCounts(t *testing.T) {
	for n := range 6 {
		for last := range 2 {
			d := newDisk(t, 1)
			checkErrs(t, "Arm", errs(d.Arm(n)), 0)
			for i := range n {
				checkErrs(t, "armed", errs(readErr(t, d, 0), readErr(t, d, 0)), 0, 0)
				if i%2 == 0 {
					checkErrs(t, "armed", errs(d.Write(0, x)), 0)
				} else {
					checkErrs(t, "armed", errs(d.Sync()), 0)
				}
			}
			checkErrs(t, "armed with 0", errs(readErr(t, d, 0), readErr(t, d, 0)), 0, 0)
			if d.Dead() {
				t.Errorf("the power went ahead of its time, armed with %d", n)
			}
			end := d.Sync
			if last == 0 {
				end = func() api.Errno { return d.Write(0, y) }
			}
			checkErrs(t, "the end", errs(end(), readErr(t, d, 0)), api.ErrDead, api.ErrDead)
			if !d.Dead() || d.Ops() != 2*n+2+n {
				t.Errorf("armed with %d: Dead %t, Ops %d", n, d.Dead(), d.Ops())
			}
		}
	}
}

// P2.2, P2.7: what comes too late is as if it had not been asked.
func TestTooLate(t *testing.T) {
	d := newDisk(t, 2)
	checkErrs(t, "a late write", errs(d.Write(0, x), d.Arm(0), d.Write(1, y)), 0, 0, api.ErrDead)
	checkPending(t, "a late write", d, 0)
	checkErrs(t, "crash", errs(d.Crash([]bool{true, true})), 0)
	checkHolds(t, "a late write", d, x, noughts)
	checkErrs(t, "a late sync", errs(d.Write(1, y), d.Arm(0), d.Sync()), 0, 0, api.ErrDead)
	checkPending(t, "a late sync", d, 1)
	checkErrs(t, "crash", errs(d.Crash(nil)), 0)
	checkHolds(t, "a late sync", d, x, noughts)
}

// P2.2: armed and set to fail at once, the failure comes first, and counts down whatever else comes.
func TestArmedAndFailing(t *testing.T) {
	for _, c := range []struct {
		armed, failing int
		want           []api.Errno // of writes, till the power is gone
	}{
		{0, 0, errs(api.ErrIo, api.ErrDead)},
		{0, 1, errs(api.ErrDead)},
		{1, 0, errs(api.ErrIo, 0, api.ErrDead)},
		{1, 1, errs(0, api.ErrIo, api.ErrDead)},
		{1, 2, errs(0, api.ErrDead)},
		{2, 1, errs(0, api.ErrIo, 0, api.ErrDead)},
		{3, 0, errs(api.ErrIo, 0, 0, 0, api.ErrDead)},
		{-1, 1, errs(0, api.ErrIo, 0, 0, 0)},
		{2, -1, errs(0, 0, api.ErrDead)},
	} {
		for turn := range 2 {
			d := newDisk(t, 2)
			set := []func() api.Errno{
				func() api.Errno { return d.Arm(c.armed) },
				func() api.Errno { return d.Fail(c.failing) },
			}
			checkErrs(t, "set", errs(set[turn](), set[1-turn]()), 0, 0)
			var got []api.Errno
			for range c.want {
				got = append(got, d.Write(1, x))
			}
			checkErrs(t, "both", got, c.want...)
			if late := c.want[len(c.want)-1] == api.ErrDead; d.Dead() != late {
				t.Errorf("armed %d, failing %d: Dead %t", c.armed, c.failing, d.Dead())
			}
		}
	}
}

// P2.2: a read counts down to a failure, but not to the end of the power.
func TestReadsBetween(t *testing.T) {
	d := newDisk(t, 2)
	checkErrs(t, "reads", errs(d.Arm(1), d.Fail(2), readErr(t, d, 0), readErr(t, d, 0), readErr(t, d, 0), readErr(t, d, 0), d.Sync(), readErr(t, d, 1), d.Sync()),
		0, 0, 0, 0, api.ErrIo, 0, 0, 0, api.ErrDead)
}

// P2.3: each loose write stands in its order, also if others of its sector stand there; what is answered is the caller's.
func TestPending(t *testing.T) {
	d := newDisk(t, 9)
	want := []int{8, 0, 8, 8, 3, 0}
	for k, i := range want {
		checkErrs(t, "write", errs(d.Write(i, x)), 0)
		checkPending(t, "writes", d, want[:k+1]...)
	}
	readErr(t, d, 8)
	got := d.Pending()
	clear(got)
	_ = append(got[:0], 7, 7, 7)
	checkPending(t, "an answer that was changed", d, want...)
	checkErrs(t, "sync", errs(d.Sync()), 0)
	checkPending(t, "a sync", d)
	checkErrs(t, "write", errs(d.Write(5, x)), 0)
	checkPending(t, "a write behind a sync", d, 5)
	checkErrs(t, "crash", errs(d.Crash([]bool{true})), 0)
	checkPending(t, "a crash", d)
}

// P2.3: what was done is counted, ever, and nothing else is.
func TestOps(t *testing.T) {
	d := newDisk(t, 2)
	check := func(what string, want int) {
		t.Helper()
		if d.Ops() != want {
			t.Errorf("%s: Ops %d, not %d", what, d.Ops(), want)
		}
	}
	check("a new one", 0)
	readErr(t, d, 0)
	check("a read", 1)
	d.Write(0, x)
	check("a write", 2)
	d.Sync()
	check("a sync", 3)
	d.Sync()
	check("a sync of nothing", 4)
	d.Pending()
	d.Len()
	d.Dead()
	d.Copy()
	readErr(t, d, 2)
	d.Write(-1, x)
	check("what is no read, write or sync, or of no sector", 4)
	d.Fail(0)
	d.Sync()
	check("a failure", 4)
	d.Arm(0)
	d.Write(1, x)
	readErr(t, d, 0)
	check("without power", 4)
	d.Crash(nil)
	check("a crash", 4)
	readErr(t, d, 0)
	check("a read behind the crash", 5)
}

// P2.3: a disk is dead from the end of its power to the crash.
func TestDead(t *testing.T) {
	d := newDisk(t, 1)
	d.Arm(0)
	readErr(t, d, 0)
	if d.Dead() {
		t.Error("a disk that is armed is not dead")
	}
	d.Sync()
	if !d.Dead() {
		t.Error("the power is gone")
	}
	d.Crash(nil)
	if d.Dead() {
		t.Error("the power is back")
	}
}

// P2.4: a number below 0 takes back what was set, and nothing else.
func TestTakeBack(t *testing.T) {
	for _, n := range []int{-1, -2, math.MinInt} {
		d := newDisk(t, 1)
		checkErrs(t, "not armed", errs(d.Arm(0), d.Arm(n), d.Sync(), d.Sync(), d.Sync()), 0, 0, 0, 0, 0)
		checkErrs(t, "not set to fail", errs(d.Fail(0), d.Fail(n), d.Sync(), d.Sync(), d.Sync()), 0, 0, 0, 0, 0)
		checkErrs(t, "still set to fail", errs(d.Fail(1), d.Arm(n), d.Sync(), d.Sync(), d.Sync()), 0, 0, 0, api.ErrIo, 0)
		checkErrs(t, "still armed", errs(d.Arm(1), d.Fail(n), d.Sync(), d.Sync()), 0, 0, 0, api.ErrDead)
	}
}

// P2.4: the number that was set last counts, also a great one.
func TestSetAgain(t *testing.T) {
	d := newDisk(t, 1)
	checkErrs(t, "set to fail", errs(d.Fail(0), d.Fail(1), d.Sync(), d.Fail(1), d.Sync(), d.Sync(), d.Sync()), 0, 0, 0, 0, 0, api.ErrIo, 0)
	checkErrs(t, "armed", errs(d.Arm(0), d.Arm(2), d.Sync(), d.Sync(), d.Arm(1), d.Sync(), d.Sync()), 0, 0, 0, 0, 0, 0, api.ErrDead)
	d = newDisk(t, 1)
	checkErrs(t, "great ones", errs(d.Arm(math.MaxInt), d.Fail(math.MaxInt), d.Sync(), d.Write(0, x), readErr(t, d, 0)), 0, 0, 0, 0, 0)
}

// P2.4: without power nothing is set, and nothing taken back.
func TestSetWithoutPower(t *testing.T) {
	d := newDisk(t, 1)
	checkErrs(t, "the end", errs(d.Arm(0), d.Sync()), 0, api.ErrDead)
	for _, n := range []int{math.MinInt, -1, 0, 1, math.MaxInt} {
		checkErrs(t, "without power", errs(d.Arm(n), d.Fail(n)), api.ErrDead, api.ErrDead)
	}
	if !d.Dead() {
		t.Error("the power came back")
	}
	checkErrs(t, "crash", errs(d.Crash(nil), readErr(t, d, 0), d.Write(0, x), d.Sync()), 0, 0, 0, 0)
}

// P2.5: of four loose writes, three of them of one sector, just those stay that keep names, whatever its length.
func TestCrashKeeps(t *testing.T) {
	loose := []struct {
		sector int
		block  api.Block
	}{{1, x}, {0, y}, {1, y}, {1, z}}
	for size := range 7 {
		for bits := range 1 << size {
			d := newDisk(t, 3)
			checkErrs(t, "firm", errs(d.Write(1, sectorOf(8)), d.Write(2, sectorOf(9)), d.Sync()), 0, 0, 0)
			keep := make([]bool, size, 7)
			for k := range keep {
				keep[k] = bits>>k&1 == 1
			}
			want := []api.Block{noughts, sectorOf(8), sectorOf(9)}
			for k, w := range loose {
				checkErrs(t, "loose", errs(d.Write(w.sector, w.block)), 0)
				if k < size && keep[k] {
					want[w.sector] = w.block
				}
			}
			handed := slices.Clone(keep)
			checkErrs(t, "crash", errs(d.Crash(keep)), 0)
			if !slices.Equal(handed, keep) {
				t.Error("a crash changed its row")
			}
			checkPending(t, "crash", d)
			checkHolds(t, "crash", d, want...)
			checkErrs(t, "another one", errs(d.Crash(nil)), 0)
			checkHolds(t, "what stayed is firm", d, want...)
		}
	}
}

// P2.5: the room behind a row's end says nothing of the writes that it has nothing for.
func TestCrashRoom(t *testing.T) {
	d := newDisk(t, 2)
	room := []bool{true, true, true}
	checkErrs(t, "crash", errs(d.Write(0, x), d.Write(1, y), d.Crash(room[:1])), 0, 0, 0)
	checkHolds(t, "crash", d, x, noughts)
}

// P2.5: a row that is changed behind a crash says nothing of later ones.
func TestCrashKeepsNoRow(t *testing.T) {
	d := newDisk(t, 2)
	keep := []bool{false, true}
	checkErrs(t, "crash", errs(d.Write(0, x), d.Write(1, y), d.Crash(keep)), 0, 0, 0)
	keep[0], keep[1] = true, false
	checkHolds(t, "the row changed", d, noughts, y)
	checkErrs(t, "another crash", errs(d.Write(0, z), d.Crash(nil)), 0, 0)
	checkHolds(t, "another crash", d, noughts, y)
}

// P2.5: behind a crash there is power, also if it had not gone, and neither its end nor a failure comes.
func TestCrashStandsAnew(t *testing.T) {
	for _, lose := range []bool{false, true} {
		d := newDisk(t, 2)
		checkErrs(t, "set", errs(d.Write(1, x), d.Fail(3), d.Arm(0)), 0, 0, 0)
		if lose {
			checkErrs(t, "the end", errs(d.Sync()), api.ErrDead)
		}
		checkErrs(t, "crash", errs(d.Crash([]bool{true})), 0)
		if d.Dead() || d.Ops() != 1 || d.Len() != 2 {
			t.Errorf("behind a crash: Dead %t, Ops %d, Len %d", d.Dead(), d.Ops(), d.Len())
		}
		for range 10 {
			checkErrs(t, "behind a crash", errs(readErr(t, d, 0), d.Write(0, y), d.Sync()), 0, 0, 0)
		}
		checkHolds(t, "behind a crash", d, y, x)
	}
}

// P2.6: a copy stands as its disk does.
func TestCopyStands(t *testing.T) {
	d := newDisk(t, 3)
	checkErrs(t, "set", errs(d.Write(0, x), d.Write(1, x), d.Sync(), d.Write(1, y), d.Write(2, z), d.Arm(1), d.Fail(2)), 0, 0, 0, 0, 0, 0, 0)
	c := d.Copy()
	if c.Len() != 3 || c.Ops() != 5 || c.Dead() {
		t.Errorf("a copy: Len %d, Ops %d, Dead %t", c.Len(), c.Ops(), c.Dead())
	}
	checkPending(t, "a copy", c, 1, 2)
	for range 2 {
		checkErrs(t, "a copy, then its disk", errs(c.Write(0, y), readErr(t, c, 0), readErr(t, c, 0), c.Sync()), 0, 0, api.ErrIo, api.ErrDead)
		checkErrs(t, "crash", errs(c.Crash([]bool{true, false, true})), 0)
		checkHolds(t, "a copy, then its disk", c, y, y, noughts)
		c = d
	}
	checkErrs(t, "the end", errs(d.Arm(0), d.Sync()), 0, api.ErrDead)
	c = d.Copy()
	if !c.Dead() {
		t.Error("the copy of a disk without power has power")
	}
	checkErrs(t, "a copy without power", errs(readErr(t, c, 0), c.Arm(1), c.Crash(nil), readErr(t, c, 0)), api.ErrDead, api.ErrDead, 0, 0)
	checkErrs(t, "its disk", errs(readErr(t, d, 0)), api.ErrDead)
}

// P2.6: what is done to a copy, or to its disk, is not done to the other one.
func TestCopyApart(t *testing.T) {
	for turn := range 2 {
		one := newDisk(t, 3)
		checkErrs(t, "set", errs(one.Write(0, x), one.Sync(), one.Write(1, x), one.Write(1, y), one.Write(2, y)), 0, 0, 0, 0, 0)
		other := one.Copy()
		if turn == 1 {
			one, other = other, one
		}
		checkErrs(t, "writes", errs(one.Write(0, z), other.Write(2, z)), 0, 0)
		checkPending(t, "one", one, 1, 1, 2, 0)
		checkPending(t, "other", other, 1, 1, 2, 2)
		checkHolds(t, "one", one, z, y, y)
		checkHolds(t, "other", other, x, y, z)
		checkErrs(t, "sync", errs(one.Sync()), 0)
		checkPending(t, "other", other, 1, 1, 2, 2)
		checkErrs(t, "crash", errs(other.Crash([]bool{true})), 0)
		checkHolds(t, "other", other, x, x, noughts)
		checkHolds(t, "one", one, z, y, y)
		checkErrs(t, "crash", errs(one.Write(1, z), one.Crash(nil)), 0, 0)
		checkHolds(t, "one", one, z, y, y)
		checkHolds(t, "other", other, x, x, noughts)
		checkErrs(t, "set to fail", errs(one.Fail(0), other.Sync(), one.Sync()), 0, 0, api.ErrIo)
		checkErrs(t, "armed", errs(one.Arm(0), other.Sync(), one.Sync(), other.Sync()), 0, 0, api.ErrDead, 0)
		if !one.Dead() || other.Dead() {
			t.Errorf("Dead: %t, %t", one.Dead(), other.Dead())
		}
		before := other.Ops()
		checkErrs(t, "back", errs(one.Crash(nil), readErr(t, one, 0)), 0, 0)
		if other.Ops() != before {
			t.Error("a read of the one counts at the other")
		}
	}
}

// P2.6: of several copies of one disk each writes behind the story that it took.
func TestCopiesApart(t *testing.T) {
	d := newDisk(t, 2)
	var copies []*disk.Disk
	for k := range byte(9) {
		checkErrs(t, "write", errs(d.Write(0, sectorOf(k))), 0)
		copies = append(copies, d.Copy(), d.Copy())
	}
	for k, c := range copies {
		checkErrs(t, "write", errs(c.Write(1, sectorOf(byte(50+k)))), 0)
	}
	checkHolds(t, "the disk", d, sectorOf(8), noughts)
	for k, c := range copies {
		if n := len(c.Pending()); n != k/2+2 {
			t.Errorf("copy %d has %d loose writes", k, n)
		}
		checkHolds(t, "a copy", c, sectorOf(byte(k/2)), sectorOf(byte(50+k)))
	}
}

// P2.1 to P2.6: of a nil disk errors are ErrNil, and all else is nothing.
func TestNilDisk(t *testing.T) {
	var d *disk.Disk
	for _, i := range []int{math.MinInt, -1, 0, 1, math.MaxInt} {
		checkErrs(t, "nil", errs(readErr(t, d, i), d.Write(i, x), d.Sync(), d.Arm(i), d.Fail(i), d.Crash(nil), d.Crash([]bool{true})),
			api.ErrNil, api.ErrNil, api.ErrNil, api.ErrNil, api.ErrNil, api.ErrNil, api.ErrNil)
	}
	if d.Len() != 0 || len(d.Pending()) != 0 || d.Dead() || d.Ops() != 0 || d.Copy() != nil {
		t.Errorf("nil: %d, %v, %t, %d, %v", d.Len(), d.Pending(), d.Dead(), d.Ops(), d.Copy())
	}
}

// P2.7: what a disk holds behind a sync it holds behind every crash until something is written.
func TestSyncedStays(t *testing.T) {
	d := newDisk(t, 3)
	checkErrs(t, "sync", errs(d.Write(0, x), d.Write(2, y), d.Write(0, z), d.Sync()), 0, 0, 0, 0)
	for _, keep := range [][]bool{nil, {}, {true}, {false}, {true, true, true, true}, {false, true, false, true}} {
		for _, n := range []int{-1, 0, 1} {
			checkErrs(t, "crash", errs(d.Arm(n), d.Fail(n), d.Crash(keep)), 0, 0, 0)
			checkHolds(t, "behind a crash", d, z, noughts, y)
		}
	}
}

// P2.7: a crash is as if the writes that it takes had never been done.
func TestCrashAsIfNever(t *testing.T) {
	sectors := []int{0, 2, 1, 2, 0, 2}
	for bits := range 1 << len(sectors) {
		d, never := newDisk(t, 3), newDisk(t, 3)
		keep := make([]bool, len(sectors))
		for k, i := range sectors {
			keep[k] = bits>>k&1 == 1
			d.Write(i, sectorOf(byte(k)))
			if keep[k] {
				never.Write(i, sectorOf(byte(k)))
			}
		}
		d.Crash(keep)
		never.Sync()
		for i := range 3 {
			got, _ := d.Read(i)
			if want, _ := never.Read(i); got != want {
				t.Errorf("keep %v: sector %d holds %d.., not %d..", keep, i, got[0], want[0])
			}
		}
	}
}

// The chapter's examples, and what they tell.
func TestExamples(t *testing.T) {
	d := newDisk(t, 3)
	checkErrs(t, "1", errs(d.Write(2, x), d.Write(0, y), d.Write(2, y)), 0, 0, 0)
	checkPending(t, "1", d, 2, 0, 2)
	checkHolds(t, "1", d, y, noughts, y)
	checkErrs(t, "2", errs(d.Crash([]bool{true, false})), 0)
	checkPending(t, "2", d)
	checkHolds(t, "2", d, noughts, noughts, x)
	checkErrs(t, "3", errs(d.Write(1, y), d.Sync(), d.Write(1, x), d.Crash(nil)), 0, 0, 0, 0)
	checkHolds(t, "3", d, noughts, y, x)
	checkErrs(t, "4", errs(d.Arm(0), readErr(t, d, 1), d.Write(1, x)), 0, 0, api.ErrDead)
	if !d.Dead() {
		t.Error("4: there is power")
	}
	checkErrs(t, "4", errs(readErr(t, d, 1), d.Crash(nil)), api.ErrDead, 0)
	checkHolds(t, "4", d, noughts, y, x)
	checkErrs(t, "5", errs(d.Fail(1), d.Write(3, x), readErr(t, d, 1), d.Sync(), d.Sync()), 0, api.ErrArg, 0, api.ErrIo, 0)
}
