package signer_test

import (
	"bytes"
	"fmt"
	"slices"
	"testing"

	"safehouse/api"
	"safehouse/disk"
	"safehouse/merkle"
	"safehouse/signer"
	"safehouse/wal"
)

// logDisk makes a disk with a log of that snapshot, and with those transactions.
func logDisk(t testing.TB, area int, snapshot []byte, came [][]byte) *disk.Disk {
	t.Helper()
	d := newDisk(t, 2*area+2)
	w, err := wal.Format(d, area)
	if err == api.OK {
		err = w.Checkpoint(snapshot)
	}
	for _, tx := range came {
		if err == api.OK {
			err = w.Append(tx)
		}
	}
	if err != api.OK {
		t.Fatalf("a snapshot of %d bytes, %d transactions: error %d", len(snapshot), len(came), err)
	}
	return d
}

// stood answers a snapshot of the seed, with a count.
func stood(seed api.Id, count byte) []byte {
	return append(bytes.Clone(seed[:]), count)
}

// checkOpen holds what an Open makes of such a log against the chapter's words.
func checkOpen(t *testing.T, snapshot []byte, came [][]byte) {
	t.Helper()
	what := fmt.Sprintf("a snapshot of %d bytes, %x, transactions %x", len(snapshot), snapshot[min(32, len(snapshot)):min(40, len(snapshot))], came)
	d := logDisk(t, 20, snapshot, came)
	image := imageOf(t, d)
	s, err := signer.Open(d)
	next, ok := isSigners(snapshot, came)
	if !ok {
		checkNone(t, what, s, err, api.ErrSigner)
	} else if err != api.OK || s == nil {
		t.Errorf("%s: error %d", what, err)
	} else {
		checkTold(t, what, s, next, false)
	}
	if !slices.Equal(imageOf(t, d), image) || len(d.Pending()) > 0 {
		t.Errorf("%s: Open has changed what the disk holds", what)
	}
	w := logOf(t, d)
	if !bytes.Equal(w.Snapshot(), snapshot) || w.Len() != len(came) {
		t.Errorf("%s: the log tells something else behind Open", what)
	}
}

// P10.1: snapshots that are shorter and longer than a seed and a count.
func TestOpenSnapshots(t *testing.T) {
	for _, n := range []int{0, 1, 2, 8, 16, 31, 32, 33, 34, 35, 47, 48, 49, 64, 65, 66, 99, 256 + 33, 900} {
		for _, fill := range []byte{0, 1, 8, 255} {
			checkOpen(t, bytes.Repeat([]byte{fill}, n), nil)
			checkOpen(t, bytes.Repeat([]byte{fill}, n), [][]byte{{fill}})
		}
	}
	// A seed and a count are there, and something stands ahead of them, or behind.
	checkOpen(t, append(stood(mixed(), 0), 0), nil)
	checkOpen(t, append([]byte{0}, stood(mixed(), 0)...), nil)
	checkOpen(t, append(stood(mixed(), 3), 3), [][]byte{{3}})
	checkOpen(t, append(stood(mixed(), 3), stood(mixed(), 3)...), [][]byte{{3}})
}

// P10.1: each count that a byte can say, none or all of the leaves behind it taken, and one too many.
func TestOpenCounts(t *testing.T) {
	for count := range 256 {
		var came [][]byte
		for leaf := count; leaf < 12; leaf++ {
			checkOpen(t, stood(mixed(), byte(count)), came)
			came = append(came, []byte{byte(leaf)})
		}
		checkOpen(t, stood(mixed(), byte(count)), nil)
		checkOpen(t, stood(mixed(), byte(count)), [][]byte{{byte(count)}})
		checkOpen(t, stood(mixed(), byte(count)), [][]byte{{byte(count - 1)}})
		checkOpen(t, stood(mixed(), byte(count)), [][]byte{{byte(count + 1)}})
		checkOpen(t, stood(mixed(), byte(count)), [][]byte{{0}})
	}
}

// P10.1: up to three leaves, each of them any one, behind each count.
func TestOpenAnyLeaves(t *testing.T) {
	for count := range byte(10) {
		for a := range byte(10) {
			for b := range byte(10) {
				checkOpen(t, stood(mixed(), count), [][]byte{{a}, {b}})
				if a == count {
					checkOpen(t, stood(mixed(), count), [][]byte{{a}, {count + 1}, {b}})
				}
			}
		}
	}
}

// P10.1: transactions that are no leaf's, each in every place among such as are.
func TestOpenWrongTransactions(t *testing.T) {
	for _, count := range []byte{0, 1, 5, 7, 8} {
		for right := range 9 - int(count) {
			for place := range right + 1 {
				leaf := count + byte(place)
				for _, wrong := range [][]byte{nil, {leaf, leaf}, {leaf, 0}, {0, leaf}, {leaf, leaf + 1}, {0, 0}, {leaf + 1}, {leaf - 1}, {leaf + 8}, {leaf + 128}, {count - 1}, {8}, {9}, {255}, bytes.Repeat([]byte{leaf}, 33), bytes.Repeat([]byte{leaf}, 49), bytes.Repeat([]byte{leaf}, 257)} {
					var in, instead [][]byte
					for k := range right {
						if k == place {
							in = append(in, wrong)
							instead = append(instead, wrong)
						} else {
							instead = append(instead, []byte{count + byte(k)})
						}
						in = append(in, []byte{count + byte(k)})
					}
					if place == right {
						in = append(in, wrong)
					}
					if s := fits(in); s <= 19 {
						checkOpen(t, stood(mixed(), count), in)
					}
					checkOpen(t, stood(mixed(), count), instead)
				}
			}
		}
	}
}

// fits answers how many sectors entries fill.
func fits(l [][]byte) (n int) {
	for _, b := range l {
		n += max(1, (len(b)+47)/48)
	}
	return n
}

// P10.1: a log that has no signer though it is long, and wrong at its end alone; and one of a very long snapshot.
func TestOpenGreatLogs(t *testing.T) {
	var came [][]byte
	for k := range 900 {
		came = append(came, []byte{byte(min(k, 8))})
	}
	for _, c := range []struct {
		snapshot []byte
		came     [][]byte
	}{{stood(mixed(), 0), came}, {stood(mixed(), 8), slices.Repeat([][]byte{{8}}, 999)}, {make([]byte, 40000), nil}, {stood(mixed(), 0), slices.Repeat([][]byte{{}}, 999)}} {
		s, err := signer.Open(logDisk(t, 1000, c.snapshot, c.came))
		checkNone(t, "a great log", s, err, api.ErrSigner)
	}
	if s, err := signer.Open(logDisk(t, 1000, stood(mixed(), 0), came[:8])); err != api.OK || s.Next() != 8 {
		t.Errorf("all leaves in a great log: error %d", err)
	}
}

// P10.1, R4: no disk; disks without a log; and what the disk comes to, ahead of whether there is a signer.
func TestOpenRefuses(t *testing.T) {
	s, err := signer.Open(nil)
	checkNone(t, "no disk", s, err, api.ErrNil)
	for _, sectors := range []int{1, 2, 10, 42, 2048} {
		for _, d := range []*disk.Disk{newDisk(t, sectors), prefilled(t, sectors)} {
			_, want := wal.Open(d.Copy())
			image := imageOf(t, d)
			s, err := signer.Open(d)
			checkNone(t, fmt.Sprintf("a disk of %d sectors without a log", sectors), s, err, want)
			checkImage(t, "a disk without a log", d, image)
			if sectors > 1 && want != api.ErrWal {
				t.Errorf("%d sectors without a log: wal.Open tells %d", sectors, want)
			}
		}
	}
	// A log stands there, just formatted: it has no signer, as its snapshot is empty.
	d := newDisk(t, 10)
	wal.Format(d, 4)
	s, err = signer.Open(d)
	checkNone(t, "a log of nobody", s, err, api.ErrSigner)
}

// P10.1: the disk failing, or dead, at each of the things that an Open does with it: that is told, whether the log has a signer or none; of what is not cut off, what is so.
func TestOpenFails(t *testing.T) {
	for _, snapshot := range [][]byte{stood(mixed(), 0), stood(mixed(), 9), nil} {
		made := logDisk(t, 4, snapshot, [][]byte{{0}})
		// Loose writes, and such as no entry stands at, so that an Open has something to write.
		made.Write(9, blockOf(7))
		want := api.OK
		if len(snapshot) != 33 || snapshot[32] != 0 {
			want = api.ErrSigner
		}
		const reads, writes = 6, 2
		for k := range reads + writes + 2 {
			d := made.Copy()
			d.Fail(k)
			checkOpenTells(t, fmt.Sprintf("failing behind %d", k), d, map[bool]api.Errno{true: api.ErrIo, false: want}[k < reads+writes])
			d = made.Copy()
			d.Arm(k)
			checkOpenTells(t, fmt.Sprintf("power for %d", k), d, map[bool]api.Errno{true: api.ErrDead, false: want}[k < writes])
		}
		d := made.Copy()
		d.Arm(0)
		d.Sync()
		checkOpenTells(t, "no power", d, api.ErrDead)
	}
}

// blockOf answers a block of the byte x.
func blockOf(x byte) (b api.Block) {
	for k := range b {
		b[k] = x
	}
	return b
}

// checkOpenTells holds what Open tells against what it ought to.
func checkOpenTells(t *testing.T, what string, d *disk.Disk, want api.Errno) {
	t.Helper()
	s, err := signer.Open(d)
	if err != want || (s != nil) != (want == api.OK) {
		t.Errorf("%s: error %d, a signer: %v; not %d", what, err, s != nil, want)
	}
}

// P10.1: an Open does with the disk what wal.Open does, and nothing more; of a log without a signer, too.
func TestOpenDoesNothingElse(t *testing.T) {
	for _, snapshot := range [][]byte{stood(mixed(), 0), stood(mixed(), 7), stood(mixed(), 200), nil, make([]byte, 100)} {
		for _, loose := range []bool{false, true} {
			d := logDisk(t, 5, snapshot, [][]byte{{7}})
			if loose {
				d.Write(11, blockOf(3))
			}
			other := d.Copy()
			signer.Open(d)
			wal.Open(other)
			checkImage(t, "Open", d, imageOf(t, other))
			if d.Ops() != other.Ops() || !slices.Equal(d.Pending(), other.Pending()) {
				t.Errorf("%d things done, %v loose, not %d, %v", d.Ops(), d.Pending(), other.Ops(), other.Pending())
			}
			done, image := d.Ops(), imageOf(t, d)
			signer.Open(d)
			checkImage(t, "Open once more", d, image)
			if d.Ops() != done+2+5 {
				t.Errorf("opened once more, %d things were done", d.Ops()-done)
			}
		}
	}
}

// P10.1, P10.3: an opened signer is that of the log's seed: it tells the root, and signs with the leaf behind those taken.
func TestOpenGoesOn(t *testing.T) {
	t.Parallel()
	for _, seed := range []api.Id{{}, filled(255), mixed()} {
		for count := range 9 {
			for behind := range 9 - count {
				if behind > 2 && count+behind < 8 {
					continue
				}
				var came [][]byte
				for k := range behind {
					came = append(came, []byte{byte(count + k)})
				}
				what := fmt.Sprintf("%d leaves taken ahead, %d behind", count, behind)
				s := opened(t, what, logDisk(t, 10, stood(seed, byte(count)), came))
				checkTold(t, what, s, count+behind, false)
				if s.Root() != merkle.Root(seed) {
					t.Errorf("%s: the root is not the seed's", what)
				}
				if count+behind == 8 {
					checkUnsigned(t, what, s, api.ErrSpent)
				} else {
					checkSigned(t, what, s, signed(t, what, s, rising(count), count+behind), seed, rising(count), count+behind)
				}
				checkTold(t, what+", signed", s, min(8, count+behind+1), false)
			}
		}
	}
}
