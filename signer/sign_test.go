package signer_test

import (
	"fmt"
	"slices"
	"testing"

	"safehouse/api"
	"safehouse/disk"
	"safehouse/merkle"
	"safehouse/sha"
	"safehouse/signer"
	"safehouse/wal"
)

// P10.1 to P10.3: the chapter's examples.
func TestExamples(t *testing.T) {
	d, s := formatted(t, 42, 20, mixed())
	m := rising(0)
	signed(t, "Sign", s, m, 0)
	signed(t, "Sign", s, m, 1)
	s = opened(t, "the example", d)
	if s.Next() != 2 {
		t.Errorf("opened, Next is %d", s.Next())
	}
	for leaf := 2; leaf <= 7; leaf++ {
		signed(t, "opened, Sign", s, m, leaf)
	}
	checkUnsigned(t, "once more", s, api.ErrSpent)
	none, err := signer.Open(newDisk(t, 42))
	checkNone(t, "a disk without a log", none, err, api.ErrWal)
	checkUnsigned(t, "no signer", nil, api.ErrNil)
}

// P10.2: what is signed, and what the disk holds behind it, in bytes that another program has laid by the chapters' words.
func TestSignWrittenOut(t *testing.T) {
	d, s := formatted(t, 10, 4, mixed())
	for leaf, want := range [][2]string{
		{"0aa2d22af11c755716bf1f8cf205987388d5039a52f0023a466a1f74eca38f8a", "9bfeb2f53611515418c061e9da9b0810cce88f1a48145f96dbfc0dfeccf9fd48"},
		{"4d50badab6a982a5656a16c11e3989a509d5de865d32aacae591ba38ab095d43", "c869a1b349cf12a178d5d579b4532868e03c979d5360d0b200d59326a87e4dc7"},
		{"6e99022f5941b3b9a3dd54eacb8f457857b904646fc9d9967fec5d1b056d7878", "dd682721b267dd3225fe5f92ad54a25ff758d54e0cd716ef807da3adc371cdab"},
		{"d7eceb3d35bf5c53dad528adcaf83977bbc9dc9fc2bf0e1618fdeb4591f5c6b2", "41c26748dd1eef4157bf89a2dabfaf1113ec67c9b9532f21afe15acb815429d7"},
		{"3d3a30ae09b2cfbc8970fa2755c0b203a4c1401d38e1e0be2e8179df0c641623", "e875fc55da1437f90edbccf90f8f27d4f5971f0650e545040463fc671feca7a8"},
		{"747466aa807267136f48a2a076b8deb1d3c5b1ec86ff9af8c0997c2ebe8db334", "f30d8f337bd78711cf84a02489b03061d9734e0a247fd6619aecdede974cd8d9"},
		{"cfd13f48319d7d7e3c052d6e39715ed023bd0880d19cc6d3cd7f515b6dfb62b6", "0bc98a47995ac3bed6b90250b65fa882f6e5fe3efc378dad6768cbddcbd20ee6"},
		{"44df6e6eefb6d33dd673d6cbaf577073f03f4e2470c41bdc8170fa18f03c0e78", "fddd9fc8baf4b6bde2b8768be559336c7dfbcb2cf33e146ef6b2a984a69b8ea3"},
	} {
		row, err := merkle.Encode(signed(t, "Sign", s, rising(leaf), leaf))
		if got := sha.Text(sha.Sum(row)); err != api.OK || got != want[0] {
			t.Errorf("the leaf %d: the digest of the signature's bytes is %s, error %d, not %s", leaf, got, err, want[0])
		}
		if got := sha.Text(sha.Sum(bytesOf(imageOf(t, d)))); got != want[1] {
			t.Errorf("the leaf %d: the digest of all sectors is %s, not %s", leaf, got, want[1])
		}
	}
	_, s = formatted(t, 10, 4, api.Id{})
	row, _ := merkle.Encode(signed(t, "noughts", s, api.Id{}, 0))
	if got := sha.Text(sha.Sum(row)); got != "472f4c0919c8ce41062f3546ff2c8c43b7ac390b6b1f665cd320d792d117a0b7" {
		t.Errorf("noughts signed with noughts: the digest of the signature's bytes is %s", got)
	}
}

// P10.2, P10.3: all leaves, one behind the other, on areas of all sizes: each signature; what is done with the disk for it, write by write; what the sectors hold behind it, and what the log tells; all of it by the signer that was made, and by one that is opened each time.
func TestSignAllLeaves(t *testing.T) {
	t.Parallel()
	for _, area := range []int{4, 5, 6, 7, 8, 9, 10, 20} {
		for _, again := range []bool{false, true} {
			d, s := formatted(t, 2*area+3, area, mixed())
			st := fresh(area, mixed())
			for leaf := range 8 {
				what := fmt.Sprintf("areas of %d, opened each time: %v, the leaf %d", area, again, leaf)
				if again {
					s = opened(t, what, d)
				}
				err, ops, then := st.signing()
				if err != api.OK {
					t.Fatalf("%s: the model tells %d", what, err)
				}
				checkTold(t, what+", ahead", s, leaf, false)
				if again {
					checkOps(t, what, opsOf(t, d, func(d *disk.Disk) { opened(t, what, d).Sign(rising(leaf)) }), ops)
				}
				image, done := replay(imageOf(t, d), ops), d.Ops()
				x := signed(t, what, s, rising(leaf), leaf)
				checkImage(t, what, d, image)
				if len(d.Pending()) > 0 || d.Ops() != done+len(ops) {
					t.Errorf("%s: %d writes are loose, %d things were done, not %d", what, len(d.Pending()), d.Ops()-done, len(ops))
				}
				st = then
				checkTold(t, what+", behind", s, leaf+1, false)
				checkLog(t, what, d, st)
				checkSigned(t, what, s, x, mixed(), rising(leaf), leaf)
			}
			checkSpent(t, fmt.Sprintf("areas of %d", area), d, s)
			checkSpent(t, fmt.Sprintf("areas of %d, opened", area), d, opened(t, "spent", d))
		}
	}
}

// checkLog holds what the log on the disk tells against what it ought to.
func checkLog(t *testing.T, what string, d *disk.Disk, st story) {
	t.Helper()
	w := logOf(t, d)
	if w.Turn() != st.turn || w.Len() != st.came || w.Left() != st.area-1-st.came || !slices.Equal(w.Snapshot(), st.snapshot()) {
		t.Errorf("%s: the log tells Turn %d, Len %d, Left %d, a snapshot %x; not %v", what, w.Turn(), w.Len(), w.Left(), w.Snapshot(), st)
	}
	for number, tx := range w.All() {
		if !slices.Equal(tx, []byte{byte(st.ahead + number - 1)}) {
			t.Errorf("%s: the transaction %d is %x", what, number, tx)
		}
	}
}

// checkSpent asks a signer whose leaves are all taken for more; nothing is done with the disk then, whatever it would come to.
func checkSpent(t *testing.T, what string, d *disk.Disk, s *signer.Signer) {
	t.Helper()
	image, done := imageOf(t, d), d.Ops()
	d.Fail(0)
	d.Arm(0)
	for range 3 {
		checkTold(t, what+", spent", s, 8, false)
		checkUnsigned(t, what+", spent", s, api.ErrSpent)
	}
	if _, err := d.Read(0); err != api.ErrIo {
		t.Errorf("%s: the disk was asked for something, though all leaves are taken", what)
	}
	if err := d.Sync(); err != api.ErrDead {
		t.Errorf("%s: the disk was asked to do something, though all leaves are taken", what)
	}
	checkUnsigned(t, what+", spent, the disk dead", s, api.ErrSpent)
	checkTold(t, what+", spent, the disk dead", s, 8, false)
	d.Crash(nil)
	checkImage(t, what+", spent", d, image)
	if d.Ops() != done {
		t.Errorf("%s: %d things were done, though all leaves are taken", what, d.Ops()-done)
	}
}

// P10.2: the same digest is signed by a leaf of its own each time, and whatever digest it is.
func TestSignAnyDigest(t *testing.T) {
	t.Parallel()
	for _, seed := range []api.Id{{}, filled(255), rising(100)} {
		_, s := formatted(t, 20, 9, seed)
		for leaf, m := range []api.Id{{}, {}, filled(255), {}, filled(255), s.Root(), seed, {31: 1}} {
			what := fmt.Sprintf("%x, the leaf %d", m, leaf)
			checkSigned(t, what, s, signed(t, what, s, m, leaf), seed, m, leaf)
		}
	}
}

// P10.2: a log that was checkpointed leaf by leaf, or that is full at its first sign, or has been begun behind any leaf: the checkpoint comes in place of the append just when there is no room.
func TestSignCheckpoints(t *testing.T) {
	t.Parallel()
	for ahead := range 8 {
		for came := range 4 {
			if ahead+came > 8 {
				continue
			}
			for _, turn := range []uint32{0, 1, 2, 3, 200, 1<<32 - 3, 1<<32 - 2, 1<<32 - 1} {
				st := story{seed: mixed(), area: 4, turn: turn, ahead: ahead, came: came}
				what := fmt.Sprintf("the turn %d, %d leaves ahead, %d behind", turn, ahead, came)
				d := laid(t, st.image(11))
				s := opened(t, what, d)
				checkTold(t, what, s, st.next(), false)
				for range 3 {
					checkOneSign(t, what, d, s, &st)
				}
			}
		}
	}
}

// image answers what the sectors of a disk hold, whose log stands so.
func (s story) image(sectors int) []api.Block {
	image := make([]api.Block, sectors)
	image[s.turn%2] = titleOf(s.area, s.turn)
	image[s.first()] = leafOf(s.turn, 0, s.snapshot())
	for k := range s.came {
		image[s.first()+1+k] = leafOf(s.turn, 1+k, []byte{byte(s.ahead + k)})
	}
	return image
}

// checkOneSign signs once, and holds all that comes of it against the model.
func checkOneSign(t *testing.T, what string, d *disk.Disk, s *signer.Signer, st *story) {
	t.Helper()
	err, ops, then := st.signing()
	image, done := replay(imageOf(t, d), ops), d.Ops()
	if err == api.OK {
		signed(t, what, s, rising(3), st.next())
	} else {
		checkUnsigned(t, what, s, err)
	}
	checkTold(t, what, s, then.next(), false)
	checkImage(t, what, d, image)
	if d.Ops() != done+len(ops) || len(d.Pending()) > 0 {
		t.Errorf("%s: %d things were done, not %d", what, d.Ops()-done, len(ops))
	}
	*st = then
}

// P10.2, R2: a log that is full, and of the last turn that there is, has room neither for a leaf nor for a snapshot: that is told, again and again, and nothing is done; the log isn't broken by it.
func TestSignLastTurn(t *testing.T) {
	st := story{seed: mixed(), area: 4, turn: 1<<32 - 1, ahead: 2, came: 3}
	d := laid(t, st.image(10))
	s := opened(t, "the last turn", d)
	for range 3 {
		checkOneSign(t, "the last turn", d, s, &st)
		if s.Root() != merkle.Root(mixed()) {
			t.Error("the root is another one")
		}
	}
	checkTold(t, "the last turn", s, 5, false)
	checkTold(t, "the last turn, opened", opened(t, "the last turn", d), 5, false)
	// With a leaf more there would be room: for the last one of a field that is not full.
	st.came = 2
	d = laid(t, st.image(10))
	s = opened(t, "the last turn, not full", d)
	checkOneSign(t, "the last turn, not full", d, s, &st)
	checkOneSign(t, "the last turn, full now", d, s, &st)
	checkTold(t, "the last turn, full now", s, 5, false)
	// All leaves taken is told ahead of a log that is full.
	st = story{seed: mixed(), area: 4, turn: 1<<32 - 1, ahead: 5, came: 3}
	checkUnsigned(t, "the last turn, spent", opened(t, "spent", laid(t, st.image(10))), api.ErrSpent)
}

// P10.2: an error of the disk at each of the things that a Sign does: it is told, the log is broken and goes on to tell what it told; later calls tell ErrIo, whatever the disk would come to. Who opens the disk is told that the leaf is taken, or not, as the disk says.
func TestSignFails(t *testing.T) {
	for _, area := range []int{4, 5, 9} {
		for leaf := range 8 {
			st := fresh(area, mixed()).behind(leaf)
			_, ops, then := st.signing()
			for k := range ops {
				for _, fail := range []bool{false, true} {
					what := fmt.Sprintf("areas of %d, the leaf %d, failing: %v behind %d", area, leaf, fail, k)
					d := laid(t, imageBehind(fresh(area, mixed()), 2*area+2, leaf))
					s := opened(t, what, d)
					want := api.ErrDead
					if fail {
						d.Fail(k)
						want = api.ErrIo
					} else {
						d.Arm(k)
					}
					image := replay(imageOf(t, d), ops[:k])
					checkUnsigned(t, what, s, want)
					checkImage(t, what, d, image)
					checkBroken(t, what, d, s, leaf)
					if !fail {
						d.Crash(slices.Repeat([]bool{true}, len(d.Pending())))
						checkBroken(t, what+", power back", d, s, leaf)
					}
					next := leaf
					if told := k == len(ops)-1; told {
						next = then.next()
					}
					checkTold(t, what+", opened", opened(t, what, d), next, false)
					checkBroken(t, what+", another one opened", d, s, leaf)
				}
			}
		}
	}
}

// checkBroken holds a signer whose log is broken against what it may tell; it asks the disk for nothing.
func checkBroken(t *testing.T, what string, d *disk.Disk, s *signer.Signer, next int) {
	t.Helper()
	done := d.Ops()
	for range 2 {
		checkTold(t, what+", broken", s, next, true)
		checkUnsigned(t, what+", broken", s, api.ErrIo)
	}
	checkTold(t, what+", broken", s, next, true)
	if d.Ops() != done {
		t.Errorf("%s: a broken log has done something with the disk", what)
	}
}

// P10.3: the root stays the seed's, behind each leaf, and of a broken log.
func TestRootStays(t *testing.T) {
	for _, seed := range []api.Id{{}, mixed()} {
		want := merkle.Root(seed)
		d, s := formatted(t, 10, 4, seed)
		for leaf := range 9 {
			if s.Root() != want {
				t.Errorf("%d leaves taken, the root is another one", leaf)
			}
			s.Sign(rising(leaf))
		}
		d, s = formatted(t, 10, 4, seed)
		d.Arm(0)
		s.Sign(rising(0))
		if s.Root() != want || !s.Broken() {
			t.Error("of a broken log the root is another one")
		}
	}
}

// P10.2, P10.3, R4: no signer.
func TestNoSigner(t *testing.T) {
	var s *signer.Signer
	for _, m := range []api.Id{{}, filled(255), mixed()} {
		x, err := s.Sign(m)
		if err != api.ErrNil || x.Leaf != 0 || x.Chains != nil || x.Path != nil {
			t.Errorf("no signer: signed, error %d", err)
		}
	}
	if s.Root() != (api.Id{}) || s.Next() != 0 || s.Broken() {
		t.Error("no signer: something is told")
	}
}

// R5: signers of the same seed tell the same, on whatever disk, and each goes on by itself.
func TestSignersAreApart(t *testing.T) {
	_, a := formatted(t, 10, 4, mixed())
	_, b := formatted(t, 100, 20, mixed())
	_, c := formatted(t, 10, 4, rising(1))
	for leaf := range 8 {
		x, y := signed(t, "one", a, rising(5), leaf), signed(t, "another one", b, rising(5), leaf)
		if !slices.Equal(x.Chains, y.Chains) || !slices.Equal(x.Path, y.Path) {
			t.Errorf("two signers of one seed sign by the leaf %d in two ways", leaf)
		}
		checkTold(t, "a third one", c, leaf, false)
		if z := signed(t, "a third one", c, rising(5), leaf); merkle.Verify(a.Root(), rising(5), z) {
			t.Errorf("what another seed signed by the leaf %d is verified", leaf)
		}
	}
}

// R3: what was signed is new memory: whoever changes it, and the room behind it, changes no other signature, and nothing that is kept.
func TestSignedIsNew(t *testing.T) {
	d, s := formatted(t, 10, 4, mixed())
	var kept []api.Signed
	for leaf := range 8 {
		x := signed(t, "Sign", s, rising(1), leaf)
		kept = append(kept, api.Signed{Leaf: x.Leaf, Chains: slices.Clone(x.Chains), Path: slices.Clone(x.Path)})
		for _, l := range [][]api.Id{x.Chains, x.Path} {
			for k := range l[:cap(l)] {
				l[:cap(l)][k] = filled(6)
			}
		}
	}
	for leaf, x := range kept {
		checkSigned(t, "behind the others were changed", s, x, mixed(), rising(1), leaf)
	}
	checkTold(t, "opened", opened(t, "opened", d), 8, false)
}

// P10.1: a signer stands on the disk that it was handed, whatever else is opened there without being used.
func TestSignWhileOthersAreOpened(t *testing.T) {
	d, s := formatted(t, 10, 4, mixed())
	for leaf := range 8 {
		what := fmt.Sprintf("the leaf %d", leaf)
		checkTold(t, what, opened(t, what, d), leaf, false)
		if _, err := wal.Open(d); err != api.OK {
			t.Errorf("%s: the log can't be opened, error %d", what, err)
		}
		signed(t, what, s, rising(leaf), leaf)
	}
}

// P10.1 to P10.4: a second signer is opened on the disk and used in the first one's place: it goes on behind the first one's leaves, and the first one goes on to tell what it told.
func TestSecondSigner(t *testing.T) {
	for _, area := range []int{4, 9} {
		d, first := formatted(t, 20, area, mixed())
		signed(t, "the first signer", first, rising(0), 0)
		signed(t, "the first signer", first, rising(1), 1)
		second := opened(t, "the second signer", d)
		for leaf := 2; leaf < 6; leaf++ {
			checkSigned(t, "the second signer", second, signed(t, "the second signer", second, rising(leaf), leaf), mixed(), rising(leaf), leaf)
			checkTold(t, "the first signer, unused", first, 2, false)
			checkTold(t, "a third signer", opened(t, "a third signer", d), leaf+1, false)
		}
		if first.Root() != second.Root() {
			t.Error("both have roots of their own")
		}
	}
}
