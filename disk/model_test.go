package disk_test

import (
	"slices"
	"testing"

	"safehouse/api"
	"safehouse/disk"
)

// written is one write of a story.
type written struct {
	sector int
	block  api.Block
}

// model is a disk as the chapter says it: the whole story, the first ones of which are firm.
type model struct {
	sectors, firm  int
	story          []written
	power          bool
	armed, failing int // below 0: it is not
	ops            int
}

// clone answers a model that goes on by itself.
func (m model) clone() *model {
	m.story = slices.Clone(m.story)
	return &m
}

// holds answers the block of the last write of the sector i.
func (m *model) holds(i int) api.Block {
	var b api.Block
	for _, w := range m.story {
		if w.sector == i {
			b = w.block
		}
	}
	return b
}

// ask goes through the six cases in their order.
func (m *model) ask(there, lasts bool) api.Errno {
	if !m.power {
		return api.ErrDead
	}
	if !there {
		return api.ErrArg
	}
	if m.failing == 0 {
		m.failing = -1
		return api.ErrIo
	}
	if m.failing > 0 {
		m.failing--
	}
	if lasts && m.armed == 0 {
		m.power, m.armed = false, -1
		return api.ErrDead
	}
	if lasts && m.armed > 0 {
		m.armed--
	}
	m.ops++
	return api.OK
}

// crash takes the loose writes out that keep does not name.
func (m *model) crash(keep []bool) {
	story := slices.Clone(m.story[:m.firm])
	for k, w := range m.story[m.firm:] {
		if k < len(keep) && keep[k] {
			story = append(story, w)
		}
	}
	m.story, m.firm = story, len(story)
	m.power, m.armed, m.failing = true, -1, -1
}

// deed is what is done to a disk and to its model: what both tell.
type deed struct {
	name string
	do   func(d *disk.Disk, m *model) (got, want api.Errno)
}

// reading reads the sector i; what is read stands in the answer as if it were an error, where it is another block.
func reading(name string, i int) deed {
	return deed{name, func(d *disk.Disk, m *model) (got, want api.Errno) {
		b, got := d.Read(i)
		var block api.Block
		if want = m.ask(i >= 0 && i < m.sectors, false); want == api.OK {
			block = m.holds(i)
		}
		if b != block {
			got = -1
		}
		return got, want
	}}
}

// writing writes another block than any that was written ahead of it.
func writing(name string, i int) deed {
	return deed{name, func(d *disk.Disk, m *model) (got, want api.Errno) {
		b := sectorOf(byte(len(m.story) + 7*m.ops))
		if want = m.ask(i >= 0 && i < m.sectors, true); want == api.OK {
			m.story = append(m.story, written{i, b})
		}
		return d.Write(i, b), want
	}}
}

// setting arms a disk, or sets it to fail.
func setting(name string, n int, call func(d *disk.Disk, n int) api.Errno, field func(m *model) *int) deed {
	return deed{name, func(d *disk.Disk, m *model) (got, want api.Errno) {
		if !m.power {
			return call(d, n), api.ErrDead
		}
		*field(m) = max(n, -1)
		return call(d, n), api.OK
	}}
}

// crashing crashes a disk.
func crashing(name string, keep ...bool) deed {
	return deed{name, func(d *disk.Disk, m *model) (got, want api.Errno) {
		m.crash(keep)
		return d.Crash(keep), api.OK
	}}
}

// deeds are what can be done to a disk of 2 sectors.
func deeds() []deed {
	arm, fail := (*disk.Disk).Arm, (*disk.Disk).Fail
	armed := func(m *model) *int { return &m.armed }
	failing := func(m *model) *int { return &m.failing }
	return []deed{
		reading("read 0", 0),
		reading("read 2", 2),
		writing("write 0", 0),
		writing("write 1", 1),
		writing("write -1", -1),
		{"sync", func(d *disk.Disk, m *model) (got, want api.Errno) {
			if want = m.ask(true, true); want == api.OK {
				m.firm = len(m.story)
			}
			return d.Sync(), want
		}},
		setting("arm 0", 0, arm, armed),
		setting("arm 1", 1, arm, armed),
		setting("arm -1", -1, arm, armed),
		setting("fail 0", 0, fail, failing),
		setting("fail 2", 2, fail, failing),
		setting("fail -1", -1, fail, failing),
		crashing("crash"),
		crashing("crash 0", true),
		crashing("crash 1", false, true, false),
	}
}

// sameAs tells whether a disk tells what its model does; what the sectors hold is read of a copy, so that nothing is counted down.
func sameAs(d *disk.Disk, m *model) bool {
	var loose []int
	for _, w := range m.story[m.firm:] {
		loose = append(loose, w.sector)
	}
	if d.Len() != m.sectors || d.Dead() == m.power || d.Ops() != m.ops || !slices.Equal(d.Pending(), loose) {
		return false
	}
	c := d.Copy()
	if m.power {
		c.Fail(-1)
	} else {
		c.Crash(slices.Repeat([]bool{true}, len(loose)))
	}
	for i := range m.sectors {
		if b, err := c.Read(i); err != api.OK || b != m.holds(i) {
			return false
		}
	}
	return true
}

// P2.2 to P2.7: whatever is done to a disk, deed by deed, it tells what its model does; each way goes on with a copy.
func TestEveryWay(t *testing.T) {
	all := deeds()
	var walk func(d *disk.Disk, m *model, way []string, deep int)
	walk = func(d *disk.Disk, m *model, way []string, deep int) {
		for _, x := range all {
			if deep == 0 || t.Failed() {
				return
			}
			next, n := d.Copy(), m.clone()
			here := append(way, x.name)
			if got, want := x.do(next, n); got != want {
				t.Errorf("%q: told %d, not %d", here, got, want)
			} else if !sameAs(next, n) {
				t.Errorf("%q: stands otherwise", here)
			}
			walk(next, n, here, deep-1)
		}
		if !sameAs(d, m) {
			t.Errorf("%q: what was done to copies was done to it", way)
		}
	}
	d := newDisk(t, 2)
	walk(d, &model{sectors: 2, power: true, armed: -1, failing: -1}, nil, 4)
}

// P2.2 to P2.7: the same for long ways, without copies between, that a fixed rule picks.
func TestLongWays(t *testing.T) {
	all := deeds()
	seed := uint32(1)
	for range 300 {
		d := newDisk(t, 2)
		m := &model{sectors: 2, power: true, armed: -1, failing: -1}
		var way []string
		for range 200 {
			seed = seed*1664525 + 1013904223
			x := all[int(seed>>16)%len(all)]
			way = append(way, x.name)
			if got, want := x.do(d, m); got != want || !sameAs(d, m) {
				t.Fatalf("%q: told %d, not %d, or stands otherwise", way, got, want)
			}
		}
	}
}
