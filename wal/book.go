package wal

import (
	"iter"

	"safehouse/api"
	"safehouse/disk"
	"safehouse/octet"
	"safehouse/sha"
)

const (
	places    = 2 // titles that a disk has room for; fields, too
	letters   = "SAFEHOUSE"
	sealBytes = 4
	headBytes = sealBytes + 4 + 4 + 2 + 2 // bytes of a leaf ahead of those of its entry
	leafBytes = api.Sector - headBytes
)

// heading is what a title says.
type heading struct {
	turn uint32
	area int // sectors of a field
}

// book is a heading, and what the field says of that turn.
type book struct {
	heading
	stood []byte
	came  [][]byte
	end   int // sectors that the entries fill: 0 if there is none
}

// step is one of the things done to make a new book.
type step struct {
	do func() api.Errno
}

// place answers which of the two titles and fields is this turn's.
func (h heading) place() int {
	return int(h.turn % places)
}

// start answers the first sector of the field.
func (h heading) start() int {
	return places + h.place()*h.area
}

// needs answers how many sectors the titles and fields take up.
func (h heading) needs() int {
	return places + places*h.area
}

// fits tells whether there may be such fields, and the disk has room for them.
func (h heading) fits(d *disk.Disk) bool {
	return h.area >= api.MinArea && h.area <= api.MaxArea && h.needs() <= d.Len()
}

// title answers the heading's block.
func (h heading) title() api.Block {
	row := octet.Put32(nil, uint32(h.area))
	row = octet.Put32(row, h.turn)
	return sealed(append(row, letters...))
}

// counting answers the heading of the book that counts.
func counting(d *disk.Disk) (heading, api.Errno) {
	var titles [places]api.Block
	for i := range titles {
		var err api.Errno
		if titles[i], err = d.Read(i); err != api.OK {
			return heading{}, err
		}
	}
	var best heading
	err := api.ErrWal
	for i, block := range titles {
		h := headed(block)
		if h.place() != i || !h.fits(d) || h.title() != block {
			continue
		}
		if err != api.OK || h.turn > best.turn {
			best, err = h, api.OK
		}
	}
	return best, err
}

// headed answers the heading of which block may be the title.
func headed(block api.Block) heading {
	r := octet.Read(block[sealBytes:])
	area := int(r.U32())
	return heading{turn: r.U32(), area: area}
}

// read answers what stands in the field.
func (h heading) read(d *disk.Disk) ([]api.Block, api.Errno) {
	field := make([]api.Block, h.area)
	for k := range field {
		var err api.Errno
		if field[k], err = d.Read(h.start() + k); err != api.OK {
			return nil, err
		}
	}
	return field, api.OK
}

// said answers the book that the field says. Whether an entry stands is found out by laying it anew: so every byte of its leaves counts.
func (h heading) said(field []api.Block) book {
	b := book{heading: h}
entries:
	for b.end < len(field) {
		rest := field[b.end:]
		length := lengthOf(rest[0])
		fills := Sectors(length)
		if fills == 0 || fills > len(rest) {
			break entries
		}
		entry := textOf(rest[:fills])[:length:length]
		at := 0
		for leaf := range leaves(h.turn, b.number(), entry) {
			if leaf != rest[at] {
				break entries
			}
			at++
		}
		b.take(entry)
	}
	return b
}

// textOf answers what leaves hold of their entry, and what stands behind its end in the last one.
func textOf(leaves []api.Block) []byte {
	row := make([]byte, 0, leafBytes*len(leaves))
	for _, leaf := range leaves {
		row = append(row, leaf[headBytes:]...)
	}
	return row
}

// lengthOf answers how many bytes the entry has whose first leaf may be this.
func lengthOf(leaf api.Block) int {
	r := octet.Read(leaf[sealBytes+4+4:])
	return int(r.U16())
}

// leaves tells the leaves of an entry, one behind the other.
func leaves(turn uint32, number int, entry []byte) iter.Seq[api.Block] {
	return func(yield func(api.Block) bool) {
		for k := range Sectors(len(entry)) {
			left := entry[leafBytes*k:]
			row := octet.Put32(nil, turn)
			row = octet.Put32(row, uint32(number))
			row = octet.Put16(row, uint16(len(entry)))
			row = octet.Put16(row, uint16(len(left)))
			row = append(row, left[:min(len(left), leafBytes)]...)
			if !yield(sealed(row)) {
				return
			}
		}
	}
}

// sealed answers a block of the content, noughts behind it, with the seal of all that ahead.
func sealed(content []byte) api.Block {
	var block api.Block
	copy(block[sealBytes:], content)
	id := sha.Sum(block[sealBytes:])
	copy(block[:sealBytes], id[len(id)-sealBytes:])
	return block
}

// begin answers a new book, in which things stand as stood says.
func begin(h heading, stood []byte) book {
	b := book{heading: h}
	b.take(copied(stood))
	return b
}

// take puts an entry behind the book's last one, and keeps it.
func (b *book) take(entry []byte) {
	if b.end == 0 {
		b.stood = entry
	} else {
		b.came = append(b.came, entry)
	}
	b.end += Sectors(len(entry))
}

// number answers the number of the next entry.
func (b *book) number() int {
	if b.end == 0 {
		return 0
	}
	return 1 + len(b.came)
}

// left answers how many sectors of the field no entry fills.
func (b *book) left() int {
	return b.area - b.end
}

// add makes the next entry last; the book does not take it yet.
func (b *book) add(d *disk.Disk, entry []byte) api.Errno {
	if err := write(d, b.start()+b.end, leaves(b.turn, b.number(), entry)); err != api.OK {
		return err
	}
	return d.Sync()
}

// lay makes a new book last. Its title comes behind a sync, so that none is there without what it speaks of.
func (b *book) lay(d *disk.Disk) api.Errno {
	steps := [...]step{
		{func() api.Errno { return write(d, b.start(), leaves(b.turn, 0, b.stood)) }},
		{d.Sync},
		{func() api.Errno { return d.Write(b.place(), b.title()) }},
		{d.Sync},
	}
	for _, s := range steps {
		if err := s.do(); err != api.OK {
			return err
		}
	}
	return api.OK
}

// settle makes what the book's field holds firm. What was cut off goes, so that no entry that comes later could make it whole.
func (b *book) settle(d *disk.Disk, field []api.Block) api.Errno {
	var stale []int
	for k := b.end; k < len(field); k++ {
		if field[k] != (api.Block{}) {
			stale = append(stale, b.start()+k)
		}
	}
	if len(stale) == 0 && len(d.Pending()) == 0 {
		return api.OK
	}
	return wipe(d, stale)
}

// write writes blocks from the sector at on.
func write(d *disk.Disk, at int, blocks iter.Seq[api.Block]) api.Errno {
	for block := range blocks {
		if err := d.Write(at, block); err != api.OK {
			return err
		}
		at++
	}
	return api.OK
}

// wipe writes noughts to the sectors of a list, and makes them stay.
func wipe(d *disk.Disk, list []int) api.Errno {
	for _, i := range list {
		if err := d.Write(i, api.Block{}); err != api.OK {
			return err
		}
	}
	return d.Sync()
}

// sectors answers n sectors from the first one on.
func sectors(first, n int) []int {
	list := make([]int, n)
	for k := range list {
		list[k] = first + k
	}
	return list
}

// copied answers the bytes of b in memory of their own.
func copied(b []byte) []byte {
	row := make([]byte, len(b))
	copy(row, b)
	return row
}
