// Package octet is layer 1: numbers laid behind one another in bytes, the highest byte first, and taken off again from the front.
package octet

import (
	"bytes"

	"safehouse/api"
)

// rest is what a reader has still to give.
type rest []byte

// Reader takes numbers and bytes off a row; its first error stays.
type Reader struct {
	rest
	err api.Errno
}

// Put16 answers b, and x in 2 bytes behind it.
func Put16(b []byte, x uint16) []byte {
	return put(b, x, 2)
}

// Put32 answers b, and x in 4 bytes behind it.
func Put32(b []byte, x uint32) []byte {
	return put(b, x, 4)
}

// Put64 answers b, and x in 8 bytes behind it.
func Put64(b []byte, x uint64) []byte {
	return put(b, x, 8)
}

// put lays x in width bytes behind a copy of b: to append to b itself might write into room that is the caller's.
func put[N uint16 | uint32 | uint64](b []byte, x N, width int) []byte {
	row := make([]byte, len(b)+width)
	copy(row, b)
	for k := range width {
		row[len(b)+k] = byte(x >> (8 * (width - 1 - k)))
	}
	return row
}

// Equal tells whether both rows have the same bytes.
func Equal(a, b []byte) bool {
	return bytes.Equal(a, b)
}

// Zero tells whether b has noughts alone.
func Zero(b []byte) bool {
	for _, x := range b {
		if x != 0 {
			return false
		}
	}
	return true
}

// Read makes a reader of b.
func Read(b []byte) *Reader {
	return &Reader{rest: copied(b)}
}

// U8 takes a number in 1 byte off.
func (r *Reader) U8() byte {
	return byte(r.number(1))
}

// U16 takes a number in 2 bytes off.
func (r *Reader) U16() uint16 {
	return uint16(r.number(2))
}

// U32 takes a number in 4 bytes off.
func (r *Reader) U32() uint32 {
	return uint32(r.number(4))
}

// U64 takes a number in 8 bytes off.
func (r *Reader) U64() uint64 {
	return r.number(8)
}

// Raw takes n bytes off.
func (r *Reader) Raw(n int) []byte {
	var row []byte
	// The rest stays in use behind what was taken, so the caller gets a copy.
	r.off(n, func(taken []byte) { row = copied(taken) })
	return row
}

// Left tells how many bytes the rest has.
func (r *Reader) Left() int {
	if r == nil {
		return 0
	}
	return len(r.rest)
}

// Err tells the reader's error.
func (r *Reader) Err() api.Errno {
	if r == nil {
		return api.ErrNil
	}
	return r.err
}

// number takes a number in width bytes off: 0 if there is nothing to take.
func (r *Reader) number(width int) uint64 {
	var x uint64
	r.off(width, func(taken []byte) {
		for _, b := range taken {
			x = x<<8 | uint64(b)
		}
	})
	return x
}

// off hands n bytes of the rest to use, which is not called if nothing is taken.
func (r *Reader) off(n int, use func(taken []byte)) {
	if r == nil || r.err != api.OK {
		return
	}
	var taken []byte
	if taken, r.err = r.take(n); r.err == api.OK {
		use(taken)
	}
}

// take cuts the first n bytes off; beside an error the rest stays.
func (r *rest) take(n int) ([]byte, api.Errno) {
	if n < 0 {
		return nil, api.ErrArg
	}
	if n > len(*r) {
		return nil, api.ErrShort
	}
	taken := (*r)[:n]
	*r = (*r)[n:]
	return taken, api.OK
}

// copied answers the bytes of b in memory of their own.
func copied(b []byte) []byte {
	row := make([]byte, len(b))
	copy(row, b)
	return row
}
