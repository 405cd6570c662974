package signer

import (
	"iter"

	"safehouse/api"
	"safehouse/wal"
)

const (
	seedBytes  = len(api.Id{})
	standBytes = seedBytes + 1 // the seed, and how many leaves were taken ahead
	leafBytes  = 1
	noLeaf     = -1 // what a transaction that is not a leaf's is taken for
)

// log is the log of a signer. It is a type of its own as a signer would otherwise give out what a Wal can do, and whoever has a signer could take its leaves back.
type log wal.Wal

// wal answers the log as what it is.
func (l *log) wal() *wal.Wal {
	return (*wal.Wal)(l)
}

// stand lets the log begin anew with so many leaves taken.
func (l *log) stand(seed api.Id, taken int) api.Errno {
	return l.wal().Checkpoint(append(seed[:], byte(taken)))
}

// stood answers the seed, and how many leaves were taken ahead of what came; false if the snapshot is none of a signer.
func (l *log) stood() (seed api.Id, taken int, ok bool) {
	b := l.wal().Snapshot()
	if len(b) != standBytes || b[seedBytes] > api.MaxLeaf {
		return api.Id{}, 0, false
	}
	return api.Id(b[:seedBytes]), int(b[seedBytes]), true
}

// taken tells the leaves that were taken since the snapshot.
func (l *log) taken() iter.Seq[int] {
	return func(yield func(int) bool) {
		for _, tx := range l.wal().All() {
			leaf := noLeaf
			if len(tx) == leafBytes {
				leaf = int(tx[0])
			}
			if !yield(leaf) {
				return
			}
		}
	}
}

// hasSigner tells whether the log says what one of a signer says: each leaf that was taken was the next one.
func (l *log) hasSigner() bool {
	_, next, ok := l.stood()
	if !ok {
		return false
	}
	for leaf := range l.taken() {
		if leaf != next || leaf >= api.MaxLeaf {
			return false
		}
		next++
	}
	return true
}

// seed answers the signer's seed.
func (l *log) seed() api.Id {
	seed, _, _ := l.stood()
	return seed
}

// next answers the next leaf, if there is one, else how many there are.
func (l *log) next() int {
	_, next, _ := l.stood()
	for range l.taken() {
		next++
	}
	return next
}

// take takes the leaf, so that it lasts: by a transaction, or by a new snapshot if the log has no room for one.
func (l *log) take(leaf int) api.Errno {
	if wal.Sectors(leafBytes) > l.wal().Left() {
		return l.stand(l.seed(), leaf+1)
	}
	return l.wal().Append([]byte{byte(leaf)})
}
