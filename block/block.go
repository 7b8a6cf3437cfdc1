// Package block is a disk of blocks that remembers its writes. See ../../shared/doc/01-block.md.
package block

import (
	"slices"
	"sync/atomic"

	"holdfast/api"
)

// page is a block's bytes; an array, so that no copy of it shares memory with another one.
type page [api.PageBytes]byte

// change is a write as it can be undone: Cut needs no more than what was there ahead of it.
type change struct {
	block  int
	before page
}

// Disk is one.
type Disk struct {
	pages   []page
	changes []change
	count   atomic.Int64
}

// New is a disk of blocks that are 0 everywhere; Load one with an image.
func New(blocks int) (*Disk, api.Errno) {
	if blocks < 1 || blocks > api.MaxBlocks {
		return nil, api.ErrRange
	}
	return &Disk{pages: make([]page, blocks)}, api.OK
}

func Load(image ...[]byte) (*Disk, api.Errno) {
	d, e := New(len(image))
	if e != api.OK {
		return nil, e
	}
	for n, b := range image {
		if len(b) != api.PageBytes {
			return nil, api.ErrForm
		}
		copy(d.pages[n][:], b)
	}
	return d, api.OK
}

// Blocks is how many it has; Count how many writes there were.
func (d *Disk) Blocks() int {
	if d == nil {
		return 0
	}
	return len(d.pages)
}

func (d *Disk) Count() int {
	if d == nil {
		return 0
	}
	return int(d.count.Load())
}

// Read is a block; Write writes one.
func (d *Disk) Read(n int) ([]byte, api.Errno) {
	if e := d.reach(n); e != api.OK {
		return nil, e
	}
	return slices.Clone(d.pages[n][:]), api.OK
}

func (d *Disk) Write(n int, b ...byte) api.Errno {
	if e := d.reach(n); e != api.OK {
		return e
	}
	if len(b) != api.PageBytes {
		return api.ErrForm
	}
	d.changes = append(d.changes, change{block: n, before: d.pages[n]})
	copy(d.pages[n][:], b)
	d.count.Add(1)
	return api.OK
}

// reach is the error of asking for a block, which Read and Write have alike.
func (d *Disk) reach(n int) api.Errno {
	if d == nil {
		return api.ErrNil
	}
	if n < 0 || n >= len(d.pages) {
		return api.ErrRange
	}
	return api.OK
}

// Cut is a disk behind the first k writes; Writes are the numbers of the blocks that were written.
func (d *Disk) Cut(k int) (*Disk, api.Errno) {
	if d == nil {
		return nil, api.ErrNil
	}
	if k < 0 || k > d.Count() {
		return nil, api.ErrRange
	}
	c := &Disk{pages: slices.Clone(d.pages)}
	// The last write is undone first: a block may have been written more than once.
	for i := len(d.changes) - 1; i >= k; i-- {
		c.pages[d.changes[i].block] = d.changes[i].before
	}
	return c, api.OK
}

func (d *Disk) Writes() []int {
	if d == nil {
		return nil
	}
	blocks := make([]int, len(d.changes))
	for i := range d.changes {
		blocks[i] = d.changes[i].block
	}
	return blocks
}

// Image is all blocks; Same tells whether two disks have the same image.
func (d *Disk) Image() [][]byte {
	if d == nil {
		return nil
	}
	image := make([][]byte, len(d.pages))
	for n := range d.pages {
		image[n] = slices.Clone(d.pages[n][:])
	}
	return image
}

func Same(a, b *Disk) bool {
	if a == nil || b == nil {
		return a == b
	}
	return slices.Equal(a.pages, b.pages)
}

// Fork is another one with the same, and the same writes.
func (d *Disk) Fork() *Disk {
	if d == nil {
		return nil
	}
	f := &Disk{pages: slices.Clone(d.pages), changes: slices.Clone(d.changes)}
	f.count.Store(d.count.Load())
	return f
}
