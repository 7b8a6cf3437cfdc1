package tree

import (
	"bytes"

	"holdfast/api"
)

const (
	headPage = 0

	markFirst, markSecond = 84, 82

	// Where a head's parts begin and end: its mark, its root, its first fresh page, its free pages.
	rootAt, freshAt, freeAt = 2, 4, 6
	freeEnd                 = freeAt + api.MaxBlocks/8
)

// head is what page 0 tells: the root (0: there is none), the first fresh page (if there is one), and a bit for each free page. The free ones stand here, and not in a chain of pages, so that to let a page go writes no other page.
type head struct {
	root, fresh int
	free        [api.MaxBlocks / 8]byte
}

func (h head) bytes() []byte {
	b := make([]byte, api.PageBytes)
	b[0], b[1] = markFirst, markSecond
	putShort(b[rootAt:], h.root)
	putShort(b[freshAt:], h.fresh)
	copy(b[freeAt:freeEnd], h.free[:])
	return b
}

// parseHead takes a page only if it is just one that would be written.
func parseHead(b []byte, pages int) (head, bool) {
	if isZero(b) {
		return head{fresh: headPage + 1}, true
	}
	h := head{root: short(b[rootAt:]), fresh: short(b[freshAt:])}
	copy(h.free[:], b[freeAt:freeEnd])
	if !bytes.Equal(h.bytes(), b) || h.fresh <= headPage || h.fresh > pages {
		return head{}, false
	}
	return h, h.freeOnlyUsed() && (h.root == 0 || h.isTaken(h.root))
}

// freeOnlyUsed tells whether none of the free pages is the head, or fresh.
func (h head) freeOnlyUsed() bool {
	for n := range api.MaxBlocks {
		if h.isFree(n) && (n == headPage || n >= h.fresh) {
			return false
		}
	}
	return true
}

func (h head) isFree(n int) bool { return h.free[n/8]>>(n%8)&1 == 1 }

// isTaken tells whether a page, of any number from 0 on, ought to be one of the tree's.
func (h head) isTaken(n int) bool { return n > headPage && n < h.fresh && !h.isFree(n) }

// take is the number of a page for the tree: the first free one, else the first fresh one.
func (h *head) take(pages int) int {
	for n := range h.fresh {
		if h.isFree(n) {
			h.free[n/8] &^= 1 << (n % 8)
			return n
		}
	}
	if h.fresh >= pages {
		giveUp(api.ErrFull)
	}
	h.fresh++
	return h.fresh - 1
}

func (h *head) release(n int) { h.free[n/8] |= 1 << (n % 8) }

func putShort(b []byte, n int) { b[0], b[1] = byte(n>>8), byte(n) }

func short(b []byte) int { return int(b[0])<<8 | int(b[1]) }

func isZero(b []byte) bool {
	for _, c := range b {
		if c != 0 {
			return false
		}
	}
	return true
}
