package wal

import (
	"bytes"

	"holdfast/api"
)

const (
	headBlock = 0

	markFirst, markSecond = 72, 70

	// Where a head's parts begin and end: its mark, its groups, how many blocks are used.
	groupsAt, usedAt, headEnd = 2, 10, 12

	// Of an index block: bytes of how many pages there are, and of each number.
	short = 2
)

// head is what the block 0 tells. The number of groups is the only one that may go round.
type head struct {
	groups int64
	used   int
}

func (h head) bytes() []byte {
	b := make([]byte, api.PageBytes)
	b[0], b[1] = markFirst, markSecond
	putNumber(b[groupsAt:usedAt], uint64(h.groups))
	putNumber(b[usedAt:headEnd], uint64(h.used))
	return b
}

// parseHead takes a block only if it is just the one that would be written: so nothing of it stands for nothing.
func parseHead(b []byte) (head, bool) {
	if isZero(b) {
		return head{}, true
	}
	h := head{groups: int64(number(b[groupsAt:usedAt])), used: int(number(b[usedAt:headEnd]))}
	if h.groups < 0 || !bytes.Equal(h.bytes(), b) {
		return head{}, false
	}
	return h, true
}

// indexBytes is the index block of a group of at most api.MaxGroup pages.
func indexBytes(numbers []int) []byte {
	b := make([]byte, api.PageBytes)
	putNumber(b[:short], uint64(len(numbers)))
	for i, n := range numbers {
		putNumber(slot(b, i), uint64(n))
	}
	return b
}

// parseIndex is the numbers of an index block, one at least, rising; like a head, it must be just what would be written.
func parseIndex(b []byte) ([]int, bool) {
	count := number(b[:short])
	if count < 1 || count > api.MaxGroup {
		return nil, false
	}
	numbers := make([]int, count)
	for i := range numbers {
		numbers[i] = int(number(slot(b, i)))
		if i > 0 && numbers[i] <= numbers[i-1] {
			return nil, false
		}
	}
	return numbers, bytes.Equal(indexBytes(numbers), b)
}

// slot is where the i-th number of an index block stands.
func slot(b []byte, i int) []byte {
	return b[short*(i+1) : short*(i+2)]
}

func isZero(b []byte) bool {
	for _, c := range b {
		if c != 0 {
			return false
		}
	}
	return true
}

// putNumber fills b with a number, the highest byte first.
func putNumber(b []byte, n uint64) {
	for i := len(b) - 1; i >= 0; i-- {
		b[i] = byte(n)
		n >>= 8
	}
}

func number(b []byte) uint64 {
	var n uint64
	for _, c := range b {
		n = n<<8 | uint64(c)
	}
	return n
}
