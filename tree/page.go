package tree

import (
	"bytes"
	"math"
	"slices"

	"holdfast/api"
)

const (
	leafLevel = 1

	// A page begins with its level and how many entries it has, a byte each; the rest is room for its entries.
	pageStart = 2
	room      = api.PageBytes - pageStart

	// What an entry has beside its key and value: two lengths; or a length, and a child's number of two bytes.
	leafExtra, innerExtra = 2, 3
)

// entry is a key with its value, or, in a page that is no leaf, with the child that has the keys from it on.
type entry struct {
	key, value []byte
	child      int
}

// entries are a page's, with rising keys.
type entries []entry

// find is where a key stands, or would stand.
func (s entries) find(key []byte) (int, bool) {
	return slices.BinarySearchFunc(s, key, func(e entry, key []byte) int { return bytes.Compare(e.key, key) })
}

// below is the entry whose child has the keys from a key on: of keys that lie ahead of all the first one.
func (s entries) below(key []byte) int {
	i, found := s.find(key)
	if found || i == 0 {
		return i
	}
	return i - 1
}

// span is the keys from low on, and below high (an empty one: to the end).
type span struct {
	low, high []byte
}

func (s span) endsAhead(key []byte) bool {
	return len(s.high) > 0 && bytes.Compare(key, s.high) >= 0
}

// page is a page of the tree: its keys lie in its span. A leaf's level is 1, any other's is one more than its children's. Of a page that is no leaf the first entry's key is low; its parents know that one, so it takes no bytes.
type page struct {
	span
	entries
	number, level int
}

func (p page) isLeaf() bool { return p.level == leafLevel }

// size is the bytes of its entries.
func (p page) size() int {
	if p.isLeaf() {
		size := 0
		for _, e := range p.entries {
			size += len(e.key) + len(e.value) + leafExtra
		}
		return size
	}
	size := -len(p.low)
	for _, e := range p.entries {
		size += len(e.key) + innerExtra
	}
	return size
}

// reach is the span of a child.
func (p page) reach(i int) span {
	if i+1 < len(p.entries) {
		return span{p.entries[i].key, p.entries[i+1].key}
	}
	return span{p.entries[i].key, p.high}
}

func (p page) bytes() []byte {
	b := make([]byte, 0, api.PageBytes)
	b = append(b, byte(p.level), byte(len(p.entries)))
	for i, e := range p.entries {
		switch {
		case p.isLeaf():
			b = append(b, byte(len(e.key)), byte(len(e.value)))
			b = append(b, e.key...)
			b = append(b, e.value...)
		case i == 0:
			b = append(b, 0, byte(e.child>>8), byte(e.child))
		default:
			b = append(b, byte(len(e.key)), byte(e.child>>8), byte(e.child))
			b = append(b, e.key...)
		}
	}
	return b[:api.PageBytes]
}

// parsePage reads a page that must lie in a span; it gives up, if it is none that would be written there.
func parsePage(b []byte, s span) page {
	c := cursor{b}
	p := page{span: s, level: int(c.cut(1)[0])}
	for range c.cut(1)[0] {
		p.entries = append(p.entries, c.entry(p.isLeaf()))
	}
	if !p.isLeaf() {
		p.inherit()
	}
	if !isZero(c.rest) || !p.isSound() {
		giveUp(api.ErrBroken)
	}
	return p
}

// inherit lets the first entry have the key that it has from the page's parents.
func (p page) inherit() {
	if len(p.entries) == 0 || len(p.entries[0].key) > 0 {
		giveUp(api.ErrBroken)
	}
	p.entries[0].key = p.low
}

// isSound tells whether a page has keys and values, rising, within its span: a key of its own at least, so that no two pages of a level are one.
func (p page) isSound() bool {
	own := p.entries
	if !p.isLeaf() && len(own) > 0 {
		own = own[1:]
	}
	if p.level < leafLevel || len(own) == 0 {
		return false
	}
	for _, e := range own {
		if !isKey(e.key) || !isValue(e.value) {
			return false
		}
	}
	for i := 1; i < len(p.entries); i++ {
		if bytes.Compare(p.entries[i-1].key, p.entries[i].key) >= 0 {
			return false
		}
	}
	first, last := p.entries[0].key, p.entries[len(p.entries)-1].key
	return bytes.Compare(p.low, first) <= 0 && !p.endsAhead(last)
}

// cut is a page as pages that have room enough each: itself, or its halves, cut in their turn. (A leaf becomes three, if an entry has come between two others that it goes with neither of.)
func (p page) cut() []page {
	if p.size() <= room {
		return []page{p}
	}
	left, right := p.split(p.middle())
	return append(left.cut(), right.cut()...)
}

// middle is where a page is split: so that the greater half is as small as may be. Of a page that is too great, the smaller half has MinFill bytes then: had it less, it could take one entry more, and still be the smaller one.
func (p page) middle() int {
	best, least := 0, math.MaxInt
	for i := 1; i < len(p.entries); i++ {
		left, right := p.split(i)
		if great := max(left.size(), right.size()); great < least {
			best, least = i, great
		}
	}
	return best
}

// split is the entries ahead of one, and those from it on. A leaf's halves are told apart by the shortest key that does so, which leaves more room in their parent.
func (p page) split(i int) (left, right page) {
	at := p.entries[i].key
	if p.isLeaf() {
		at = between(p.entries[i-1].key, at)
	}
	left = page{span: span{p.low, at}, level: p.level, entries: p.entries[:i:i]}
	right = page{span: span{at, p.high}, level: p.level, entries: p.entries[i:len(p.entries):len(p.entries)]}
	return left, right
}

// join is a page, and the one behind it, as one.
func join(left, right page) page {
	return page{span: span{left.low, right.high}, level: left.level, entries: slices.Concat(left.entries, right.entries)}
}

// between is the shortest beginning of right that lies above left, which lies below right.
func between(left, right []byte) []byte {
	same := 0
	for same < len(left) && left[same] == right[same] {
		same++
	}
	return right[: same+1 : same+1]
}

// cursor cuts a page's bytes into pieces, one behind the other.
type cursor struct {
	rest []byte
}

// cut limits each piece to its own bytes, so that none grows into the next one.
func (c *cursor) cut(n int) []byte {
	if n > len(c.rest) {
		giveUp(api.ErrBroken)
	}
	piece := c.rest[:n:n]
	c.rest = c.rest[n:]
	return piece
}

func (c *cursor) entry(leaf bool) entry {
	if leaf {
		sizes := c.cut(leafExtra)
		return entry{key: c.cut(int(sizes[0])), value: c.cut(int(sizes[1]))}
	}
	start := c.cut(innerExtra)
	return entry{key: c.cut(int(start[0])), child: short(start[1:])}
}

func isKey(b []byte) bool { return len(b) >= 1 && len(b) <= api.MaxKey }

func isValue(b []byte) bool { return len(b) <= api.MaxValue }
