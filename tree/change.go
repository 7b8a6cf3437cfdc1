package tree

import (
	"bytes"
	"maps"
	"slices"

	"holdfast/api"
)

// change is one deed: its head, and drafts of the pages that it writes, stand here till all of it has gone well.
type change struct {
	reader
	drafts map[int][]byte
}

// trunk is the root; of an empty tree a leaf without a number.
func (c *change) trunk() page {
	if c.root == 0 {
		return page{level: leafLevel}
	}
	return c.top()
}

// grow does a deed at the leaf of a key, below a page, and answers that page with what came of it. It may have too many bytes then, or too few, which is its parent's to mend.
func (c *change) grow(p page, key []byte, deed func(leaf entries) entries) page {
	if p.isLeaf() {
		p.entries = deed(p.entries)
		return p
	}
	i := p.below(key)
	child := c.grow(c.child(p, i), key, deed)
	first, numbers := i, []int{child.number}
	switch {
	case child.size() < api.MinFill:
		first, numbers, child = c.gather(p, i, child)
	case child.size() > room:
		first, numbers, child = c.spill(p, i, child)
	}
	p.entries = slices.Concat(p.entries[:first], c.lay(child, numbers), p.entries[first+len(numbers):])
	return p
}

// gather joins a child that has too few bytes with the smaller one of its neighbours: both together are one page, or two that have enough. It answers where they begin in their parent, and their numbers.
func (c *change) gather(p page, i int, child page) (first int, numbers []int, joined page) {
	last := i+1 == len(p.entries)
	var left, right page
	if i > 0 {
		left = c.child(p, i-1)
	}
	if !last {
		right = c.child(p, i+1)
	}
	if i == 0 || !last && right.size() < left.size() {
		return i, []int{child.number, right.number}, join(child, right)
	}
	return i - 1, []int{left.number, child.number}, join(left, child)
}

// spill joins a child that has too many bytes with a neighbour that has room for some of them, so that pages become full ahead of there being more of them. It answers as gather does; if there is no such neighbour, of the child alone.
func (c *change) spill(p page, i int, child page) (first int, numbers []int, joined page) {
	if i > 0 {
		left := c.child(p, i-1)
		if both := join(left, child); len(both.cut()) == 2 {
			return i - 1, []int{left.number, child.number}, both
		}
	}
	if i+1 < len(p.entries) {
		right := c.child(p, i+1)
		if both := join(child, right); len(both.cut()) == 2 {
			return i, []int{child.number, right.number}, both
		}
	}
	return i, []int{child.number}, child
}

// lay drafts a page, as more than one if it must, in the place of those with these numbers, and answers their entries in a parent.
func (c *change) lay(p page, numbers []int) entries {
	var laid entries
	for i, part := range p.cut() {
		if i == len(numbers) {
			numbers = append(numbers, c.take(c.Log().Pages()))
		}
		c.drafts[numbers[i]] = part.bytes()
		laid = append(laid, entry{key: part.low, child: numbers[i]})
	}
	for _, n := range numbers[len(laid):] {
		c.release(n)
	}
	return laid
}

// plant lets a page that a deed was done below be the root: if it has become too much for one page, below a new one; if nothing is left in it but a child, or not even that, there is one level less.
func (c *change) plant(p page) {
	if len(p.entries) == 0 {
		c.release(p.number)
		c.root = 0
		return
	}
	if !p.isLeaf() && len(p.entries) == 1 {
		c.release(p.number)
		c.root = p.entries[0].child
		return
	}
	var numbers []int
	if c.root != 0 {
		numbers = append(numbers, c.root)
	}
	laid := c.lay(p, numbers)
	if len(laid) > 1 {
		laid = c.lay(page{level: p.level + 1, entries: laid}, nil)
	}
	c.root = laid[0].child
}

// write writes the pages that have become others. They are read and written in order, so that the cache behind does not hang on that of a map.
func (c *change) write() {
	c.drafts[headPage] = c.head.bytes()
	for _, n := range slices.Sorted(maps.Keys(c.drafts)) {
		if bytes.Equal(c.raw(n), c.drafts[n]) {
			delete(c.drafts, n)
		}
	}
	if len(c.Dirty())+len(c.drafts) > api.MaxGroup {
		c.forgetFree()
	}
	for _, n := range slices.Sorted(maps.Keys(c.drafts)) {
		c.Write(n, c.drafts[n]...)
	}
}

// forgetFree lets pages be as they were that were written since the last Commit, and then let go: nobody reads them. It gives up, if those that are left are too many for a group.
func (c *change) forgetFree() {
	for _, n := range c.Dirty() {
		if _, drafted := c.drafts[n]; !drafted && !c.isFree(n) {
			c.drafts[n] = c.raw(n)
		}
	}
	if len(c.drafts) > api.MaxGroup {
		giveUp(api.ErrFull)
	}
	c.Abort()
}
