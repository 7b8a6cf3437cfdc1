package tree

import (
	"iter"
	"slices"

	"holdfast/api"
	"holdfast/pager"
)

// reader reads the pages of a tree, with a head.
type reader struct {
	*pager.Pager
	head
}

// raw is a page that is known to be there: so Read has no error to tell.
func (r reader) raw(n int) []byte {
	b, _ := r.Read(n)
	return b
}

// load is a page of the tree. It gives up, if that is none: all that walks down a tree ends then, since levels fall, and no page lies in two spans.
func (r reader) load(n int, s span) page {
	if !r.isTaken(n) {
		giveUp(api.ErrBroken)
	}
	p := parsePage(r.raw(n), s)
	p.number = n
	return p
}

func (r reader) top() page { return r.load(r.root, span{}) }

func (r reader) child(p page, i int) page {
	child := r.load(p.entries[i].child, p.reach(i))
	if child.level != p.level-1 || child.size() < api.MinFill {
		giveUp(api.ErrBroken)
	}
	return child
}

// get is a key's value, as it lies in its page.
func (r reader) get(key []byte) []byte {
	if r.root == 0 {
		giveUp(api.ErrNone)
	}
	p := r.top()
	for !p.isLeaf() {
		p = r.child(p, p.below(key))
	}
	i, found := p.find(key)
	if !found {
		giveUp(api.ErrNone)
	}
	return p.entries[i].value
}

// pages yields the pages of the tree, but for those that lie ahead of a key: a page ahead of its children, and these in order.
func (r reader) pages(from []byte) iter.Seq[page] {
	return func(yield func(page) bool) {
		if r.root != 0 {
			r.visit(r.top(), from, yield)
		}
	}
}

// visit yields a page and those below it; it tells whether more are wanted.
func (r reader) visit(p page, from []byte, yield func(page) bool) bool {
	if !yield(p) {
		return false
	}
	if p.isLeaf() {
		return true
	}
	for i := p.below(from); i < len(p.entries); i++ {
		if !r.visit(r.child(p, i), from, yield) {
			return false
		}
	}
	return true
}

// pairs yields the entries of leaves from a key on, in order.
func (r reader) pairs(from []byte) iter.Seq[entry] {
	return func(yield func(entry) bool) {
		for p := range r.pages(from) {
			if !p.isLeaf() {
				continue
			}
			first, _ := p.find(from)
			for _, e := range p.entries[first:] {
				if !yield(e) {
					return
				}
			}
		}
	}
}

func (r reader) scan(s span, most int) []api.Pair {
	if most == 0 {
		return nil
	}
	var pairs []api.Pair
	for e := range r.pairs(s.low) {
		if s.endsAhead(e.key) {
			break
		}
		pairs = append(pairs, api.Pair{Key: slices.Clone(e.key), Value: slices.Clone(e.value)})
		if len(pairs) == most {
			break
		}
	}
	return pairs
}

// report goes through all pages; it gives up, if a page is neither one of the tree's nor free nor fresh.
func (r reader) report() Report {
	var report Report
	for p := range r.pages(nil) {
		report.Height = max(report.Height, p.level)
		report.Pages = append(report.Pages, p.number)
		if p.number != r.root && (report.Least == 0 || p.size() < report.Least) {
			report.Least = p.size()
		}
	}
	slices.Sort(report.Pages)
	for n := headPage + 1; n < r.Log().Pages(); n++ {
		if n >= r.fresh {
			report.Fresh = append(report.Fresh, n)
		} else if r.isFree(n) {
			report.Free = append(report.Free, n)
		}
	}
	if len(report.Pages)+len(report.Free) != r.fresh-1 {
		giveUp(api.ErrBroken)
	}
	return report
}
