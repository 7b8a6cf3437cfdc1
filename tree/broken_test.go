package tree

import (
	"bytes"
	"math"
	"math/rand"
	"slices"
	"strings"
	"testing"

	"holdfast/api"
	"holdfast/block"
	"holdfast/pager"
	"holdfast/wal"
)

const testLog = api.MaxGroup + 10

// laidOut is a pager over a disk whose pages have these bytes, the others none.
func laidOut(t *testing.T, count int, pages map[int][]byte) *pager.Pager {
	t.Helper()
	d, e := block.New(testLog + 1 + count)
	if e != api.OK {
		t.Fatal(e)
	}
	for n, b := range pages {
		if e := d.Write(testLog+1+n, b...); e != api.OK {
			t.Fatal(n, e)
		}
	}
	l, e := wal.Open(d, testLog)
	if e != api.OK {
		t.Fatal(e)
	}
	p, e := pager.New(l, 8)
	if e != api.OK {
		t.Fatal(e)
	}
	return p
}

func headOf(root, fresh int, free ...int) head {
	h := head{root: root, fresh: fresh}
	for _, n := range free {
		h.release(n)
	}
	return h
}

func leafOf(keys ...string) page {
	p := page{level: leafLevel}
	for _, key := range keys {
		p.entries = append(p.entries, entry{key: []byte(key), value: []byte(strings.Repeat("v", 60))})
	}
	return p
}

// innerOf is a page of a level, with children and the keys between them.
func innerOf(level int, first int, rest ...entry) page {
	return page{level: level, entries: append(entries{{child: first}}, rest...)}
}

func below(key string, child int) entry { return entry{key: []byte(key), child: child} }

// twoLeaves is a tree that is as it must be, of a root and two leaves, with one page that is free and two that are fresh.
func twoLeaves() map[int][]byte {
	return map[int][]byte{
		headPage: headOf(2, 5, 4).bytes(),
		1:        leafOf("a", "b").bytes(),
		2:        innerOf(2, 1, below("m", 3)).bytes(),
		3:        leafOf("m", "n").bytes(),
	}
}

func TestLaidOutTree(t *testing.T) {
	x, e := Open(laidOut(t, 7, twoLeaves()))
	if e != api.OK {
		t.Fatal(e)
	}
	r, e := x.Check()
	if e != api.OK || r.Height != 2 || r.Least != 126 || !slices.Equal(r.Pages, []int{1, 2, 3}) || !slices.Equal(r.Free, []int{4}) || !slices.Equal(r.Fresh, []int{5, 6}) {
		t.Error(r, e)
	}
	if l, e := x.Scan(nil, nil, 9); e != api.OK || len(l) != 4 {
		t.Error(l, e)
	}
}

func TestHeadsThatNobodyMade(t *testing.T) {
	altered := func(at int, c byte) []byte {
		b := headOf(2, 5, 4).bytes()
		b[at] = c
		return b
	}
	heads := map[string][]byte{
		"another mark":               altered(0, 1),
		"another second mark":        altered(1, 1),
		"bytes behind the last part": altered(freeEnd, 1),
		"a last byte":                altered(api.PageBytes-1, 1),
		"no fresh page at all":       headOf(0, 0).bytes(),
		"more pages than there are":  headOf(2, 8, 4).bytes(),
		"a root that is fresh":       headOf(5, 5, 4).bytes(),
		"a root that is not there":   headOf(700, 5, 4).bytes(),
		"a root of a great number":   headOf(65535, 5, 4).bytes(),
		"a root that is free":        headOf(4, 5, 4).bytes(),
		"a head that is free":        headOf(2, 5, 0, 4).bytes(),
		"a fresh page that is free":  headOf(2, 5, 4, 5).bytes(),
		"a free page beyond all":     headOf(2, 5, 4, api.MaxBlocks-1).bytes(),
	}
	for what, b := range heads {
		pages := twoLeaves()
		pages[headPage] = b
		if x, e := Open(laidOut(t, 7, pages)); x != nil || e != api.ErrBroken {
			t.Error(what, e)
		}
	}
}

// wantBroken asks that a disk with a head is opened, that Check tells that something is wrong, and that all calls end.
func wantBroken(t *testing.T, what string, pages map[int][]byte) {
	t.Helper()
	x, e := Open(laidOut(t, 7, pages))
	if e != api.OK {
		t.Error(what, e)
		return
	}
	r, e := x.Check()
	if e != api.ErrBroken || r.Height != 0 || r.Least != 0 || r.Pages != nil || r.Free != nil || r.Fresh != nil {
		t.Error(what, r, e)
	}
	wantEnds(t, x)
}

// wantEnds calls all there is: none panics, and with an error there is nothing else.
func wantEnds(t *testing.T, x *Tree) {
	t.Helper()
	known := []api.Errno{api.OK, api.ErrNone, api.ErrFull, api.ErrBroken}
	for _, key := range []string{"a", "b", "m", "n", "z"} {
		v, e := x.Get([]byte(key))
		if !slices.Contains(known, e) || e != api.OK && v != nil {
			t.Error(key, v, e)
		}
		l, e := x.Scan([]byte(key), nil, math.MaxInt)
		if !slices.Contains(known, e) || e != api.OK && l != nil {
			t.Error(key, l, e)
		}
	}
	for _, key := range []string{"a", "b", "m", "n", "z"} {
		before := x.Pager().Dirty()
		if e := x.Put([]byte(key), make([]byte, api.MaxValue)); !slices.Contains(known, e) || e != api.OK && !slices.Equal(before, x.Pager().Dirty()) {
			t.Error(key, e)
		}
		x.Check()
		before = x.Pager().Dirty()
		if e := x.Delete([]byte(key)); !slices.Contains(known, e) || e != api.OK && !slices.Equal(before, x.Pager().Dirty()) {
			t.Error(key, e)
		}
		x.Check()
	}
}

func TestPagesThatNobodyMade(t *testing.T) {
	cases := map[string]struct {
		number int
		bytes  []byte
	}{
		"a free page that is none":         {0, headOf(2, 5).bytes()},
		"a fresh page beyond the tree":     {0, headOf(2, 7, 4).bytes()},
		"a page that is free, too":         {0, headOf(2, 5, 3, 4).bytes()},
		"a root that is another one":       {0, headOf(1, 5, 4).bytes()},
		"no root, and pages that are used": {0, headOf(0, 5, 4).bytes()},
		"a leaf of nothing":                {1, make([]byte, api.PageBytes)},
		"a leaf of bytes 255":              {1, bytes.Repeat([]byte{255}, api.PageBytes)},
		"a leaf without entries":           {1, leafOf().bytes()},
		"a leaf that is too empty":         {1, page{level: leafLevel, entries: entries{{key: []byte("a"), value: make([]byte, 52)}}}.bytes()},
		"keys that fall":                   {1, leafOf("b", "a").bytes()},
		"a key twice":                      {1, leafOf("b", "b").bytes()},
		"a key beyond its page":            {1, leafOf("a", "m").bytes()},
		"a key ahead of its page":          {3, leafOf("l", "n").bytes()},
		"an empty key":                     {1, leafOf("", "b").bytes()},
		"a key that is too long":           {1, leafOf("a", strings.Repeat("b", api.MaxKey+1)).bytes()},
		"a value that is too long":         {1, page{level: leafLevel, entries: entries{{key: []byte("a"), value: make([]byte, api.MaxValue+1)}}}.bytes()},
		"bytes behind the last entry":      {1, append(leafOf("a", "b").bytes()[:api.PageBytes-1:api.PageBytes-1], 1)},
		"an entry that runs over":          {1, append([]byte{1, 3}, bytes.Repeat([]byte{64, 72, 'k'}, 85)[:254]...)},
		"a leaf at another depth":          {1, innerOf(2, 1, below("b", 4)).bytes()},
		"a page with one child":            {2, innerOf(2, 1).bytes()},
		"a page without children":          {2, page{level: 2}.bytes()},
		"a page of another level":          {2, innerOf(3, 1, below("m", 3)).bytes()},
		"a child that is free":             {2, innerOf(2, 1, below("m", 4)).bytes()},
		"a child that is fresh":            {2, innerOf(2, 1, below("m", 5)).bytes()},
		"a child that is not there":        {2, innerOf(2, 1, below("m", 60000)).bytes()},
		"a child that is the head":         {2, innerOf(2, 0, below("m", 3)).bytes()},
		"a child that is its parent":       {2, innerOf(2, 1, below("m", 2)).bytes()},
		"a child twice":                    {2, innerOf(2, 1, below("m", 1)).bytes()},
		"an empty key between":             {2, innerOf(2, 1, below("", 3)).bytes()},
		"a first key that is no one's":     {2, append([]byte{2, 2, 1, 0, 1, 'a', 1, 0, 3, 'm'}, make([]byte, api.PageBytes-10)...)},
		"keys between that fall":           {2, innerOf(2, 1, below("m", 3), below("l", 1)).bytes()},
	}
	for what, c := range cases {
		pages := twoLeaves()
		pages[4], pages[5] = leafOf("m", "o").bytes(), leafOf("m", "p").bytes() // what free and fresh pages have is not asked
		pages[c.number] = c.bytes
		wantBroken(t, what, pages)
	}
}

// A page that all entries of its parent point to, level by level, would be walked through more often than any call could, were it not refused.
func TestSharedChildren(t *testing.T) {
	const levels = 40
	pages := map[int][]byte{headPage: headOf(levels, levels+1).bytes(), 1: leafOf("a", "b").bytes()}
	for level := 2; level <= levels; level++ {
		var rest []entry
		for c := byte('c'); c < 'z'; c++ {
			rest = append(rest, below(string(c), level-1))
		}
		pages[level] = innerOf(level, level-1, rest...).bytes()
	}
	x, e := Open(laidOut(t, levels+1, pages))
	if e != api.OK {
		t.Fatal(e)
	}
	if _, e := x.Check(); e != api.ErrBroken {
		t.Error(e)
	}
	if l, e := x.Scan(nil, nil, math.MaxInt); l != nil || e != api.ErrBroken {
		t.Error(l, e)
	}
	wantEnds(t, x)
}

func TestAlteredBytes(t *testing.T) {
	chance := rand.New(rand.NewSource(5))
	good := grown(t)
	for range 3000 {
		pages := map[int][]byte{}
		for n, b := range good {
			pages[n] = slices.Clone(b)
		}
		for range 1 + chance.Intn(4) {
			b := pages[chance.Intn(len(pages))]
			b[chance.Intn(1+chance.Intn(api.PageBytes))] = byte(chance.Intn(256))
		}
		x, e := Open(laidOut(t, len(good), pages))
		if e == api.ErrBroken && x == nil {
			continue
		}
		if e != api.OK {
			t.Fatal(e)
		}
		wantEnds(t, x)
	}
}

// grown are the pages of a tree of some levels.
func grown(t *testing.T) map[int][]byte {
	t.Helper()
	x, e := Open(laidOut(t, 40, nil))
	if e != api.OK {
		t.Fatal(e)
	}
	for i := range 30 {
		key := append(bytes.Repeat([]byte{byte('a' + i%3)}, 60), byte(i))
		if e := x.Put(key, make([]byte, i*5%api.MaxValue)); e != api.OK {
			t.Fatal(e)
		}
	}
	if r, e := x.Check(); e != api.OK || r.Height < 3 {
		t.Fatal(r, e)
	}
	pages := map[int][]byte{}
	for n := range 40 {
		pages[n], _ = x.Pager().Read(n)
	}
	return pages
}

// A Delete that needs pages: a leaf that is left with too few bytes can't be put together with its only neighbour, and the key that tells them apart then is too long for their parent.
func TestDeleteThatNeedsPages(t *testing.T) {
	long := func(key string, size int) string { return key + strings.Repeat("x", size-len(key)) }
	near := page{level: leafLevel}
	for _, end := range []string{"1", "2", "3"} {
		near.entries = append(near.entries, entry{key: []byte(strings.Repeat("b", 62) + end), value: make([]byte, 15)})
	}
	for fresh := range 4 {
		pages := map[int][]byte{
			headPage: headOf(1, 7).bytes(),
			1:        innerOf(2, 2, below("b", 3), below(long("c", 64), 4), below(long("d", 64), 5), below(long("e", 64), 6)).bytes(),
			2:        page{level: leafLevel, entries: entries{{key: []byte("a1"), value: make([]byte, 30)}, {key: []byte("a2"), value: make([]byte, 30)}}}.bytes(),
			3:        near.bytes(),
			4:        leafOf(long("c", 64)).bytes(),
			5:        leafOf(long("d", 64)).bytes(),
			6:        leafOf(long("e", 64)).bytes(),
		}
		x, e := Open(laidOut(t, 7+fresh, pages))
		if e != api.OK {
			t.Fatal(e)
		}
		if _, e := x.Check(); e != api.OK {
			t.Fatal(e)
		}
		want, left := api.ErrFull, 8
		if fresh >= 2 {
			want, left = api.OK, 7
		}
		if e := x.Delete([]byte("a1")); e != want || e != api.OK && len(x.Pager().Dirty()) > 0 {
			t.Error(fresh, e, x.Pager().Dirty())
		}
		if _, e := x.Check(); e != api.OK {
			t.Error(fresh, e)
		}
		if l, e := x.Scan(nil, nil, 99); e != api.OK || len(l) != left {
			t.Error(fresh, len(l), e)
		}
	}
}

func TestPagesWrittenByOthers(t *testing.T) {
	x, e := Open(laidOut(t, 7, twoLeaves()))
	if e != api.OK {
		t.Fatal(e)
	}
	x.Pager().Write(headPage, bytes.Repeat([]byte{9}, api.PageBytes)...)
	if _, e := x.Get([]byte("a")); e != api.ErrBroken {
		t.Error(e)
	}
	if _, e := x.Check(); e != api.ErrBroken {
		t.Error(e)
	}
	if e := x.Put([]byte("a"), nil); e != api.ErrBroken {
		t.Error(e)
	}
	if e := x.Abort(); e != api.OK {
		t.Error(e)
	}
	if v, e := x.Get([]byte("a")); e != api.OK || len(v) != 60 {
		t.Error(v, e)
	}
}

func TestCaught(t *testing.T) {
	if e := caught(func() {}); e != api.OK {
		t.Error(e)
	}
	if e := caught(func() { giveUp(api.ErrFull) }); e != api.ErrFull {
		t.Error(e)
	}
	if e := caught(func() { panic("another one") }); e != api.ErrBroken {
		t.Error(e)
	}
	if text := (failure{api.ErrFull}).Error(); !strings.Contains(text, "7") {
		t.Error(text)
	}
}

func TestBetween(t *testing.T) {
	for _, c := range [][3]string{{"a", "b", "b"}, {"a", "ab", "ab"}, {"a", "abc", "ab"}, {"axxx", "bxxx", "b"}, {"axxa", "axxbc", "axxb"}, {"a\x00", "a\x01\x01", "a\x01"}, {"a\xff\xff", "b", "b"}} {
		if got := between([]byte(c[0]), []byte(c[1])); string(got) != c[2] {
			t.Errorf("%q %q: %q", c[0], c[1], got)
		}
	}
}
