package wal_test

import (
	"bytes"
	"iter"
	"math"
	"math/rand"
	"slices"
	"testing"

	"holdfast/api"
	"holdfast/block"
	"holdfast/wal"
)

// filled is a page that has one byte everywhere.
func filled(c byte) []byte {
	return bytes.Repeat([]byte{c}, api.PageBytes)
}

func page(n int, c byte) api.Page {
	return api.Page{Number: n, Bytes: filled(c)}
}

// pagesFrom are count pages from number first on, all with the byte c.
func pagesFrom(first, count int, c byte) []api.Page {
	var pages []api.Page
	for i := range count {
		pages = append(pages, page(first+i, c))
	}
	return pages
}

// begun is a block that begins with these bytes, all else 0.
func begun(head ...byte) []byte {
	b := make([]byte, api.PageBytes)
	copy(b, head)
	return b
}

// headOf is a head as the document says it.
func headOf(groups uint64, used int) []byte {
	b := begun(72, 70)
	for i := range 8 {
		b[2+i] = byte(groups >> (56 - 8*i))
	}
	b[10], b[11] = byte(used>>8), byte(used)
	return b
}

// indexOf is an index block as the document says it, of a count that may be wrong.
func indexOf(count int, numbers ...int) []byte {
	b := begun(byte(count>>8), byte(count))
	for i, n := range numbers {
		b[2+2*i], b[3+2*i] = byte(n>>8), byte(n)
	}
	return b
}

func newDisk(t *testing.T, blocks int) *block.Disk {
	t.Helper()
	d, e := block.New(blocks)
	if e != api.OK {
		t.Fatal(blocks, e)
	}
	return d
}

// diskWith is a disk of so many blocks, the first ones as they are given, the others 0.
func diskWith(t *testing.T, blocks int, first ...[]byte) *block.Disk {
	t.Helper()
	image := slices.Clone(first)
	for len(image) < blocks {
		image = append(image, begun())
	}
	d, e := block.Load(image...)
	if e != api.OK {
		t.Fatal(blocks, e)
	}
	return d
}

func open(t *testing.T, d *block.Disk, size int) *wal.Log {
	t.Helper()
	l, e := wal.Open(d, size)
	if e != api.OK || l == nil {
		t.Fatalf("Open(.., %d): %v %v", size, l, e)
	}
	return l
}

func newLog(t *testing.T, blocks, size int) *wal.Log {
	t.Helper()
	return open(t, newDisk(t, blocks), size)
}

func commit(t *testing.T, l *wal.Log, pages ...api.Page) {
	t.Helper()
	if e := l.Commit(pages...); e != api.OK {
		t.Fatal(e)
	}
}

func checkpoint(t *testing.T, l *wal.Log) {
	t.Helper()
	if e := l.Checkpoint(); e != api.OK {
		t.Fatal(e)
	}
}

// state is all that a log tells.
type state struct {
	pages, used, free, groups int
	touched                   []int
	bytes                     [][]byte
}

func stateOf(t *testing.T, l *wal.Log) state {
	t.Helper()
	s := state{pages: l.Pages(), used: l.Used(), free: l.Free(), groups: l.Groups(), touched: l.Touched()}
	for n := range s.pages {
		b, e := l.Read(n)
		if e != api.OK || len(b) != api.PageBytes {
			t.Fatal(n, e, len(b))
		}
		s.bytes = append(s.bytes, b)
	}
	return s
}

func samePages(a, b state) bool {
	return slices.EqualFunc(a.bytes, b.bytes, bytes.Equal)
}

func same(a, b state) bool {
	return a.pages == b.pages && a.used == b.used && a.free == b.free && a.groups == b.groups && slices.Equal(a.touched, b.touched) && samePages(a, b)
}

func wantBlock(t *testing.T, d *block.Disk, n int, want []byte) {
	t.Helper()
	if b, e := d.Read(n); e != api.OK || !bytes.Equal(b, want) {
		t.Errorf("block %d: %v, %v; want %v", n, b, e, want)
	}
}

func wantPage(t *testing.T, l *wal.Log, n int, want []byte) {
	t.Helper()
	if b, e := l.Read(n); e != api.OK || !bytes.Equal(b, want) {
		t.Errorf("page %d: %v, %v; want %v", n, b, e, want)
	}
}

// wantWrites asks for the blocks that were written since the first from writes.
func wantWrites(t *testing.T, l *wal.Log, from int, want ...int) {
	t.Helper()
	if w := l.Disk().Writes(); len(w) < from || !slices.Equal(w[from:], want) {
		t.Errorf("writes: %v; want from %d on %v", w, from, want)
	}
}

// wantUntouched asks that a log tells the same, and has the same disk with the same writes, behind work as ahead of it.
func wantUntouched(t *testing.T, l *wal.Log, work func()) {
	t.Helper()
	before, disk := stateOf(t, l), l.Disk()
	work()
	after := l.Disk()
	if !same(before, stateOf(t, l)) || !block.Same(disk, after) || !slices.Equal(disk.Writes(), after.Writes()) {
		t.Error("the log has changed")
	}
}

func TestExample(t *testing.T) {
	l := newLog(t, 8, 3)
	if l.Pages() != 4 {
		t.Error(l.Pages())
	}
	commit(t, l, page(2, 5), page(0, 6))
	wantWrites(t, l, 0, 1, 2, 3, 0)
	d := l.Disk()
	wantBlock(t, d, 0, headOf(1, 3))
	wantBlock(t, d, 1, indexOf(2, 0, 2))
	wantBlock(t, d, 2, filled(6))
	wantBlock(t, d, 3, filled(5))
	for n := 4; n < 8; n++ {
		wantBlock(t, d, n, filled(0))
	}
	if l.Used() != 3 || l.Free() != 0 || l.Groups() != 1 || !slices.Equal(l.Touched(), []int{0, 2}) {
		t.Error(l.Used(), l.Free(), l.Groups(), l.Touched())
	}
	for n, c := range []byte{6, 0, 5, 0} {
		wantPage(t, l, n, filled(c))
	}
}

func TestOpenRefusesNilAndSizes(t *testing.T) {
	for _, size := range []int{math.MinInt, -1, 0, 1, 2, 7, math.MaxInt} {
		if l, e := wal.Open(nil, size); l != nil || e != api.ErrNil {
			t.Error(size, l, e)
		}
	}
	for _, blocks := range []int{1, 2, 3, 4, 10, api.MaxBlocks} {
		d := newDisk(t, blocks)
		for _, size := range []int{math.MinInt, math.MinInt + blocks, -1, 0, 1, blocks - 1, blocks, blocks + 1, math.MaxInt} {
			if l, e := wal.Open(d, size); l != nil || e != api.ErrRange {
				t.Error(blocks, size, l, e)
			}
		}
	}
	// ErrRange is named ahead of ErrBroken.
	broken := diskWith(t, 6, filled(1))
	for _, size := range []int{1, 5} {
		if l, e := wal.Open(broken, size); l != nil || e != api.ErrRange {
			t.Error(size, l, e)
		}
	}
	if l, e := wal.Open(broken, 4); l != nil || e != api.ErrBroken {
		t.Error(l, e)
	}
}

func TestOpenTakesSizes(t *testing.T) {
	for _, c := range []struct{ blocks, size, pages int }{
		{4, 2, 1}, {5, 2, 2}, {5, 3, 1}, {300, 110, 189}, {api.MaxBlocks, 2, 1021}, {api.MaxBlocks, api.MaxBlocks - 2, 1},
	} {
		l := newLog(t, c.blocks, c.size)
		if l.Pages() != c.pages || l.Used() != 0 || l.Free() != c.size || l.Groups() != 0 || len(l.Touched()) != 0 {
			t.Error(c, l.Pages(), l.Used(), l.Free(), l.Groups(), l.Touched())
		}
	}
}

func TestOpenWritesNothing(t *testing.T) {
	d := diskWith(t, 8, headOf(4, 2), indexOf(1, 3), filled(9), filled(8))
	if e := d.Write(5, filled(7)...); e != api.OK {
		t.Fatal(e)
	}
	l := open(t, d, 3)
	if own := l.Disk(); own.Count() != 0 || len(own.Writes()) != 0 || !block.Same(own, d) {
		t.Error(own.Count(), own.Writes())
	}
	if d.Count() != 1 {
		t.Error(d.Count())
	}
	if l.Used() != 2 || l.Free() != 1 || l.Groups() != 4 || !slices.Equal(l.Touched(), []int{3}) {
		t.Error(l.Used(), l.Free(), l.Groups(), l.Touched())
	}
	for n, c := range []byte{0, 7, 0, 9} {
		wantPage(t, l, n, filled(c))
	}
}

func TestLogAndDiskAreApart(t *testing.T) {
	d := newDisk(t, 8)
	l := open(t, d, 3)
	wantUntouched(t, l, func() {
		d.Write(0, filled(1)...)
		d.Write(4, filled(2)...)
	})
	image := d.Image()
	commit(t, l, page(0, 3))
	checkpoint(t, l)
	if !slices.EqualFunc(image, d.Image(), bytes.Equal) || d.Count() != 2 {
		t.Error("the log has written the disk that was handed in")
	}
	wantUntouched(t, l, func() {
		f := l.Disk()
		f.Write(0, filled(1)...)
		f.Write(4, filled(2)...)
	})
}

func TestHeads(t *testing.T) {
	changed := func(n int, c byte) []byte {
		b := headOf(5, 0)
		b[n] = c
		return b
	}
	for name, b := range map[string][]byte{
		"full": filled(255), "no mark": begun(0, 0, 0, 0, 0, 0, 0, 0, 0, 1),
		"first byte of the mark": changed(0, 71), "second byte of the mark": changed(1, 71), "mark turned": begun(70, 72), "half a mark": begun(72),
		"groups 2^63": headOf(1<<63, 0), "groups 2^64-1": headOf(math.MaxUint64, 0),
		"byte behind used": changed(12, 1), "last byte": changed(api.PageBytes-1, 1), "last byte alone": append(make([]byte, api.PageBytes-1), 1),
		"used above size": headOf(9, 5), "used, high byte": headOf(9, 256), "used 2^16-1": headOf(9, 65535),
	} {
		if l, e := wal.Open(diskWith(t, 9, b, indexOf(3, 0, 1, 2)), 4); l != nil || e != api.ErrBroken {
			t.Error(name, l, e)
		}
	}
	for _, groups := range []uint64{0, 1, 255, 256, 1<<40 + 7, math.MaxInt64} {
		l := open(t, diskWith(t, 9, headOf(groups, 0), filled(255)), 4)
		if l.Groups() != int(groups) || l.Used() != 0 || l.Free() != 4 || len(l.Touched()) != 0 {
			t.Error(groups, l.Groups(), l.Used(), l.Free(), l.Touched())
		}
	}
	// A head that is 0 everywhere stands for none, whatever the log's blocks have.
	l := open(t, diskWith(t, 9, begun(), filled(255)), 4)
	if l.Groups() != 0 || l.Used() != 0 || len(l.Touched()) != 0 {
		t.Error(l.Groups(), l.Used(), l.Touched())
	}
}

func TestUsedBlocksThatAreNoGroups(t *testing.T) {
	junk := func(n int, index []byte) []byte {
		index[n] = 1
		return index
	}
	a := filled(1)
	for name, c := range map[string]struct {
		used int
		log  [][]byte
	}{
		"no pages":                     {1, [][]byte{indexOf(0)}},
		"no pages, two blocks":         {2, [][]byte{indexOf(0), indexOf(0)}},
		"0 behind a group":             {3, [][]byte{indexOf(1, 0), a, begun()}},
		"one block alone":              {1, [][]byte{indexOf(1, 0), a}},
		"group longer than used":       {3, [][]byte{indexOf(3, 0, 1, 2), a, a, a}},
		"second longer than used":      {4, [][]byte{indexOf(1, 0), a, indexOf(2, 0, 1), a, a}},
		"101 pages":                    {5, [][]byte{indexOf(101, 0, 1, 2, 3), a, a, a, a}},
		"count with a high byte":       {2, [][]byte{indexOf(257, 0), a}},
		"all bytes 255":                {2, [][]byte{filled(255), a}},
		"a number twice":               {3, [][]byte{indexOf(2, 1, 1), a, a}},
		"numbers falling":              {3, [][]byte{indexOf(2, 2, 1), a, a}},
		"numbers falling at the end":   {4, [][]byte{indexOf(3, 0, 2, 1), a, a, a}},
		"page that is not there":       {2, [][]byte{indexOf(1, 5), a}},
		"page that is not there, last": {3, [][]byte{indexOf(2, 0, 5), a, a}},
		"page 256":                     {2, [][]byte{indexOf(1, 256), a}},
		"page 65535":                   {2, [][]byte{indexOf(1, 65535), a}},
		"byte behind the numbers":      {2, [][]byte{junk(4, indexOf(1, 0)), a}},
		"byte at the end":              {2, [][]byte{junk(api.PageBytes-1, indexOf(1, 0)), a}},
		"number behind the numbers":    {2, [][]byte{indexOf(1, 0, 1), a}},
		"second group is none":         {4, [][]byte{indexOf(1, 0), a, indexOf(1, 5), a}},
	} {
		first := append([][]byte{headOf(3, c.used)}, c.log...)
		if l, e := wal.Open(diskWith(t, 13, first...), 7); l != nil || e != api.ErrBroken {
			t.Error(name, l, e)
		}
	}
}

func TestUsedBlocksThatAreGroups(t *testing.T) {
	d := diskWith(t, 13, headOf(3, 7), indexOf(2, 0, 4), filled(1), filled(2), indexOf(1, 4), filled(3), indexOf(1, 2), filled(4), filled(5))
	l := open(t, d, 7)
	if l.Pages() != 5 || l.Used() != 7 || l.Free() != 0 || l.Groups() != 3 || !slices.Equal(l.Touched(), []int{0, 2, 4}) {
		t.Error(l.Pages(), l.Used(), l.Free(), l.Groups(), l.Touched())
	}
	// The home of page 0 has other bytes than the log.
	wantBlock(t, d, 8, filled(5))
	for n, c := range []byte{1, 0, 4, 0, 3} {
		wantPage(t, l, n, filled(c))
	}
	// What stands behind the used blocks is not looked at.
	l = open(t, diskWith(t, 13, headOf(9, 2), indexOf(1, 1), filled(1), filled(255)), 7)
	if l.Used() != 2 || !slices.Equal(l.Touched(), []int{1}) {
		t.Error(l.Used(), l.Touched())
	}
}

func TestGreatestGroup(t *testing.T) {
	const size = api.MaxGroup + 1
	l := newLog(t, 2*size+50, size)
	wantUntouched(t, l, func() {
		if e := l.Commit(pagesFrom(0, api.MaxGroup+1, 1)...); e != api.ErrLong {
			t.Error(e)
		}
	})
	commit(t, l, pagesFrom(20, api.MaxGroup, 7)...)
	if l.Used() != size || l.Free() != 0 || l.Disk().Count() != api.MaxGroup+2 {
		t.Error(l.Used(), l.Free(), l.Disk().Count())
	}
	again := open(t, l.Disk(), size)
	if !same(stateOf(t, l), stateOf(t, again)) || len(again.Touched()) != api.MaxGroup {
		t.Error(again.Touched())
	}
	// A group of one more is none, though all its blocks are there.
	var numbers []int
	for n := range api.MaxGroup + 1 {
		numbers = append(numbers, n)
	}
	long := diskWith(t, 300, headOf(1, api.MaxGroup+2), indexOf(api.MaxGroup+1, numbers...))
	if l, e := wal.Open(long, 150); l != nil || e != api.ErrBroken {
		t.Error(l, e)
	}
	full := diskWith(t, 300, headOf(1, api.MaxGroup+1), indexOf(api.MaxGroup, numbers[:api.MaxGroup]...))
	if l, e := wal.Open(full, 150); l == nil || e != api.OK || len(l.Touched()) != api.MaxGroup {
		t.Error(l, e)
	}
}

func TestNeed(t *testing.T) {
	for pages, want := range map[int]int{
		math.MinInt: 0, -1: 0, 0: 0, 1: 2, 2: 3, 50: 51, api.MaxGroup - 1: api.MaxGroup, api.MaxGroup: api.MaxGroup + 1, api.MaxGroup + 1: 0, math.MaxInt: 0,
	} {
		if n := wal.Need(pages); n != want {
			t.Error(pages, n, want)
		}
	}
}

func TestReadRefuses(t *testing.T) {
	l := newLog(t, 9, 4)
	for _, n := range []int{math.MinInt, -9, -1, 4, 5, 9, math.MaxInt} {
		if b, e := l.Read(n); b != nil || e != api.ErrRange {
			t.Error(n, b, e)
		}
	}
}

func TestCommitOfNothing(t *testing.T) {
	l := newLog(t, 9, 4)
	commit(t, l, page(1, 1))
	wantUntouched(t, l, func() {
		if e := l.Commit(); e != api.OK {
			t.Error(e)
		}
		if e := l.Commit([]api.Page{}...); e != api.OK {
			t.Error(e)
		}
	})
}

func TestCommitRefusesInOrder(t *testing.T) {
	l := newLog(t, 9, 4)
	commit(t, l, page(1, 1), page(3, 2))
	short := api.Page{Number: 1, Bytes: make([]byte, api.PageBytes-1)}
	long := api.Page{Number: 2, Bytes: make([]byte, api.PageBytes+1)}
	empty := api.Page{Number: 0}
	many := pagesFrom(0, api.MaxGroup+1, 1)
	many[7] = short
	for name, c := range map[string]struct {
		pages []api.Page
		want  api.Errno
	}{
		"too many, wrong ones too":             {many, api.ErrLong},
		"too many of one":                      {slices.Repeat([]api.Page{page(0, 1)}, api.MaxGroup+1), api.ErrLong},
		"most, of pages that are not there":    {pagesFrom(0, api.MaxGroup, 1), api.ErrRange},
		"number below 0":                       {[]api.Page{page(-1, 1)}, api.ErrRange},
		"least number":                         {[]api.Page{page(0, 1), page(math.MinInt, 1)}, api.ErrRange},
		"number of no page":                    {[]api.Page{page(4, 1)}, api.ErrRange},
		"greatest number":                      {[]api.Page{page(math.MaxInt, 1), page(0, 1)}, api.ErrRange},
		"number of no page in the middle":      {[]api.Page{page(0, 1), page(9, 1), page(2, 1)}, api.ErrRange},
		"twice, and a number of no page":       {[]api.Page{page(0, 1), page(0, 1), page(4, 1)}, api.ErrRange},
		"number of no page, twice":             {[]api.Page{page(4, 1), page(4, 1)}, api.ErrRange},
		"short, and a number of no page":       {[]api.Page{short, page(-1, 1)}, api.ErrRange},
		"short one of no page":                 {[]api.Page{{Number: 4}}, api.ErrRange},
		"twice":                                {[]api.Page{page(0, 1), page(0, 1)}, api.ErrForm},
		"twice with others between":            {[]api.Page{page(3, 1), page(0, 1), page(1, 1), page(3, 2)}, api.ErrForm},
		"twice, no room":                       {slices.Repeat([]api.Page{page(0, 1)}, api.MaxGroup), api.ErrForm},
		"short":                                {[]api.Page{short}, api.ErrForm},
		"long":                                 {[]api.Page{long}, api.ErrForm},
		"empty":                                {[]api.Page{empty}, api.ErrForm},
		"good and long":                        {[]api.Page{page(0, 1), long}, api.ErrForm},
		"long and good":                        {[]api.Page{long, page(3, 1)}, api.ErrForm},
		"no room for one":                      {[]api.Page{page(0, 1)}, api.ErrFull},
		"no room for one that the log has":     {[]api.Page{page(1, 1)}, api.ErrFull},
		"no room for all pages that there are": {pagesFrom(0, 4, 1), api.ErrFull},
	} {
		wantUntouched(t, l, func() {
			if e := l.Commit(c.pages...); e != c.want {
				t.Error(name, e, c.want)
			}
		})
	}
}

func TestCommitFillsTheLog(t *testing.T) {
	l := newLog(t, 12, 5)
	commit(t, l, page(0, 1), page(1, 1))
	if l.Free() != 2 {
		t.Fatal(l.Free())
	}
	wantUntouched(t, l, func() {
		if e := l.Commit(page(2, 1), page(3, 1)); e != api.ErrFull {
			t.Error(e)
		}
	})
	commit(t, l, page(1, 2))
	wantWrites(t, l, 4, 4, 5, 0)
	wantBlock(t, l.Disk(), 0, headOf(2, 5))
	wantPage(t, l, 0, filled(1))
	wantPage(t, l, 1, filled(2))
	checkpoint(t, l)
	// The log begins anew, over what stands there.
	commit(t, l, page(5, 3))
	wantBlock(t, l.Disk(), 0, headOf(3, 2))
	wantBlock(t, l.Disk(), 1, indexOf(1, 5))
	wantBlock(t, l.Disk(), 2, filled(3))
	// A log too small for a group refuses it for ever.
	small := newLog(t, 9, 2)
	wantUntouched(t, small, func() {
		if e := small.Commit(page(0, 1), page(1, 1)); e != api.ErrFull {
			t.Error(e)
		}
	})
	commit(t, small, page(0, 1))
}

func TestCommitLeavesWhatIsHandedIn(t *testing.T) {
	l := newLog(t, 12, 5)
	room := []api.Page{page(3, 1), page(0, 2), page(2, 3), page(1, 4)}
	kept := slices.Clone(room)
	for i := range room {
		room[i].Bytes = append(room[i].Bytes, 77)[:api.PageBytes]
	}
	commit(t, l, room[:3]...)
	for i, p := range room {
		if p.Number != kept[i].Number || !bytes.Equal(p.Bytes, kept[i].Bytes) || p.Bytes[:api.PageBytes+1][api.PageBytes] != 77 {
			t.Error(i, p)
		}
	}
	wantUntouched(t, l, func() {
		for _, p := range room {
			clear(p.Bytes)
		}
	})
}

func TestAnswersAreTheCallers(t *testing.T) {
	l := newLog(t, 12, 5)
	commit(t, l, page(3, 1), page(0, 2))
	wantUntouched(t, l, func() {
		for n := range l.Pages() {
			b, _ := l.Read(n)
			clear(b[:cap(b)])
		}
		touched := l.Touched()
		clear(touched[:cap(touched)])
	})
}

func TestCheckpoint(t *testing.T) {
	l := newLog(t, 12, 7)
	wantUntouched(t, l, func() { checkpoint(t, l) })
	commit(t, l, page(3, 1), page(1, 2))
	commit(t, l, page(0, 3), page(3, 4))
	ahead := stateOf(t, l)
	from := l.Disk().Count()
	checkpoint(t, l)
	wantWrites(t, l, from, 8, 9, 11, 0)
	d := l.Disk()
	wantBlock(t, d, 0, headOf(2, 0))
	for n, c := range []byte{3, 2, 0, 4} {
		wantBlock(t, d, 8+n, filled(c))
	}
	if l.Used() != 0 || l.Free() != 7 || l.Groups() != 2 || len(l.Touched()) != 0 {
		t.Error(l.Used(), l.Free(), l.Groups(), l.Touched())
	}
	if !samePages(ahead, stateOf(t, l)) {
		t.Error("pages have changed")
	}
	wantUntouched(t, l, func() { checkpoint(t, l) })
}

func TestGroupsGoRound(t *testing.T) {
	d := diskWith(t, 12, headOf(math.MaxInt64, 2), indexOf(1, 2), filled(1))
	l := open(t, d, 7)
	if l.Groups() != math.MaxInt64 {
		t.Fatal(l.Groups())
	}
	commit(t, l, page(0, 2))
	wantBlock(t, l.Disk(), 0, headOf(1<<63, 4))
	if l.Groups() != math.MinInt64 || l.Used() != 4 || l.Free() != 3 || !slices.Equal(l.Touched(), []int{0, 2}) {
		t.Error(l.Groups(), l.Used(), l.Free(), l.Touched())
	}
	wantPage(t, l, 0, filled(2))
	if m, e := wal.Open(l.Disk(), 7); m != nil || e != api.ErrBroken {
		t.Error(m, e)
	}
	commit(t, l, page(1, 3))
	wantBlock(t, l.Disk(), 0, headOf(1<<63+1, 6))
	if l.Groups() != math.MinInt64+1 {
		t.Error(l.Groups())
	}
	checkpoint(t, l)
	wantBlock(t, l.Disk(), 0, headOf(1<<63+1, 0))
	if l.Groups() != math.MinInt64+1 || l.Used() != 0 {
		t.Error(l.Groups(), l.Used())
	}
	// A Checkpoint keeps the last number that goes round behind it.
	l = open(t, d, 7)
	checkpoint(t, l)
	if again := open(t, l.Disk(), 7); again.Groups() != math.MaxInt64 {
		t.Error(again.Groups())
	}
}

func TestNilLog(t *testing.T) {
	var l *wal.Log
	if l.Pages() != 0 || l.Used() != 0 || l.Free() != 0 || l.Groups() != 0 || len(l.Touched()) != 0 || l.Disk() != nil {
		t.Error("a nil log tells something")
	}
	for _, n := range []int{-1, 0, 1} {
		if b, e := l.Read(n); b != nil || e != api.ErrNil {
			t.Error(n, b, e)
		}
	}
	for _, pages := range [][]api.Page{nil, {page(0, 1)}, {page(-1, 1)}, pagesFrom(0, api.MaxGroup+1, 1)} {
		if e := l.Commit(pages...); e != api.ErrNil {
			t.Error(len(pages), e)
		}
	}
	if e := l.Checkpoint(); e != api.ErrNil {
		t.Error(e)
	}
}

// randomGroup is a group of pages that there are, in any order.
func randomGroup(r *rand.Rand, pages int) []api.Page {
	var group []api.Page
	for _, n := range r.Perm(pages)[:1+r.Intn(min(4, pages))] {
		group = append(group, page(n, byte(r.Intn(256))))
	}
	return group
}

// cuts yields the states of the logs that are opened behind a cut at each write from from on, and whether all writes were done.
func cuts(t *testing.T, l *wal.Log, size, from int) iter.Seq2[state, bool] {
	return func(yield func(state, bool) bool) {
		d := l.Disk()
		for k := from; k <= d.Count(); k++ {
			c, e := d.Cut(k)
			if e != api.OK {
				t.Fatal(k, e)
			}
			if !yield(stateOf(t, open(t, c, size)), k == d.Count()) {
				return
			}
		}
	}
}

// wantCuts asks that a Commit is seen behind its last write, and nothing of it ahead of that.
func wantCuts(t *testing.T, l *wal.Log, size, from int, ahead state) {
	t.Helper()
	behind := stateOf(t, l)
	for left, done := range cuts(t, l, size, from) {
		if !done && !same(left, ahead) || done && !same(left, behind) {
			t.Error("a cut Commit is seen in part", left, done)
		}
	}
}

// wantCheckpointCuts asks that all pages are as they are, wherever a Checkpoint is cut.
func wantCheckpointCuts(t *testing.T, l *wal.Log, size, from int, ahead state) {
	t.Helper()
	for left := range cuts(t, l, size, from) {
		if !samePages(left, ahead) || left.groups != ahead.groups {
			t.Error("a cut Checkpoint has other pages", left)
		}
	}
}

// TestCutsAnywhere commits and checkpoints by chance, and cuts behind every write; what a model of pages tells is held against the log too.
func TestCutsAnywhere(t *testing.T) {
	r := rand.New(rand.NewSource(3))
	for round := range 30 {
		size := 2 + r.Intn(12)
		pages := 1 + r.Intn(7)
		l := newLog(t, size+1+pages, size)
		model := make([]byte, pages)
		groups := 0
		for range 25 {
			ahead, from := stateOf(t, l), l.Disk().Count()
			if r.Intn(5) == 0 {
				checkpoint(t, l)
				if l.Used() != 0 || ahead.used > 0 && l.Disk().Count()-from != len(ahead.touched)+1 {
					t.Error(round, "writes of a Checkpoint", l.Disk().Count()-from, ahead.touched)
				}
				wantCheckpointCuts(t, l, size, from, ahead)
			} else {
				group := randomGroup(r, pages)
				e := l.Commit(group...)
				if full := ahead.free < wal.Need(len(group)); full != (e == api.ErrFull) || !full && e != api.OK {
					t.Fatal(round, e, ahead.free, len(group))
				}
				if e != api.OK {
					continue
				}
				groups++
				for _, p := range group {
					model[p.Number] = p.Bytes[0]
				}
				if l.Disk().Count()-from != len(group)+2 {
					t.Error(round, "writes of a Commit", l.Disk().Count()-from, len(group))
				}
				wantCuts(t, l, size, from, ahead)
			}
			for n, c := range model {
				wantPage(t, l, n, filled(c))
			}
			if l.Groups() != groups || l.Used()+l.Free() != size {
				t.Error(round, l.Groups(), groups, l.Used(), l.Free())
			}
		}
	}
}

// TestCutOfAGroupOverAnOldOne cuts a Commit whose blocks hold an earlier group still: it must not come to life again.
func TestCutOfAGroupOverAnOldOne(t *testing.T) {
	const size = 6
	l := newLog(t, 12, size)
	commit(t, l, page(0, 1), page(1, 2))
	commit(t, l, page(2, 3))
	checkpoint(t, l)
	commit(t, l, page(0, 4))
	ahead, from := stateOf(t, l), l.Disk().Count()
	commit(t, l, page(0, 5), page(1, 6), page(4, 7))
	wantCuts(t, l, size, from, ahead)
}

func TestOpenOfDiskTellsTheSame(t *testing.T) {
	r := rand.New(rand.NewSource(4))
	const size, pages = 9, 6
	l := newLog(t, size+1+pages, size)
	for range 60 {
		if l.Commit(randomGroup(r, pages)...) == api.ErrFull {
			checkpoint(t, l)
		}
		again := open(t, l.Disk(), size)
		if !same(stateOf(t, l), stateOf(t, again)) || again.Disk().Count() != 0 {
			t.Fatal("it tells something else")
		}
		if r.Intn(4) == 0 {
			l = again
		}
	}
}
