package pager_test

import (
	"bytes"
	"math"
	"math/rand"
	"slices"
	"testing"

	"holdfast/api"
	"holdfast/block"
	"holdfast/pager"
	"holdfast/wal"
)

// filled is a page that has one byte everywhere.
func filled(c byte) []byte {
	return bytes.Repeat([]byte{c}, api.PageBytes)
}

// newLog is a log of so many blocks over so many pages, of which page n has the byte 100 + n everywhere.
func newLog(t *testing.T, size, pages int) *wal.Log {
	t.Helper()
	d, e := block.New(size + 1 + pages)
	if e != api.OK {
		t.Fatal(e)
	}
	for n := range pages {
		if e := d.Write(size+1+n, filled(byte(100+n))...); e != api.OK {
			t.Fatal(e)
		}
	}
	l, e := wal.Open(d, size)
	if e != api.OK {
		t.Fatal(e)
	}
	return l
}

func newPager(t *testing.T, l *wal.Log, most int) *pager.Pager {
	t.Helper()
	p, e := pager.New(l, most)
	if e != api.OK || p == nil {
		t.Fatal(p, e)
	}
	return p
}

func read(t *testing.T, p *pager.Pager, pages ...int) {
	t.Helper()
	for _, n := range pages {
		if b, e := p.Read(n); e != api.OK || len(b) != api.PageBytes {
			t.Fatal(n, e, len(b))
		}
	}
}

func write(t *testing.T, p *pager.Pager, n int, c byte) {
	t.Helper()
	if e := p.Write(n, filled(c)...); e != api.OK {
		t.Fatal(n, e)
	}
}

func commit(t *testing.T, p *pager.Pager) {
	t.Helper()
	if e := p.Commit(); e != api.OK {
		t.Fatal(e)
	}
}

func pin(t *testing.T, p *pager.Pager, pages ...int) {
	t.Helper()
	if e := p.Pin(pages...); e != api.OK {
		t.Fatal(pages, e)
	}
}

func unpin(t *testing.T, p *pager.Pager, pages ...int) {
	t.Helper()
	if e := p.Unpin(pages...); e != api.OK {
		t.Fatal(pages, e)
	}
}

func wantPage(t *testing.T, p *pager.Pager, n int, c byte) {
	t.Helper()
	if b, e := p.Read(n); e != api.OK || !bytes.Equal(b, filled(c)) {
		t.Errorf("page %d: %v %v; want %d", n, b, e, c)
	}
}

func wantCached(t *testing.T, p *pager.Pager, pages ...int) {
	t.Helper()
	if c := p.Cached(); !slices.Equal(c, pages) {
		t.Errorf("cached: %v; want %v", c, pages)
	}
}

func wantDirty(t *testing.T, p *pager.Pager, pages ...int) {
	t.Helper()
	if d := p.Dirty(); !slices.Equal(d, pages) {
		t.Errorf("dirty: %v; want %v", d, pages)
	}
}

func wantCounts(t *testing.T, p *pager.Pager, hits, misses int) {
	t.Helper()
	if p.Hits() != hits || p.Misses() != misses {
		t.Errorf("hits %d, misses %d; want %d, %d", p.Hits(), p.Misses(), hits, misses)
	}
}

// wantUntouched asks that a cache tells the same behind work as ahead of it, and that its log has the same writes.
func wantUntouched(t *testing.T, p *pager.Pager, work func()) {
	t.Helper()
	// Copies, should the cache hand out what it keeps.
	cached, dirty := slices.Clone(p.Cached()), slices.Clone(p.Dirty())
	hits, misses := p.Hits(), p.Misses()
	written := p.Log().Disk().Writes()
	work()
	wantCached(t, p, cached...)
	wantDirty(t, p, dirty...)
	wantCounts(t, p, hits, misses)
	if w := p.Log().Disk().Writes(); !slices.Equal(w, written) {
		t.Error(w, written)
	}
}

// contents are the first bytes of all pages of a log.
func contents(t *testing.T, l *wal.Log) []byte {
	t.Helper()
	var all []byte
	for n := range l.Pages() {
		b, e := l.Read(n)
		if e != api.OK {
			t.Fatal(n, e)
		}
		all = append(all, b[0])
	}
	return all
}

func TestExample(t *testing.T) {
	p := newPager(t, newLog(t, 4, 7), 1)
	read(t, p, 0, 0, 1)
	wantCounts(t, p, 1, 2)
	wantCached(t, p, 1)
}

func TestNewRefuses(t *testing.T) {
	for _, most := range []int{math.MinInt, 0, 1, api.MaxCache + 1} {
		if p, e := pager.New(nil, most); p != nil || e != api.ErrNil {
			t.Error(most, p, e)
		}
	}
	l := newLog(t, 4, 7)
	for _, most := range []int{math.MinInt, -1, 0, api.MaxCache + 1, math.MaxInt} {
		if p, e := pager.New(l, most); p != nil || e != api.ErrRange {
			t.Error(most, p, e)
		}
	}
	for _, most := range []int{1, 2, api.MaxCache} {
		p := newPager(t, l, most)
		wantCached(t, p)
		wantDirty(t, p)
		wantCounts(t, p, 0, 0)
		if p.Log() != l {
			t.Error("another log")
		}
	}
	if l.Disk().Count() != 0 {
		t.Error(l.Disk().Count())
	}
}

func TestReadRefuses(t *testing.T) {
	p := newPager(t, newLog(t, 4, 7), 2)
	read(t, p, 1)
	write(t, p, 2, 1)
	wantUntouched(t, p, func() {
		for _, n := range []int{math.MinInt, -1, 7, 8, 12, math.MaxInt} {
			if b, e := p.Read(n); b != nil || e != api.ErrRange {
				t.Error(n, b, e)
			}
		}
	})
}

func TestReadsComeAndGo(t *testing.T) {
	p := newPager(t, newLog(t, 4, 7), 3)
	read(t, p, 0, 1, 2)
	wantCached(t, p, 0, 1, 2)
	read(t, p, 0)
	wantCached(t, p, 1, 2, 0)
	read(t, p, 0, 2)
	wantCached(t, p, 1, 0, 2)
	read(t, p, 6)
	wantCached(t, p, 0, 2, 6)
	read(t, p, 1)
	wantCached(t, p, 2, 6, 1)
	wantCounts(t, p, 3, 5)
	for n := range 7 {
		wantPage(t, p, n, byte(100+n))
	}
}

func TestGreatestCache(t *testing.T) {
	p := newPager(t, newLog(t, 4, api.MaxCache+2), api.MaxCache)
	for n := range api.MaxCache + 1 {
		read(t, p, n)
	}
	if c := p.Cached(); len(c) != api.MaxCache || c[0] != 1 || c[api.MaxCache-1] != api.MaxCache {
		t.Error(c)
	}
}

func TestReadOfADirtyPage(t *testing.T) {
	p := newPager(t, newLog(t, 9, 7), 2)
	read(t, p, 0, 1)
	write(t, p, 3, 9)
	wantUntouched(t, p, func() { wantPage(t, p, 3, 9) })
	write(t, p, 3, 8)
	wantUntouched(t, p, func() { wantPage(t, p, 3, 8) })
}

func TestWriteRefusesInOrder(t *testing.T) {
	p := newPager(t, newLog(t, 4, api.MaxGroup+5), 2)
	read(t, p, 0, 1)
	for n := range api.MaxGroup {
		write(t, p, 2+n, byte(n))
	}
	for _, c := range []struct {
		n, bytes int
		want     api.Errno
	}{
		{-1, api.PageBytes, api.ErrRange}, {api.MaxGroup + 5, api.PageBytes, api.ErrRange}, {math.MinInt, 0, api.ErrRange}, {math.MaxInt, 3, api.ErrRange},
		{0, 0, api.ErrForm}, {0, api.PageBytes - 1, api.ErrForm}, {0, api.PageBytes + 1, api.ErrForm}, {2, 1, api.ErrForm},
		{0, api.PageBytes, api.ErrLong}, {api.MaxGroup + 2, api.PageBytes, api.ErrLong},
	} {
		wantUntouched(t, p, func() {
			if e := p.Write(c.n, make([]byte, c.bytes)...); e != c.want {
				t.Error(c, e)
			}
		})
	}
	wantUntouched(t, p, func() {
		if e := p.Write(1); e != api.ErrForm {
			t.Error(e)
		}
	})
	wantPage(t, p, 2, 0)
	// One that is dirty already takes other bytes.
	write(t, p, 2, 77)
	wantPage(t, p, 2, 77)
	wantPage(t, p, 0, 100)
	if p.Abort() != api.MaxGroup {
		t.Error("not all were dirty")
	}
	write(t, p, 0, 1)
	wantDirty(t, p, 0)
}

func TestWriteTakesThePageOut(t *testing.T) {
	p := newPager(t, newLog(t, 9, 7), 3)
	read(t, p, 0, 1, 2)
	write(t, p, 1, 5)
	wantCached(t, p, 0, 2)
	wantDirty(t, p, 1)
	// There is room for another one.
	read(t, p, 4)
	wantCached(t, p, 0, 2, 4)
	write(t, p, 6, 5)
	write(t, p, 3, 5)
	wantDirty(t, p, 1, 3, 6)
	wantCached(t, p, 0, 2, 4)
	wantCounts(t, p, 0, 4)
}

func TestWriteTakesThePinAway(t *testing.T) {
	p := newPager(t, newLog(t, 9, 7), 2)
	pin(t, p, 1, 2)
	write(t, p, 1, 5)
	wantCached(t, p, 2)
	if e := p.Unpin(1); e != api.ErrNone {
		t.Error(e)
	}
	pin(t, p, 3)
	unpin(t, p, 2, 3)
	commit(t, p)
	// It is not pinned behind the Commit either.
	read(t, p, 1)
	if e := p.Unpin(1); e != api.ErrNone {
		t.Error(e)
	}
	// A page that is refused keeps its pin.
	pin(t, p, 4)
	if e := p.Write(4, 1, 2, 3); e != api.ErrForm {
		t.Error(e)
	}
	unpin(t, p, 4)
}

func TestWhatIsHandedInStays(t *testing.T) {
	p := newPager(t, newLog(t, 9, 7), 2)
	b := append(filled(3), 77)
	if e := p.Write(0, b[:api.PageBytes]...); e != api.OK {
		t.Fatal(e)
	}
	if !bytes.Equal(b, append(filled(3), 77)) {
		t.Error(b)
	}
	clear(b)
	wantPage(t, p, 0, 3)
	commit(t, p)
	wantPage(t, p, 0, 3)
	pin(t, p, 6)
	list := []int{4, 1, 3, 77, 77}
	if e := p.Pin(list[:3]...); e != api.ErrFull {
		t.Error(e)
	}
	pin(t, p, list[:1]...)
	unpin(t, p, list[:1]...)
	if e := p.Unpin(list[:2]...); e != api.ErrNone {
		t.Error(e)
	}
	if !slices.Equal(list, []int{4, 1, 3, 77, 77}) {
		t.Error(list)
	}
}

func TestAnswersAreTheCallers(t *testing.T) {
	p := newPager(t, newLog(t, 9, 7), 3)
	read(t, p, 1, 2)
	write(t, p, 3, 9)
	write(t, p, 4, 9)
	spoil := func(n int) {
		b, _ := p.Read(n)
		clear(b[:cap(b)])
	}
	for n := range 7 {
		spoil(n)
		spoil(n)
	}
	for n, c := range []byte{100, 101, 102, 9, 9, 105, 106} {
		wantPage(t, p, n, c)
	}
	wantUntouched(t, p, func() {
		cached, dirty := p.Cached(), p.Dirty()
		clear(cached[:cap(cached)])
		clear(dirty[:cap(dirty)])
	})
	commit(t, p)
	spoil(3)
	wantPage(t, p, 3, 9)
}

func TestCommitIsOneGroup(t *testing.T) {
	l := newLog(t, 9, 7)
	p := newPager(t, l, 7)
	read(t, p, 0, 5)
	write(t, p, 6, 1)
	write(t, p, 0, 2)
	write(t, p, 3, 3)
	commit(t, p)
	if w := l.Disk().Writes(); !slices.Equal(w, []int{1, 2, 3, 4, 0}) {
		t.Error(w)
	}
	if l.Groups() != 1 || !slices.Equal(l.Touched(), []int{0, 3, 6}) {
		t.Error(l.Groups(), l.Touched())
	}
	wantDirty(t, p)
	wantCached(t, p, 5)
	for n, c := range []byte{2, 101, 102, 3, 104, 105, 1} {
		wantPage(t, p, n, c)
	}
	wantCounts(t, p, 1, 8)
}

func TestCommitOfNothing(t *testing.T) {
	p := newPager(t, newLog(t, 2, 7), 3)
	read(t, p, 1)
	wantUntouched(t, p, func() { commit(t, p) })
	write(t, p, 1, 1)
	commit(t, p)
	// The log is full: that is nothing to a Commit of none.
	wantUntouched(t, p, func() { commit(t, p) })
}

func TestCommitTakesACheckpoint(t *testing.T) {
	l := newLog(t, 4, 7)
	p := newPager(t, l, 3)
	write(t, p, 1, 1)
	write(t, p, 2, 2)
	commit(t, p)
	write(t, p, 2, 3)
	write(t, p, 5, 4)
	from := l.Disk().Count()
	commit(t, p)
	if w := l.Disk().Writes()[from:]; !slices.Equal(w, []int{6, 7, 0, 1, 2, 3, 0}) {
		t.Error(w)
	}
	if l.Used() != 3 || l.Groups() != 2 || !slices.Equal(l.Touched(), []int{2, 5}) {
		t.Error(l.Used(), l.Groups(), l.Touched())
	}
	wantDirty(t, p)
	if c := contents(t, l); !slices.Equal(c, []byte{100, 1, 3, 103, 104, 4, 106}) {
		t.Error(c)
	}
}

func TestCommitOfTooMany(t *testing.T) {
	l := newLog(t, 4, 7)
	p := newPager(t, l, 3)
	write(t, p, 0, 1)
	commit(t, p)
	read(t, p, 6, 5)
	for n := range 4 {
		write(t, p, n, 9)
	}
	from := l.Disk().Count()
	if e := p.Commit(); e != api.ErrFull {
		t.Error(e)
	}
	// The Checkpoint was taken; all else stays.
	if w := l.Disk().Writes()[from:]; !slices.Equal(w, []int{5, 0}) {
		t.Error(w)
	}
	wantDirty(t, p, 0, 1, 2, 3)
	wantCached(t, p, 6, 5)
	for n := range 4 {
		wantPage(t, p, n, 9)
	}
	if c := contents(t, l); !slices.Equal(c, []byte{1, 101, 102, 103, 104, 105, 106}) {
		t.Error(c)
	}
	if p.Abort() != 4 {
		t.Error("not all were dirty")
	}
	for n, c := range []byte{1, 101, 102, 103} {
		wantPage(t, p, n, c)
	}
}

func TestCommitOfTheMost(t *testing.T) {
	l := newLog(t, api.MaxGroup+1, api.MaxGroup+2)
	p := newPager(t, l, 3)
	for range 2 {
		for n := range api.MaxGroup {
			write(t, p, n+1, byte(n))
		}
		from := l.Disk().Count()
		commit(t, p)
		if count := l.Disk().Count() - from; count != api.MaxGroup+2 && count != 2*api.MaxGroup+3 {
			t.Error(count)
		}
	}
	for n := range api.MaxGroup {
		wantPage(t, p, n+1, byte(n))
	}
}

func TestAbort(t *testing.T) {
	p := newPager(t, newLog(t, 9, 7), 3)
	if p.Abort() != 0 {
		t.Error("an empty cache has dirty pages")
	}
	read(t, p, 0, 1)
	write(t, p, 1, 1)
	write(t, p, 1, 2)
	write(t, p, 4, 3)
	if n := p.Abort(); n != 2 {
		t.Error(n)
	}
	wantDirty(t, p)
	wantCached(t, p, 0)
	wantPage(t, p, 1, 101)
	wantPage(t, p, 4, 104)
	wantCounts(t, p, 0, 4)
	wantUntouched(t, p, func() {
		if p.Abort() != 0 {
			t.Error("dirty pages behind Abort")
		}
		commit(t, p)
	})
}

func TestPinsStay(t *testing.T) {
	p := newPager(t, newLog(t, 9, 7), 3)
	pin(t, p, 4, 2)
	wantCached(t, p, 4, 2)
	wantCounts(t, p, 0, 2)
	read(t, p, 0, 1, 3)
	wantCached(t, p, 4, 2, 3)
	pin(t, p, 6)
	wantCached(t, p, 4, 2, 6)
	wantCounts(t, p, 0, 6)
	// All others are pinned: a page that is read goes itself.
	wantPage(t, p, 0, 100)
	wantPage(t, p, 0, 100)
	wantCached(t, p, 4, 2, 6)
	wantCounts(t, p, 0, 8)
	read(t, p, 2)
	wantCached(t, p, 4, 6, 2)
	unpin(t, p, 6)
	wantCached(t, p, 4, 6, 2)
	read(t, p, 5)
	wantCached(t, p, 4, 2, 5)
	unpin(t, p, 2, 4)
	read(t, p, 0)
	wantCached(t, p, 2, 5, 0)
}

func TestPinReadsInOrder(t *testing.T) {
	p := newPager(t, newLog(t, 9, 7), 3)
	read(t, p, 0, 1, 2)
	// 5 puts out 0, which is read anew, and then 1 goes.
	pin(t, p, 5, 0)
	wantCached(t, p, 2, 5, 0)
	wantCounts(t, p, 0, 5)
	// A page that stands twice is read twice, and pinned once.
	pin(t, p, 2, 2)
	wantCached(t, p, 5, 0, 2)
	wantCounts(t, p, 2, 5)
	// Those that are pinned already don't count again.
	pin(t, p, 0, 5, 0, 2, 5)
	wantCached(t, p, 0, 2, 5)
	wantCounts(t, p, 7, 5)
	unpin(t, p, 5)
	if e := p.Unpin(5); e != api.ErrNone {
		t.Error(e)
	}
	wantUntouched(t, p, func() { pin(t, p) })
}

func TestPinRefusesInOrder(t *testing.T) {
	p := newPager(t, newLog(t, 9, 7), 3)
	read(t, p, 5)
	pin(t, p, 0, 1)
	write(t, p, 2, 1)
	for name, c := range map[string]struct {
		pages []int
		want  api.Errno
	}{
		"below 0":             {[]int{-1}, api.ErrRange},
		"no such page":        {[]int{7}, api.ErrRange},
		"greatest":            {[]int{3, math.MaxInt}, api.ErrRange},
		"dirty, no such page": {[]int{2, 7}, api.ErrRange},
		"full, no such page":  {[]int{3, 4, 5, math.MinInt}, api.ErrRange},
		"dirty":               {[]int{2}, api.ErrForm},
		"full, and dirty":     {[]int{3, 4, 5, 6, 2}, api.ErrForm},
		"two more":            {[]int{3, 4}, api.ErrFull},
		"two more, and old":   {[]int{0, 3, 1, 4}, api.ErrFull},
		"two more, in cache":  {[]int{5, 3}, api.ErrFull},
	} {
		wantUntouched(t, p, func() {
			if e := p.Pin(c.pages...); e != c.want {
				t.Error(name, e, c.want)
			}
		})
	}
	pin(t, p, 5, 5, 0)
	if e := p.Pin(3); e != api.ErrFull {
		t.Error(e)
	}
	unpin(t, p, 0, 1, 5)
}

func TestPinOfTheMost(t *testing.T) {
	p := newPager(t, newLog(t, 4, api.MaxCache+1), api.MaxCache)
	var all []int
	for n := range api.MaxCache + 1 {
		all = append(all, n)
	}
	wantUntouched(t, p, func() {
		if e := p.Pin(all...); e != api.ErrFull {
			t.Error(e)
		}
	})
	pin(t, p, all[1:]...)
	wantCached(t, p, all[1:]...)
	read(t, p, 0)
	wantCached(t, p, all[1:]...)
	if e := p.Pin(0); e != api.ErrFull {
		t.Error(e)
	}
}

func TestUnpinRefuses(t *testing.T) {
	p := newPager(t, newLog(t, 9, 7), 3)
	pin(t, p, 0, 1)
	read(t, p, 2)
	write(t, p, 3, 1)
	for _, pages := range [][]int{{2}, {3}, {4}, {-1}, {7}, {math.MinInt}, {math.MaxInt}, {0, 2}, {2, 0}, {0, 0}, {1, 0, 1}, {0, 1, 7}} {
		wantUntouched(t, p, func() {
			if e := p.Unpin(pages...); e != api.ErrNone {
				t.Error(pages, e)
			}
		})
	}
	wantUntouched(t, p, func() { unpin(t, p) })
	// Both are pinned still, and go by one Unpin.
	wantUntouched(t, p, func() { unpin(t, p, 1, 0) })
	for n := range 2 {
		if e := p.Unpin(n); e != api.ErrNone {
			t.Error(n, e)
		}
	}
}

func TestNilPager(t *testing.T) {
	var p *pager.Pager
	if b, e := p.Read(-1); b != nil || e != api.ErrNil {
		t.Error(b, e)
	}
	for name, e := range map[string]api.Errno{
		"Write": p.Write(0, filled(1)...), "Write of none": p.Write(-1), "Commit": p.Commit(),
		"Pin": p.Pin(0), "Pin of none": p.Pin(), "Pin of no page": p.Pin(-1), "Unpin": p.Unpin(0), "Unpin of none": p.Unpin(), "Unpin twice": p.Unpin(0, 0),
	} {
		if e != api.ErrNil {
			t.Error(name, e)
		}
	}
	if p.Abort() != 0 || len(p.Dirty()) != 0 || len(p.Cached()) != 0 || p.Hits() != 0 || p.Misses() != 0 || p.Log() != nil {
		t.Error("a nil cache tells something")
	}
}

// TestTheLogIsOthersToo: whoever has the log may commit to it, and the cache tells its pages as the log has them.
func TestTheLogIsOthersToo(t *testing.T) {
	l := newLog(t, 9, 7)
	p, other := newPager(t, l, 3), newPager(t, l, 1)
	pin(t, p, 2)
	read(t, p, 0, 1)
	write(t, other, 1, 7)
	write(t, other, 2, 8)
	commit(t, other)
	wantPage(t, p, 1, 7)
	wantPage(t, p, 2, 8)
	wantPage(t, p, 0, 100)
	wantCounts(t, p, 3, 3)
	wantCached(t, p, 1, 2, 0)
	// A Commit of its own between does not hide that of another one.
	if e := p.Log().Commit(api.Page{Number: 0, Bytes: filled(9)}); e != api.OK {
		t.Fatal(e)
	}
	write(t, p, 6, 1)
	commit(t, p)
	wantPage(t, p, 0, 9)
	// Nor does a Checkpoint.
	if e := l.Checkpoint(); e != api.OK {
		t.Fatal(e)
	}
	if e := l.Commit(api.Page{Number: 0, Bytes: filled(10)}); e != api.OK {
		t.Fatal(e)
	}
	wantPage(t, p, 0, 10)
	wantCounts(t, p, 5, 3)
}

// TestLogThatWasUsed: a cache over a log with groups tells pages as the log has them.
func TestLogThatWasUsed(t *testing.T) {
	l := newLog(t, 9, 7)
	if e := l.Commit(api.Page{Number: 3, Bytes: filled(9)}); e != api.OK {
		t.Fatal(e)
	}
	p := newPager(t, l, 2)
	wantPage(t, p, 3, 9)
	wantPage(t, p, 4, 104)
	wantPage(t, p, 3, 9)
	wantCounts(t, p, 1, 2)
}

// model is a cache told in the document's words: the clean pages from the one that was used longest ago on.
type model struct {
	most         int
	cached       []int
	pinned       map[int]int
	dirty        map[int]byte
	kept         []byte
	hits, misses int
}

func (m *model) read(n int) byte {
	if c, ok := m.dirty[n]; ok {
		return c
	}
	if i := slices.Index(m.cached, n); i >= 0 {
		m.hits++
		m.cached = slices.Delete(m.cached, i, i+1)
	} else {
		m.misses++
	}
	m.cached = append(m.cached, n)
	for i := 0; len(m.cached) > m.most; i++ {
		if m.pinned[m.cached[i]] == 0 {
			m.cached = slices.Delete(m.cached, i, i+1)
		}
	}
	return m.kept[n]
}

func (m *model) write(n int, c byte) {
	m.dirty[n] = c
	delete(m.pinned, n)
	m.cached = slices.DeleteFunc(m.cached, func(other int) bool { return other == n })
}

func (m *model) pin(n int) api.Errno {
	if _, ok := m.dirty[n]; ok {
		return api.ErrForm
	}
	if m.pinned[n] == 0 && len(m.pinned) == m.most {
		return api.ErrFull
	}
	m.read(n)
	m.pinned[n] = 1
	return api.OK
}

func (m *model) unpin(n int) api.Errno {
	if m.pinned[n] == 0 {
		return api.ErrNone
	}
	delete(m.pinned, n)
	return api.OK
}

func (m *model) commit() {
	for n, c := range m.dirty {
		m.kept[n] = c
	}
	clear(m.dirty)
}

func (m *model) hold(t *testing.T, p *pager.Pager) {
	t.Helper()
	wantCached(t, p, m.cached...)
	wantCounts(t, p, m.hits, m.misses)
	var dirty []int
	for n := range m.dirty {
		dirty = append(dirty, n)
	}
	slices.Sort(dirty)
	wantDirty(t, p, dirty...)
	if len(p.Cached()) > m.most {
		t.Error("too many pages in the cache", p.Cached())
	}
}

// step does one thing by chance to a cache and to its model.
func step(t *testing.T, r *rand.Rand, p *pager.Pager, m *model) {
	t.Helper()
	n, c := r.Intn(len(m.kept)), byte(r.Intn(256))
	switch r.Intn(9) {
	case 0, 1, 2, 3:
		wantPage(t, p, n, m.read(n))
	case 4:
		m.write(n, c)
		write(t, p, n, c)
	case 5:
		if want, e := m.pin(n), p.Pin(n); e != want {
			t.Error("pin", n, e, want)
		}
	case 6:
		if want, e := m.unpin(n), p.Unpin(n); e != want {
			t.Error("unpin", n, e, want)
		}
	case 7:
		m.commit()
		commit(t, p)
	case 8:
		if r.Intn(3) == 0 {
			if count := len(m.dirty); p.Abort() != count {
				t.Error("abort", count)
			}
			clear(m.dirty)
		}
	}
}

// TestAgainstAModel holds caches of many sizes against a model: so what they tell hangs neither on most nor on what was read.
func TestAgainstAModel(t *testing.T) {
	const pages = 9
	for seed := range int64(40) {
		r := rand.New(rand.NewSource(seed))
		l := newLog(t, pages+1+r.Intn(4), pages)
		m := &model{most: 1 + r.Intn(5), pinned: map[int]int{}, dirty: map[int]byte{}, kept: contents(t, l)}
		p := newPager(t, l, m.most)
		for range 300 {
			step(t, r, p, m)
			m.hold(t, p)
			if t.Failed() {
				t.Fatal(seed)
			}
		}
		if c := contents(t, l); !slices.Equal(c, m.kept) {
			t.Error(seed, c, m.kept)
		}
	}
}

// TestCutsAnywhere cuts behind every write of Commits, those that need a Checkpoint first among them.
func TestCutsAnywhere(t *testing.T) {
	const size, pages = 6, 7
	r := rand.New(rand.NewSource(5))
	l := newLog(t, size, pages)
	p := newPager(t, l, 2)
	checkpoints := 0
	for range 60 {
		ahead, from, used := contents(t, l), l.Disk().Count(), l.Used()
		for _, n := range r.Perm(pages)[:1+r.Intn(size-1)] {
			write(t, p, n, byte(r.Intn(256)))
		}
		if l.Disk().Count() != from {
			t.Fatal("Write has written")
		}
		group := len(p.Dirty())
		commit(t, p)
		behind, d := contents(t, l), l.Disk()
		if l.Used() < used+group+1 {
			checkpoints++
		} else if d.Count()-from != group+2 {
			t.Error("writes", d.Count()-from, group)
		}
		for k := from; k <= d.Count(); k++ {
			c, _ := d.Cut(k)
			m, e := wal.Open(c, size)
			if e != api.OK {
				t.Fatal(k, e)
			}
			want := ahead
			if k == d.Count() {
				want = behind
			}
			if left := contents(t, m); !slices.Equal(left, want) {
				t.Error("cut", k, "of", d.Count(), left, want)
			}
		}
	}
	if checkpoints < 10 || checkpoints > 55 {
		t.Error("too few Commits of one kind", checkpoints)
	}
}
