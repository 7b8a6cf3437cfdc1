package tree_test

import (
	"fmt"
	"maps"
	"slices"
	"strings"
	"testing"

	"holdfast/api"
	"holdfast/block"
	"holdfast/pager"
	"holdfast/tree"
)

func TestTreeRunsFull(t *testing.T) {
	for _, pages := range []int{2, 3, 5, 12, 13, 30} {
		for _, k := range kinds {
			for _, in := range orders {
				t.Run(fmt.Sprint(pages, " ", k.name, " ", in), func(t *testing.T) { runFull(t, pages, k, in) })
			}
		}
	}
}

// runFull puts pairs till there is no room, asks that nothing is done then, and deletes all of them.
func runFull(t *testing.T, pages int, k kind, in string) {
	x := newTree(t, pages)
	m := model{}
	refused := 0
	all := k.model(pages * 90)
	for _, key := range ordered(all.keys(), in) {
		r := check(t, x)
		e := x.Put([]byte(key), []byte(all[key]))
		switch {
		case e == api.OK:
			m[key] = all[key]
		case e == api.ErrFull && len(r.Free)+len(r.Fresh) <= 10:
			refused++
			if dirty := x.Pager().Dirty(); len(dirty) > 0 {
				t.Fatal("pages were written", dirty)
			}
		default:
			t.Fatal(key, e, r)
		}
		if refused == 10 {
			break
		}
		wantAll(t, x, m)
		commit(t, x)
	}
	if refused == 0 || len(m) == 0 {
		t.Fatal("never full", len(m))
	}
	runEmpty(t, x, m)
	put(t, x, "a", "b")
	wantAll(t, x, model{"a": "b"})
}

// runEmpty deletes all pairs of a tree. A Delete may need a page, too: one that is refused is done later, if others are done.
func runEmpty(t *testing.T, x *tree.Tree, m model) {
	t.Helper()
	for len(m) > 0 {
		done := 0
		for _, key := range m.keys() {
			r := check(t, x)
			e := x.Delete([]byte(key))
			if e == api.OK {
				delete(m, key)
				done++
			} else if e != api.ErrFull || len(r.Free)+len(r.Fresh) > 10 {
				t.Fatal(key, e, r)
			}
			wantAll(t, x, m)
			commit(t, x)
		}
		if done == 0 {
			t.Fatal("none can be deleted", len(m))
		}
	}
}

func TestFullTreeTakesWhatNeedsNoPage(t *testing.T) {
	x := newTree(t, 2)
	m := model{}
	for _, key := range []string{"a", "b", "c"} {
		m[key] = strings.Repeat("v", api.MaxValue)
		put(t, x, key, m[key])
	}
	commit(t, x)
	wantUntouched(t, x, func() {
		if e := x.Put([]byte("d"), make([]byte, 72)); e != api.ErrFull {
			t.Error(e)
		}
	})
	m["b"] = strings.Repeat("w", api.MaxValue)
	put(t, x, "b", m["b"])
	wantAll(t, x, m)
	m["d"] = "1"
	put(t, x, "d", "1")
	wantAll(t, x, m)
	remove(t, x, "a")
	delete(m, "a")
	wantAll(t, x, m)
}

// broad is a tree of more leaves than a group has pages, committed; its pairs are the greatest ones.
func broad(t *testing.T) (*tree.Tree, model) {
	t.Helper()
	x := newTree(t, 500)
	m := kinds[2].model(250)
	for _, key := range m.keys() {
		put(t, x, key, m[key])
		commit(t, x)
	}
	if r := check(t, x); len(r.Pages) <= 2*api.MaxGroup {
		t.Fatal("a tree too small", len(r.Pages))
	}
	return x, m
}

func TestGroupHasLimit(t *testing.T) {
	x, m := broad(t)
	var refused string
	for _, key := range m.keys() {
		had := dirt(t, x)
		value := strings.Repeat("w", api.MaxValue)
		e := x.Put([]byte(key), []byte(value))
		if e == api.ErrFull {
			refused = key
			if !maps.Equal(had, dirt(t, x)) {
				t.Error("pages were written")
			}
			break
		}
		if e != api.OK {
			t.Fatal(e)
		}
		m[key] = value
	}
	if refused == "" || len(x.Pager().Dirty()) != api.MaxGroup {
		t.Fatalf("%q %d", refused, len(x.Pager().Dirty()))
	}
	wantAll(t, x, m)
	wantUntouched(t, x, func() {
		if e := x.Delete([]byte(refused)); e != api.ErrFull {
			t.Error(e)
		}
		if e := x.Delete([]byte(refused + "x")); e != api.ErrLong {
			t.Error("too long comes ahead of full", e)
		}
		if e := x.Delete([]byte("none")); e != api.ErrNone {
			t.Error("none comes ahead of full", e)
		}
	})
	first := m.keys()[0]
	m[first] = strings.Repeat("x", api.MaxValue)
	put(t, x, first, m[first])
	if len(x.Pager().Dirty()) != api.MaxGroup {
		t.Error("a page that was written is one", len(x.Pager().Dirty()))
	}
	wantAll(t, x, m)
	commit(t, x)
	remove(t, x, refused)
	delete(m, refused)
	wantAll(t, x, m)
}

func TestGroupFillsUpWithNewPages(t *testing.T) {
	x := newTree(t, 500)
	all, m := kinds[2].model(400), model{}
	refused := false
	for _, key := range all.keys() {
		had := dirt(t, x)
		e := x.Put([]byte(key), []byte(all[key]))
		if refused = e == api.ErrFull; refused {
			if !maps.Equal(had, dirt(t, x)) {
				t.Error("pages were written")
			}
			break
		}
		if e != api.OK {
			t.Fatal(e)
		}
		m[key] = all[key]
	}
	if dirty := x.Pager().Dirty(); !refused || len(dirty) > api.MaxGroup || len(dirty) < api.MaxGroup-10 {
		t.Fatal(refused, len(dirty))
	}
	wantAll(t, x, m)
	commit(t, x)
	for _, key := range all.keys()[len(m):][:20] {
		m[key] = all[key]
		put(t, x, key, m[key])
	}
	wantAll(t, x, m)
}

// Of pages of the tree those that are let go need not be written, though they were changed first: each page here loses its last key first.
func TestPagesThatWereLetGoAreNoneOfTheGroup(t *testing.T) {
	for _, in := range []string{"rising", "falling"} {
		x := newTree(t, 500)
		m := evenPairs(1500)
		for _, key := range m.keys() {
			put(t, x, key, m[key])
			commit(t, x)
		}
		if r := check(t, x); len(r.Pages) < 3*api.MaxGroup {
			t.Fatal("a tree too small", len(r.Pages))
		}
		before, from := maps.Clone(m), x.Pager().Log().Disk().Count()
		for _, key := range ordered(m.keys(), in)[:1490] {
			remove(t, x, key)
			delete(m, key)
		}
		wantAll(t, x, m)
		if dirty := x.Pager().Dirty(); len(dirty) > api.MaxGroup {
			t.Error(len(dirty))
		}
		for _, key := range evenPairs(200).keys() { // where pages were let go, others are written now
			m[key] = "again"
			put(t, x, key, m[key])
		}
		wantAll(t, x, m)
		commit(t, x)
		wantCuts(t, x.Pager().Log().Disk(), logSize, from, before, m)
	}
}

// evenPairs are pairs of 50 bytes: five fill a page.
func evenPairs(n int) model {
	m := model{}
	for i := range n {
		m[fmt.Sprintf("%04d", i)] = strings.Repeat("v", 44)
	}
	return m
}

// A page that is too full gives some of it to a neighbour ahead of being two.
func TestPagesBecomeFullAheadOfMore(t *testing.T) {
	for _, in := range orders {
		x := newTree(t, 500)
		m := evenPairs(500)
		for _, key := range ordered(m.keys(), in) {
			put(t, x, key, m[key])
			commit(t, x)
		}
		most := map[string]int{"rising": 105, "falling": 105, "mixed": 135}[in] // 100 leaves would be full
		if r := wantAll(t, x, m); len(r.Pages) > most+10 {
			t.Error(in, len(r.Pages))
		}
	}
}

func TestOnlyPagesThatBecomeOthersAreWritten(t *testing.T) {
	x, m := broad(t)
	key := m.keys()[100]
	put(t, x, key, m[key])
	if d := x.Pager().Dirty(); len(d) != 0 {
		t.Error("the same value again", d)
	}
	put(t, x, key, strings.Repeat("w", api.MaxValue))
	if d := x.Pager().Dirty(); len(d) != 1 {
		t.Error("another value of its length", d)
	}
}

func TestAbort(t *testing.T) {
	x := newTree(t, 60)
	put(t, x, "a", "1")
	if e := x.Abort(); e != api.OK {
		t.Error(e)
	}
	if r := wantAll(t, x, model{}); len(r.Fresh) < 58 {
		t.Error("pages that were never kept are fresh", r)
	}
	m := kinds[3].model(40)
	for key, value := range m {
		put(t, x, key, value)
	}
	commit(t, x)
	before := wantAll(t, x, m)
	for key := range m {
		remove(t, x, key)
	}
	wantAll(t, x, model{})
	if e := x.Abort(); e != api.OK {
		t.Error(e)
	}
	if r := wantAll(t, x, m); !slices.Equal(r.Pages, before.Pages) || !slices.Equal(r.Free, before.Free) {
		t.Error(before, r)
	}
	if e := x.Abort(); e != api.OK || len(x.Pager().Dirty()) > 0 {
		t.Error(e)
	}
	wantAll(t, openTree(t, x.Pager().Log()), m)
}

func TestCommitTellsThePagersError(t *testing.T) {
	x := openTree(t, newLog(t, 3, 40)) // a log with room for groups of two pages
	put(t, x, "a", "1")
	commit(t, x)
	m := kinds[2].model(10)
	for key, value := range m {
		put(t, x, key, value)
	}
	m["a"] = "1"
	before := x.Pager().Dirty()
	if e := x.Commit(); e != api.ErrFull {
		t.Error(e)
	}
	if !slices.Equal(before, x.Pager().Dirty()) {
		t.Error(before, x.Pager().Dirty())
	}
	wantAll(t, x, m)
	if e := x.Abort(); e != api.OK {
		t.Error(e)
	}
	wantAll(t, x, model{"a": "1"})
	if e := x.Commit(); e != api.OK {
		t.Error("a Commit of nothing", e)
	}
}

func TestWhatIsSeenDoesNotHangOnTheCache(t *testing.T) {
	m := kinds[3].model(80)
	for _, most := range []int{1, 2, api.MaxCache} {
		p, e := pager.New(newLog(t, logSize, 200), most)
		if e != api.OK {
			t.Fatal(e)
		}
		x, _ := tree.Open(p)
		for _, key := range m.keys() {
			put(t, x, key, m[key])
		}
		wantAll(t, x, m)
		if len(p.Cached()) > most {
			t.Error(p.Cached())
		}
	}
}

func TestSameDeedsUseTheCacheAlike(t *testing.T) {
	m := kinds[3].model(80)
	var hits, misses int
	var cached []int
	for round := range 5 {
		x := newTree(t, 200)
		for _, key := range m.keys() {
			put(t, x, key, m[key])
			commit(t, x)
		}
		p := x.Pager()
		if round > 0 && (p.Hits() != hits || p.Misses() != misses || !slices.Equal(p.Cached(), cached)) {
			t.Fatal(p.Hits(), hits, p.Misses(), misses, p.Cached(), cached)
		}
		hits, misses, cached = p.Hits(), p.Misses(), p.Cached()
	}
}

// wantCuts asks that the tree behind each cut from one write on is that of the last Commit, or, with all writes, that behind it.
func wantCuts(t *testing.T, d *block.Disk, size, from int, before, after model) {
	t.Helper()
	for k := from; k <= d.Count(); k++ {
		c, e := d.Cut(k)
		if e != api.OK {
			t.Fatal(e)
		}
		x := openTree(t, openLog(t, c, size))
		got := contents(t, x)
		if k == d.Count() && !maps.Equal(got, after) || k == from && !maps.Equal(got, before) || !maps.Equal(got, before) && !maps.Equal(got, after) {
			t.Fatalf("cut behind %d of %d writes", k-from, d.Count()-from)
		}
		wantAll(t, x, got)
	}
}

func TestCutsWithinACommit(t *testing.T) {
	for _, size := range []int{30, logSize} { // a short log has its Checkpoints within Commits
		for _, k := range kinds {
			x := openTree(t, newLog(t, size, 200))
			m := model{}
			all := k.model(60)
			for i, keys := range slices.Collect(slices.Chunk(ordered(all.keys(), "mixed"), 6)) {
				before, from := maps.Clone(m), x.Pager().Log().Disk().Count()
				for _, key := range keys {
					m[key] = all[key]
					put(t, x, key, m[key])
				}
				for _, key := range ordered(m.keys(), "mixed")[:i] {
					remove(t, x, key)
					delete(m, key)
				}
				commit(t, x)
				wantCuts(t, x.Pager().Log().Disk(), size, from, before, m)
			}
		}
	}
}

func TestDeedsWriteNothingTillCommit(t *testing.T) {
	x := newTree(t, 100)
	m := kinds[0].model(50)
	for key, value := range m {
		put(t, x, key, value)
	}
	d := x.Pager().Log().Disk()
	if d.Count() != 0 {
		t.Error(d.Writes())
	}
	wantAll(t, openTree(t, openLog(t, d, logSize)), model{})
	dirty := len(x.Pager().Dirty())
	commit(t, x)
	d = x.Pager().Log().Disk()
	if d.Count() != dirty+2 {
		t.Error("a group of n pages writes n and 2 blocks", dirty, d.Writes())
	}
	wantAll(t, openTree(t, openLog(t, d, logSize)), m)
}

func TestGreatestDisk(t *testing.T) {
	const size = 30
	x := openTree(t, newLog(t, size, api.MaxBlocks-1-size))
	m := model{}
	all := kinds[2].model(2000)
	for _, key := range ordered(all.keys(), "mixed") {
		e := x.Put([]byte(key), []byte(all[key]))
		if e == api.ErrFull {
			break
		}
		if e != api.OK {
			t.Fatal(e)
		}
		m[key] = all[key]
		commit(t, x)
	}
	if r := wantAll(t, x, m); len(r.Free)+len(r.Fresh) > 10 || len(m) == len(all) {
		t.Error(len(m), r.Free, r.Fresh)
	}
	for i, key := range ordered(m.keys(), "mixed") {
		remove(t, x, key)
		delete(m, key)
		commit(t, x)
		if i%100 == 0 {
			wantAll(t, x, m)
		}
	}
	wantAll(t, x, m)
}
