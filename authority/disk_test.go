package authority_test

import (
	"bytes"
	"fmt"
	"slices"
	"strings"
	"testing"

	"holdfast/api"
	"holdfast/authority"
	"holdfast/block"
	"holdfast/pager"
	"holdfast/table"
	"holdfast/tree"
	"holdfast/wal"
)

const logBlocks = 110

// layers opens what an authority's disk has by the layers below it.
func layers(t *testing.T, d *block.Disk) (*wal.Log, *tree.Tree) {
	t.Helper()
	l, e := wal.Open(d, logBlocks)
	if e != api.OK {
		t.Fatal(e)
	}
	p, e := pager.New(l, 8)
	if e != api.OK {
		t.Fatal(e)
	}
	x, e := tree.Open(p)
	if e != api.OK {
		t.Fatal(e)
	}
	return l, x
}

// tables opens them, as they lie there.
func tables(t *testing.T, d *block.Disk) *table.Store {
	t.Helper()
	_, x := layers(t, d)
	var schemas []api.Schema
	for name, columns := range map[string]int{"a1": 1, "a3": 3, "c1": 1, "c5": 5, "g1": 1, "g2": 2, "s2": 2, "s4": 4, "t3": 3, "t4": 4} {
		schemas = append(schemas, api.Schema{Name: name, Columns: columns})
	}
	s, e := table.Open(x, schemas...)
	if e != api.OK {
		t.Fatal(e)
	}
	return s
}

func TestOpenRefuses(t *testing.T) {
	if a, e := authority.Open(nil); a != nil || e != api.ErrNil {
		t.Error(a, e)
	}
	for _, blocks := range []int{1, 112, 299} {
		d, _ := block.New(blocks)
		d.Write(0, bytes.Repeat([]byte{1}, api.PageBytes)...)
		if a, e := authority.Open(d); a != nil || e != api.ErrRange {
			t.Error(blocks, a, e)
		}
	}
	for _, n := range []int{0, 111} { // the log's head, the tree's
		d, _ := block.New(300)
		d.Write(n, bytes.Repeat([]byte{1}, api.PageBytes)...)
		if a, e := authority.Open(d); a != nil || e != api.ErrBroken {
			t.Error(n, a, e)
		}
	}
	for _, blocks := range []int{300, 301, 1024} {
		a := newAuthority(t, blocks)
		ok(t, a, addUser(someone))
		if a.Disk().Blocks() != blocks {
			t.Error(a.Disk().Blocks())
		}
	}
}

func TestOpenRefusesOtherTrees(t *testing.T) {
	d, _ := block.New(300)
	l, x := layers(t, d)
	x.Put([]byte("k"), []byte("v"))
	x.Commit()
	if a, e := authority.Open(l.Disk()); a != nil || e != api.ErrBroken {
		t.Error("no table's pair", a, e)
	}
}

// Rows of tables that are no state: each deed makes one of the rows of a state.
func TestOpenRefusesRowsThatAreNoState(t *testing.T) {
	put := func(name, key string, columns ...string) func(s *table.Store) api.Errno {
		return func(s *table.Store) api.Errno { return s.Put(name, api.Row{Key: key, Columns: columns}) }
	}
	drop := func(name, key string) func(s *table.Store) api.Errno {
		return func(s *table.Store) api.Errno { return s.Delete(name, key) }
	}
	for i, deed := range []func(s *table.Store) api.Errno{
		put("c5", "t/u", "short", "s", "b1", "a", "a"),
		put("c1", "t/u/2", strings.Repeat("h", 32)),
		put("c1", "t/u", strings.Repeat("h", 32)),
		put("s4", "b9", "t", "u", "a", "a"),
		put("s2", "x", "b1", "a"),
		drop("s2", "#"),
		put("t3", "tb1", "b9", "a", "a"),
		drop("t4", "fb1"),
		drop("t3", "#"),
		put("g1", "t/u/e", "b1"),
		put("g1", "t/u/c", "b8"),
		drop("g2", "t/c"),
		put("a3", "nb1", "a", strings.Repeat("w", 13), "w"),
		drop("a3", "nb1"),
		drop("a1", "h"),
	} {
		s := tables(t, peopled(t).Disk())
		want(t, "the deed", deed(s), api.OK)
		s.Commit()
		if a, e := authority.Open(s.Tree().Pager().Log().Disk()); a != nil || e != api.ErrBroken {
			t.Error(i, a, e)
		}
	}
}

func TestChangedEventsAreToldAsBroken(t *testing.T) {
	s := tables(t, peopled(t).Disk())
	row, e := s.Get("a3", "nb1")
	want(t, "Get", e, api.OK)
	row.Columns[2] = "other"
	want(t, "Put", s.Put("a3", row), api.OK)
	s.Commit()
	a := open(t, s.Tree().Pager().Log().Disk())
	want(t, "Check", a.Check(), api.ErrBroken)
	no(t, a, numbered(api.Verify, 0), api.ErrBroken)
}

// A disk is changed at one byte: whatever becomes of that, nothing panics, and no event is another one unseen.
func TestChangedBytes(t *testing.T) {
	a := peopled(t)
	events, image := a.Events(), a.Disk().Image()
	opened, broken := 0, 0
	for n := range image {
		if n > 0 && n < 111 && n%7 > 0 || n > 140 {
			continue
		}
		for _, i := range []int{0, 1, 2, 3, 5, 9, 30, 77, 140, 200, 255} {
			image[n][i] ^= 1
			d, _ := block.Load(image...)
			image[n][i] ^= 1
			b, e := authority.Open(d)
			if e != api.OK {
				broken++
				continue
			}
			opened++
			b.Do(addUser(owner("t", "w")))
			b.Do(at(5, numbered(api.Tick, 0)))
			if changed := b.Events(); !slices.Equal(events, changed[:min(len(changed), len(events))]) && b.Check() != api.ErrBroken {
				t.Errorf("byte %d of block %d: %v", i, n, changed)
			}
		}
	}
	if opened == 0 || broken == 0 {
		t.Error(opened, broken)
	}
}

// A page that is neither one of the tree's nor free nor fresh is told by Check alone.
func TestCheckTellsOfLostPages(t *testing.T) {
	l, _ := layers(t, peopled(t).Disk())
	head, _ := l.Read(0)
	head[5]++ // the first fresh page is the one behind it now
	want(t, "Commit", l.Commit(api.Page{Number: 0, Bytes: head}), api.OK)
	a := open(t, l.Disk())
	want(t, "Check", a.Check(), api.ErrBroken)
}

// groups is how many groups a disk's log had.
func groups(t *testing.T, a *authority.Authority) int {
	t.Helper()
	l, _ := layers(t, a.Disk())
	return l.Groups()
}

func TestGroups(t *testing.T) {
	a := newAuthority(t, 300)
	for i, c := range []struct {
		r      api.Request
		e      api.Errno
		groups int
	}{
		{addUser(someone), api.OK, 1},
		{addUser(someone), api.ErrKnown, 0},
		{login(someone, "p"), api.OK, 2},
		{login(someone, "q"), api.ErrWrong, 2},
		{login(someone, "q"), api.ErrWrong, 2},
		{login(someone, "q"), api.ErrWrong, 2},
		{login(someone, "q"), api.ErrLocked, 0},
		{at(100, login(someone, "p")), api.OK, 2},
		{at(100, login(someone, "p")), api.OK, 2},
		{at(100, login(someone, "p")), api.ErrSessions, 2},
		{at(100, owned(api.Recover, someone)), api.ErrWrong, 2},
		{at(100, numbered(api.Touch, 1)), api.OK, 1},
		{at(100, numbered(api.Touch, 1)), api.OK, 0},
		{at(100, register("t", "c", 7)), api.OK, 1},
		{at(100, allow(someone, "c", 7)), api.OK, 1},
		{at(100, grant(1, "c", 7)), api.OK, 1},
		{at(100, numbered(api.Access, 1)), api.OK, 0},
		{at(100, api.Request{Op: api.Refresh, N: 1, M: 1}), api.OK, 1},
		{at(100, api.Request{Op: api.Refresh, N: 1, M: 1}), api.ErrReuse, 1},
		{at(100, numbered(api.Anchor, 0)), api.OK, 1},
		{at(100, numbered(api.Anchor, 0)), api.OK, 0},
		{at(100, numbered(api.Verify, 0)), api.OK, 0},
		{at(100, numbered(api.Prune, 3)), api.OK, 1},
		{at(101, numbered(api.Tick, 0)), api.OK, 1},
		{at(101, numbered(api.Tick, 0)), api.OK, 0},
		{at(101, owned(api.RemoveTenant, someone)), api.OK, 1},
		{at(101, owned(api.RemoveTenant, someone)), api.OK, 0},
	} {
		before := groups(t, a)
		want(t, "Do", a.Do(c.r).Errno, c.e)
		if got := groups(t, a) - before; got != c.groups {
			t.Errorf("%d: %v: %d groups, not %d", i, c.r, got, c.groups)
		}
	}
}

// E7 and E8, as the layers below tell of them.
func TestLayout(t *testing.T) {
	a := newAuthority(t, 700)
	ok(t, a, register("tenant-09", "client-09", 7))
	counted := 0
	for i := range 60 {
		from := a.Disk().Count()
		before, _ := layers(t, a.Disk())
		ok(t, a, allow(owner("tenant-09", fmt.Sprintf("user-%04d", i)), "client-09", 3))
		l, x := layers(t, a.Disk())
		r, e := x.Check()
		if e != api.OK || r.Least > 0 && r.Least < api.MinFill || 1+len(r.Pages)+len(r.Free)+len(r.Fresh) != l.Pages() || l.Pages() != 700-1-logBlocks {
			t.Fatal(r, e)
		}
		rows, _, e := tables(t, a.Disk()).Check()
		if e != api.OK || rows != len(a.Rows()) {
			t.Fatal(rows, e)
		}
		if used := l.Used() - before.Used(); used > 0 { // else there was a Checkpoint
			counted++
			if writes := a.Disk().Count() - from; writes != used+1 {
				t.Fatal("a group of n pages needs n and 1 blocks of the log, and the head", used, writes)
			}
		}
	}
	if counted < 20 {
		t.Error(counted)
	}
}
