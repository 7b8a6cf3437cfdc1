package authority_test

import (
	"fmt"
	"strings"
	"testing"

	"holdfast/api"
	"holdfast/authority"
)

// mostRows is how many rows a disk of 700 blocks has room for, whatever they are.
const mostRows = 400

// late is a time whose text is among the longest.
const late = 1 << 39

// pruned does a request that must be done, and lets all events go when there are many.
func pruned(t *testing.T, a *authority.Authority, r api.Request) []int {
	t.Helper()
	r.Now = max(r.Now, a.Now())
	if len(a.Events()) >= api.MaxAudit-1 {
		anchor := a.Do(at(r.Now, numbered(api.Anchor, 0)))
		if got := a.Do(at(r.Now, numbered(api.Prune, anchor.Numbers[0]))); got.Errno != api.OK {
			t.Fatal(got)
		}
	}
	got := a.Do(r)
	if got.Errno != api.OK {
		t.Fatalf("%v: %v, with %d rows", r, got, len(a.Rows()))
	}
	return got.Numbers
}

// exchanged is an authority with a user of a session, and so many rows: nearly all are tokens of one family. Every second one is over at late + 50, the others at late + 99.
func exchanged(t *testing.T, blocks, rows int) *authority.Authority {
	t.Helper()
	a := newAuthority(t, blocks)
	o := owner("tenant-09", "user-0009")
	pruned(t, a, at(late, addUser(o)))
	pruned(t, a, register("tenant-09", "client-09", 255))
	pruned(t, a, allow(o, "client-09", 255))
	pruned(t, a, login(o, "p"))
	pruned(t, a, grant(1, "client-09", 255))
	pruned(t, a, api.Request{Op: api.Refresh, Now: late + 49, N: 1, M: 1})
	for i := 0; len(a.Rows()) < rows; i++ {
		pruned(t, a, api.Request{Op: api.Exchange, N: 1 + i%2, Scopes: 255})
	}
	return a
}

// consented has so many rows: nearly all are consents for one client, and come in an order in which no page is filled from its beginning on.
func consented(t *testing.T, blocks, rows int) *authority.Authority {
	t.Helper()
	a := newAuthority(t, blocks)
	pruned(t, a, at(late, register("tenant-09", "client-09", 255)))
	for i := 9999; len(a.Rows()) < rows; i-- {
		pruned(t, a, allow(owner("tenant-09", fmt.Sprintf("user-%04d", i)), "client-09", 255))
	}
	return a
}

// crowded has so many rows: users with codes, sessions with families and tokens. Of the last sessions every second one was used again.
func crowded(t *testing.T, blocks, rows int) *authority.Authority {
	t.Helper()
	a := newAuthority(t, blocks)
	pruned(t, a, at(late, register("tenant-09", "client-09", 255)))
	last := 0
	for i := 0; len(a.Rows()) < rows; i++ {
		o := owner("tenant-09", fmt.Sprintf("user-%04d", i%8))
		if i < 8 {
			pruned(t, a, at(late, api.Request{Op: api.AddUser, Owner: o, Text: "p", Salt: "12345678", N: 1}))
			pruned(t, a, api.Request{Op: api.SetCodes, Owner: o, Codes: []string{"1", "2", "3", "4"}})
			pruned(t, a, allow(o, "client-09", 255))
		}
		s := pruned(t, a, at(late+100*(i/8), login(o, "p")))[0]
		for range 2 {
			f := pruned(t, a, grant(s, "client-09", 255))
			pruned(t, a, api.Request{Op: api.Exchange, N: f[1], Scopes: 255})
		}
		last = s
	}
	for n := 1; n <= last; n += 2 {
		a.Do(at(a.Now()+1, numbered(api.Touch, n)))
	}
	return a
}

// Each of these changes, or lets go, rows all over the tree: as many pages as a group may have are enough for that, with all states of so many rows.
func TestThereIsRoomForManyRows(t *testing.T) {
	for name, make := range map[string]func(t *testing.T, blocks, rows int) *authority.Authority{"exchanged": exchanged, "consented": consented, "crowded": crowded} {
		full := make(t, 700, mostRows-2).Disk()
		for _, r := range []api.Request{
			at(late+50, numbered(api.Tick, 0)),
			at(late+750, numbered(api.Tick, 0)),
			at(late+3000, numbered(api.Tick, 0)),
			{Op: api.Narrow, Now: late + 50, Owner: owner("tenant-09", ""), Client: "client-09", Scopes: 127},
			{Op: api.DropClient, Now: late + 50, Owner: owner("tenant-09", ""), Client: "client-09"},
			at(late+50, owned(api.RemoveTenant, owner("tenant-09", ""))),
		} {
			a := open(t, full)
			r.Now = max(r.Now, a.Now())
			before := a.Rows()
			pruned(t, a, r)
			want(t, "Check", a.Check(), api.OK)
			if b := open(t, a.Disk()); sameRows(before, a.Rows()) || !sameRows(a.Rows(), b.Rows()) {
				t.Error(name, r)
			}
		}
	}
}

// A state of far more rows than there must be room for loses most of them, all over the tree: the pages that have one of them are more than a group may have, and those that are left of them are laid anew.
func TestRowsAreLaidAnew(t *testing.T) {
	a := exchanged(t, 1000, 1100)
	_, x := layers(t, a.Disk())
	if r, e := x.Check(); e != api.OK || len(r.Pages) < 160 {
		t.Fatal(len(r.Pages), e)
	}
	before, from := a.Rows(), a.Disk().Count()
	ok(t, a, at(late+50, numbered(api.Tick, 0)), 0)
	if left := len(a.Rows()); left > len(before)*2/3 || left < len(before)/3 {
		t.Fatal(left)
	}
	want(t, "Check", a.Check(), api.OK)
	_, x = layers(t, a.Disk())
	if r, e := x.Check(); e != api.OK || len(r.Pages) > api.MaxGroup {
		t.Error(len(r.Pages), e)
	}
	wantCuts(t, "Tick", a.Disk(), from, before, nil, a.Rows())
}

// tooFull is an authority on the smallest disk, with consents till there is no room for one more.
func tooFull(t *testing.T) *authority.Authority {
	t.Helper()
	a := newAuthority(t, 300)
	o := owner("tenant-09", "user-0009")
	ok(t, a, addUser(o))
	pruned(t, a, register("tenant-09", "client-09", 255))
	for i := 0; ; i++ {
		if len(a.Events()) >= api.MaxAudit-1 {
			pruned(t, a, allow(owner("tenant-09", "user-0000"), "client-09", api.Scopes(i)))
		}
		before, writes := a.Rows(), a.Disk().Count()
		got := a.Do(allow(owner("tenant-09", fmt.Sprintf("user-%04d", i)), "client-09", 1))
		if got.Errno == api.ErrFull {
			if !sameRows(before, a.Rows()) || a.Disk().Count() != writes || len(got.Numbers) > 0 {
				t.Fatal("there is no room, but something has changed")
			}
			return a
		}
		if got.Errno != api.OK {
			t.Fatal(i, got)
		}
	}
}

func TestNoRoom(t *testing.T) {
	a := tooFull(t)
	if len(a.Rows()) < mostRows/2 {
		t.Error(len(a.Rows()))
	}
	want(t, "Check", a.Check(), api.OK)
	o := owner("tenant-09", "user-0009")
	before := a.Rows()
	refused(t, a, at(7, login(o, "p")), api.ErrFull)
	want(t, "Check", a.Check(), api.OK)
	if a.Now() != 7 {
		t.Error("a request that had no room has its time", a.Now())
	}
	wantTry(t, before, a.Rows())
	if b := open(t, a.Disk()); !sameRows(a.Rows(), b.Rows()) {
		t.Error("the try was not kept")
	}
	ok(t, a, at(7, api.Request{Op: api.DropClient, Owner: o, Client: "client-09"}))
	ok(t, a, at(7, login(o, "p")), 1)
	want(t, "Check", a.Check(), api.OK)
}

// Where all numbers were given, there is no room for one more.
func TestNoNumbersLeft(t *testing.T) {
	last := number(api.MaxTime + 1)
	s := tables(t, peopled(t).Disk())
	want(t, "Put", s.Put("s2", api.Row{Key: "#", Columns: []string{last, "a"}}), api.OK)
	want(t, "Put", s.Put("t3", api.Row{Key: "#", Columns: []string{last, last, "a"}}), api.OK)
	s.Commit()
	a := open(t, s.Tree().Pager().Log().Disk())
	for _, r := range []api.Request{grant(1, "c", 1), {Op: api.Refresh, N: 1, M: 1}, {Op: api.Exchange, N: 1}} {
		no(t, a, r, api.ErrFull)
	}
	before := a.Rows()
	refused(t, a, login(someone, "p"), api.ErrFull)
	wantTry(t, before, a.Rows())
	want(t, "Check", a.Check(), api.OK)
	refused(t, a, login(someone, "q"), api.ErrWrong)
	refused(t, a, login(someone, "q"), api.ErrWrong)
	no(t, a, login(someone, "p"), api.ErrLocked)
}

// wantTry asks that nothing but the tries of one user has become another, by one.
func wantTry(t *testing.T, before, after []api.Row) {
	t.Helper()
	changed := 0
	for i, r := range after {
		if sameRow(before[i], r) {
			continue
		}
		changed++
		if !strings.HasPrefix(r.Key, "c:") || before[i].Columns[3] != "a" || r.Columns[3] != "b1" {
			t.Errorf("%q, not %q", r, before[i])
		}
	}
	if changed != 1 || len(before) != len(after) {
		t.Error(changed, len(before), len(after))
	}
}
