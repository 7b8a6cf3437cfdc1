package authority_test

import (
	"math"
	"slices"
	"strings"
	"testing"

	"holdfast/api"
	"holdfast/authority"
	"holdfast/block"
)

var someone, another = owner("t", "u"), owner("t", "v")

func owner(tenant, user string) api.Owner { return api.Owner{Tenant: tenant, User: user} }

func want(t *testing.T, what string, got, want api.Errno) {
	t.Helper()
	if got != want {
		t.Errorf("%s: %v, not %v", what, got, want)
	}
}

func open(t *testing.T, d *block.Disk) *authority.Authority {
	t.Helper()
	a, e := authority.Open(d)
	if e != api.OK || a == nil {
		t.Fatal(a, e)
	}
	return a
}

func newAuthority(t *testing.T, blocks int) *authority.Authority {
	t.Helper()
	d, e := block.New(blocks)
	if e != api.OK {
		t.Fatal(e)
	}
	return open(t, d)
}

// ok asks that a request is done, with these numbers.
func ok(t *testing.T, a *authority.Authority, r api.Request, numbers ...int) {
	t.Helper()
	if got := a.Do(r); got.Errno != api.OK || !slices.Equal(got.Numbers, numbers) {
		t.Fatalf("%v: %v, not %v", r, got, numbers)
	}
}

// no asks that a request is refused, and changes nothing.
func no(t *testing.T, a *authority.Authority, r api.Request, e api.Errno) {
	t.Helper()
	before, writes := a.Rows(), a.Disk().Count()
	refused(t, a, r, e)
	if !sameRows(before, a.Rows()) || a.Disk().Count() != writes {
		t.Fatalf("%v: it was refused, but something has changed", r)
	}
}

func refused(t *testing.T, a *authority.Authority, r api.Request, e api.Errno) {
	t.Helper()
	if got := a.Do(r); got.Errno != e || len(got.Numbers) > 0 {
		t.Fatalf("%v: %v, not %v", r, got, e)
	}
}

// Requests, as they are usually made.

func addUser(o api.Owner) api.Request {
	return api.Request{Op: api.AddUser, Owner: o, Text: "p", Salt: "s", N: 1}
}

func login(o api.Owner, text string) api.Request {
	return api.Request{Op: api.Login, Owner: o, Text: text}
}

func register(tenant, client string, scopes api.Scopes) api.Request {
	return api.Request{Op: api.Register, Owner: owner(tenant, ""), Client: client, Text: "r", Scopes: scopes}
}

func allow(o api.Owner, client string, scopes api.Scopes) api.Request {
	return api.Request{Op: api.Allow, Owner: o, Client: client, Scopes: scopes}
}

func grant(session int, client string, scopes api.Scopes) api.Request {
	return api.Request{Op: api.Grant, N: session, Client: client, Text: "r", Scopes: scopes}
}

func numbered(op api.Op, n int) api.Request { return api.Request{Op: op, N: n} }

func owned(op api.Op, o api.Owner) api.Request { return api.Request{Op: op, Owner: o} }

func at(now int, r api.Request) api.Request {
	r.Now = now
	return r
}

// peopled has two users of t, each with a session, a consent for c, and a family of it with a token; and a user of x with the same.
func peopled(t *testing.T) *authority.Authority {
	t.Helper()
	a := newAuthority(t, 700)
	for _, tenant := range []string{"t", "x"} {
		ok(t, a, register(tenant, "c", 7))
		ok(t, a, register(tenant, "d", 7))
	}
	for i, o := range []api.Owner{someone, another, owner("x", "u")} {
		ok(t, a, addUser(o))
		ok(t, a, login(o, "p"), i+1)
		ok(t, a, allow(o, "c", 3))
		ok(t, a, grant(i+1, "c", 3), i+1, i+1)
	}
	return a
}

func TestNil(t *testing.T) {
	var a *authority.Authority
	for op := api.NoOp; op <= api.Tick+1; op++ {
		if got := a.Do(api.Request{Op: op, Now: -1}); got.Errno != api.ErrNil || len(got.Numbers) > 0 {
			t.Error(op, got)
		}
	}
	want(t, "Check", a.Check(), api.ErrNil)
	if len(a.Rows()) > 0 || a.Now() != 0 || a.Disk() != nil || len(a.Events()) > 0 {
		t.Error("a nil authority has something")
	}
	if authority.Blocks() != 300 {
		t.Error(authority.Blocks())
	}
}

func TestEmpty(t *testing.T) {
	a := newAuthority(t, 300)
	none := string(make([]byte, 32))
	rows := []api.Row{
		{Key: "a:#", Columns: []string{"a", "a", "a"}}, {Key: "a:a", Columns: []string{none}}, {Key: "a:b", Columns: []string{none}}, {Key: "a:h", Columns: []string{none}},
		{Key: "s:#", Columns: []string{"b1", "a"}}, {Key: "t:#", Columns: []string{"b1", "b1", "a"}},
	}
	if !sameRows(a.Rows(), rows) || a.Now() != 0 || len(a.Events()) > 0 {
		t.Errorf("%q %d %v", a.Rows(), a.Now(), a.Events())
	}
	want(t, "Check", a.Check(), api.OK)
	no(t, a, login(someone, "p"), api.ErrNone)
	ok(t, a, numbered(api.Tick, 0), 0)
	ok(t, a, numbered(api.Verify, 0))
	ok(t, a, numbered(api.Anchor, 0), 0)
	if d := a.Disk(); d.Count() != 0 {
		t.Error("nothing has changed, and it was written", d.Writes())
	}
	want(t, "Check", a.Check(), api.OK)
}

func TestOpsThatAreNone(t *testing.T) {
	a := peopled(t)
	for _, op := range []api.Op{api.NoOp, -1, api.Tick + 1, 1 << 40, math.MinInt, math.MaxInt} {
		for _, now := range []int{0, 5, -1, math.MaxInt} {
			no(t, a, api.Request{Op: op, Now: now, Owner: someone, Text: "p"}, api.ErrForm)
		}
	}
	if a.Now() != 0 {
		t.Error(a.Now())
	}
}

func TestTimes(t *testing.T) {
	a := peopled(t)
	for _, now := range []int{-1, math.MinInt, api.MaxTime + 1, math.MaxInt} {
		no(t, a, at(now, login(someone, "p")), api.ErrRange)
	}
	if a.Now() != 0 {
		t.Error(a.Now())
	}
	no(t, a, at(7, numbered(api.Touch, 99)), api.ErrNone)
	if a.Now() != 7 {
		t.Error("a request that was refused for another reason has its time", a.Now())
	}
	for op := api.AddUser; op <= api.Tick; op++ {
		no(t, a, at(6, owned(op, owner("", ""))), api.ErrBack)
		no(t, a, at(-6, owned(op, owner("", ""))), api.ErrRange)
	}
	ok(t, a, at(7, numbered(api.Touch, 1)), 1, 207)
	ok(t, a, at(api.MaxTime, numbered(api.Tick, 0)), 3)
	if a.Now() != api.MaxTime {
		t.Error(a.Now())
	}
	no(t, a, at(api.MaxTime-1, numbered(api.Verify, 0)), api.ErrBack)
}

// fill adds events till as many are kept as may be.
func fill(t *testing.T, a *authority.Authority) {
	t.Helper()
	for i := 0; len(a.Events()) < api.MaxAudit; i++ {
		ok(t, a, allow(owner("x", "z"), "d", api.Scopes(1+i%2)))
	}
}

func TestNoMoreEvents(t *testing.T) {
	a := peopled(t)
	fill(t, a)
	silent := []api.Op{api.Access, api.Anchor, api.Prune, api.Verify, api.Tick}
	for op := api.AddUser; op <= api.Tick; op++ {
		if !slices.Contains(silent, op) {
			no(t, a, at(3, api.Request{Op: op, Owner: someone, Text: "p", Salt: "s", Client: "c", N: 1, M: 1}), api.ErrAudit)
			no(t, a, at(3, owned(op, owner("", ""))), api.ErrAudit)
			no(t, a, at(2, owned(op, owner("", ""))), api.ErrBack)
		}
	}
	if a.Now() != 3 {
		t.Error(a.Now())
	}
	ok(t, a, at(3, numbered(api.Access, 1)), 3, 50)
	no(t, a, at(3, numbered(api.Prune, 1)), api.ErrRange)
	ok(t, a, at(3, numbered(api.Verify, 0)))
	ok(t, a, at(3, numbered(api.Tick, 0)), 0)
	ok(t, a, at(3, numbered(api.Anchor, 0)), 64)
	ok(t, a, at(3, numbered(api.Prune, 1)), 1)
	ok(t, a, at(3, numbered(api.Logout, 1)))
	if events := a.Events(); len(events) != 64 || events[0].Number != 2 || events[63] != (api.Event{Number: 65, At: 3, What: "logout", Who: "b1"}) {
		t.Error(events)
	}
	no(t, a, at(3, numbered(api.Logout, 2)), api.ErrAudit)
}

// doing is a request, and what is told of it: its numbers, and whether there is an event, by whom.
type doing struct {
	r       api.Request
	numbers []int
	who     string
}

func TestEveryOp(t *testing.T) {
	a := newAuthority(t, 700)
	for i, c := range []doing{
		{addUser(someone), nil, "t/u"},
		{api.Request{Op: api.SetCodes, Owner: someone, Codes: []string{"1", "2"}}, nil, "t/u"},
		{login(someone, "p"), []int{1}, "t/u"},
		{api.Request{Op: api.Recover, Owner: someone, Text: "2"}, []int{2}, "t/u"},
		{at(5, numbered(api.Touch, 1)), []int{1, 205}, "b1"},
		{at(5, numbered(api.Touch, 1)), []int{1, 205}, ""},
		{at(5, register("t", "c", 7)), nil, "t/c"},
		{at(5, allow(someone, "c", 3)), nil, "t/u"},
		{at(5, allow(someone, "c", 3)), nil, ""},
		{at(5, grant(1, "c", 1)), []int{1, 1}, "b1"},
		{at(6, grant(1, "c", 3)), []int{2, 2}, "b1"},
		{at(7, api.Request{Op: api.Refresh, N: 2, M: 1}), []int{2, 3}, "b2"},
		{at(8, api.Request{Op: api.Refresh, N: 2, M: 2}), []int{3, 4}, "b2"},
		{at(9, numbered(api.Access, 4)), []int{3, 58}, ""},
		{at(10, api.Request{Op: api.Exchange, N: 4, Scopes: 2}), []int{5}, "b4"},
		{at(10, numbered(api.Access, 5)), []int{2, 58}, ""},
		{at(10, numbered(api.Revoke, 1)), nil, "b1"},
		{at(10, api.Request{Op: api.Narrow, Owner: someone, Client: "c", Scopes: 5}), []int{5}, "t/c"},
		{at(10, api.Request{Op: api.Narrow, Owner: someone, Client: "c", Scopes: 255}), []int{5}, ""},
		{at(11, api.Request{Op: api.Withdraw, Owner: someone, Client: "c"}), nil, "t/u"},
		{at(11, numbered(api.Logout, 2)), nil, "b2"},
		{at(11, owned(api.LogoutAll, someone)), []int{1}, "t/u"},
		{at(11, owned(api.LogoutAll, someone)), []int{0}, ""},
		{at(12, numbered(api.Verify, 0)), nil, ""},
		{at(12, numbered(api.Anchor, 0)), []int{17}, ""},
		{at(12, numbered(api.Prune, 17)), []int{17}, ""},
		{at(12, api.Request{Op: api.ResetUser, Owner: someone, Text: "q", Salt: "s", N: 2}), nil, "t/u"},
		{at(12, login(someone, "q")), []int{3}, "t/u"},
		{at(300, numbered(api.Tick, 0)), []int{1}, ""},
		{at(300, numbered(api.Tick, 0)), []int{0}, ""},
		{at(300, owned(api.RemoveUser, someone)), nil, "t/u"},
		{at(300, api.Request{Op: api.DropClient, Owner: someone, Client: "c"}), nil, "t/c"},
		{at(300, addUser(someone)), nil, "t/u"},
		{at(300, addUser(another)), nil, "t/v"},
		{at(300, owned(api.RemoveTenant, someone)), []int{2}, "t"},
		{at(300, owned(api.RemoveTenant, someone)), []int{0}, ""},
	} {
		count := a.Events()
		ok(t, a, c.r, c.numbers...)
		events := a.Events()
		if c.r.Op == api.Prune {
			continue
		}
		if c.who == "" != (len(events) == len(count)) || len(events) > len(count)+1 {
			t.Fatal(i, events)
		}
		if c.who != "" && (events[len(count)].At != c.r.Now || events[len(count)].Who != c.who) {
			t.Fatal(i, events[len(count)], c.who)
		}
		want(t, "Check", a.Check(), api.OK)
	}
	var words []string
	for _, e := range a.Events() {
		words = append(words, e.What)
	}
	if got := strings.Join(words, " "); got != "reset login rmuser rmclient adduser adduser rmtenant" {
		t.Error(got)
	}
}

func TestRequestsThatAreRefused(t *testing.T) {
	a := peopled(t)
	nobody := owner("t", "nobody")
	for _, c := range []struct {
		r api.Request
		e api.Errno
	}{
		{api.Request{Op: api.AddUser, Owner: owner("T", "u"), Text: strings.Repeat("p", 65)}, api.ErrName},
		{api.Request{Op: api.AddUser, Owner: someone, Text: strings.Repeat("p", 65)}, api.ErrLong},
		{api.Request{Op: api.AddUser, Owner: someone, Salt: "123456789"}, api.ErrLong},
		{api.Request{Op: api.AddUser, Owner: someone, N: 65}, api.ErrRange},
		{addUser(someone), api.ErrKnown},
		{owned(api.RemoveUser, nobody), api.ErrNone},
		{api.Request{Op: api.ResetUser, Owner: nobody, Text: "p", N: 1}, api.ErrNone},
		{api.Request{Op: api.ResetUser, Owner: someone, Text: "p"}, api.ErrRange},
		{api.Request{Op: api.SetCodes, Owner: nobody}, api.ErrNone},
		{api.Request{Op: api.SetCodes, Owner: someone, Codes: []string{"1", "2", "3", "4", "5"}}, api.ErrRange},
		{api.Request{Op: api.SetCodes, Owner: someone, Codes: []string{"1", "2", "1"}}, api.ErrKnown},
		{login(nobody, "p"), api.ErrNone},
		{login(owner("", "\x00"), "p"), api.ErrNone},
		{owned(api.Recover, nobody), api.ErrNone},
		{numbered(api.Touch, 4), api.ErrNone},
		{numbered(api.Touch, 0), api.ErrNone},
		{numbered(api.Logout, 4), api.ErrNone},
		{owned(api.LogoutAll, nobody), api.ErrNone},
		{owned(api.LogoutAll, owner("", "")), api.ErrNone},
		{register("t", "C", 1), api.ErrName},
		{register("", "c", 1), api.ErrName},
		{register("t", "c", 1), api.ErrKnown},
		{api.Request{Op: api.Register, Owner: someone, Client: "e", Text: strings.Repeat("r", 25)}, api.ErrLong},
		{api.Request{Op: api.Narrow, Owner: someone, Client: "e"}, api.ErrNone},
		{api.Request{Op: api.DropClient, Owner: someone, Client: "e"}, api.ErrNone},
		{allow(owner("t", "U"), "c", 1), api.ErrName},
		{allow(someone, "e", 1), api.ErrNone},
		{allow(someone, "c", 8), api.ErrScope},
		{api.Request{Op: api.Withdraw, Owner: someone, Client: "d"}, api.ErrNone},
		{grant(4, "c", 1), api.ErrNone},
		{grant(1, "d", 1), api.ErrNone},
		{api.Request{Op: api.Grant, N: 1, Client: "c", Text: "s", Scopes: 255}, api.ErrWrong},
		{grant(1, "c", 4), api.ErrScope},
		{api.Request{Op: api.Refresh, N: 4, M: 1}, api.ErrNone},
		{api.Request{Op: api.Refresh, N: 1, M: 2}, api.ErrWrong},
		{api.Request{Op: api.Refresh, N: 1, M: 0}, api.ErrWrong},
		{numbered(api.Access, 4), api.ErrNone},
		{api.Request{Op: api.Exchange, N: 4, Scopes: 255}, api.ErrNone},
		{api.Request{Op: api.Exchange, N: 1, Scopes: 4}, api.ErrScope},
		{numbered(api.Revoke, 4), api.ErrNone},
		{owned(api.RemoveTenant, owner("T", "u")), api.ErrName},
		{owned(api.RemoveTenant, owner("", "u")), api.ErrName},
		{numbered(api.Prune, 1), api.ErrRange},
		{numbered(api.Prune, -1), api.ErrRange},
	} {
		no(t, a, c.r, c.e)
	}
	ok(t, a, grant(1, "c", 1), 4, 4)
	no(t, a, grant(1, "c", 1), api.ErrFamilies)
	want(t, "Check", a.Check(), api.OK)
}

func TestTriesOfALogin(t *testing.T) {
	for _, op := range []api.Op{api.Login, api.Recover} {
		a := newAuthority(t, 300)
		ok(t, a, addUser(someone))
		ok(t, a, api.Request{Op: api.SetCodes, Owner: someone, Codes: []string{"p"}})
		for i := range 3 {
			refused(t, a, api.Request{Op: op, Now: 5, Owner: someone, Text: "q"}, api.ErrWrong)
			if len(a.Events()) != 3+i {
				t.Error("a wrong one is an event", a.Events())
			}
		}
		no(t, a, at(5, login(someone, "p")), api.ErrLocked)
		no(t, a, at(104, api.Request{Op: api.Recover, Owner: someone, Text: "p"}), api.ErrLocked)
		if len(a.Events()) != 5 {
			t.Error(a.Events())
		}
		a = open(t, a.Disk())
		ok(t, a, at(105, api.Request{Op: op, Owner: someone, Text: "p"}), 1)
		if op == api.Recover {
			refused(t, a, at(105, api.Request{Op: op, Owner: someone, Text: "p"}), api.ErrWrong)
		}
		want(t, "Check", a.Check(), api.OK)
	}
}

// A Try that is kept by itself, and is not followed by anything, counts: with three of them the user is locked out.
func TestTriesThatAreCutOff(t *testing.T) {
	a := newAuthority(t, 300)
	ok(t, a, addUser(someone))
	for range 3 {
		from := a.Disk().Count()
		before := a.Rows()
		ok(t, a, at(5, login(someone, "p")), 1)
		d, found := a.Disk(), false
		for k := from; k < d.Count() && !found; k++ {
			cut, _ := d.Cut(k)
			b := open(t, cut)
			if found = !sameRows(before, b.Rows()); found {
				a = b
			}
		}
		if !found || len(a.Events()) != 1 {
			t.Fatal("no try was kept by itself", a.Events())
		}
	}
	refused(t, a, at(5, login(someone, "p")), api.ErrLocked)
	if events := a.Events(); len(events) != 2 || events[1] != (api.Event{Number: 2, At: 5, What: "login", Who: "t/u"}) {
		t.Error("a lockout is a change", events)
	}
	no(t, a, at(104, login(someone, "p")), api.ErrLocked)
	ok(t, a, at(105, login(someone, "p")), 1)
}

func TestTooManySessions(t *testing.T) {
	a := newAuthority(t, 300)
	ok(t, a, addUser(someone))
	ok(t, a, api.Request{Op: api.SetCodes, Owner: someone, Codes: []string{"1", "2"}})
	for i := range 3 {
		ok(t, a, login(someone, "p"), i+1)
	}
	before, events := a.Rows(), len(a.Events())
	refused(t, a, login(someone, "p"), api.ErrSessions)
	if !sameRows(before, a.Rows()) || len(a.Events()) != events {
		t.Error("nothing was changed in the end, so there is no event")
	}
	want(t, "Check", a.Check(), api.OK)
	refused(t, a, login(someone, "q"), api.ErrWrong)
	refused(t, a, login(someone, "p"), api.ErrSessions)
	if !sameRows(butChain(before), butChain(a.Rows())) || len(a.Events()) != events+2 {
		t.Error("a right password leaves no tries, though there is no session")
	}
	refused(t, a, api.Request{Op: api.Recover, Owner: someone, Text: "1"}, api.ErrSessions)
	refused(t, a, api.Request{Op: api.Recover, Owner: someone, Text: "1"}, api.ErrWrong)
	want(t, "Check", a.Check(), api.OK)
	a = open(t, a.Disk())
	ok(t, a, at(200, login(someone, "p")), 4)
}

func TestReuseEndsTheFamily(t *testing.T) {
	a := peopled(t)
	ok(t, a, at(1, api.Request{Op: api.Refresh, N: 1, M: 1}), 2, 4)
	events := len(a.Events())
	refused(t, a, at(2, api.Request{Op: api.Refresh, N: 1, M: 1}), api.ErrReuse)
	if len(a.Events()) != events+1 {
		t.Error("that a family was ended is an event")
	}
	for range 2 {
		no(t, a, at(2, api.Request{Op: api.Refresh, N: 1, M: 2}), api.ErrGone)
		no(t, a, at(2, numbered(api.Access, 1)), api.ErrGone)
		no(t, a, at(2, numbered(api.Access, 4)), api.ErrGone)
		no(t, a, at(2, api.Request{Op: api.Exchange, N: 4}), api.ErrGone)
		no(t, a, at(2, numbered(api.Revoke, 1)), api.ErrGone)
		ok(t, a, at(2, numbered(api.Access, 2)), 3, 50)
		a = open(t, a.Disk())
	}
}

func TestAnswersAreTheCallers(t *testing.T) {
	a := peopled(t)
	rows, events, image := a.Rows(), a.Events(), a.Disk().Image()
	for _, r := range a.Rows() {
		for i := range r.Columns {
			r.Columns[i] = "other"
		}
	}
	for i := range a.Events() {
		a.Events()[i].Who = "other"
	}
	b := a.Disk()
	b.Write(0, make([]byte, api.PageBytes)...)
	if !sameRows(rows, a.Rows()) || !slices.Equal(events, a.Events()) || !slices.EqualFunc(image, a.Disk().Image(), slices.Equal) {
		t.Error("what was answered is kept")
	}
	want(t, "Check", a.Check(), api.OK)
	codes := []string{"1", "2", "3", "4"}[:2]
	ok(t, a, api.Request{Op: api.SetCodes, Owner: someone, Codes: codes})
	if all := codes[:4]; !slices.Equal(all, []string{"1", "2", "3", "4"}) {
		t.Error(all)
	}
	codes[0] = "5"
	ok(t, a, api.Request{Op: api.Recover, Owner: someone, Text: "1"}, 4)
}

func TestTwoAuthoritiesAreApart(t *testing.T) {
	d, _ := block.New(300)
	a, b := open(t, d), open(t, d)
	ok(t, a, addUser(someone))
	no(t, b, login(someone, "p"), api.ErrNone)
	if d.Count() != 0 || a.Disk().Count() == 0 {
		t.Error("an authority has a disk of its own")
	}
	c := open(t, a.Disk())
	if c.Disk().Count() != 0 {
		t.Error("there were no writes since Open")
	}
	ok(t, c, owned(api.RemoveUser, someone))
	ok(t, a, login(someone, "p"), 1)
}
