package authority_test

import (
	"slices"
	"strings"
	"testing"

	"holdfast/api"
	"holdfast/authority"
	"holdfast/codec"
)

// below are the requests that something must be there for: of a session, of its family, of its token.
func below(session, family, token int) []api.Request {
	return slices.Concat(
		[]api.Request{numbered(api.Touch, session), grant(session, "c", 1), grant(session, "d", 0), numbered(api.Logout, session)},
		belowFamily(family, token))
}

func belowFamily(family, token int) []api.Request {
	return []api.Request{
		{Op: api.Refresh, N: family, M: 1}, {Op: api.Refresh, N: family, M: 2}, numbered(api.Access, token),
		{Op: api.Exchange, N: token, Scopes: 1}, {Op: api.Exchange, N: token}, numbered(api.Revoke, family),
	}
}

// wantRefused asks that none of these is answered OK: neither now nor later, also by who opens the disk anew, or has all things of the same names again.
func wantRefused(t *testing.T, what string, a *authority.Authority, requests []api.Request) {
	t.Helper()
	again := []api.Request{addUser(someone), addUser(another), register("t", "c", 7), register("t", "d", 7), allow(someone, "c", 7), allow(another, "c", 7), login(someone, "p"), login(another, "p"), numbered(api.Tick, 0)}
	for _, now := range []int{a.Now(), a.Now() + 1, 49, 199, 999, api.MaxTime} {
		for _, r := range requests {
			if got := a.Do(at(now, r)); got.Errno == api.OK {
				t.Fatalf("%s: %v is answered %v", what, r, got)
			}
		}
		a = open(t, a.Disk())
		for _, r := range again {
			a.Do(at(now, r))
		}
	}
}

func TestRevokedIsRevoked(t *testing.T) {
	family := belowFamily(1, 1)
	for _, c := range []struct {
		what    string
		r       api.Request
		refused []api.Request
		others  []int // tokens that are good still
	}{
		{"Logout", numbered(api.Logout, 1), below(1, 1, 1), []int{2, 3}},
		{"LogoutAll", owned(api.LogoutAll, someone), below(1, 1, 1), []int{2, 3}},
		{"ResetUser", api.Request{Op: api.ResetUser, Owner: someone, Text: "p", N: 1}, below(1, 1, 1), []int{2, 3}},
		{"RemoveUser", owned(api.RemoveUser, someone), below(1, 1, 1), []int{2, 3}},
		{"RemoveTenant", owned(api.RemoveTenant, owner("t", "")), slices.Concat(below(1, 1, 1), below(2, 2, 2)), []int{3}},
		{"Revoke", numbered(api.Revoke, 1), family, []int{2, 3}},
		{"Withdraw", api.Request{Op: api.Withdraw, Owner: someone, Client: "c"}, family, []int{2, 3}},
		{"Allow", allow(someone, "c", 1), family, []int{2, 3}},
		{"Allow of others", allow(someone, "c", 5), family, []int{2, 3}},
		{"Narrow", api.Request{Op: api.Narrow, Owner: owner("t", ""), Client: "c", Scopes: 1}, slices.Concat(family, belowFamily(2, 2)), []int{3}},
		{"Narrow to all", api.Request{Op: api.Narrow, Owner: owner("t", ""), Client: "c", Scopes: 255}, slices.Concat(family, belowFamily(2, 2)), []int{3}},
		{"DropClient", api.Request{Op: api.DropClient, Owner: owner("t", ""), Client: "c"}, slices.Concat(family, belowFamily(2, 2)), []int{3}},
	} {
		a := peopled(t)
		ok(t, a, allow(someone, "d", 7))
		ok(t, a, grant(1, "d", 7), 4, 4)
		if got := a.Do(at(1, c.r)); got.Errno != api.OK {
			t.Fatal(c.what, got)
		}
		want(t, "Check", a.Check(), api.OK)
		for _, n := range c.others {
			ok(t, a, at(1, numbered(api.Access, n)), 3, 50)
		}
		// The family of another client goes only with its session.
		if strings.HasPrefix(c.what, "Log") || strings.HasPrefix(c.what, "Re") && c.what != "Revoke" {
			no(t, a, at(1, numbered(api.Access, 4)), api.ErrGone)
		} else {
			ok(t, a, at(1, numbered(api.Access, 4)), 7, 50)
		}
		wantRefused(t, c.what, a, c.refused)
	}
}

func TestAllowOfMoreEndsNothing(t *testing.T) {
	a := peopled(t)
	ok(t, a, allow(someone, "c", 3))
	ok(t, a, allow(someone, "c", 7))
	ok(t, a, numbered(api.Access, 1), 3, 50)
	ok(t, a, allow(someone, "d", 0))
	ok(t, a, allow(someone, "d", 1))
	ok(t, a, numbered(api.Access, 1), 3, 50)
	no(t, a, allow(someone, "c", 8), api.ErrScope)
	ok(t, a, numbered(api.Access, 1), 3, 50)
}

// Sessions that are over, but were not swept yet, have families, which end as others do.
func TestFamiliesOfSessionsThatAreOver(t *testing.T) {
	for _, r := range []api.Request{
		{Op: api.Withdraw, Owner: someone, Client: "c"},
		allow(someone, "c", 1),
		{Op: api.Narrow, Owner: someone, Client: "c", Scopes: 255},
		{Op: api.DropClient, Owner: someone, Client: "c"},
		owned(api.LogoutAll, someone),
		numbered(api.Logout, 1),
		owned(api.RemoveUser, someone),
	} {
		a := peopled(t)
		no(t, a, at(500, numbered(api.Touch, 1)), api.ErrGone)
		no(t, a, at(500, api.Request{Op: api.Refresh, N: 1, M: 1}), api.ErrGone)
		if !hasRow(a, "t:fb1") || !hasRow(a, "t:tb1") {
			t.Fatal("nothing was swept yet")
		}
		if got := a.Do(at(500, r)); got.Errno != api.OK {
			t.Fatal(r, got)
		}
		if hasRow(a, "t:fb1") || hasRow(a, "t:tb1") || !hasRow(a, "t:fb3") {
			t.Errorf("%v: %q", r, a.Rows())
		}
	}
}

func hasRow(a *authority.Authority, key string) bool {
	return slices.ContainsFunc(a.Rows(), func(r api.Row) bool { return r.Key == key })
}

func TestTickSweeps(t *testing.T) {
	a := peopled(t)
	ok(t, a, at(40, numbered(api.Touch, 2)), 2, 240)
	ok(t, a, at(40, grant(2, "c", 1)), 4, 4)
	events := len(a.Events())
	ok(t, a, at(60, numbered(api.Tick, 0)), 0)
	if hasRow(a, "t:tb1") || !hasRow(a, "t:fb1") || !hasRow(a, "t:tb4") {
		t.Errorf("%q", a.Rows())
	}
	ok(t, a, at(200, numbered(api.Tick, 0)), 2)
	if hasRow(a, "s:b1") || hasRow(a, "t:fb1") || hasRow(a, "s:b3") || hasRow(a, "t:fb3") || !hasRow(a, "s:b2") || !hasRow(a, "t:fb2") || !hasRow(a, "t:fb4") {
		t.Errorf("%q", a.Rows())
	}
	if len(a.Events()) != events {
		t.Error("a Tick is no event", a.Events())
	}
	if b := open(t, a.Disk()); b.Now() != 200 || !sameRows(a.Rows(), b.Rows()) {
		t.Error("a Tick is kept", b.Now())
	}
	want(t, "Check", a.Check(), api.OK)
}

// wantNarrow asks for E3 of all rows: a token's scopes are narrower than its family's, and so on.
func wantNarrow(t *testing.T, rows []api.Row) {
	t.Helper()
	all := map[string][]string{}
	for _, r := range rows {
		all[r.Key] = r.Columns
	}
	narrower := func(scopes, than string) bool {
		n, _ := codec.ToNumber(scopes)
		m, _ := codec.ToNumber(than)
		return n&^m == 0
	}
	for _, r := range rows {
		c := r.Columns
		switch {
		case strings.HasPrefix(r.Key, "t:t"):
			if f := all["t:f"+c[0]]; f == nil || !narrower(c[1], f[2]) {
				t.Fatalf("%q %q", r, f)
			}
		case strings.HasPrefix(r.Key, "t:f"):
			s := all["s:"+c[0]]
			if s == nil {
				t.Fatalf("%q has no session", r)
			}
			if consent := all["g:"+s[0]+"/"+s[1]+"/"+c[1]]; consent == nil || !narrower(c[2], consent[0]) {
				t.Fatalf("%q %q", r, consent)
			}
		case strings.HasPrefix(r.Key, "g:") && len(c) == 1:
			names := strings.Split(strings.TrimPrefix(r.Key, "g:"), "/")
			if client := all["g:"+names[0]+"/"+names[2]]; client == nil || !narrower(c[0], client[1]) {
				t.Fatalf("%q %q", r, client)
			}
		case strings.HasPrefix(r.Key, "s:b"):
			if all["c:"+c[0]+"/"+c[1]] == nil {
				t.Fatalf("%q has no user", r)
			}
		}
	}
}
