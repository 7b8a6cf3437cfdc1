package grant_test

import (
	"fmt"
	"slices"
	"strings"
	"testing"

	"holdfast/api"
	"holdfast/grant"
)

var badNames = []string{"", "A", "a.", "a/b", "#", "abcdefghij", "a b", "\x00", "\xff", "é", strings.Repeat("a", 1<<16)}

var someone, other = owner("t", "u"), owner("t", "v")

func owner(tenant, user string) api.Owner { return api.Owner{Tenant: tenant, User: user} }

func row(key string, columns ...string) api.Row { return api.Row{Key: key, Columns: columns} }

func client(tenant, name, redirect string, scopes api.Scopes) api.Client {
	return api.Client{Tenant: tenant, Name: name, Redirect: redirect, Scopes: scopes}
}

func consent(o api.Owner, client string, scopes api.Scopes) api.Consent {
	return api.Consent{Owner: o, Client: client, Scopes: scopes}
}

func want(t *testing.T, what string, got, want api.Errno) {
	t.Helper()
	if got != want {
		t.Errorf("%s: %v, not %v", what, got, want)
	}
}

func register(t *testing.T, s *grant.Store, tenant, name, redirect string, scopes api.Scopes) {
	t.Helper()
	want(t, "Register", s.Register(client(tenant, name, redirect, scopes)), api.OK)
}

func allow(t *testing.T, s *grant.Store, o api.Owner, name string, scopes api.Scopes) {
	t.Helper()
	want(t, "Allow", s.Allow(consent(o, name, scopes)), api.OK)
}

func narrow(t *testing.T, s *grant.Store, tenant, name string, scopes, left api.Scopes) {
	t.Helper()
	if got, e := s.Narrow(tenant, name, scopes); got != left || e != api.OK {
		t.Errorf("Narrow(%s, %s, %d): %d %v, not %d", tenant, name, scopes, got, e, left)
	}
}

func sameRows(a, b []api.Row) bool {
	return slices.EqualFunc(a, b, func(x, y api.Row) bool { return x.Key == y.Key && slices.Equal(x.Columns, y.Columns) })
}

func wantRows(t *testing.T, s *grant.Store, want ...api.Row) {
	t.Helper()
	if rows := s.Rows(); !sameRows(rows, want) {
		t.Errorf("Rows: %q, not %q", rows, want)
	}
}

func load(t *testing.T, rows ...api.Row) *grant.Store {
	t.Helper()
	s, e := grant.Load(rows...)
	if e != api.OK || s == nil {
		t.Fatalf("Load(%q): %v", rows, e)
	}
	return s
}

// wantNoClient asks for one error of all calls that want a client to be there, and for no change.
func wantNoClient(t *testing.T, s *grant.Store, tenant, name string, e api.Errno) {
	t.Helper()
	before := s.Rows()
	if got, err := s.Narrow(tenant, name, 255); got != 0 || err != e {
		t.Errorf("Narrow(%.20q, %.20q): %v %v", tenant, name, got, err)
	}
	want(t, "Drop", s.Drop(tenant, name), e)
	if got, err := s.Client(tenant, name); got != (api.Client{}) || err != e {
		t.Errorf("Client(%.20q, %.20q): %v %v", tenant, name, got, err)
	}
	wantNoConsent(t, s, owner(tenant, "u"), name, e)
	wantRows(t, s, before...)
}

// wantNoConsent asks for one error of all calls that want a consent to be there, and for no change.
func wantNoConsent(t *testing.T, s *grant.Store, o api.Owner, name string, e api.Errno) {
	t.Helper()
	before := s.Rows()
	want(t, "Withdraw", s.Withdraw(o, name), e)
	want(t, "May", s.May(o, name, "r", 0), e)
	want(t, "May of another redirect and all scopes", s.May(o, name, "other", 255), e)
	if got, err := s.Consent(o, name); got != (api.Consent{}) || err != e {
		t.Errorf("Consent(%.20q, %.20q): %v %v", o, name, got, err)
	}
	wantRows(t, s, before...)
}

func wantClients(t *testing.T, s *grant.Store, tenant string, want ...api.Client) {
	t.Helper()
	if got := s.Clients(tenant); !slices.Equal(got, want) {
		t.Errorf("Clients(%.20q): %v, not %v", tenant, got, want)
	}
	for _, c := range want {
		if got, e := s.Client(tenant, c.Name); got != c || e != api.OK {
			t.Errorf("Client(%s, %s): %v %v, not %v", tenant, c.Name, got, e, c)
		}
	}
}

func wantConsents(t *testing.T, s *grant.Store, o api.Owner, want ...api.Consent) {
	t.Helper()
	if got := s.Consents(o); !slices.Equal(got, want) {
		t.Errorf("Consents(%.20q): %v, not %v", o, got, want)
	}
	for _, c := range want {
		if got, e := s.Consent(o, c.Client); got != c || e != api.OK {
			t.Errorf("Consent(%v, %s): %v %v, not %v", o, c.Client, got, e, c)
		}
	}
}

// The document's example.
func TestExample(t *testing.T) {
	s := grant.New()
	register(t, s, "t", "c", "r", 3)
	allow(t, s, someone, "c", 1)
	want(t, "May", s.May(someone, "c", "r", 1), api.OK)
	narrow(t, s, "t", "c", 2, 2)
	want(t, "May", s.May(someone, "c", "r", 1), api.ErrScope)
}

func TestNewStore(t *testing.T) {
	s := grant.New()
	wantRows(t, s)
	wantNoClient(t, s, "t", "c", api.ErrNone)
	wantClients(t, s, "t")
	wantConsents(t, s, someone)
	want(t, "Allow", s.Allow(consent(someone, "c", 0)), api.ErrNone)
	if n := s.DropUser(someone); n != 0 {
		t.Error(n)
	}
}

func TestNilStore(t *testing.T) {
	var s *grant.Store
	for _, name := range []string{"t", ""} {
		wantNoClient(t, s, name, name, api.ErrNil)
		want(t, "Register", s.Register(client(name, name, "r", 1)), api.ErrNil)
		want(t, "Register of a long redirect", s.Register(client(name, name, strings.Repeat("r", 25), 1)), api.ErrNil)
		want(t, "Allow", s.Allow(consent(owner(name, name), name, 1)), api.ErrNil)
		wantClients(t, s, name)
		wantConsents(t, s, owner(name, name))
		if n := s.DropUser(owner(name, name)); n != 0 {
			t.Error(n)
		}
	}
	if s.Fork() != nil || len(s.Rows()) != 0 {
		t.Error("a nil store has something")
	}
}

func TestRegister(t *testing.T) {
	long := strings.Repeat("r", 24)
	s := grant.New()
	register(t, s, "t", "c", "r", 3)
	wantRows(t, s, row("t/c", "r", "b3"))
	register(t, s, "t", "b", "", 0)
	register(t, s, "s", "c", long, 255)
	register(t, s, "abcdefghi", "-9-zyx-a0", "\x00/\xff#", 16)
	wantClients(t, s, "t", client("t", "b", "", 0), client("t", "c", "r", 3))
	wantClients(t, s, "s", client("s", "c", long, 255))
	wantClients(t, s, "abcdefghi", client("abcdefghi", "-9-zyx-a0", "\x00/\xff#", 16))
	wantRows(t, s, row("abcdefghi/-9-zyx-a0", "\x00/\xff#", "c10"), row("s/c", long, "cff"), row("t/b", "", "a"), row("t/c", "r", "b3"))
}

func wantNoRegister(t *testing.T, s *grant.Store, c api.Client, e api.Errno) {
	t.Helper()
	before := s.Rows()
	want(t, fmt.Sprintf("Register(%.40q)", c), s.Register(c), e)
	wantRows(t, s, before...)
}

func TestRegisterRefuses(t *testing.T) {
	s := full(t)
	for _, redirect := range []string{"r", strings.Repeat("r", 25)} {
		for _, bad := range badNames {
			wantNoRegister(t, s, client(bad, "c0", redirect, 1), api.ErrName)
			wantNoRegister(t, s, client("t0", bad, redirect, 1), api.ErrName)
			wantNoRegister(t, s, client(bad, bad, redirect, 1), api.ErrName)
		}
	}
	for _, size := range []int{25, 26, 256 + 24, 1 << 16} {
		for _, c := range []api.Client{{Tenant: "t0", Name: "c0"}, {Tenant: "t0", Name: "more"}, {Tenant: "more", Name: "c0"}} {
			c.Redirect = strings.Repeat("r", size)
			wantNoRegister(t, s, c, api.ErrLong)
		}
	}
	for i := range api.MaxTenants {
		for j := range api.MaxClients {
			wantNoRegister(t, s, client(fmt.Sprint("t", i), fmt.Sprint("c", j), "other", 255), api.ErrKnown)
		}
	}
}

// full has as many clients as may be.
func full(t *testing.T) *grant.Store {
	t.Helper()
	s := grant.New()
	for i := range api.MaxTenants {
		for j := range api.MaxClients {
			register(t, s, fmt.Sprint("t", i), fmt.Sprint("c", j), "r", 1)
		}
	}
	return s
}

func TestRegisterOfTooManyClients(t *testing.T) {
	s := full(t)
	for i := range api.MaxTenants {
		wantNoRegister(t, s, client(fmt.Sprint("t", i), "more", "r", 1), api.ErrClients)
	}
	wantNoRegister(t, s, client("more", "c0", "r", 1), api.ErrClients)
	want(t, "Drop", s.Drop("t1", "c2"), api.OK)
	wantNoRegister(t, s, client("more", "c0", "r", 1), api.ErrClients)
	wantNoRegister(t, s, client("t0", "more", "r", 1), api.ErrClients)
	register(t, s, "t1", "more", "r", 1)
	wantNoRegister(t, s, client("t1", "c2", "r", 1), api.ErrClients)
	for j := range api.MaxClients {
		want(t, "Drop", s.Drop("t2", fmt.Sprint("c", j)), api.OK)
	}
	register(t, s, "more", "c0", "r", 1)
	wantNoRegister(t, s, client("t2", "c0", "r", 1), api.ErrClients)
	register(t, s, "more", "c1", "r", 1)
}

// A tenant may be the last one, and have all its clients, while others have one each.
func TestTenantsAreCountedByThemselves(t *testing.T) {
	s := grant.New()
	for i := range api.MaxTenants {
		register(t, s, fmt.Sprint("t", i), "c", "r", 1)
	}
	wantNoRegister(t, s, client("more", "c", "r", 1), api.ErrClients)
	for j := range api.MaxClients - 1 {
		register(t, s, "t3", fmt.Sprint("c", j), "r", 1)
	}
	wantNoRegister(t, s, client("t3", "more", "r", 1), api.ErrClients)
	register(t, s, "t0", "c1", "r", 1)
}

func TestNarrow(t *testing.T) {
	s := grant.New()
	register(t, s, "t", "c", "r", 0b1101)
	register(t, s, "t", "d", "r", 0b1101)
	register(t, s, "s", "c", "r", 0b1101)
	allow(t, s, someone, "c", 0b1001)
	allow(t, s, other, "c", 0b1101)
	allow(t, s, owner("t", "w"), "c", 0)
	allow(t, s, someone, "d", 0b1101)
	allow(t, s, owner("s", "u"), "c", 0b1101)
	narrow(t, s, "t", "c", 0b0111, 0b0101)
	wantClients(t, s, "t", client("t", "c", "r", 0b0101), client("t", "d", "r", 0b1101))
	wantClients(t, s, "s", client("s", "c", "r", 0b1101))
	wantConsents(t, s, someone, consent(someone, "c", 0b0001), consent(someone, "d", 0b1101))
	wantConsents(t, s, other, consent(other, "c", 0b0101))
	wantConsents(t, s, owner("t", "w"), consent(owner("t", "w"), "c", 0))
	wantConsents(t, s, owner("s", "u"), consent(owner("s", "u"), "c", 0b1101))
	narrow(t, s, "t", "c", 255, 0b0101)
	narrow(t, s, "t", "c", 0, 0)
	wantConsents(t, s, someone, consent(someone, "c", 0), consent(someone, "d", 0b1101))
	want(t, "May of nothing", s.May(someone, "c", "r", 0), api.OK)
	narrow(t, s, "t", "c", 255, 0)
	want(t, "Allow of what was", s.Allow(consent(someone, "c", 1)), api.ErrScope)
	wantNoClient(t, s, "s", "d", api.ErrNone)
}

func TestDrop(t *testing.T) {
	s := grant.New()
	register(t, s, "t", "c", "r", 3)
	register(t, s, "t", "d", "r", 3)
	register(t, s, "s", "c", "r", 3)
	for _, o := range []api.Owner{someone, other} {
		allow(t, s, o, "c", 3)
		allow(t, s, o, "d", 2)
	}
	allow(t, s, owner("s", "u"), "c", 3)
	want(t, "Drop", s.Drop("t", "c"), api.OK)
	wantNoClient(t, s, "t", "c", api.ErrNone)
	wantRows(t, s, row("s/c", "r", "b3"), row("s/u/c", "b3"), row("t/d", "r", "b3"), row("t/u/d", "b2"), row("t/v/d", "b2"))
	want(t, "Allow", s.Allow(consent(someone, "c", 0)), api.ErrNone)
	register(t, s, "t", "c", "new", 7)
	wantNoConsent(t, s, someone, "c", api.ErrNone)
	wantConsents(t, s, someone, consent(someone, "d", 2))
}

func TestNoSuchClients(t *testing.T) {
	s := grant.New()
	register(t, s, "t", "c", "r", 3)
	allow(t, s, someone, "c", 3)
	for _, bad := range append([]string{"u", "s"}, badNames...) {
		wantNoClient(t, s, "t", bad, api.ErrNone)
		wantNoClient(t, s, bad, "c", api.ErrNone)
		wantNoConsent(t, s, owner("t", bad+"x"), "c", api.ErrNone)
		wantNoConsent(t, s, someone, bad, api.ErrNone)
		wantClients(t, s, bad)
		wantConsents(t, s, owner(bad, "u"))
		wantConsents(t, s, owner("t", bad+"x"))
		if n := s.DropUser(owner(bad, "u")) + s.DropUser(owner("t", bad+"x")); n != 0 {
			t.Error(n)
		}
	}
	wantRows(t, s, row("t/c", "r", "b3"), row("t/u/c", "b3"))
}

func TestAllow(t *testing.T) {
	s := grant.New()
	register(t, s, "t", "c", "r", 0b1110)
	allow(t, s, someone, "c", 0b0110)
	wantConsents(t, s, someone, consent(someone, "c", 0b0110))
	allow(t, s, someone, "c", 0b1000)
	wantConsents(t, s, someone, consent(someone, "c", 0b1000))
	allow(t, s, someone, "c", 0b1110)
	allow(t, s, other, "c", 0)
	wantConsents(t, s, other, consent(other, "c", 0))
	allow(t, s, owner("t", "abcdefghi"), "c", 2)
	wantRows(t, s, row("t/abcdefghi/c", "b2"), row("t/c", "r", "be"), row("t/u/c", "be"), row("t/v/c", "a"))
}

func wantNoAllow(t *testing.T, s *grant.Store, c api.Consent, e api.Errno) {
	t.Helper()
	before := s.Rows()
	want(t, fmt.Sprintf("Allow(%.40q)", c), s.Allow(c), e)
	wantRows(t, s, before...)
}

func TestAllowRefuses(t *testing.T) {
	s := grant.New()
	register(t, s, "t", "c", "r", 0b0110)
	register(t, s, "s", "d", "r", 0b1111)
	allow(t, s, someone, "c", 0b0010)
	for _, bad := range badNames {
		for _, name := range []string{"c", "none"} {
			wantNoAllow(t, s, consent(owner(bad, "u"), name, 255), api.ErrName)
			wantNoAllow(t, s, consent(owner("t", bad), name, 255), api.ErrName)
			wantNoAllow(t, s, consent(owner(bad, bad), name, 2), api.ErrName)
		}
		wantNoAllow(t, s, consent(someone, bad, 2), api.ErrNone)
	}
	for _, c := range []api.Consent{consent(someone, "d", 2), consent(owner("s", "u"), "c", 2), consent(owner("r", "u"), "c", 2), consent(someone, "u", 255)} {
		wantNoAllow(t, s, c, api.ErrNone)
	}
	for scopes := range api.Scopes(255) {
		if scopes&^0b0110 != 0 {
			wantNoAllow(t, s, consent(someone, "c", scopes), api.ErrScope)
			wantNoAllow(t, s, consent(other, "c", scopes), api.ErrScope)
		}
	}
}

// A user may have a consent for each client that a tenant may have.
func TestAllConsents(t *testing.T) {
	s := full(t)
	for i := range api.MaxTenants {
		for j := range api.MaxClients {
			for range 2 {
				allow(t, s, owner(fmt.Sprint("t", i), "u"), fmt.Sprint("c", j), 1)
			}
		}
	}
	for i := range 100 {
		allow(t, s, owner("t1", fmt.Sprint("v", i)), "c1", 1)
	}
	if n := len(s.Rows()); n != 2*16+100 {
		t.Error(n)
	}
	wantRows(t, load(t, s.Rows()...), s.Rows()...)
}

func TestWithdraw(t *testing.T) {
	s := grant.New()
	for _, tenant := range []string{"s", "t"} {
		for _, name := range []string{"c", "d"} {
			register(t, s, tenant, name, "r", 3)
			allow(t, s, owner(tenant, "u"), name, 1)
			allow(t, s, owner(tenant, "v"), name, 2)
		}
	}
	want(t, "Withdraw", s.Withdraw(someone, "c"), api.OK)
	wantNoConsent(t, s, someone, "c", api.ErrNone)
	wantConsents(t, s, someone, consent(someone, "d", 1))
	wantConsents(t, s, other, consent(other, "c", 2), consent(other, "d", 2))
	wantConsents(t, s, owner("s", "u"), consent(owner("s", "u"), "c", 1), consent(owner("s", "u"), "d", 1))
	allow(t, s, someone, "c", 3)
	if n := s.DropUser(someone); n != 2 {
		t.Error(n)
	}
	if n := s.DropUser(someone); n != 0 {
		t.Error(n)
	}
	wantConsents(t, s, someone)
	wantConsents(t, s, other, consent(other, "c", 2), consent(other, "d", 2))
	wantConsents(t, s, owner("s", "u"), consent(owner("s", "u"), "c", 1), consent(owner("s", "u"), "d", 1))
	wantClients(t, s, "t", client("t", "c", "r", 3), client("t", "d", "r", 3))
	want(t, "Withdraw", s.Withdraw(owner("s", "v"), "d"), api.OK)
	if n := s.DropUser(owner("s", "v")); n != 1 {
		t.Error(n)
	}
}

// The errors of May come in their order, whatever the redirect and the scopes are.
func TestMay(t *testing.T) {
	s := grant.New()
	register(t, s, "t", "c", "redirect", 0b0111)
	register(t, s, "t", "d", "", 0b0111)
	allow(t, s, someone, "c", 0b0101)
	allow(t, s, someone, "d", 0b0001)
	before := s.Rows()
	for scopes := range 256 {
		wanted := api.ErrScope
		if scopes&^0b0101 == 0 {
			wanted = api.OK
		}
		want(t, "May", s.May(someone, "c", "redirect", api.Scopes(scopes)), wanted)
		for _, redirect := range []string{"", "Redirect", "redirec", "redirect ", "edirect", strings.Repeat("redirect", 1<<12)} {
			want(t, "May at another redirect", s.May(someone, "c", redirect, api.Scopes(scopes)), api.ErrWrong)
		}
		for _, o := range []api.Owner{other, owner("s", "u"), {}} {
			want(t, "May of another user", s.May(o, "c", "redirect", api.Scopes(scopes)), api.ErrNone)
		}
		want(t, "May of another client", s.May(someone, "e", "redirect", api.Scopes(scopes)), api.ErrNone)
	}
	want(t, "May at no redirect", s.May(someone, "d", "", 1), api.OK)
	want(t, "May at one", s.May(someone, "d", "redirect", 1), api.ErrWrong)
	wantRows(t, s, before...)
}

// Clients and consents are told by the bytes of clients' names: - 0 9 a z.
func TestOrder(t *testing.T) {
	names := []string{"a", "-", "z", "9"}
	s := grant.New()
	for _, name := range names {
		register(t, s, "t", name, name, 1)
		allow(t, s, someone, name, 1)
	}
	for range 10 {
		wantClients(t, s, "t", client("t", "-", "-", 1), client("t", "9", "9", 1), client("t", "a", "a", 1), client("t", "z", "z", 1))
		wantConsents(t, s, someone, consent(someone, "-", 1), consent(someone, "9", 1), consent(someone, "a", 1), consent(someone, "z", 1))
	}
}

// P3: what was answered may be changed.
func TestAnswersAreApart(t *testing.T) {
	s := grant.New()
	register(t, s, "t", "c", "r", 3)
	allow(t, s, someone, "c", 1)
	s.Clients("t")[0] = client("x", "x", "x", 255)
	s.Consents(someone)[0] = consent(other, "x", 255)
	wantClients(t, s, "t", client("t", "c", "r", 3))
	wantConsents(t, s, someone, consent(someone, "c", 1))
}
