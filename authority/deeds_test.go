package authority_test

import (
	"fmt"
	"math/rand"
	"strings"
	"testing"

	"holdfast/api"
	"holdfast/authority"
	"holdfast/block"
)

// chance makes requests as they come; most of them meet something that is there.
type chance struct {
	*rand.Rand
	m *model
}

func (c chance) pick(texts ...string) string { return texts[c.Intn(len(texts))] }

// seldom is one of few texts that may not be, or a usual one.
func (c chance) seldom(usual string, others ...string) string {
	if c.Intn(8) == 0 {
		return c.pick(others...)
	}
	return usual
}

func (c chance) tenant() string {
	return c.seldom("t", "tenant-09", "a", "b", "c-c", "T", "")
}

func (c chance) user() string {
	return c.seldom(c.pick("u", "v", "user-0009"), "1", "2", "3", "4", "5", "6", "7", "-", "U")
}

func (c chance) client() string {
	return c.seldom(c.pick("c", "client-09"), "d", "e", "f", "C", strings.Repeat("c", 10))
}

func (c chance) scopes() api.Scopes {
	return []api.Scopes{1, 3, 3, 7, 255, 255, 0, 128}[c.Intn(8)]
}

// number is one of the last numbers that were given, or one that was not.
func (c chance) number(given int) int {
	if c.Intn(25) == 0 {
		return []int{0, -1, given + 1, 1 << 40, -1 << 63}[c.Intn(5)]
	}
	return max(1, given-c.Intn(6))
}

func (c chance) time() int {
	switch c.Intn(600) {
	case 0:
		return c.m.now + 200
	case 1:
		return c.m.now + 1000
	case 2, 3, 4, 5:
		return c.m.now + 50
	case 6, 7, 8, 9:
		return c.m.now + 100
	}
	return c.m.now + c.Intn(8)/7
}

func (c chance) codes() []string {
	all := []string{"1", "2", "3", "4", "", strings.Repeat("1", 64)}
	c.Shuffle(len(all), func(i, j int) { all[i], all[j] = all[j], all[i] })
	codes := all[:c.Intn(5)]
	switch c.Intn(15) {
	case 0:
		return append(codes, strings.Repeat("1", 65))
	case 1:
		return append(codes, "1", "1")
	case 2:
		return all
	}
	return codes
}

// ops are those that come up; the more often one stands here, the more often it does.
var ops = []api.Op{
	api.AddUser, api.AddUser, api.AddUser, api.SetCodes, api.SetCodes,
	api.Login, api.Login, api.Login, api.Login, api.Login, api.Login, api.Recover, api.Recover, api.Recover, api.Recover,
	api.Touch, api.Touch, api.Logout,
	api.Register, api.Register, api.Register, api.Allow, api.Allow, api.Allow, api.Allow, api.Allow,
	api.Grant, api.Grant, api.Grant, api.Grant, api.Grant, api.Grant, api.Grant, api.Grant,
	api.Refresh, api.Refresh, api.Refresh, api.Refresh, api.Refresh, api.Access, api.Access, api.Access, api.Exchange, api.Exchange, api.Exchange, api.Revoke,
	api.Anchor, api.Prune, api.Verify, api.Tick,
}

// enders end much; were they as frequent as others, little would ever be there.
var enders = []api.Op{api.RemoveUser, api.ResetUser, api.LogoutAll, api.Narrow, api.DropClient, api.Withdraw, api.RemoveTenant}

func (c chance) op() api.Op {
	if c.Intn(40) == 0 {
		return enders[c.Intn(len(enders))]
	}
	return ops[c.Intn(len(ops))]
}

func (c chance) request() api.Request {
	r := api.Request{Op: c.op(), Now: c.time(), Owner: api.Owner{Tenant: c.tenant(), User: c.user()}, Client: c.client(), Scopes: c.scopes()}
	switch r.Op {
	case api.AddUser, api.ResetUser:
		r.Text, r.Salt, r.N = c.seldom(c.pick("p", "q"), "", strings.Repeat("p", 64), strings.Repeat("p", 65)), c.seldom("s", "", "12345678", "123456789"), 1
		if c.Intn(10) == 0 {
			r.N = []int{0, 65, 64, -1}[c.Intn(4)]
		}
	case api.SetCodes:
		r.Codes = c.codes()
	case api.Login:
		r.Text = c.seldom(c.pick("p", "p", "q"), "", strings.Repeat("p", 65))
	case api.Recover:
		r.Text = c.pick("1", "2", "3", "4", "", "5")
	case api.Register:
		r.Text = c.seldom(c.pick("r", ""), strings.Repeat("r", 24), strings.Repeat("r", 25))
	case api.Touch, api.Logout:
		r.N = c.number(len(c.m.sessions))
	case api.Grant:
		r.N, r.Text, r.Scopes = c.number(len(c.m.sessions)), c.pick("r", "r", ""), r.Scopes&c.scopes()
	case api.Refresh:
		r.N = c.number(len(c.m.families))
		if r.M = 1; r.N >= 1 && r.N <= len(c.m.families) {
			r.M = c.m.families[r.N-1].it.Next
		}
		if c.Intn(4) == 0 {
			r.M += c.Intn(3) - 1
		}
	case api.Revoke:
		r.N = c.number(len(c.m.families))
	case api.Access, api.Exchange:
		r.N = c.number(len(c.m.tokens))
	case api.RemoveTenant:
		r.Owner.Tenant = c.pick("t", "t", "a", "tenant-09", "x", "T")
	case api.Prune:
		n, _ := c.m.chain.Anchored()
		r.N = n - c.Intn(3) + c.Intn(2)
	}
	return r
}

// meeting is an answer that must have come up.
type meeting struct {
	op api.Op
	e  api.Errno
}

func met(op api.Op, errors ...api.Errno) []meeting {
	meetings := []meeting{{op, api.OK}}
	for _, e := range errors {
		meetings = append(meetings, meeting{op, e})
	}
	return meetings
}

func allMeetings() []meeting {
	var all []meeting
	for _, l := range [][]meeting{
		met(api.AddUser, api.ErrName, api.ErrLong, api.ErrRange, api.ErrKnown, api.ErrUsers, api.ErrAudit),
		met(api.RemoveUser, api.ErrNone), met(api.ResetUser, api.ErrName, api.ErrLong, api.ErrRange, api.ErrNone),
		met(api.SetCodes, api.ErrNone, api.ErrRange, api.ErrLong, api.ErrKnown),
		met(api.Login, api.ErrNone, api.ErrLocked, api.ErrWrong, api.ErrSessions), met(api.Recover, api.ErrNone, api.ErrLocked, api.ErrWrong, api.ErrSessions),
		met(api.Touch, api.ErrNone, api.ErrGone), met(api.Logout, api.ErrNone, api.ErrGone), met(api.LogoutAll, api.ErrNone),
		met(api.Register, api.ErrName, api.ErrLong, api.ErrKnown, api.ErrClients), met(api.Narrow, api.ErrNone), met(api.DropClient, api.ErrNone),
		met(api.Allow, api.ErrName, api.ErrNone, api.ErrScope), met(api.Withdraw, api.ErrNone),
		met(api.Grant, api.ErrNone, api.ErrGone, api.ErrWrong, api.ErrScope, api.ErrFamilies),
		met(api.Refresh, api.ErrNone, api.ErrGone, api.ErrWrong, api.ErrReuse), met(api.Access, api.ErrNone, api.ErrGone),
		met(api.Exchange, api.ErrNone, api.ErrGone, api.ErrScope), met(api.Revoke, api.ErrNone, api.ErrGone),
		met(api.RemoveTenant, api.ErrName), met(api.Anchor), met(api.Prune, api.ErrRange), met(api.Verify), met(api.Tick),
	} {
		all = append(all, l...)
	}
	return all
}

// deed does one request to an authority and to its model, and asks that both are the same behind it.
func deed(t *testing.T, a *authority.Authority, m *model, r api.Request) api.Reply {
	t.Helper()
	events := len(m.chain.Events())
	got, want := a.Do(r), m.do(r)
	if !sameReply(got, want) {
		t.Fatalf("%v: %v, not %v", r, got, want)
	}
	if rows, want := a.Rows(), m.rows(); !sameRows(rows, want) {
		t.Fatalf("%v: rows\n%q, not\n%q", r, rows, want)
	}
	if a.Now() != m.now {
		t.Fatal(r, a.Now(), m.now)
	}
	wantNarrow(t, a.Rows())
	added := m.changed && r.Op != api.Tick
	if r.Op != api.Prune && len(a.Events())-events != map[bool]int{true: 1}[added] {
		t.Fatal(r, a.Events())
	}
	return got
}

func TestChanceDeeds(t *testing.T) {
	counts := map[meeting]int{}
	for seed := range 10 {
		m := newModel()
		c := chance{rand.New(rand.NewSource(int64(seed))), m}
		a := newAuthority(t, 700)
		for i := range 2500 {
			r := c.request()
			counts[meeting{r.Op, deed(t, a, m, r).Errno}]++
			if i%50 == 0 {
				want(t, "Check", a.Check(), api.OK)
			}
			if c.Intn(100) == 0 {
				a = reopened(t, a, m)
			}
		}
	}
	for _, one := range allMeetings() {
		if counts[one] == 0 {
			t.Errorf("Op %d never told %d", one.op, one.e)
		}
	}
}

// reopened is the authority of an authority's disk, which has the same state, but for the time.
func reopened(t *testing.T, a *authority.Authority, m *model) *authority.Authority {
	t.Helper()
	b := open(t, a.Disk())
	if !sameRows(a.Rows(), b.Rows()) {
		t.Fatalf("rows\n%q, not\n%q", b.Rows(), a.Rows())
	}
	if b.Now() != m.noted() {
		t.Fatal(b.Now(), m.noted())
	}
	m.now = m.noted()
	return b
}

func TestChanceCuts(t *testing.T) {
	for seed := range 4 {
		m := newModel()
		c := chance{rand.New(rand.NewSource(int64(100 + seed))), m}
		a := newAuthority(t, 300)
		tried := 0
		for range 250 {
			before, from := a.Rows(), a.Disk().Count()
			r := c.request()
			deed(t, a, m, r)
			wantCuts(t, fmt.Sprint(r), a.Disk(), from, before, m.tried, a.Rows())
			if m.tried != nil {
				tried++
			}
		}
		if tried < 10 {
			t.Error("few tries", tried)
		}
	}
}

// wantCuts asks for P15.4: tried is none, if no Try was kept.
func wantCuts(t *testing.T, what string, d *block.Disk, from int, before, tried, after []api.Row) {
	t.Helper()
	met := 0
	for k := from; k <= d.Count(); k++ {
		cut, e := d.Cut(k)
		if e != api.OK {
			t.Fatal(e)
		}
		a := open(t, cut)
		want(t, "Check", a.Check(), api.OK)
		rows := a.Rows()
		isBefore, isTried, isAfter := sameRows(rows, before), tried != nil && sameRows(rows, tried), sameRows(rows, after)
		if !isBefore && !isTried && !isAfter || k == from && !isBefore || k == d.Count() && !isAfter {
			t.Fatalf("%s: cut behind %d of %d writes: %q", what, k-from, d.Count()-from, rows)
		}
		if isTried {
			met++
		}
	}
	if tried != nil && met == 0 {
		t.Fatalf("%s: the try was not kept by itself", what)
	}
}
