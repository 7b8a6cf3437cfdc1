package token_test

import (
	"fmt"
	"math"
	"slices"
	"strings"
	"testing"

	"holdfast/api"
	"holdfast/token"
)

var badNames = []string{"", "A", "a.", "a/b", "#", "abcdefghij", "a b", "\x00", "\xff", "é", strings.Repeat("a", 1<<16)}

var noTimes = []int{-1, api.MaxTime + 1, math.MinInt, math.MaxInt}

var noNumbers = []int{0, -1, math.MinInt, math.MaxInt, api.MaxTime, api.MaxTime + 1}

func row(key string, columns ...string) api.Row { return api.Row{Key: key, Columns: columns} }

func family(id, session int, client string, scopes api.Scopes, next int) api.Family {
	return api.Family{Id: id, Session: session, Client: client, Scopes: scopes, Next: next}
}

func access(id, family int, scopes api.Scopes, until int) api.Token {
	return api.Token{Id: id, Family: family, Scopes: scopes, Until: until}
}

func want(t *testing.T, what string, got, want api.Errno) {
	t.Helper()
	if got != want {
		t.Errorf("%s: %v, not %v", what, got, want)
	}
}

// grant begins a family of the client c.
func grant(t *testing.T, s *token.Store, session int, scopes api.Scopes, now, id, first int) {
	t.Helper()
	f, x, e := s.Grant(session, "c", scopes, now)
	if f != family(id, session, "c", scopes, 1) || x != access(first, id, scopes, now+50) || e != api.OK {
		t.Errorf("Grant(%d, %d): %v %v %v", session, now, f, x, e)
	}
}

func refresh(t *testing.T, s *token.Store, id, number, now, fresh int) {
	t.Helper()
	f, x, e := s.Refresh(id, number, now)
	if f.Id != id || f.Next != number+1 || x != access(fresh, id, f.Scopes, now+50) || e != api.OK {
		t.Errorf("Refresh(%d, %d, %d): %v %v %v", id, number, now, f, x, e)
	}
}

func wantNumbers(t *testing.T, what string, got []int, want ...int) {
	t.Helper()
	if !slices.Equal(got, want) {
		t.Errorf("%s: %v, not %v", what, got, want)
	}
}

func wantTokens(t *testing.T, s *token.Store, id int, want ...int) {
	t.Helper()
	var got []int
	for _, x := range s.Tokens(id) {
		got = append(got, x.Id)
	}
	wantNumbers(t, fmt.Sprintf("Tokens(%d)", id), got, want...)
}

func wantFamilies(t *testing.T, s *token.Store, session int, want ...int) {
	t.Helper()
	var got []int
	for _, f := range s.Families(session) {
		got = append(got, f.Id)
		if g, e := s.Family(f.Id); f != g || e != api.OK || f.Session != session {
			t.Errorf("Families(%d) has %v, Family %v %v", session, f, g, e)
		}
	}
	wantNumbers(t, fmt.Sprintf("Families(%d)", session), got, want...)
}

func sweep(t *testing.T, s *token.Store, now, want int) {
	t.Helper()
	if got, e := s.Sweep(now); got != want || e != api.OK {
		t.Errorf("Sweep(%d): %d %v, not %d", now, got, e, want)
	}
}

func sameRows(a, b []api.Row) bool {
	return slices.EqualFunc(a, b, func(x, y api.Row) bool { return x.Key == y.Key && slices.Equal(x.Columns, y.Columns) })
}

func wantRows(t *testing.T, s *token.Store, want ...api.Row) {
	t.Helper()
	if rows := s.Rows(); !sameRows(rows, want) {
		t.Errorf("Rows: %q, not %q", rows, want)
	}
}

func load(t *testing.T, rows ...api.Row) *token.Store {
	t.Helper()
	s, e := token.Load(rows...)
	if e != api.OK || s == nil {
		t.Fatalf("Load(%q): %v", rows, e)
	}
	return s
}

// Each of these asks for an error, and for no change.

func wantNoGrant(t *testing.T, s *token.Store, session int, client string, now int, e api.Errno) {
	t.Helper()
	before := s.Rows()
	if f, x, err := s.Grant(session, client, 3, now); f != (api.Family{}) || x != (api.Token{}) || err != e {
		t.Errorf("Grant(%d, %.20q, %d): %v %v %v, not %v", session, client, now, f, x, err, e)
	}
	wantRows(t, s, before...)
}

func wantNoRefresh(t *testing.T, s *token.Store, id, number, now int, e api.Errno) {
	t.Helper()
	before := s.Rows()
	if f, x, err := s.Refresh(id, number, now); f != (api.Family{}) || x != (api.Token{}) || err != e {
		t.Errorf("Refresh(%d, %d, %d): %v %v %v, not %v", id, number, now, f, x, err, e)
	}
	wantRows(t, s, before...)
}

func wantNoAccess(t *testing.T, s *token.Store, id, now int, e api.Errno) {
	t.Helper()
	before := s.Rows()
	if x, err := s.Access(id, now); x != (api.Token{}) || err != e {
		t.Errorf("Access(%d, %d): %v %v, not %v", id, now, x, err, e)
	}
	for _, scopes := range []api.Scopes{0, 1, 255} {
		wantNoExchange(t, s, id, scopes, now, e)
	}
	wantRows(t, s, before...)
}

func wantNoExchange(t *testing.T, s *token.Store, id int, scopes api.Scopes, now int, e api.Errno) {
	t.Helper()
	before := s.Rows()
	if x, err := s.Exchange(id, scopes, now); x != (api.Token{}) || err != e {
		t.Errorf("Exchange(%d, %d, %d): %v %v, not %v", id, scopes, now, x, err, e)
	}
	wantRows(t, s, before...)
}

func wantNoSweep(t *testing.T, s *token.Store, now int, e api.Errno) {
	t.Helper()
	before := s.Rows()
	if n, err := s.Sweep(now); n != 0 || err != e {
		t.Errorf("Sweep(%d): %d %v, not %v", now, n, err, e)
	}
	wantRows(t, s, before...)
}

func wantNoFamily(t *testing.T, s *token.Store, id int, e api.Errno) {
	t.Helper()
	before := s.Rows()
	if f, err := s.Family(id); f != (api.Family{}) || err != e {
		t.Errorf("Family(%d): %v %v, not %v", id, f, err, e)
	}
	want(t, fmt.Sprintf("End(%d)", id), s.End(id), e)
	wantTokens(t, s, id)
	wantRows(t, s, before...)
}

func TestNilStore(t *testing.T) {
	var s *token.Store
	for _, now := range append([]int{0, 5, api.MaxTime}, noTimes...) {
		for _, n := range append([]int{1, 2}, noNumbers...) {
			wantNoGrant(t, s, n, "c", now, api.ErrNil)
			wantNoGrant(t, s, n, "C", now, api.ErrNil)
			wantNoRefresh(t, s, n, 1, now, api.ErrNil)
			wantNoRefresh(t, s, 1, n, now, api.ErrNil)
			wantNoAccess(t, s, n, now, api.ErrNil)
			wantNoFamily(t, s, n, api.ErrNil)
			wantFamilies(t, s, n)
		}
		wantNoSweep(t, s, now, api.ErrNil)
	}
	if s.EndSessions() != nil || s.EndSessions(1, 2) != nil || s.EndClient("c", 1) != nil || s.Rows() != nil || s.Fork() != nil {
		t.Error("a nil store answers something")
	}
}

func TestNewStore(t *testing.T) {
	s := token.New()
	wantRows(t, s, row("#", "b1", "b1", "a"))
	for _, n := range append([]int{1, 2}, noNumbers...) {
		wantNoRefresh(t, s, n, 1, 0, api.ErrNone)
		wantNoAccess(t, s, n, 0, api.ErrNone)
		wantNoFamily(t, s, n, api.ErrNone)
		wantFamilies(t, s, n)
	}
	wantNumbers(t, "EndSessions", s.EndSessions(1, 0, -1))
	wantNumbers(t, "EndClient", s.EndClient("c", 1))
	sweep(t, s, 0, 0)
	wantRows(t, s, row("#", "b1", "b1", "a"))
	if token.New() == token.New() {
		t.Error("two stores are one")
	}
}

// The document's example.
func TestExample(t *testing.T) {
	s := token.New()
	grant(t, s, 1, 3, 0, 1, 1)
	wantRows(t, s, row("#", "b2", "b2", "a"), row("fb1", "b1", "c", "b3", "b1"), row("tb1", "b1", "b3", "c32"))
	refresh(t, s, 1, 1, 10, 2)
	wantRows(t, s, row("#", "b2", "b3", "ba"), row("fb1", "b1", "c", "b3", "b2"), row("tb1", "b1", "b3", "c32"), row("tb2", "b1", "b3", "c3c"))
	if f, x, e := s.Refresh(1, 1, 11); f != (api.Family{}) || x != (api.Token{}) || e != api.ErrReuse {
		t.Error(f, x, e)
	}
	wantRows(t, s, row("#", "b2", "b3", "bb"))
	wantNoAccess(t, s, 1, 11, api.ErrGone)
	wantNoAccess(t, s, 2, 11, api.ErrGone)
}

func TestGrant(t *testing.T) {
	s := token.New()
	for i, scopes := range []api.Scopes{0, 1, 128, 255} {
		grant(t, s, i+1, scopes, 10*i, i+1, i+1)
	}
	f, x, e := s.Grant(1<<62, "abcdefghi", 7, 40)
	if f != family(5, 1<<62, "abcdefghi", 7, 1) || x != access(5, 5, 7, 90) || e != api.OK {
		t.Error(f, x, e)
	}
	wantRows(t, s, row("#", "b6", "b6", "c28"),
		row("fb1", "b1", "c", "a", "b1"), row("fb2", "b2", "c", "b1", "b1"), row("fb3", "b3", "c", "c80", "b1"), row("fb4", "b4", "c", "cff", "b1"),
		row("fb5", "q4000000000000000", "abcdefghi", "b7", "b1"),
		row("tb1", "b1", "a", "c32"), row("tb2", "b2", "b1", "c3c"), row("tb3", "b3", "c80", "c46"), row("tb4", "b4", "cff", "c50"), row("tb5", "b5", "b7", "c5a"))
	wantRows(t, load(t, s.Rows()...), s.Rows()...)
}

func TestGrantRefuses(t *testing.T) {
	s := token.New()
	grant(t, s, 1, 3, 10, 1, 1)
	grant(t, s, 1, 3, 10, 2, 2)
	for _, client := range append([]string{"c"}, badNames...) {
		for _, session := range []int{0, -1, math.MinInt} {
			wantNoGrant(t, s, session, client, 10, api.ErrRange)
			wantNoGrant(t, s, session, client, 0, api.ErrRange)
		}
		for _, now := range noTimes {
			wantNoGrant(t, s, 1, client, now, api.ErrRange)
			wantNoGrant(t, s, 2, client, now, api.ErrRange)
		}
	}
	for _, bad := range badNames {
		for _, now := range []int{0, 9, 10} {
			wantNoGrant(t, s, 1, bad, now, api.ErrName)
		}
	}
	wantNoGrant(t, s, 1, "c", 0, api.ErrBack)
	wantNoGrant(t, s, 2, "c", 9, api.ErrBack)
	wantNoGrant(t, s, 1, "c", 10, api.ErrFamilies)
	wantNoGrant(t, s, 1, "d", 10, api.ErrFamilies)
	grant(t, s, 2, 3, 10, 3, 3)
}

// A family counts till it is ended, whatever becomes of its tokens.
func TestTooManyFamilies(t *testing.T) {
	s := token.New()
	for i := range api.MaxFamilies {
		grant(t, s, 7, 1, 0, i+1, i+1)
	}
	wantNoGrant(t, s, 7, "c", 0, api.ErrFamilies)
	sweep(t, s, 1000, 2)
	wantNoGrant(t, s, 7, "c", 1000, api.ErrFamilies)
	want(t, "End", s.End(1), api.OK)
	grant(t, s, 7, 1, 1000, 3, 3)
	wantNoGrant(t, s, 7, "d", 1000, api.ErrFamilies)
	refresh(t, s, 2, 1, 1000, 4)
	if _, _, e := s.Refresh(2, 1, 1000); e != api.ErrReuse {
		t.Error(e)
	}
	grant(t, s, 7, 1, 1000, 4, 5)
	wantNoGrant(t, s, 7, "d", 1000, api.ErrFamilies)
	wantNumbers(t, "EndSessions", s.EndSessions(7), 3, 4)
	grant(t, s, 7, 1, 1000, 5, 6)
}

func TestNumbersOfFamiliesEnd(t *testing.T) {
	s := load(t, row("#", "l10000000000", "b1", "a"))
	grant(t, s, 1, 1, 0, api.MaxTime, 1)
	wantNoGrant(t, s, 2, "c", 0, api.ErrFull)
	refresh(t, s, api.MaxTime, 1, 0, 2)
	if x, e := s.Exchange(1, 1, 0); x != access(3, api.MaxTime, 1, 50) || e != api.OK {
		t.Error(x, e)
	}
	want(t, "End", s.End(api.MaxTime), api.OK)
	wantNoGrant(t, s, 2, "c", 0, api.ErrFull)
	wantNoFamily(t, s, api.MaxTime, api.ErrGone)
	wantNoFamily(t, s, api.MaxTime+1, api.ErrNone)
	wantRows(t, s, row("#", "l10000000001", "b4", "a"))
}

func TestNumbersOfTokensEnd(t *testing.T) {
	s := load(t, row("#", "b2", "l10000000000", "a"), row("fb1", "b1", "c", "b3", "b1"))
	refresh(t, s, 1, 1, 0, api.MaxTime)
	wantNoGrant(t, s, 2, "c", 0, api.ErrFull)
	wantNoRefresh(t, s, 1, 2, 0, api.ErrFull)
	wantNoRefresh(t, s, 1, 3, 0, api.ErrWrong)
	wantNoExchange(t, s, api.MaxTime, 4, 0, api.ErrScope)
	wantNoExchange(t, s, api.MaxTime, 3, 0, api.ErrFull)
	wantNoAccess(t, s, api.MaxTime+1, 0, api.ErrNone)
	if x, e := s.Access(api.MaxTime, 49); x != access(api.MaxTime, 1, 3, 50) || e != api.OK {
		t.Error(x, e)
	}
	wantRows(t, s, row("#", "b2", "l10000000001", "a"), row("fb1", "b1", "c", "b3", "b2"), row("tl10000000000", "b1", "b3", "c32"))
	if _, _, e := s.Refresh(1, 1, 0); e != api.ErrReuse {
		t.Error(e)
	}
	wantRows(t, s, row("#", "b2", "l10000000001", "a"))
}

// ErrFull stands ahead of ErrFamilies.
func TestFullAndTooMany(t *testing.T) {
	for _, head := range []api.Row{row("#", "l10000000001", "b9", "b1"), row("#", "b9", "l10000000001", "b1")} {
		s := load(t, head, row("fb1", "b1", "c", "b3", "b1"), row("fb2", "b1", "c", "b3", "b1"))
		wantNoGrant(t, s, 1, "c", 0, api.ErrBack)
		wantNoGrant(t, s, 1, "c", 1, api.ErrFull)
	}
}

func TestTheLastRefreshToken(t *testing.T) {
	s := load(t, row("#", "b2", "b1", "a"), row("fb1", "b1", "c", "b3", "kffffffffff"))
	refresh(t, s, 1, api.MaxTime-1, 0, 1)
	wantNoRefresh(t, s, 1, api.MaxTime, 0, api.ErrFull)
	wantNoRefresh(t, s, 1, api.MaxTime+1, 0, api.ErrWrong)
	wantRows(t, load(t, s.Rows()...), s.Rows()...)
	if _, _, e := s.Refresh(1, api.MaxTime-1, 0); e != api.ErrReuse {
		t.Error(e)
	}
	wantNoFamily(t, s, 1, api.ErrGone)
}

func TestRefresh(t *testing.T) {
	s := token.New()
	grant(t, s, 1, 5, 0, 1, 1)
	for i := 1; i < 40; i++ {
		refresh(t, s, 1, i, i, i+1)
	}
	if f, e := s.Family(1); f != family(1, 1, "c", 5, 40) || e != api.OK {
		t.Error(f, e)
	}
	// Those ahead are good as long as they last.
	for id := 1; id <= 40; id++ {
		until := 50 + id - 1
		if x, e := s.Access(id, until-1); x != access(id, 1, 5, until) || e != api.OK {
			t.Error(x, e)
		}
		wantNoAccess(t, s, id, until, api.ErrGone)
	}
}

func TestRefreshRefuses(t *testing.T) {
	s := token.New()
	grant(t, s, 1, 3, 5, 1, 1)
	grant(t, s, 1, 3, 5, 2, 2)
	refresh(t, s, 1, 1, 10, 3)
	want(t, "End", s.End(2), api.OK)
	for _, id := range append([]int{1, 2, 3}, noNumbers...) {
		for _, number := range append([]int{1, 2, 3}, noNumbers...) {
			for _, now := range noTimes {
				wantNoRefresh(t, s, id, number, now, api.ErrRange)
			}
			wantNoRefresh(t, s, id, number, 9, api.ErrBack)
			wantNoRefresh(t, s, id, number, 0, api.ErrBack)
		}
	}
	for _, number := range append([]int{1, 2, 3}, noNumbers...) {
		for _, id := range append([]int{3, 4}, noNumbers...) {
			wantNoRefresh(t, s, id, number, 10, api.ErrNone)
		}
		wantNoRefresh(t, s, 2, number, 10, api.ErrGone)
	}
	for _, number := range append([]int{3, 4}, noNumbers...) {
		wantNoRefresh(t, s, 1, number, 500, api.ErrWrong)
	}
	refresh(t, s, 1, 2, 10, 4)
}

// P12.6, of every number that was spent; what is of other families stays.
func TestReuse(t *testing.T) {
	for spent := 1; spent < 6; spent++ {
		s := token.New()
		grant(t, s, 1, 3, 0, 1, 1)
		grant(t, s, 1, 3, 0, 2, 2)
		for i := 1; i < 6; i++ {
			refresh(t, s, 1, i, 0, i+2)
		}
		if x, e := s.Exchange(7, 1, 0); x.Id != 8 || e != api.OK {
			t.Error(x, e)
		}
		wantTokens(t, s, 1, 1, 3, 4, 5, 6, 7, 8)
		if f, x, e := s.Refresh(1, spent, 9); f != (api.Family{}) || x != (api.Token{}) || e != api.ErrReuse {
			t.Error(spent, f, x, e)
		}
		wantNoFamily(t, s, 1, api.ErrGone)
		for number := range 8 {
			wantNoRefresh(t, s, 1, number, 9, api.ErrGone)
		}
		for _, id := range []int{1, 3, 4, 5, 6, 7, 8} {
			wantNoAccess(t, s, id, 9, api.ErrGone)
		}
		wantNoAccess(t, s, 2, 8, api.ErrBack)
		wantFamilies(t, s, 1, 2)
		wantTokens(t, s, 2, 2)
		refresh(t, s, 2, 1, 9, 9)
	}
}

func TestAccess(t *testing.T) {
	s := token.New()
	grant(t, s, 1, 3, 5, 1, 1)
	before := s.Rows()
	for _, now := range []int{54, 5, 30} {
		if x, e := s.Access(1, now); x != access(1, 1, 3, 55) || e != api.OK {
			t.Error(x, e)
		}
		wantRows(t, s, before...)
	}
	wantNoAccess(t, s, 1, 55, api.ErrGone)
	wantNoAccess(t, s, 1, api.MaxTime, api.ErrGone)
	for _, id := range append([]int{1, 2}, noNumbers...) {
		for _, now := range noTimes {
			wantNoAccess(t, s, id, now, api.ErrRange)
		}
		wantNoAccess(t, s, id, 4, api.ErrBack)
		wantNoAccess(t, s, id, 0, api.ErrBack)
	}
	for _, id := range append([]int{2, 3}, noNumbers...) {
		wantNoAccess(t, s, id, 5, api.ErrNone)
		wantNoAccess(t, s, id, api.MaxTime, api.ErrNone)
	}
}

func TestExchange(t *testing.T) {
	s := token.New()
	grant(t, s, 1, 7, 0, 1, 1)
	if x, e := s.Exchange(1, 5, 20); x != access(2, 1, 5, 50) || e != api.OK {
		t.Error(x, e)
	}
	if x, e := s.Exchange(2, 5, 49); x != access(3, 1, 5, 50) || e != api.OK {
		t.Error(x, e)
	}
	wantNoExchange(t, s, 1, 7, 48, api.ErrBack)
	wantNoExchange(t, s, 2, 2, 49, api.ErrScope)
	wantNoExchange(t, s, 2, 7, 49, api.ErrScope)
	wantNoExchange(t, s, 2, 7, 50, api.ErrGone)
	if x, e := s.Exchange(3, 0, 49); x != access(4, 1, 0, 50) || e != api.OK {
		t.Error(x, e)
	}
	wantNoExchange(t, s, 4, 1, 49, api.ErrScope)
	wantRows(t, s, row("#", "b2", "b5", "c31"), row("fb1", "b1", "c", "b7", "b1"),
		row("tb1", "b1", "b7", "c32"), row("tb2", "b1", "b5", "c32"), row("tb3", "b1", "b5", "c32"), row("tb4", "b1", "a", "c32"))
	// An exchange is of access tokens: the family's next one has all scopes again.
	if f, x, e := s.Refresh(1, 1, 49); f.Next != 2 || x != access(5, 1, 7, 99) || e != api.OK {
		t.Error(f, x, e)
	}
}

// All scopes against all others (P12.5).
func TestNarrower(t *testing.T) {
	s := token.New()
	id := 0
	for have := range 256 {
		_, x, e := s.Grant(have+1, "c", api.Scopes(have), 0)
		want(t, "Grant", e, api.OK)
		id = x.Id
		for ask := range 256 {
			y, e := s.Exchange(id, api.Scopes(ask), 0)
			if narrower := ask|have == have; narrower && (e != api.OK || y.Scopes != api.Scopes(ask)) || !narrower && (e != api.ErrScope || y != (api.Token{})) {
				t.Fatal(have, ask, y, e)
			}
		}
		want(t, "End", s.End(have+1), api.OK)
	}
}

func TestTimeIsNoted(t *testing.T) {
	for what, deed := range map[string]func(*token.Store) api.Errno{
		"Grant":    func(s *token.Store) api.Errno { _, _, e := s.Grant(2, "c", 1, 40); return e },
		"Refresh":  func(s *token.Store) api.Errno { _, _, e := s.Refresh(1, 2, 40); return e },
		"Exchange": func(s *token.Store) api.Errno { _, e := s.Exchange(1, 1, 40); return e },
		"Sweep":    func(s *token.Store) api.Errno { _, e := s.Sweep(40); return e },
		"Reuse":    func(s *token.Store) api.Errno { _, _, e := s.Refresh(1, 1, 40); return e - api.ErrReuse },
	} {
		s := token.New()
		grant(t, s, 1, 3, 0, 1, 1)
		refresh(t, s, 1, 1, 0, 2)
		want(t, what, deed(s), api.OK)
		wantNoGrant(t, s, 3, "c", 39, api.ErrBack)
		wantNoRefresh(t, s, 1, 2, 39, api.ErrBack)
		wantNoAccess(t, s, 1, 39, api.ErrBack)
		wantNoSweep(t, s, 39, api.ErrBack)
		if head := s.Rows()[0]; head.Columns[2] != "c28" {
			t.Errorf("%s: %q", what, head)
		}
		if _, _, e := s.Grant(3, "c", 1, 40); e != api.OK {
			t.Error(what, e)
		}
	}
}

func TestEnd(t *testing.T) {
	s := token.New()
	grant(t, s, 1, 3, 0, 1, 1)
	grant(t, s, 1, 3, 0, 2, 2)
	refresh(t, s, 1, 1, 0, 3)
	want(t, "End", s.End(1), api.OK)
	wantNoFamily(t, s, 1, api.ErrGone)
	wantNoAccess(t, s, 1, 0, api.ErrGone)
	wantNoAccess(t, s, 3, 0, api.ErrGone)
	wantNoRefresh(t, s, 1, 2, 0, api.ErrGone)
	for _, id := range append([]int{3, 4}, noNumbers...) {
		wantNoFamily(t, s, id, api.ErrNone)
	}
	wantRows(t, s, row("#", "b3", "b4", "a"), row("fb2", "b1", "c", "b3", "b1"), row("tb2", "b2", "b3", "c32"))
	sweep(t, s, 50, 1)
	want(t, "End of one without tokens", s.End(2), api.OK)
	wantRows(t, s, row("#", "b3", "b4", "c32"))
}

// clients is a store of sessions 1 to 4 with a family of the client c, and one of d, each: 1 to 8.
func clients(t *testing.T) *token.Store {
	t.Helper()
	s := token.New()
	for session := 1; session <= 4; session++ {
		for _, client := range []string{"c", "d"} {
			if _, _, e := s.Grant(session, client, 3, 0); e != api.OK {
				t.Error(e)
			}
		}
	}
	return s
}

func TestEndSessions(t *testing.T) {
	s := clients(t)
	for _, sessions := range [][]int{nil, {}, {0}, {5}, noNumbers} {
		wantNumbers(t, "EndSessions of none", s.EndSessions(sessions...))
	}
	want(t, "End", s.End(5), api.OK)
	wantNumbers(t, "EndSessions", s.EndSessions(3, 1, 3, 0, 9), 1, 2, 6)
	wantNumbers(t, "EndSessions again", s.EndSessions(3, 1))
	for _, id := range []int{1, 2, 5, 6} {
		wantNoFamily(t, s, id, api.ErrGone)
		wantNoAccess(t, s, id, 0, api.ErrGone)
	}
	wantFamilies(t, s, 1)
	wantFamilies(t, s, 2, 3, 4)
	wantFamilies(t, s, 3)
	wantFamilies(t, s, 4, 7, 8)
	for _, id := range []int{3, 4, 7, 8} {
		wantTokens(t, s, id, id)
	}
	many := make([]int, 1<<16)
	for i := range many {
		many[i] = 1<<16 - i
	}
	wantNumbers(t, "EndSessions of many", s.EndSessions(many...), 3, 4, 7, 8)
	wantRows(t, s, row("#", "b9", "b9", "a"))
}

func TestEndClient(t *testing.T) {
	s := clients(t)
	wantNumbers(t, "EndClient without sessions", s.EndClient("c"))
	for _, client := range append([]string{"e", "cc"}, badNames...) {
		wantNumbers(t, "EndClient of none", s.EndClient(client, 1, 2, 3, 4))
	}
	wantNumbers(t, "EndClient of no session", s.EndClient("c", noNumbers...))
	wantNumbers(t, "EndClient", s.EndClient("d", 4, 2, 4, 0), 4, 8)
	wantNumbers(t, "EndClient again", s.EndClient("d", 4, 2))
	wantNumbers(t, "EndClient", s.EndClient("c", 4), 7)
	for _, id := range []int{4, 7, 8} {
		wantNoFamily(t, s, id, api.ErrGone)
		wantNoAccess(t, s, id, 0, api.ErrGone)
	}
	wantFamilies(t, s, 1, 1, 2)
	wantFamilies(t, s, 2, 3)
	wantFamilies(t, s, 3, 5, 6)
	wantFamilies(t, s, 4)
	for _, id := range []int{1, 2, 3, 5, 6} {
		wantTokens(t, s, id, id)
	}
}

func TestSweep(t *testing.T) {
	s := token.New()
	grant(t, s, 1, 3, 0, 1, 1)
	grant(t, s, 2, 3, 5, 2, 2)
	refresh(t, s, 1, 1, 10, 3)
	if x, e := s.Exchange(1, 1, 12); x.Id != 4 || e != api.OK {
		t.Error(x, e)
	}
	sweep(t, s, 49, 0)
	wantTokens(t, s, 1, 1, 3, 4)
	sweep(t, s, 50, 2)
	sweep(t, s, 50, 0)
	wantTokens(t, s, 1, 3)
	wantTokens(t, s, 2, 2)
	sweep(t, s, 60, 2)
	wantRows(t, s, row("#", "b3", "b5", "c3c"), row("fb1", "b1", "c", "b3", "b2"), row("fb2", "b2", "c", "b3", "b1"))
	for _, id := range []int{1, 2, 3, 4} {
		wantNoAccess(t, s, id, 60, api.ErrGone)
	}
	for _, now := range noTimes {
		wantNoSweep(t, s, now, api.ErrRange)
	}
	wantNoSweep(t, s, 59, api.ErrBack)
	refresh(t, s, 1, 2, 60, 5)
}

func TestFamiliesAndTokens(t *testing.T) {
	s := token.New()
	grant(t, s, 5, 3, 0, 1, 1)
	grant(t, s, 6, 7, 0, 2, 2)
	grant(t, s, 5, 1, 0, 3, 3)
	for i := 1; i < 30; i++ {
		refresh(t, s, 2, i, i, i+3)
	}
	for range 5 {
		if got := s.Families(5); !slices.Equal(got, []api.Family{family(1, 5, "c", 3, 1), family(3, 5, "c", 1, 1)}) {
			t.Error(got)
		}
		if got := s.Tokens(2); len(got) != 30 || got[0] != access(2, 2, 7, 50) || got[29] != access(32, 2, 7, 79) || !slices.IsSortedFunc(got, func(x, y api.Token) int { return x.Id - y.Id }) {
			t.Error(got)
		}
	}
	wantFamilies(t, s, 6, 2)
	for _, n := range append([]int{4, 7}, noNumbers...) {
		wantFamilies(t, s, n)
		wantTokens(t, s, n)
	}
	clear(s.Families(5))
	clear(s.Tokens(2))
	wantFamilies(t, s, 5, 1, 3)
	wantTokens(t, s, 3, 3)
	if got := s.Tokens(2); got[0].Id != 2 {
		t.Error(got)
	}
}

// A token lasts at most to the last tick, and is not good then.
func TestTheLastTime(t *testing.T) {
	const last = api.MaxTime
	for now, until := range map[int]int{last - 51: last - 1, last - 50: last, last - 49: last, last - 1: last, last: last} {
		s := token.New()
		if _, x, e := s.Grant(1, "c", 1, now); x != access(1, 1, 1, until) || e != api.OK {
			t.Error(now, x, e)
		}
		if _, x, e := s.Refresh(1, 1, now); x != access(2, 1, 1, until) || e != api.OK {
			t.Error(now, x, e)
		}
		wantNoAccess(t, s, 1, last, api.ErrGone)
		if now < last {
			x, e := s.Access(1, until-1)
			if x != access(1, 1, 1, until) || e != api.OK {
				t.Error(now, x, e)
			}
		}
		wantRows(t, load(t, s.Rows()...), s.Rows()...)
		sweep(t, s, last, 2)
	}
}

// The document names no greatest session: one above 2^62 has a family, though no row has a text for it.
func TestGreatSessions(t *testing.T) {
	s := token.New()
	grant(t, s, math.MaxInt, 1, 0, 1, 1)
	wantFamilies(t, s, math.MaxInt, 1)
	refresh(t, s, 1, 1, 0, 2)
	wantForm(t, s.Rows()...)
	wantNumbers(t, "EndSessions", s.EndSessions(math.MaxInt), 1)
	wantRows(t, load(t, s.Rows()...), s.Rows()...)
}
