package session_test

import (
	"fmt"
	"math"
	"slices"
	"strings"
	"testing"

	"holdfast/api"
	"holdfast/session"
)

var badNames = []string{"", "A", "a.", "a/b", "#", "abcdefghij", "a b", "\x00", "\xff", "é", strings.Repeat("a", 1<<16)}

var noTimes = []int{-1, api.MaxTime + 1, math.MinInt, math.MaxInt}

var noNumbers = []int{0, -1, math.MinInt, math.MaxInt, api.MaxTime, api.MaxTime + 1}

var someone, other = owner("t", "u"), owner("t", "v")

func owner(tenant, user string) api.Owner { return api.Owner{Tenant: tenant, User: user} }

func row(key string, columns ...string) api.Row { return api.Row{Key: key, Columns: columns} }

func one(id int, o api.Owner, since, used int) api.Session {
	return api.Session{Id: id, Owner: o, Since: since, Used: used}
}

func want(t *testing.T, what string, got, want api.Errno) {
	t.Helper()
	if got != want {
		t.Errorf("%s: %v, not %v", what, got, want)
	}
}

func begin(t *testing.T, s *session.Table, o api.Owner, now, id int) {
	t.Helper()
	if got, e := s.Begin(o, now); got != one(id, o, now, now) || e != api.OK {
		t.Errorf("Begin(%v, %d): %v %v", o, now, got, e)
	}
}

func touch(t *testing.T, s *session.Table, id, now int) {
	t.Helper()
	if got, e := s.Touch(id, now); got.Id != id || got.Used != now || e != api.OK {
		t.Errorf("Touch(%d, %d): %v %v", id, now, got, e)
	}
}

func wantNumbers(t *testing.T, what string, got []int, want ...int) {
	t.Helper()
	if !slices.Equal(got, want) {
		t.Errorf("%s: %v, not %v", what, got, want)
	}
}

func sweep(t *testing.T, s *session.Table, now int, want ...int) {
	t.Helper()
	got, e := s.Sweep(now)
	if e != api.OK {
		t.Errorf("Sweep(%d): %v", now, e)
	}
	wantNumbers(t, fmt.Sprintf("Sweep(%d)", now), got, want...)
}

func wantLive(t *testing.T, s *session.Table, o api.Owner, now int, want ...int) {
	t.Helper()
	live, e := s.Live(o, now)
	if e != api.OK {
		t.Errorf("Live(%v, %d): %v", o, now, e)
	}
	var got []int
	for _, x := range live {
		got = append(got, x.Id)
		if y, e := s.Get(x.Id, now); x != y || e != api.OK || x.Owner != o {
			t.Errorf("Live(%v, %d) has %v, Get %v %v", o, now, x, y, e)
		}
	}
	wantNumbers(t, fmt.Sprintf("Live(%v, %d)", o, now), got, want...)
}

func sameRows(a, b []api.Row) bool {
	return slices.EqualFunc(a, b, func(x, y api.Row) bool { return x.Key == y.Key && slices.Equal(x.Columns, y.Columns) })
}

func wantRows(t *testing.T, s *session.Table, want ...api.Row) {
	t.Helper()
	if rows := s.Rows(); !sameRows(rows, want) {
		t.Errorf("Rows: %q, not %q", rows, want)
	}
}

func load(t *testing.T, rows ...api.Row) *session.Table {
	t.Helper()
	s, e := session.Load(rows...)
	if e != api.OK || s == nil {
		t.Fatalf("Load(%q): %v", rows, e)
	}
	return s
}

// wantRefused asks for one error of all calls that want a session and a time, and for no change.
func wantRefused(t *testing.T, s *session.Table, id, now int, e api.Errno) {
	t.Helper()
	before := s.Rows()
	if got, err := s.Touch(id, now); got != (api.Session{}) || err != e {
		t.Errorf("Touch(%d, %d): %v %v, not %v", id, now, got, err, e)
	}
	if got, err := s.Get(id, now); got != (api.Session{}) || err != e {
		t.Errorf("Get(%d, %d): %v %v, not %v", id, now, got, err, e)
	}
	wantRows(t, s, before...)
}

func wantNoBegin(t *testing.T, s *session.Table, o api.Owner, now int, e api.Errno) {
	t.Helper()
	before := s.Rows()
	if got, err := s.Begin(o, now); got != (api.Session{}) || err != e {
		t.Errorf("Begin(%.30q, %d): %v %v, not %v", o, now, got, err, e)
	}
	wantRows(t, s, before...)
}

func wantNoTime(t *testing.T, s *session.Table, now int, e api.Errno) {
	t.Helper()
	before := s.Rows()
	if got, err := s.Sweep(now); len(got) != 0 || err != e {
		t.Errorf("Sweep(%d): %v %v, not %v", now, got, err, e)
	}
	if got, err := s.Live(someone, now); len(got) != 0 || err != e {
		t.Errorf("Live(%d): %v %v, not %v", now, got, err, e)
	}
	wantRows(t, s, before...)
}

func TestNilTable(t *testing.T) {
	var s *session.Table
	for _, now := range append([]int{0, 5, api.MaxTime}, noTimes...) {
		for _, id := range append([]int{1, 2}, noNumbers...) {
			wantRefused(t, s, id, now, api.ErrNil)
			want(t, "End", s.End(id), api.ErrNil)
		}
		wantNoBegin(t, s, someone, now, api.ErrNil)
		wantNoBegin(t, s, owner("", "A"), now, api.ErrNil)
		wantNoTime(t, s, now, api.ErrNil)
	}
	if s.EndAll(someone) != nil || s.Rows() != nil || s.Fork() != nil {
		t.Error(s.EndAll(someone), s.Rows(), s.Fork())
	}
}

func TestNewTable(t *testing.T) {
	s := session.New()
	wantRows(t, s, row("#", "b1", "a"))
	for _, id := range append([]int{1, 2}, noNumbers...) {
		wantRefused(t, s, id, 0, api.ErrNone)
		want(t, "End", s.End(id), api.ErrNone)
	}
	wantNumbers(t, "EndAll", s.EndAll(someone))
	wantLive(t, s, someone, 0)
	sweep(t, s, 0)
	wantRows(t, s, row("#", "b1", "a"))
	if session.New() == session.New() {
		t.Error("two tables are one")
	}
}

func TestBegin(t *testing.T) {
	s := session.New()
	begin(t, s, someone, 0, 1)
	begin(t, s, owner("abcdefghi", "-"), 3, 2)
	begin(t, s, someone, 3, 3)
	begin(t, s, owner("u", "t"), 300, 4)
	wantRows(t, s, row("#", "b5", "d12c"), row("b1", "t", "u", "a", "a"), row("b2", "abcdefghi", "-", "b3", "b3"),
		row("b3", "t", "u", "b3", "b3"), row("b4", "u", "t", "d12c", "d12c"))
}

func TestBeginRefuses(t *testing.T) {
	s := session.New()
	begin(t, s, someone, 10, 1)
	for _, bad := range badNames {
		for _, now := range append([]int{0, 9, 10}, noTimes...) {
			wantNoBegin(t, s, owner(bad, "u"), now, api.ErrName)
			wantNoBegin(t, s, owner("t", bad), now, api.ErrName)
		}
	}
	for _, now := range noTimes {
		wantNoBegin(t, s, someone, now, api.ErrRange)
	}
	for _, now := range []int{0, 9} {
		wantNoBegin(t, s, someone, now, api.ErrBack)
		wantNoBegin(t, s, other, now, api.ErrBack)
	}
	begin(t, s, someone, 10, 2)
}

func TestTooManySessions(t *testing.T) {
	s := session.New()
	for i := range api.MaxSessions {
		begin(t, s, someone, 10*i, i+1)
	}
	wantNoBegin(t, s, someone, 20, api.ErrSessions)
	wantNoBegin(t, s, someone, 199, api.ErrSessions)
	wantNoBegin(t, s, someone, 0, api.ErrBack)
	for _, o := range []api.Owner{other, owner("v", "u"), owner("u", "t")} {
		for range api.MaxSessions {
			if _, e := s.Begin(o, 20); e != api.OK {
				t.Error(o, e)
			}
		}
		wantNoBegin(t, s, o, 20, api.ErrSessions)
	}
	// The first one is over at 200: it counts no more, swept or not.
	begin(t, s, someone, 200, 13)
	wantNoBegin(t, s, someone, 200, api.ErrSessions)
	want(t, "End", s.End(2), api.OK)
	begin(t, s, someone, 200, 14)
	wantNoBegin(t, s, someone, 200, api.ErrSessions)
	wantNumbers(t, "EndAll", s.EndAll(someone), 1, 3, 13, 14)
	begin(t, s, someone, 200, 15)
}

func TestNumbersEnd(t *testing.T) {
	s := load(t, row("#", "l10000000000", "a"))
	begin(t, s, someone, 0, api.MaxTime)
	wantRows(t, s, row("#", "l10000000001", "a"), row("l10000000000", "t", "u", "a", "a"))
	wantNoBegin(t, s, someone, 0, api.ErrFull)
	wantNoBegin(t, s, someone, api.MaxTime+1, api.ErrRange)
	want(t, "End", s.End(api.MaxTime), api.OK)
	wantNoBegin(t, s, someone, 0, api.ErrFull)
	want(t, "End", s.End(api.MaxTime), api.ErrGone)
	want(t, "End", s.End(api.MaxTime+1), api.ErrNone)
	full := load(t, row("#", "l10000000001", "b5"), row("b1", "t", "u", "a", "a"), row("b2", "t", "u", "a", "a"), row("b3", "t", "u", "a", "a"))
	wantNoBegin(t, full, someone, 4, api.ErrBack)
	wantNoBegin(t, full, someone, 5, api.ErrFull)
}

// The document's example.
func TestTouch(t *testing.T) {
	s := session.New()
	begin(t, s, someone, 0, 1)
	if got, e := s.Touch(1, 199); got != one(1, someone, 0, 199) || e != api.OK {
		t.Error(got, e)
	}
	wantRows(t, s, row("#", "b2", "cc7"), row("b1", "t", "u", "a", "cc7"))
	wantRefused(t, s, 1, 399, api.ErrGone)
	// What was refused noted no time.
	if got, e := s.Touch(1, 398); got != one(1, someone, 0, 398) || e != api.OK {
		t.Error(got, e)
	}
}

func TestTouchAndGetRefuse(t *testing.T) {
	s := session.New()
	begin(t, s, someone, 5, 1)
	begin(t, s, someone, 5, 2)
	begin(t, s, other, 5, 3)
	want(t, "End", s.End(2), api.OK)
	for _, id := range append([]int{1, 2, 4}, noNumbers...) {
		for _, now := range noTimes {
			wantRefused(t, s, id, now, api.ErrRange)
		}
		wantRefused(t, s, id, 0, api.ErrBack)
		wantRefused(t, s, id, 4, api.ErrBack)
	}
	for _, id := range append([]int{4, 5}, noNumbers...) {
		wantRefused(t, s, id, 5, api.ErrNone)
		wantRefused(t, s, id, api.MaxTime, api.ErrNone)
	}
	wantRefused(t, s, 2, 5, api.ErrGone)
	wantRefused(t, s, 1, 205, api.ErrGone)
	wantRefused(t, s, 1, api.MaxTime, api.ErrGone)
	touch(t, s, 1, 204)
	wantRefused(t, s, 3, 205, api.ErrGone)
	touch(t, s, 3, 204)
}

// However often it is used, a session is over when Absolute have passed.
func TestAbsolute(t *testing.T) {
	s := session.New()
	begin(t, s, someone, 7, 1)
	for now := 150; now < 1000; now += 150 {
		touch(t, s, 1, now)
	}
	wantRefused(t, s, 1, 1007, api.ErrGone)
	touch(t, s, 1, 1006)
	wantLive(t, s, someone, 1006, 1)
	wantLive(t, s, someone, 1007)
	wantRefused(t, s, 1, 1007, api.ErrGone)
	sweep(t, s, 1006)
	sweep(t, s, 1007, 1)
}

func TestGetAndLiveNoteNothing(t *testing.T) {
	s := session.New()
	begin(t, s, someone, 0, 1)
	before := s.Rows()
	for _, now := range []int{199, 100, 0, 150} {
		if got, e := s.Get(1, now); got != one(1, someone, 0, 0) || e != api.OK {
			t.Error(now, got, e)
		}
		wantLive(t, s, someone, now, 1)
		wantRows(t, s, before...)
	}
	wantRefused(t, s, 1, 200, api.ErrGone)
	wantLive(t, s, someone, 200)
	wantLive(t, s, someone, api.MaxTime)
	wantRows(t, s, before...)
	touch(t, s, 1, 0)
}

func TestTimeIsNoted(t *testing.T) {
	for what, deed := range map[string]func(*session.Table) api.Errno{
		"Begin": func(s *session.Table) api.Errno { _, e := s.Begin(other, 50); return e },
		"Touch": func(s *session.Table) api.Errno { _, e := s.Touch(1, 50); return e },
		"Sweep": func(s *session.Table) api.Errno { _, e := s.Sweep(50); return e },
	} {
		s := session.New()
		begin(t, s, someone, 0, 1)
		want(t, what, deed(s), api.OK)
		wantRefused(t, s, 1, 49, api.ErrBack)
		wantNoBegin(t, s, someone, 49, api.ErrBack)
		wantNoTime(t, s, 49, api.ErrBack)
		wantLive(t, s, someone, 50, 1)
		touch(t, s, 1, 50)
		if head := s.Rows()[0]; head.Columns[1] != "c32" {
			t.Errorf("%s: %q", what, head)
		}
	}
}

func TestEnd(t *testing.T) {
	s := session.New()
	begin(t, s, someone, 0, 1)
	begin(t, s, someone, 0, 2)
	begin(t, s, other, 0, 3)
	want(t, "End", s.End(1), api.OK)
	want(t, "End again", s.End(1), api.ErrGone)
	wantRefused(t, s, 1, 0, api.ErrGone)
	wantLive(t, s, someone, 0, 2)
	for _, id := range append([]int{4}, noNumbers...) {
		want(t, "End of none", s.End(id), api.ErrNone)
	}
	// One whose time has passed may still be ended, till it is swept.
	begin(t, s, owner("x", "y"), 500, 4)
	want(t, "End of one that is over", s.End(2), api.OK)
	wantRefused(t, s, 2, 500, api.ErrGone)
	sweep(t, s, 500, 3)
	want(t, "End of a swept one", s.End(3), api.ErrGone)
	wantRows(t, s, row("#", "b5", "d1f4"), row("b4", "x", "y", "d1f4", "d1f4"))
	begin(t, s, someone, 500, 5)
}

func TestEndAll(t *testing.T) {
	s := session.New()
	begin(t, s, someone, 0, 1)
	begin(t, s, other, 0, 2)
	begin(t, s, someone, 0, 3)
	begin(t, s, owner("v", "u"), 0, 4)
	begin(t, s, someone, 300, 5)
	want(t, "End", s.End(3), api.OK)
	wantNumbers(t, "EndAll", s.EndAll(someone), 1, 5)
	wantNumbers(t, "EndAll again", s.EndAll(someone))
	for _, id := range []int{1, 3, 5} {
		wantRefused(t, s, id, 300, api.ErrGone)
		want(t, "End", s.End(id), api.ErrGone)
	}
	for _, bad := range badNames {
		wantNumbers(t, "EndAll of none", s.EndAll(owner(bad, "u")))
		wantNumbers(t, "EndAll of none", s.EndAll(owner("t", bad)))
	}
	wantRows(t, s, row("#", "b6", "d12c"), row("b2", "t", "v", "a", "a"), row("b4", "v", "u", "a", "a"))
	sweep(t, s, 300, 2, 4)
	wantNumbers(t, "EndAll of swept ones", s.EndAll(other))
}

// Numbers come in their order, not in that of their texts or of the map.
func TestSweep(t *testing.T) {
	s := session.New()
	var all []int
	for i := range 40 {
		begin(t, s, owner("t", fmt.Sprint("u", i)), i, i+1)
		all = append(all, i+1)
	}
	touch(t, s, 5, 60)
	sweep(t, s, 199)
	sweep(t, s, 200, 1)
	sweep(t, s, 200)
	sweep(t, s, 238, slices.DeleteFunc(slices.Clone(all[1:39]), func(id int) bool { return id == 5 })...)
	sweep(t, s, 259, 40)
	sweep(t, s, 260, 5)
	wantRows(t, s, row("#", "c29", "d104"))
	for _, now := range noTimes {
		wantNoTime(t, s, now, api.ErrRange)
	}
	wantNoTime(t, s, 259, api.ErrBack)
	wantNoTime(t, s, 0, api.ErrBack)
}

func TestLive(t *testing.T) {
	s := session.New()
	begin(t, s, someone, 0, 1)
	begin(t, s, other, 0, 2)
	begin(t, s, someone, 100, 3)
	begin(t, s, someone, 150, 4)
	touch(t, s, 1, 160)
	for range 5 {
		if live, e := s.Live(someone, 299); !slices.Equal(live, []api.Session{one(1, someone, 0, 160), one(3, someone, 100, 100), one(4, someone, 150, 150)}) || e != api.OK {
			t.Error(live, e)
		}
	}
	wantLive(t, s, someone, 300, 1, 4)
	wantLive(t, s, someone, 350, 1)
	wantLive(t, s, someone, 360)
	wantLive(t, s, other, 199, 2)
	wantLive(t, s, other, 200)
	for _, bad := range badNames {
		wantLive(t, s, owner(bad, "u"), 160)
		wantLive(t, s, owner("t", bad), 160)
	}
	want(t, "End", s.End(3), api.OK)
	wantLive(t, s, someone, 160, 1, 4)
	live, _ := s.Live(someone, 160)
	clear(live)
	wantLive(t, s, someone, 160, 1, 4)
}

func TestUntil(t *testing.T) {
	const last = api.MaxTime
	for _, c := range []struct{ since, used, want int }{
		{0, 0, 200},
		{0, 199, 399},
		{0, 799, 999},
		{0, 800, 1000},
		{0, 801, 1000},
		{0, 999, 1000},
		{5, 7, 207},
		{0, 5000, 1000},
		{5000, 0, 200},
		{-5, -3, 197},
		{-5000, 0, -4000},
		{last - 1000, last - 200, last},
		{last - 1001, last - 200, last - 1},
		{last - 1000, last - 201, last - 1},
		{last, last, last},
		{0, math.MaxInt, 1000},
		{math.MaxInt, 0, 200},
		{math.MaxInt, math.MaxInt, last},
		{math.MinInt, 0, math.MinInt + 1000},
		{0, math.MinInt, math.MinInt + 200},
	} {
		if got := session.Until(one(1, someone, c.since, c.used)); got != c.want {
			t.Errorf("since %d, used %d: %d, not %d", c.since, c.used, got, c.want)
		}
	}
	if got := session.Until(api.Session{}); got != 200 {
		t.Error(got)
	}
}

// Until is at most the last tick: then every session is over.
func TestTheLastTime(t *testing.T) {
	s := session.New()
	begin(t, s, someone, api.MaxTime-1, 1)
	wantLive(t, s, someone, api.MaxTime-1, 1)
	wantRefused(t, s, 1, api.MaxTime, api.ErrGone)
	for id := 2; id < 7; id++ {
		begin(t, s, someone, api.MaxTime, id)
		wantRefused(t, s, id, api.MaxTime, api.ErrGone)
	}
	wantLive(t, s, someone, api.MaxTime)
	wantRows(t, load(t, s.Rows()...), s.Rows()...)
	sweep(t, s, api.MaxTime, 1, 2, 3, 4, 5, 6)
}
