package token_test

import (
	"slices"
	"strings"
	"testing"

	"holdfast/api"
	"holdfast/token"
)

// Numbers come in their order, families ahead of tokens.
func TestRowsAreByNumbers(t *testing.T) {
	s := token.New()
	for i := range 20 {
		grant(t, s, i+1, 1, 0, i+1, i+1)
	}
	want(t, "End", s.End(2), api.OK)
	sequence := "b1 b3 b4 b5 b6 b7 b8 b9 ba bb bc bd be bf c10 c11 c12 c13 c14"
	rows := []api.Row{row("#", "c15", "c15", "a")}
	for _, text := range strings.Fields(sequence) {
		rows = append(rows, row("f"+text, text, "c", "b1", "b1"))
	}
	for _, text := range strings.Fields(sequence) {
		rows = append(rows, row("t"+text, text, "b1", "c32"))
	}
	for range 5 {
		wantRows(t, s, rows...)
	}
	wantRows(t, load(t, rows...), rows...)
}

var one = row("fb1", "b7", "c", "b6", "b1")

func TestLoadTakes(t *testing.T) {
	const last, end = "l10000000000", "l10000000001"
	for _, rows := range [][]api.Row{
		{row("#", "b1", "b1", "a")},
		{row("#", end, end, last)},
		{row("#", "b1", end, "a")},
		{row("#", "b2", "b1", "a"), one},
		{row("#", "b3", "b1", "b5"), row("fb2", "q4000000000000000", "abcdefghi", "cff", last)},
		{row("#", end, end, "a"), row("f"+last, "b1", "-", "a", "b1"), row("t"+last, last, "a", last)},
		{row("#", "b3", "b9", "a"), one, row("fb2", "b7", "c", "b1", "b1")},
		{row("#", "b2", "b9", "a"), one, row("tb2", "b1", "b6", "a"), row("tb5", "b1", "b4", last), row("tb8", "b1", "a", "b1")},
		{row("#", "b4", "b9", "a"), one, row("fb2", "b8", "d", "b1", "b5"), row("fb3", "b7", "d", "b1", "b5"), row("tb1", "b3", "b1", "b1"), row("tb2", "b1", "b2", "b1")},
	} {
		wantRows(t, load(t, rows...), rows...)
	}
}

func wantForm(t *testing.T, rows ...api.Row) {
	t.Helper()
	if s, e := token.Load(rows...); s != nil || e != api.ErrForm {
		t.Errorf("Load(%.200q): %v %v", rows, s, e)
	}
}

func TestLoadRefusesHeads(t *testing.T) {
	wantForm(t)
	wantForm(t, []api.Row{}...)
	for _, key := range []string{"", "##", "a", "f", "t", "fb1", "tb1", "\x00"} {
		wantForm(t, row(key, "b1", "b1", "a"))
	}
	for _, columns := range [][]string{nil, {"b1"}, {"b1", "b1"}, {"b1", "b1", "a", "a"}} {
		wantForm(t, row("#", columns...))
	}
	for _, next := range []string{"", "a", "1", "b0", "c01", "l10000000002", "q4000000000000000", "q4000000000000001"} {
		wantForm(t, row("#", next, "b1", "a"))
		wantForm(t, row("#", "b1", next, "a"))
	}
	for _, noted := range []string{"", "0", "b0", "c01", "l10000000001", "q4000000000000001"} {
		wantForm(t, row("#", "b1", "b1", noted))
	}
}

func TestLoadRefusesKeys(t *testing.T) {
	head := row("#", "c20", "c20", "a")
	for _, text := range []string{"", "a", "#", "1", "b0", "c01", "bA", "b1 ", "c20", "cff", "l10000000000", "q4000000000000001", "b1/", "fb1", "tb1"} {
		wantForm(t, head, row("f"+text, "b1", "c", "b6", "b1"))
		wantForm(t, head, one, row("t"+text, "b1", "b6", "b1"))
	}
	for _, key := range []string{"", "b1", "Fb1", "eb1", "gb1", "sb1", "ub1", "f/b1", "\xff"} {
		wantForm(t, head, row(key, "b1", "c", "b6", "b1"))
		wantForm(t, head, one, row(key, "b1", "b6", "b1"))
	}
	two, t1, t2 := row("fb2", "b7", "c", "b6", "b1"), row("tb1", "b1", "b6", "b1"), row("tb2", "b1", "b6", "b1")
	load(t, head, one, two, t1, t2)
	for _, rows := range [][]api.Row{
		{one},
		{one, head},
		{head, head},
		{head, one, one},
		{head, two, one},
		{head, one, t1, t1},
		{head, one, t2, t1},
		{head, t1, one},
		{head, one, t1, two},
		{head, t1},
		{row("#", "b2", "c20", "a"), one, two},
		{row("#", "b1", "c20", "a"), one},
		{row("#", "b3", "b2", "a"), one, two, t1, t2},
		{row("#", "b3", "b1", "a"), one, t1},
	} {
		wantForm(t, rows...)
	}
}

func TestLoadRefusesFamilies(t *testing.T) {
	head := row("#", "b9", "b9", "a")
	for _, columns := range [][]string{
		nil,
		{"b1", "c", "b6"},
		{"b1", "c", "b6", "b1", "b1"},
		{"a", "c", "b6", "b1"},
		{"", "c", "b6", "b1"},
		{"1", "c", "b6", "b1"},
		{"q4000000000000001", "c", "b6", "b1"},
		{"b1", "c", "", "b1"},
		{"b1", "c", "6", "b1"},
		{"b1", "c", "d100", "b1"},
		{"b1", "c", "q4000000000000000", "b1"},
		{"b1", "c", "b6", ""},
		{"b1", "c", "b6", "a"},
		{"b1", "c", "b6", "b0"},
		{"b1", "c", "b6", "l10000000001"},
	} {
		wantForm(t, head, row("fb1", columns...))
	}
	for _, bad := range badNames {
		wantForm(t, head, row("fb1", "b1", bad, "b6", "b1"))
	}
}

func TestLoadRefusesTokens(t *testing.T) {
	head := row("#", "b9", "b9", "c20")
	for _, columns := range [][]string{
		nil,
		{"b1", "b6"},
		{"b1", "b6", "b1", "b1"},
		{"a", "b6", "b1"},
		{"b2", "b6", "b1"},
		{"b9", "b6", "b1"},
		{"", "b6", "b1"},
		{"1", "b6", "b1"},
		{"l10000000000", "b6", "b1"},
		{"q4000000000000001", "b6", "b1"},
		{"b1", "b1", "b1"},
		{"b1", "b7", "b1"},
		{"b1", "cff", "b1"},
		{"b1", "d100", "b1"},
		{"b1", "d106", "b1"},
		{"b1", "", "b1"},
		{"b1", "6", "b1"},
		{"b1", "b6", ""},
		{"b1", "b6", "0"},
		{"b1", "b6", "b0"},
		{"b1", "b6", "l10000000001"},
		{"b1", "b6", "q4000000000000001"},
	} {
		wantForm(t, head, one, row("tb1", columns...))
	}
}

func TestLoadRefusesTooManyFamilies(t *testing.T) {
	rows := []api.Row{row("#", "c20", "b1", "a")}
	for _, key := range []string{"fb1", "fb3", "fb5", "fb7"} {
		rows = append(rows, row(key, "b"+string(rune(key[2])), "c", "b1", "b1"))
	}
	for n := range api.MaxFamilies {
		load(t, rows...)
		rows = append(rows, row([]string{"fb8", "fb9"}[n], "b5", "d", "b1", "b1"))
	}
	wantForm(t, rows...)
	wantForm(t, row("#", "c20", "b1", "a"), row("fb1", "b1", "c", "b1", "b1"), row("fb2", "b1", "c", "b1", "b1"), row("fb3", "b1", "d", "b1", "b1"))
}

// A number that is below the next one, and not among the rows, is that of what was ended, or swept.
func TestLoadedStoreGoesOn(t *testing.T) {
	s := load(t, row("#", "b4", "b7", "b9"), row("fb2", "b5", "c", "b3", "b4"), row("tb3", "b2", "b1", "b9"), row("tb5", "b2", "b3", "c30"))
	for _, id := range []int{1, 3} {
		wantNoFamily(t, s, id, api.ErrGone)
		wantNoRefresh(t, s, id, 1, 9, api.ErrGone)
	}
	wantNoFamily(t, s, 4, api.ErrNone)
	for _, id := range []int{1, 2, 3, 4, 6} {
		wantNoAccess(t, s, id, 9, api.ErrGone)
	}
	wantNoAccess(t, s, 7, 9, api.ErrNone)
	wantNoAccess(t, s, 5, 8, api.ErrBack)
	wantTokens(t, s, 2, 3, 5)
	if x, e := s.Access(5, 47); x != access(5, 2, 3, 48) || e != api.OK {
		t.Error(x, e)
	}
	wantNoAccess(t, s, 5, 48, api.ErrGone)
	refresh(t, s, 2, 4, 9, 7)
	grant(t, s, 5, 3, 9, 4, 8)
	wantNoGrant(t, s, 5, "c", 9, api.ErrFamilies)
	sweep(t, s, 9, 1)
}

// some is a store with families of three sessions.
func some(t *testing.T) *token.Store {
	t.Helper()
	s := token.New()
	grant(t, s, 1, 3, 0, 1, 1)
	grant(t, s, 1, 7, 5, 2, 2)
	grant(t, s, 2, 7, 5, 3, 3)
	grant(t, s, 3, 7, 6, 4, 4)
	refresh(t, s, 1, 1, 10, 5)
	return s
}

// deeds change all that a store has.
func deeds(t *testing.T, s *token.Store) {
	t.Helper()
	refresh(t, s, 2, 1, 20, 6)
	if x, e := s.Exchange(2, 1, 21); x.Id != 7 || e != api.OK {
		t.Error(x, e)
	}
	grant(t, s, 9, 1, 22, 5, 8)
	want(t, "End", s.End(3), api.OK)
	wantNumbers(t, "EndClient", s.EndClient("c", 3), 4)
	if _, _, e := s.Refresh(1, 1, 30); e != api.ErrReuse {
		t.Error(e)
	}
	sweep(t, s, 55, 2)
	wantNumbers(t, "EndSessions", s.EndSessions(9), 5)
}

// P4, both ways, and of a fork's fork.
func TestForksAreApart(t *testing.T) {
	s := some(t)
	before := s.Rows()
	f := s.Fork()
	g := f.Fork()
	wantRows(t, f, before...)
	deeds(t, s)
	wantRows(t, f, before...)
	wantRows(t, g, before...)
	after := s.Rows()
	deeds(t, g)
	wantRows(t, g, after...)
	wantRows(t, f, before...)
	deeds(t, load(t, before...))
	refresh(t, f, 4, 1, 11, 6)
	wantRows(t, s, after...)
	if sameRows(before, after) {
		t.Error("nothing is changed")
	}
}

func TestRowsAreApart(t *testing.T) {
	s := some(t)
	before := s.Rows()
	scribble(s.Rows())
	wantRows(t, s, before...)
	rows := append(s.Rows(), row("spare", "x"))
	kept := append(slices.Clone(before), row("spare", "x"))
	again := load(t, rows[:len(before)]...)
	if !sameRows(rows, kept) {
		t.Errorf("%q", rows)
	}
	scribble(rows)
	wantRows(t, again, before...)
	deeds(t, again)
	wantRows(t, s, before...)
}

func scribble(rows []api.Row) {
	for i := range rows {
		for j := range rows[i].Columns {
			rows[i].Columns[j] = "scribble"
		}
		rows[i] = row("scribble")
	}
}

func TestNumbersStayAsTheyAre(t *testing.T) {
	s := clients(t)
	sessions := []int{3, 1, 99, 77}
	ended := s.EndSessions(sessions[:2]...)
	wantNumbers(t, "EndSessions", ended, 1, 2, 5, 6)
	clear(ended)
	ended = s.EndClient("c", sessions[:2]...)
	wantNumbers(t, "EndClient", ended)
	wantNumbers(t, "what was handed in", sessions, 3, 1, 99, 77)
	wantFamilies(t, s, 2, 3, 4)
}
