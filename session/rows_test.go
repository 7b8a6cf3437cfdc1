package session_test

import (
	"fmt"
	"slices"
	"testing"

	"holdfast/api"
	"holdfast/session"
)

func TestRowsAreByNumbers(t *testing.T) {
	s := session.New()
	want := []api.Row{row("#", "c15", "b7")}
	for id := 1; id <= 20; id++ {
		user := fmt.Sprint("u", id)
		begin(t, s, owner("t", user), 7, id)
		text := fmt.Sprintf("b%x", id)
		if id > 15 {
			text = fmt.Sprintf("c%x", id)
		}
		want = append(want, row(text, "t", user, "b7", "b7"))
	}
	for range 5 {
		wantRows(t, s, want...)
	}
	wantRows(t, load(t, want...), want...)
}

func TestLoadTakes(t *testing.T) {
	for _, rows := range [][]api.Row{
		{row("#", "b1", "a")},
		{row("#", "b1", "l10000000000")},
		{row("#", "l10000000001", "a")},
		{row("#", "b2", "a"), row("b1", "t", "u", "a", "a")},
		{row("#", "b3", "b9"), row("b2", "abcdefghi", "-", "b5", "b9")},
		{row("#", "b9", "b9"), row("b1", "t", "u", "b9", "b9"), row("b8", "t", "u", "a", "b9")},
		{row("#", "l10000000001", "l10000000000"), row("l10000000000", "t", "u", "l10000000000", "l10000000000")},
		{row("#", "d100", "d100"), row("b1", "t", "u", "a", "a"), row("bf", "t", "u", "a", "a"), row("c10", "t", "u", "a", "a"), row("cff", "t", "u", "a", "a")},
		// These began and were used as no calls would have it, but the chapter's list allows it.
		{row("#", "b3", "d7d0"), row("b1", "t", "u", "d7d0", "d7d0"), row("b2", "t", "u", "a", "d7d0")},
		// More than MaxSessions of a user may be there: some of them may be over.
		{row("#", "b6", "a"), row("b1", "t", "u", "a", "a"), row("b2", "t", "u", "a", "a"), row("b3", "t", "u", "a", "a"), row("b4", "t", "u", "a", "a"), row("b5", "t", "u", "a", "a")},
	} {
		wantRows(t, load(t, rows...), rows...)
	}
}

func wantForm(t *testing.T, rows ...api.Row) {
	t.Helper()
	if s, e := session.Load(rows...); s != nil || e != api.ErrForm {
		t.Errorf("Load(%.200q): %v %v", rows, s, e)
	}
}

func TestLoadRefusesHeads(t *testing.T) {
	wantForm(t)
	wantForm(t, []api.Row{}...)
	for _, key := range []string{"", "##", "a", "b1", "\x00"} {
		wantForm(t, row(key, "b1", "a"))
	}
	for _, columns := range [][]string{
		nil,
		{"b1"},
		{"b1", "a", "a"},
		{"a", "a"},
		{"", "a"},
		{"1", "a"},
		{"b0", "a"},
		{"l10000000002", "a"},
		{"q4000000000000000", "a"},
		{"b1", ""},
		{"b1", "0"},
		{"b1", "c01"},
		{"b1", "l10000000001"},
		{"b1", "q4000000000000001"},
	} {
		wantForm(t, row("#", columns...))
	}
}

func TestLoadRefusesKeys(t *testing.T) {
	head := row("#", "c20", "b5")
	for _, keys := range [][]string{
		{"a"},
		{""},
		{"#"},
		{"1"},
		{"b0"},
		{"c01"},
		{"bA"},
		{"b1 "},
		{"c20"},
		{"cff"},
		{"l10000000000"},
		{"q4000000000000001"},
		{"t/u"},
		{"sb1"},
		{"b1", "b1"},
		{"b2", "b1"},
		{"c10", "b1"},
		{"b1", "b3", "b2"},
		{"b1", "c20"},
	} {
		rows := []api.Row{head}
		for _, key := range keys {
			rows = append(rows, row(key, "t", "u", "a", "a"))
		}
		wantForm(t, rows...)
	}
	wantForm(t, row("b1", "t", "u", "a", "a"))
	wantForm(t, row("b1", "t", "u", "a", "a"), head)
	wantForm(t, head, head)
	wantForm(t, row("#", "b1", "a"), row("b1", "t", "u", "a", "a"))
}

func TestLoadRefusesColumns(t *testing.T) {
	head := row("#", "b9", "c10")
	for _, columns := range [][]string{
		nil,
		{"t", "u", "a"},
		{"t", "u", "a", "a", "a"},
		{"t", "u", "b2", "b1"},
		{"t", "u", "c10", "bf"},
		{"t", "u", "a", "c11"},
		{"t", "u", "c11", "c11"},
		{"t", "u", "c11", "c10"},
		{"t", "u", "", "a"},
		{"t", "u", "a", ""},
		{"t", "u", "0", "0"},
		{"t", "u", "a", "b0"},
		{"t", "u", "c01", "c10"},
		{"t", "u", "a", "q4000000000000001"},
		{"t", "u", "a", "l10000000001"},
	} {
		wantForm(t, head, row("b1", columns...))
	}
	for _, bad := range badNames {
		wantForm(t, head, row("b1", bad, "u", "a", "a"))
		wantForm(t, head, row("b1", "t", bad, "a", "a"))
	}
	wantForm(t, row("#", "b9", "l10000000000"), row("b1", "t", "u", "a", "l10000000001"))
}

// A number that is below the next one, and not among the rows, is that of a session that was ended.
func TestLoadedTableGoesOn(t *testing.T) {
	s := load(t, row("#", "b5", "b9"), row("b2", "t", "u", "b1", "b7"), row("b4", "t", "u", "a", "b3"))
	for _, id := range []int{1, 3} {
		wantRefused(t, s, id, 9, api.ErrGone)
		want(t, "End", s.End(id), api.ErrGone)
	}
	wantRefused(t, s, 5, 9, api.ErrNone)
	wantRefused(t, s, 2, 8, api.ErrBack)
	wantLive(t, s, someone, 202, 2, 4)
	wantLive(t, s, someone, 203, 2)
	begin(t, s, someone, 9, 5)
	wantNoBegin(t, s, someone, 9, api.ErrSessions)
}

// As many as the rows tell may be there, but none comes to them.
func TestLoadedWithTooMany(t *testing.T) {
	rows := []api.Row{row("#", "b6", "a")}
	for _, key := range []string{"b1", "b2", "b3", "b4", "b5"} {
		rows = append(rows, row(key, "t", "u", "a", "a"))
	}
	s := load(t, rows...)
	for _, id := range []int{1, 2, 3} {
		wantNoBegin(t, s, someone, 0, api.ErrSessions)
		want(t, "End", s.End(id), api.OK)
	}
	begin(t, s, someone, 0, 6)
	wantNoBegin(t, s, someone, 0, api.ErrSessions)
}

// some is a table with sessions of which one is over.
func some(t *testing.T) *session.Table {
	t.Helper()
	s := session.New()
	begin(t, s, someone, 0, 1)
	begin(t, s, other, 100, 2)
	begin(t, s, someone, 150, 3)
	begin(t, s, someone, 250, 4)
	return s
}

// deeds change all that a table has.
func deeds(t *testing.T, s *session.Table) {
	t.Helper()
	touch(t, s, 3, 260)
	begin(t, s, other, 270, 5)
	want(t, "End", s.End(4), api.OK)
	sweep(t, s, 280, 1)
	wantNumbers(t, "EndAll", s.EndAll(other), 2, 5)
}

// P4, both ways, and of a fork's fork.
func TestForksAreApart(t *testing.T) {
	s := some(t)
	before := s.Rows()
	f := s.Fork()
	g := f.Fork()
	wantRows(t, f, before...)
	deeds(t, s)
	wantRows(t, f, before...)
	wantRows(t, g, before...)
	after := s.Rows()
	deeds(t, g)
	wantRows(t, g, after...)
	wantRows(t, f, before...)
	deeds(t, load(t, before...))
	touch(t, f, 4, 251)
	wantRows(t, s, after...)
	if sameRows(before, after) {
		t.Error("nothing is changed")
	}
}

func TestRowsAreApart(t *testing.T) {
	s := some(t)
	before := s.Rows()
	scribble(s.Rows())
	wantRows(t, s, before...)
	rows := append(s.Rows(), row("spare", "x"))
	kept := append(slices.Clone(before), row("spare", "x"))
	again := load(t, rows[:len(before)]...)
	if !sameRows(rows, kept) {
		t.Errorf("%q", rows)
	}
	scribble(rows)
	wantRows(t, again, before...)
	deeds(t, again)
	wantRows(t, s, before...)
}

func scribble(rows []api.Row) {
	for i := range rows {
		for j := range rows[i].Columns {
			rows[i].Columns[j] = "scribble"
		}
		rows[i] = row("scribble")
	}
}
