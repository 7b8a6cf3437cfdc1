package grant_test

import (
	"fmt"
	"slices"
	"strings"
	"testing"

	"holdfast/api"
	"holdfast/grant"
)

// A consent may stand ahead of its client, and other clients between; a - lies below a / .
func TestRowsAreByTheirKeys(t *testing.T) {
	s := grant.New()
	register(t, s, "t", "m", "r", 255)
	register(t, s, "t", "a", "q", 1)
	register(t, s, "t-", "a", "", 0)
	for _, user := range []string{"z", "a", "m", "a-", "l", "m0"} {
		allow(t, s, owner("t", user), "m", 16)
	}
	allow(t, s, owner("t", "m"), "a", 1)
	allow(t, s, owner("t-", "m"), "a", 0)
	want := []api.Row{
		row("t-/a", "", "a"),
		row("t-/m/a", "a"),
		row("t/a", "q", "b1"),
		row("t/a-/m", "c10"),
		row("t/a/m", "c10"),
		row("t/l/m", "c10"),
		row("t/m", "r", "cff"),
		row("t/m/a", "b1"),
		row("t/m/m", "c10"),
		row("t/m0/m", "c10"),
		row("t/z/m", "c10"),
	}
	for range 5 {
		wantRows(t, s, want...)
	}
	wantRows(t, load(t, want...), want...)
}

func TestLoadTakes(t *testing.T) {
	var most []api.Row
	for i := range api.MaxTenants {
		for j := range api.MaxClients {
			most = append(most, row(fmt.Sprintf("t%d/c%d", i, j), "r", "b1"))
		}
		for j := range api.MaxClients {
			most = append(most, row(fmt.Sprintf("t%d/u/c%d", i, j), "b1"))
		}
	}
	for _, rows := range [][]api.Row{
		nil,
		{row("t/c", "", "a")},
		{row("t/c", strings.Repeat("r", 24), "cff")},
		{row("abcdefghi/-9-zyx-a0", "\x00/\xff#", "c10"), row("abcdefghi/abcdefghi/-9-zyx-a0", "c10")},
		{row("t/b/c", "b2"), row("t/c", "r", "b6")},
		{row("t/c", "r", "b6"), row("t/c/c", "a"), row("t/u/c", "b6")},
		{row("s/c", "r", "b1"), row("t/c", "r", "b2"), row("t/u/c", "b2")},
		most,
	} {
		wantRows(t, load(t, rows...), rows...)
	}
	wantRows(t, load(t, []api.Row{}...))
}

func wantForm(t *testing.T, rows ...api.Row) {
	t.Helper()
	if s, e := grant.Load(rows...); s != nil || e != api.ErrForm {
		t.Errorf("Load(%.200q): %v %v", rows, s, e)
	}
}

func TestLoadRefusesKeys(t *testing.T) {
	there := row("t/c", "r", "b3")
	for _, key := range []string{"", "#", "t", "t/", "/c", "/", "t//", "//c", "t/c/", "t/c/c/c", "t/c/c/", "t/u/", "t//c"} {
		for _, columns := range [][]string{{"r", "b3"}, {"b1"}, nil} {
			rows := []api.Row{there, row(key, columns...)}
			slices.SortFunc(rows, func(a, b api.Row) int { return strings.Compare(a.Key, b.Key) })
			wantForm(t, rows...)
			wantForm(t, row(key, columns...))
		}
	}
	for _, bad := range badNames {
		for _, key := range []string{bad + "/c", "t/" + bad} {
			wantForm(t, row(key, "r", "b3"))
		}
		for _, key := range []string{bad + "/u/c", "t/" + bad + "/c", "t/u/" + bad} {
			rows := []api.Row{there, row(key, "b1")}
			slices.SortFunc(rows, func(a, b api.Row) int { return strings.Compare(a.Key, b.Key) })
			wantForm(t, rows...)
		}
	}
}

func TestLoadRefusesWhatDoesNotRise(t *testing.T) {
	c, d, u, v := row("t/c", "r", "b3"), row("t/d", "r", "b3"), row("t/u/c", "b1"), row("t/v/c", "b1")
	for _, rows := range [][]api.Row{{c, c}, {d, c}, {c, u, u}, {c, v, u}, {u, c}, {c, u, d}, {c, d, c}, {c, row("t/c", "other", "a")}} {
		wantForm(t, rows...)
	}
}

func TestLoadRefusesColumns(t *testing.T) {
	for _, columns := range [][]string{
		nil,
		{"b3"},
		{"r"},
		{"r", "b3", "a"},
		{"r", ""},
		{"r", "3"},
		{"r", "b0"},
		{"r", "c03"},
		{"r", "d100"},
		{"r", "d103"},
		{"r", "q4000000000000001"},
		{"b3", "r"},
		{strings.Repeat("r", 25), "b3"},
		{strings.Repeat("r", 1<<16), "b3"},
	} {
		wantForm(t, row("t/c", columns...))
	}
	for _, columns := range [][]string{
		nil,
		{"b1", "b1"},
		{"r", "b1"},
		{""},
		{"1"},
		{"b0"},
		{"c01"},
		{"d100"},
		{"d101"},
		{"b4"},
		{"b7"},
		{"cff"},
	} {
		wantForm(t, row("t/c", "r", "b3"), row("t/u/c", columns...))
		wantForm(t, row("t/a/c", columns...), row("t/c", "r", "b3"))
	}
}

func TestLoadRefusesConsentsWithoutClients(t *testing.T) {
	wantForm(t, row("t/u/c", "a"))
	wantForm(t, row("t/c", "r", "b3"), row("t/u/d", "a"))
	wantForm(t, row("s/c", "r", "b3"), row("t/u/c", "a"))
	wantForm(t, row("t/c", "r", "b3"), row("t/c/u", "a"))
	wantForm(t, row("t/a/c", "a"), row("t/d", "r", "b3"))
}

func TestLoadRefusesTooMany(t *testing.T) {
	var rows []api.Row
	for _, name := range []string{"a", "b", "c", "d", "e"} {
		rows = append(rows, row("t/"+name, "r", "b3"))
	}
	wantForm(t, rows...)
	wantRows(t, load(t, rows[1:]...), rows[1:]...)
	rows = nil
	for _, tenant := range []string{"a", "b", "c", "d", "e"} {
		rows = append(rows, row(tenant+"/c", "r", "b3"))
	}
	wantForm(t, rows...)
	wantRows(t, load(t, rows[1:]...), rows[1:]...)
}

// some is a store with clients and consents.
func some(t *testing.T) *grant.Store {
	t.Helper()
	s := grant.New()
	register(t, s, "t", "c", "r", 7)
	register(t, s, "t", "d", "r", 7)
	register(t, s, "s", "c", "r", 7)
	allow(t, s, someone, "c", 7)
	allow(t, s, someone, "d", 3)
	allow(t, s, other, "c", 5)
	allow(t, s, owner("s", "u"), "c", 4)
	return s
}

// deeds change all that a store has.
func deeds(t *testing.T, s *grant.Store) {
	t.Helper()
	register(t, s, "t", "e", "r", 1)
	narrow(t, s, "t", "c", 3, 3)
	allow(t, s, owner("t", "w"), "c", 2)
	allow(t, s, other, "c", 2)
	want(t, "Drop", s.Drop("s", "c"), api.OK)
	want(t, "Withdraw", s.Withdraw(someone, "d"), api.OK)
}

// P4, both ways, and of a fork's fork.
func TestForksAreApart(t *testing.T) {
	s := some(t)
	before := s.Rows()
	f := s.Fork()
	g := f.Fork()
	wantRows(t, f, before...)
	deeds(t, s)
	wantRows(t, f, before...)
	wantRows(t, g, before...)
	after := s.Rows()
	deeds(t, g)
	wantRows(t, g, after...)
	wantRows(t, f, before...)
	deeds(t, load(t, before...))
	if n := f.DropUser(someone); n != 2 {
		t.Error(n)
	}
	wantRows(t, s, after...)
	wantRows(t, g, after...)
	if sameRows(before, after) {
		t.Error("nothing is changed")
	}
}

// P3: rows that were answered, or handed in, may be changed; spare room behind them stays.
func TestRowsAreApart(t *testing.T) {
	s := some(t)
	before := s.Rows()
	scribble(s.Rows())
	wantRows(t, s, before...)
	rows := append(s.Rows(), row("spare", "x"))
	kept := append(slices.Clone(before), row("spare", "x"))
	again := load(t, rows[:len(before)]...)
	if !sameRows(rows, kept) {
		t.Errorf("%q", rows)
	}
	scribble(rows)
	wantRows(t, again, before...)
	deeds(t, again)
	wantRows(t, s, before...)
}

func scribble(rows []api.Row) {
	for i := range rows {
		for j := range rows[i].Columns {
			rows[i].Columns[j] = "scribble"
		}
		rows[i] = row("scribble")
	}
}
