package audit_test

import (
	"slices"
	"strings"
	"testing"

	"holdfast/api"
	"holdfast/audit"
)

func TestRowsAreByNumbers(t *testing.T) {
	c := audit.New()
	var events []api.Event
	for i := range 40 {
		events = append(events, add(t, c, i+1, 5, "w", "u"))
	}
	want := rowsOf(0, api.Hash{}, 0, api.Hash{}, c.Head(), 5, events...)
	wantRows(t, c, want...)
	if !slices.IsSortedFunc(want, func(a, b api.Row) int { return strings.Compare(a.Key, b.Key) }) {
		t.Errorf("%q", want)
	}
	wantRows(t, load(t, want...), want...)
}

func TestLoadTakes(t *testing.T) {
	one, two, three := api.Hash{1}, api.Hash{31: 2}, api.Hash{255, 0, 255}
	var most []api.Event
	for i := range api.MaxAudit {
		most = append(most, event(10+i, 5, "", ""))
	}
	long := event(4, api.MaxTime, strings.Repeat("w", 12), strings.Repeat("\xff", 30))
	for _, rows := range [][]api.Row{
		rowsOf(0, api.Hash{}, 0, api.Hash{}, api.Hash{}, 0),
		rowsOf(0, one, 0, two, three, 0),
		rowsOf(0, one, 0, two, three, 5),
		rowsOf(api.MaxTime, one, api.MaxTime, two, three, api.MaxTime),
		rowsOf(7, one, 0, two, three, 0),
		rowsOf(7, one, 7, two, three, 0),
		rowsOf(0, one, 1, two, three, 0, event(1, 0, "", "")),
		rowsOf(3, one, 4, two, three, api.MaxTime, long),
		rowsOf(3, one, 2, two, three, 9, event(4, 9, "w", "u"), event(5, 9, "w", "u")),
		// The last time ever may lie behind that of the last event: the chapter's list allows it.
		rowsOf(3, one, 5, two, three, 10, event(4, 7, "w", "u"), event(5, 9, "w", "u")),
		rowsOf(9, one, 73, two, three, 5, most...),
		rowsOf(api.MaxTime, one, api.MaxTime, two, three, 5, event(api.MaxTime+1, 5, "w", "u")),
	} {
		wantRows(t, load(t, rows...), rows...)
	}
}

func wantForm(t *testing.T, rows ...api.Row) {
	t.Helper()
	if c, e := audit.Load(rows...); c != nil || e != api.ErrForm {
		t.Errorf("Load(%.300q): %v %v", rows, c, e)
	}
}

// good is the rows of a chain of three events behind the base 15.
func good() []api.Row {
	return rowsOf(15, api.Hash{1}, 17, api.Hash{2}, api.Hash{3}, 12, event(16, 9, "w", "u"), event(17, 9, "x", "v"), event(18, 12, "y", "w"))
}

func TestLoadRefusesRowsThatAreMissing(t *testing.T) {
	wantForm(t)
	wantForm(t, []api.Row{}...)
	for i := range 6 {
		wantForm(t, slices.Delete(good(), i, i+1)...)
	}
	for n := range 4 {
		wantForm(t, good()[:n]...)
		wantForm(t, good()[n+1:]...)
	}
	wantForm(t, good()[:5]...) // the anchor is behind the last event
	load(t, good()[:6]...)
}

// Each row is read, also where without it the chain would be an empty one.
func TestLoadRefusesRowsOfAnEmptyChain(t *testing.T) {
	empty := func() []api.Row { return rowsOf(0, api.Hash{}, 0, api.Hash{}, api.Hash{}, 0) }
	for i := range 4 {
		rows := empty()
		rows[i].Key += "#"
		wantForm(t, rows...)
		rows = empty()
		rows[i].Key = ""
		wantForm(t, rows...)
		rows = empty()
		rows[i].Columns = nil
		wantForm(t, rows...)
		rows = empty()
		rows[i].Columns = append(rows[i].Columns, rows[i].Columns[0])
		wantForm(t, rows...)
		wantForm(t, slices.Delete(empty(), i, i+1)...)
	}
	for i := range 3 {
		rows := empty()
		rows[0].Columns[i] = ""
		wantForm(t, rows...)
	}
}

func TestLoadRefusesKeys(t *testing.T) {
	for i := range 7 {
		for _, key := range []string{"", "#", "a", "b", "h", "n", "##", "a ", "c", "i", "na", "nb1", "nbf", "nc10", "nc11", "nc12", "nc13", "n16", "c10", "nc010", "mc10", "nC10", "nc1g", "\xff"} {
			if rows := good(); rows[i].Key != key {
				rows[i].Key = key
				wantForm(t, rows...)
			}
		}
		for j := range i {
			rows := good()
			rows[i], rows[j] = rows[j], rows[i]
			wantForm(t, rows...)
		}
		wantForm(t, slices.Insert(good(), i, good()[i])...)
	}
}

func TestLoadRefusesColumnCounts(t *testing.T) {
	for i := range 7 {
		rows := good()
		rows[i].Columns = nil
		wantForm(t, rows...)
		rows = good()
		rows[i].Columns = rows[i].Columns[1:]
		wantForm(t, rows...)
		for _, more := range []string{"", "a"} {
			rows = good()
			rows[i].Columns = append(rows[i].Columns, more)
			wantForm(t, rows...)
		}
	}
}

func TestLoadRefusesNumbers(t *testing.T) {
	for _, numbers := range [][]string{
		{"be", "c11", "bc"},  // a hole behind the base
		{"c10", "c11", "bc"}, // the first event is not behind the base
		{"a", "c11", "bc"},   //
		{"bf", "c13", "bc"},  // the anchor is behind the last event
		{"bf", "l10000000000", "bc"},
		{"bf", "l10000000001", "bc"},
		{"bf", "c11", "bb"}, // an event is behind the last time
		{"bf", "c11", "a"},
		{"bf", "c11", "l10000000001"},
		{"bf", "c11", "q4000000000000001"},
		{"", "c11", "bc"},
		{"bf", "", "bc"},
		{"bf", "c11", ""},
		{"15", "c11", "bc"},
		{"bf", "17", "bc"},
		{"bf", "c11", "12"},
		{"c0f", "c11", "bc"},
		{"bf", "d011", "bc"},
		{"bf", "c11", "c0c"},
	} {
		rows := good()
		rows[0].Columns = numbers
		wantForm(t, rows...)
	}
	wantForm(t, rowsOf(api.MaxTime+1, api.Hash{}, 0, api.Hash{}, api.Hash{}, 0)...)
	wantForm(t, rowsOf(api.MaxTime, api.Hash{}, api.MaxTime+1, api.Hash{}, api.Hash{}, 5, event(api.MaxTime+1, 5, "w", "u"))...)
	wantForm(t, rowsOf(0, api.Hash{}, 1, api.Hash{}, api.Hash{}, 0)...)
	wantForm(t, rowsOf(7, api.Hash{}, 8, api.Hash{}, api.Hash{}, 0)...)
}

func TestLoadRefusesHashes(t *testing.T) {
	for i := 1; i <= 3; i++ {
		for _, size := range []int{0, 1, 31, 33, 64, 256 + 32} {
			rows := good()
			rows[i].Columns[0] = strings.Repeat("h", size)
			wantForm(t, rows...)
		}
	}
}

func TestLoadRefusesEvents(t *testing.T) {
	for _, times := range [][3]string{
		{"ba", "b9", "bc"},
		{"b9", "b8", "bc"},
		{"b9", "bc", "bb"},
		{"bc", "b9", "bc"},
		{"b9", "b9", "bd"},
		{"bd", "bd", "bd"},
		{"b9", "b9", ""},
		{"9", "b9", "bc"},
		{"b9", "c09", "bc"},
		{"b9", "b9", "l10000000001"},
	} {
		rows := good()
		for i := range 3 {
			rows[4+i].Columns[0] = times[i]
		}
		wantForm(t, rows...)
	}
	for i := 4; i < 7; i++ {
		for _, size := range []int{13, 14, 256 + 12, 1 << 16} {
			rows := good()
			rows[i].Columns[1] = strings.Repeat("w", size)
			wantForm(t, rows...)
		}
		for _, size := range []int{31, 32, 256 + 30, 1 << 16} {
			rows := good()
			rows[i].Columns[2] = strings.Repeat("u", size)
			wantForm(t, rows...)
		}
	}
}

func TestLoadRefusesTooManyEvents(t *testing.T) {
	var events []api.Event
	for i := range api.MaxAudit + 1 {
		events = append(events, event(i+1, 5, "w", "u"))
	}
	wantForm(t, rowsOf(0, api.Hash{}, 0, api.Hash{}, api.Hash{}, 5, events...)...)
	c := load(t, rowsOf(0, api.Hash{}, 0, api.Hash{}, api.Hash{}, 5, events[:64]...)...)
	wantNoAdd(t, c, 5, "w", "u", api.ErrAudit)
}

// What a row told stays told: the anchor, the base, the time, and the head.
func TestLoadedChainGoesOn(t *testing.T) {
	c := load(t, good()...)
	wantAnchored(t, c, 17, api.Hash{2})
	wantChain(t, c, api.Hash{3}, 18, event(16, 9, "w", "u"), event(17, 9, "x", "v"), event(18, 12, "y", "w"))
	wantNoAdd(t, c, 11, "w", "u", api.ErrBack)
	wantNoPrune(t, c, api.ErrRange, 14, 18)
	prune(t, c, 15, 0)
	x := add(t, c, 19, 12, "w", "u")
	wantAnchor(t, c, 19, headOf(api.Hash{3}, x))
}

// deeds change all that a chain has.
func deeds(t *testing.T, c *audit.Chain) {
	t.Helper()
	prune(t, c, 2, 2)
	add(t, c, 6, 60, "w", "u")
	c.Anchor()
	add(t, c, 7, 70, "x", "v")
	prune(t, c, 3, 1)
}

// P4, both ways, and of a fork's fork.
func TestForksAreApart(t *testing.T) {
	c, _, _ := five(t)
	before := c.Rows()
	f := c.Fork()
	g := f.Fork()
	wantRows(t, f, before...)
	deeds(t, c)
	wantRows(t, f, before...)
	wantRows(t, g, before...)
	after := c.Rows()
	deeds(t, g)
	wantRows(t, g, after...)
	wantRows(t, f, before...)
	deeds(t, load(t, before...))
	add(t, f, 6, 55, "other", "other")
	f.Anchor()
	prune(t, f, 6, 6)
	wantRows(t, c, after...)
	wantRows(t, g, after...)
	if sameRows(before, after) {
		t.Error("nothing is changed")
	}
}

// Both add an event to the same ones: none lies where the other one's does.
func TestForksHaveNoRoomInCommon(t *testing.T) {
	for size := range 20 {
		c := audit.New()
		for i := range size {
			add(t, c, i+1, 5, "w", "u")
		}
		f := c.Fork()
		x := add(t, c, size+1, 5, "of c", "u")
		y := add(t, f, size+1, 5, "of f", "u")
		if c.Events()[size] != x || f.Events()[size] != y {
			t.Error(c.Events(), f.Events())
		}
		want(t, "Verify", c.Verify(), api.OK)
		want(t, "Verify", f.Verify(), api.OK)
	}
}

// P3: rows that were answered, or handed in, may be changed; spare room behind them stays.
func TestRowsAreApart(t *testing.T) {
	c, _, _ := five(t)
	before := c.Rows()
	scribble(c.Rows())
	wantRows(t, c, before...)
	rows := append(c.Rows(), row("spare", "x"))
	kept := append(slices.Clone(before), row("spare", "x"))
	again := load(t, rows[:len(before)]...)
	if !sameRows(rows, kept) {
		t.Errorf("%q", rows)
	}
	scribble(rows)
	wantRows(t, again, before...)
	deeds(t, again)
	wantRows(t, c, before...)
}

func scribble(rows []api.Row) {
	for i := range rows {
		for j := range rows[i].Columns {
			rows[i].Columns[j] = "scribble"
		}
		rows[i] = row("scribble")
	}
}
