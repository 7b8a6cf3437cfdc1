package state_test

import (
	"math"
	"reflect"
	"slices"
	"testing"

	"holdfast/api"
	"holdfast/state"
)

func all(string) bool { return true }

func is(text string) func(string) bool {
	return func(thing string) bool { return thing == text }
}

// texts are things with the numbers from 1 on.
func texts(things ...string) state.Numbered[string] {
	n := state.NewNumbered[string](state.FirstNumber)
	for _, thing := range things {
		n.Kept[n.Give()] = thing
	}
	return n
}

func TestNumbersAreGivenOnce(t *testing.T) {
	n := texts("x", "y", "x")
	for i := range 5 {
		if got := n.Give(); got != 4+i {
			t.Errorf("%d, not %d", got, 4+i)
		}
	}
	n.Drop(all)
	if got := n.Give(); got != 9 {
		t.Error(got)
	}
}

func TestFull(t *testing.T) {
	for next, want := range map[int]bool{1: false, api.MaxTime - 1: false, api.MaxTime: false, api.MaxTime + 1: true} {
		n := state.NewNumbered[int](next)
		if n.Full() != want {
			t.Errorf("next %d: %v", next, n.Full())
		}
	}
	n := state.NewNumbered[int](api.MaxTime)
	if got := n.Give(); got != api.MaxTime || !n.Full() {
		t.Error(got, n.Full())
	}
}

func TestFind(t *testing.T) {
	n := texts("x", "", "z")
	delete(n.Kept, 1)
	for number, want := range map[int]api.Errno{0: api.ErrNone, -1: api.ErrNone, math.MinInt: api.ErrNone, 1: api.ErrGone, 2: api.OK, 3: api.OK, 4: api.ErrNone, math.MaxInt: api.ErrNone} {
		if _, e := n.Find(number); e != want {
			t.Errorf("%d: %v, not %v", number, e, want)
		}
	}
	if thing, _ := n.Find(3); thing != "z" {
		t.Error(thing)
	}
}

func TestNumbersAndThings(t *testing.T) {
	n := state.NewNumbered[string](100)
	for _, number := range []int{40, 7, 99, 12, 3} {
		n.Kept[number] = "x"
	}
	n.Kept[8] = "y"
	for range 5 {
		if got := n.Numbers(is("x")); !slices.Equal(got, []int{3, 7, 12, 40, 99}) {
			t.Error(got)
		}
		if got := n.Things(all); !slices.Equal(got, []string{"x", "x", "y", "x", "x", "x"}) {
			t.Error(got)
		}
	}
	if got := n.Numbers(is("z")); len(got) != 0 {
		t.Error(got)
	}
	if got := n.Drop(is("x")); !slices.Equal(got, []int{3, 7, 12, 40, 99}) || len(n.Kept) != 1 || n.Next != 100 {
		t.Error(got, n)
	}
	if got := n.Drop(is("x")); len(got) != 0 || len(n.Kept) != 1 {
		t.Error(got, n)
	}
}

func TestForksOfNumberedAreApart(t *testing.T) {
	n := texts("x", "y")
	f := n.Fork()
	n.Kept[n.Give()] = "z"
	delete(n.Kept, 1)
	if want := texts("x", "y"); !reflect.DeepEqual(f, want) {
		t.Error(f)
	}
	f.Kept[2] = "other"
	if n.Kept[2] != "y" {
		t.Error(n)
	}
}

func TestRowsOfThings(t *testing.T) {
	n := state.NewNumbered[string](300)
	for _, number := range []int{255, 2, 16} {
		n.Kept[number] = "of"
	}
	columns := func(thing string) []string { return []string{thing} }
	want := []api.Row{{Key: "mb2", Columns: []string{"of"}}, {Key: "mc10", Columns: []string{"of"}}, {Key: "mcff", Columns: []string{"of"}}}
	if rows := state.RowsOf(&n, "m", columns); !reflect.DeepEqual(rows, want) {
		t.Errorf("%q", rows)
	}
}

func TestTakeRow(t *testing.T) {
	read := func(number int, columns []string) (int, bool) { return 10 * number, len(columns) == 1 }
	one := []string{"x"}
	for _, c := range []struct {
		text    string
		columns []string
		ok      bool
	}{
		{"b1", one, true},
		{"b4", one, true},
		{"b5", one, false},
		{"a", one, false},
		{"", one, false},
		{"4", one, false},
		{"c04", one, false},
		{"b4", nil, false},
	} {
		n := state.NewNumbered[int](5)
		if ok := state.TakeRow(&n, c.text, c.columns, read); ok != c.ok || len(n.Kept) == 1 != c.ok {
			t.Errorf("%q %q: %v %v", c.text, c.columns, ok, n)
		}
		if number, given := state.Number(c.text, 1, 4); given && c.ok && n.Kept[number] != 10*number {
			t.Errorf("%q: %v", c.text, n)
		}
	}
}

func TestTimes(t *testing.T) {
	for _, c := range []struct {
		now, noted int
		want       api.Errno
	}{
		{0, 0, api.OK},
		{5, 5, api.OK},
		{6, 5, api.OK},
		{4, 5, api.ErrBack},
		{0, api.MaxTime, api.ErrBack},
		{api.MaxTime, api.MaxTime, api.OK},
		{api.MaxTime, 0, api.OK},
		{api.MaxTime + 1, 0, api.ErrRange},
		{-1, 0, api.ErrRange},
		{-1, 5, api.ErrRange},
		{math.MinInt, 5, api.ErrRange},
		{math.MaxInt, 5, api.ErrRange},
	} {
		if e := state.TimeError(c.now, c.noted); e != c.want {
			t.Errorf("%d behind %d: %v", c.now, c.noted, e)
		}
		if state.IsTime(c.now) == (c.want == api.ErrRange) {
			t.Errorf("IsTime(%d)", c.now)
		}
	}
}
