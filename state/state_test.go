package state_test

import (
	"math"
	"reflect"
	"slices"
	"strings"
	"testing"

	"holdfast/api"
	"holdfast/state"
)

func keyed(keys ...string) []api.Row {
	var rows []api.Row
	for _, key := range keys {
		rows = append(rows, api.Row{Key: key, Columns: []string{"of " + key}})
	}
	return rows
}

// A - lies below a / , and a text below those that go on.
func TestSortIsByBytes(t *testing.T) {
	rows := keyed("a/b", "\xff", "a", "#", "a-", "", "a/b-", "b", "a/b/1", "9")
	state.Sort(rows)
	if want := keyed("", "#", "9", "a", "a-", "a/b", "a/b-", "a/b/1", "b", "\xff"); !reflect.DeepEqual(rows, want) {
		t.Errorf("%q", rows)
	}
	state.Sort(nil)
}

func TestRising(t *testing.T) {
	for _, rows := range [][]api.Row{nil, keyed(""), keyed("a"), keyed("", "a"), keyed("#", "a", "a-", "a/b", "b", "\xff")} {
		if !state.Rising(rows) {
			t.Errorf("%q are rising", rows)
		}
	}
	for _, rows := range [][]api.Row{keyed("a", "a"), keyed("", ""), keyed("b", "a"), keyed("a/b", "a-"), keyed("a", "b", "b"), keyed("a", "c", "b"), keyed("a", "b", "a")} {
		if state.Rising(rows) {
			t.Errorf("%q are not rising", rows)
		}
	}
}

func TestText(t *testing.T) {
	for n, want := range map[int]string{0: "a", 1: "b1", 255: "cff", api.MaxTime: "l10000000000", 1 << 62: "q4000000000000000", 1<<62 + 1: "", -1: ""} {
		if text := state.Text(n); text != want {
			t.Errorf("%d: %q", n, text)
		}
	}
	if got := state.Texts(255, 0, 1); !slices.Equal(got, []string{"cff", "a", "b1"}) {
		t.Errorf("%q", got)
	}
	if got := state.Texts(); len(got) != 0 {
		t.Errorf("%q", got)
	}
}

func TestNumber(t *testing.T) {
	for _, c := range []struct {
		text        string
		least, most int
		want        int
		ok          bool
	}{
		{"a", 0, 0, 0, true},
		{"cff", 255, 255, 255, true},
		{"cff", 0, math.MaxInt, 255, true},
		{"cff", 256, 300, 0, false},
		{"cff", 0, 254, 0, false},
		{"a", 1, 5, 0, false},
		{"", 0, 5, 0, false},
		{"b0", 0, 5, 0, false},
		{"c01", 0, 5, 0, false},
		{"1", 0, 5, 0, false},
		{"q4000000000000001", 0, math.MaxInt, 0, false},
	} {
		if n, ok := state.Number(c.text, c.least, c.most); n != c.want || ok != c.ok {
			t.Errorf("%q from %d to %d: %d %v", c.text, c.least, c.most, n, ok)
		}
	}
}

func TestHash(t *testing.T) {
	var long api.Hash
	for i := range long {
		long[i] = byte(255 - i)
	}
	for _, want := range []api.Hash{{}, {1}, {31: 1}, long} {
		if h, ok := state.Hash(string(want[:])); h != want || !ok {
			t.Errorf("%x: %x %v", want, h, ok)
		}
	}
	for _, size := range []int{0, 1, 31, 33, 64, 256 + 32} {
		if h, ok := state.Hash(strings.Repeat("h", size)); h != (api.Hash{}) || ok {
			t.Errorf("%d bytes: %x %v", size, h, ok)
		}
	}
}

func TestIsOwner(t *testing.T) {
	for _, name := range []string{"a", "-", "abcdefghi"} {
		if !state.IsOwner(api.Owner{Tenant: name, User: name}) {
			t.Error(name)
		}
	}
	for _, bad := range []string{"", "A", "a/b", "abcdefghij", "\x00"} {
		for _, o := range []api.Owner{{Tenant: bad, User: "u"}, {Tenant: "t", User: bad}, {Tenant: bad, User: bad}} {
			if state.IsOwner(o) {
				t.Errorf("%q", o)
			}
		}
	}
}

func TestIsNarrower(t *testing.T) {
	for _, c := range []struct {
		scopes, than api.Scopes
		want         bool
	}{
		{0, 0, true},
		{0, 255, true},
		{255, 255, true},
		{0b0101, 0b1101, true},
		{0b1101, 0b0101, false},
		{0b0010, 0b1101, false},
		{1, 0, false},
		{255, 254, false},
		{128, 127, false},
	} {
		if got := state.IsNarrower(c.scopes, c.than); got != c.want {
			t.Errorf("%b, %b: %v", c.scopes, c.than, got)
		}
	}
}

func TestScopes(t *testing.T) {
	for scopes, text := range map[api.Scopes]string{0: "a", 1: "b1", 16: "c10", 255: "cff"} {
		if got, ok := state.Scopes(text); got != scopes || !ok {
			t.Errorf("%q: %v %v", text, got, ok)
		}
		if got := state.ScopesText(scopes); got != text {
			t.Errorf("%d: %q", scopes, got)
		}
	}
	for _, text := range []string{"", "1", "b0", "c01", "d100", "d101", "q4000000000000001"} {
		if got, ok := state.Scopes(text); got != 0 || ok {
			t.Errorf("%q: %v %v", text, got, ok)
		}
	}
}
