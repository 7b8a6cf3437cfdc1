package cred_test

import (
	"fmt"
	"slices"
	"strings"
	"testing"

	"holdfast/api"
	"holdfast/cred"
)

// A - lies below a / , so other users may stand between a user and its codes.
func TestRowsAreByTheirKeysBytes(t *testing.T) {
	b := cred.New()
	for _, o := range []api.Owner{owner("t", "u-x"), owner("t-", "u"), owner("t", "u"), owner("t", "u0"), owner("0", "z"), owner("t", "u-")} {
		want(t, "Add", b.Add(o, "p", "s", 1), api.OK)
		want(t, "Codes", b.Codes(o, "k", "l"), api.OK)
	}
	var rows []api.Row
	for _, key := range []string{"0/z", "0/z/1", "0/z/2", "t-/u", "t-/u/1", "t-/u/2", "t/u", "t/u-", "t/u-/1", "t/u-/2",
		"t/u-x", "t/u-x/1", "t/u-x/2", "t/u/1", "t/u/2", "t/u0", "t/u0/1", "t/u0/2"} {
		switch {
		case strings.HasSuffix(key, "/1"):
			rows = append(rows, row(key, hashOf("k", "s", 1)))
		case strings.HasSuffix(key, "/2"):
			rows = append(rows, row(key, hashOf("l", "s", 1)))
		default:
			rows = append(rows, row(key, hashOf("p", "s", 1), "s", "b1", "a", "a"))
		}
	}
	for range 5 {
		wantRows(t, b, rows...)
	}
	wantRows(t, load(t, rows...), rows...)
}

func TestRowsTellTriesAndUntil(t *testing.T) {
	b := book(t)
	for _, tries := range []string{"b1", "b2", "b3"} {
		want(t, "Try", b.Try(someone, 5), api.OK)
		wantRows(t, b, row("t/u", hashOf("p", "s", 2), "s", "b2", tries, "a"))
	}
	want(t, "Check", b.Check(someone, "q", 5), api.ErrWrong)
	wantRows(t, b, row("t/u", hashOf("p", "s", 2), "s", "b2", "b3", "c69"))
}

func user(key string) api.Row { return row(key, strings.Repeat("h", 32), "s", "b1", "a", "a") }

func code(key string) api.Row { return row(key, strings.Repeat("c", 32)) }

// users are so many tenants, and so many users of each.
func users(tenants, each int) []api.Row {
	var rows []api.Row
	for i := range tenants {
		for j := range each {
			rows = append(rows, user(fmt.Sprint("t", i, "/u", j)))
		}
	}
	return rows
}

func TestLoadTakes(t *testing.T) {
	h := strings.Repeat("\xff", 32)
	for _, rows := range [][]api.Row{
		nil,
		{},
		{user("t/u")},
		{user("abcdefghi/-"), user("x/012345678")},
		{row("t/u", h, "", "b1", "a", "a")},
		{row("t/u", string(make([]byte, 32)), "\x00/#\xff5678", "c40", "b3", "l10000000064")},
		{row("t/u", h, "12345678", "b2", "b2", "b1")},
		{user("t/u"), code("t/u/1")},
		{user("t/u"), code("t/u/1"), row("t/u/2", h), code("t/u/3"), code("t/u/4")},
		{user("t/u"), user("t/u-"), code("t/u-/1"), code("t/u/1")},
		users(api.MaxTenants, api.MaxUsers),
	} {
		wantRows(t, load(t, rows...), rows...)
	}
}

func TestLoadRefusesKeys(t *testing.T) {
	for _, rows := range [][]api.Row{
		{user("")},
		{user("t")},
		{user("/")},
		{user("t/")},
		{user("/u")},
		{user("t//u")},
		{user("T/u")},
		{user("t/U")},
		{user("#")},
		{user("t/abcdefghij")},
		{user("abcdefghij/u")},
		{user("t/u/")},
		{user("t/u/1")},
		{code("t/u/1")},
		{code("t/u")},
		{user("t/u"), user("t/u/1")},
		{user("t/u"), code("t/u/")},
		{user("t/u"), code("t/u/0")},
		{user("t/u"), code("t/u/2")},
		{user("t/u"), code("t/u/01")},
		{user("t/u"), code("t/u/1 ")},
		{user("t/u"), code("t/u/+1")},
		{user("t/u"), code("t/u/b1")},
		{user("t/u"), code("t/u/1/1")},
		{user("t/u"), code("t/u//1")},
		{user("t/u"), code("t/v/1")},
		{user("t/u"), code("u/u/1")},
		{user("t/u"), code("t/u/1"), code("t/u/3")},
		{user("t/u"), code("t/u/1"), code("t/u/1")},
		{user("t/u"), code("t/u/1"), code("t/u/2"), code("t/u/3"), code("t/u/4"), code("t/u/5")},
		{code("t/u/1"), user("t/u")},
		{user("t/u"), code("t/u/2"), code("t/u/1")},
		{user("t/u"), code("t/u/1"), user("t/u-")},
		{user("t/u"), user("t/u")},
		{user("t/v"), user("t/u")},
		{user("t/u"), user("t-/u")},
		{user("u/u"), user("t/u")},
		users(api.MaxTenants+1, 1),
		users(1, api.MaxUsers+1),
		users(api.MaxTenants, api.MaxUsers+1),
		append(users(api.MaxTenants, api.MaxUsers), user("z/u")),
	} {
		wantForm(t, rows)
	}
}

func wantForm(t *testing.T, rows []api.Row) {
	t.Helper()
	if b, e := cred.Load(rows...); b != nil || e != api.ErrForm {
		t.Errorf("Load(%q): %v %v", rows, b, e)
	}
}

func TestLoadRefusesColumns(t *testing.T) {
	h := strings.Repeat("h", 32)
	for _, columns := range [][]string{
		nil,
		{h},
		{h, "s", "b1", "a"},
		{h, "s", "b1", "a", "a", "a"},
		{h[:31], "s", "b1", "a", "a"},
		{h + "h", "s", "b1", "a", "a"},
		{"", "s", "b1", "a", "a"},
		{h, "123456789", "b1", "a", "a"},
		{h, "s", "a", "a", "a"},
		{h, "s", "c41", "a", "a"},
		{h, "s", "q4000000000000001", "a", "a"},
		{h, "s", "1", "a", "a"},
		{h, "s", "", "a", "a"},
		{h, "s", "b1", "b4", "a"},
		{h, "s", "b1", "3", "a"},
		{h, "s", "b1", "", "a"},
		{h, "s", "b1", "b0", "a"},
		{h, "s", "b1", "a", "l10000000065"},
		{h, "s", "b1", "a", "q4000000000000000"},
		{h, "s", "b1", "a", "0"},
		{h, "s", "b1", "a", ""},
		{h, "s", "b1", "a", "c01"},
	} {
		wantForm(t, []api.Row{row("t/u", columns...)})
	}
	for _, columns := range [][]string{nil, {""}, {h[:31]}, {h + "h"}, {h, h}, {h, ""}} {
		wantForm(t, []api.Row{user("t/u"), row("t/u/1", columns...)})
	}
}

// Two codes may have one hash, where rows tell so: the first one goes first.
func TestCodesOfOneHash(t *testing.T) {
	b := load(t, row("t/u", hashOf("p", "s", 1), "s", "b1", "a", "a"), row("t/u/1", hashOf("k", "s", 1)), row("t/u/2", hashOf("l", "s", 1)), row("t/u/3", hashOf("k", "s", 1)))
	want(t, "Use", b.Use(someone, "k", 0), api.OK)
	wantRows(t, b, row("t/u", hashOf("p", "s", 1), "s", "b1", "a", "a"), row("t/u/1", hashOf("l", "s", 1)), row("t/u/2", hashOf("k", "s", 1)))
}

// deeds change all that a book has.
func deeds(t *testing.T, b *cred.Book) {
	t.Helper()
	want(t, "Try", b.Try(someone, 9), api.OK)
	want(t, "Use", b.Use(someone, "k", 9), api.OK)
	want(t, "Try", b.Try(someone, 9), api.OK)
	want(t, "Add", b.Add(owner("x", "y"), "p", "s", 1), api.OK)
	want(t, "Reset", b.Reset(owner("t", "v"), "new", "s", 1), api.OK)
	want(t, "Codes", b.Codes(owner("t", "w"), "n"), api.OK)
	want(t, "Remove", b.Remove(owner("u", "u")), api.OK)
}

// P4, both ways, and of a fork's fork.
func TestForksAreApart(t *testing.T) {
	b := book(t, "k", "l", "m")
	for _, o := range []api.Owner{owner("t", "v"), owner("t", "w"), owner("u", "u")} {
		want(t, "Add", b.Add(o, "p", "s", 1), api.OK)
		want(t, "Codes", b.Codes(o, "k", "l"), api.OK)
	}
	before := b.Rows()
	f := b.Fork()
	g := f.Fork()
	wantRows(t, f, before...)
	deeds(t, b)
	wantRows(t, f, before...)
	wantRows(t, g, before...)
	after := b.Rows()
	deeds(t, g)
	wantRows(t, g, after...)
	wantRows(t, f, before...)
	want(t, "Check", f.Check(owner("u", "u"), "p", 0), api.OK)
	want(t, "Use", f.Use(someone, "k", 0), api.OK)
	wantRows(t, b, after...)
	if sameRows(before, after) {
		t.Error("nothing is changed")
	}
}

func TestRowsAreApart(t *testing.T) {
	b := book(t, "k", "l")
	before := b.Rows()
	scribble(b.Rows())
	wantRows(t, b, before...)
	rows := append(b.Rows(), user("t/spare"))
	kept := append(slices.Clone(before), user("t/spare"))
	other := load(t, rows[:3]...)
	if !sameRows(rows, kept) {
		t.Errorf("%q", rows)
	}
	scribble(rows)
	wantRows(t, other, before...)
	want(t, "Use", other.Use(someone, "k", 0), api.OK)
	want(t, "Remove", other.Remove(someone), api.OK)
	wantRows(t, b, before...)
}

func scribble(rows []api.Row) {
	for i := range rows {
		for j := range rows[i].Columns {
			rows[i].Columns[j] = "scribble"
		}
		rows[i] = row("scribble")
	}
}

func TestCodesStayAsTheyAre(t *testing.T) {
	b := book(t)
	codes := []string{"k", "l", "spare"}
	want(t, "Codes", b.Codes(someone, codes[:2]...), api.OK)
	if !slices.Equal(codes, []string{"k", "l", "spare"}) {
		t.Error(codes)
	}
	codes[0] = "x"
	want(t, "Use", b.Use(someone, "x", 0), api.ErrWrong)
	want(t, "Use", b.Use(someone, "k", 0), api.OK)
	if !slices.Equal(codes, []string{"x", "l", "spare"}) {
		t.Error(codes)
	}
}
