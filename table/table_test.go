package table_test

import (
	"fmt"
	"maps"
	"math"
	"math/rand"
	"slices"
	"strings"
	"testing"

	"holdfast/api"
	"holdfast/block"
	"holdfast/codec"
	"holdfast/pager"
	"holdfast/table"
	"holdfast/tree"
	"holdfast/wal"
)

// logSize is room for any group.
const logSize = api.MaxGroup + 10

func openTree(t *testing.T, d *block.Disk, size int) *tree.Tree {
	t.Helper()
	l, e := wal.Open(d, size)
	if e != api.OK {
		t.Fatal(e)
	}
	p, e := pager.New(l, 8)
	if e != api.OK {
		t.Fatal(e)
	}
	x, e := tree.Open(p)
	if e != api.OK {
		t.Fatal(e)
	}
	return x
}

// newTree is an empty tree of so many pages.
func newTree(t *testing.T, pages int) *tree.Tree {
	t.Helper()
	d, e := block.New(logSize + 1 + pages)
	if e != api.OK {
		t.Fatal(e)
	}
	return openTree(t, d, logSize)
}

func open(t *testing.T, x *tree.Tree, schemas ...api.Schema) *table.Store {
	t.Helper()
	s, e := table.Open(x, schemas...)
	if e != api.OK || s == nil {
		t.Fatal(s, e)
	}
	return s
}

func schema(name string, columns int, indexes ...int) api.Schema {
	return api.Schema{Name: name, Columns: columns, Indexes: indexes}
}

func row(key string, columns ...string) api.Row { return api.Row{Key: key, Columns: columns} }

func put(t *testing.T, s *table.Store, name string, rows ...api.Row) {
	t.Helper()
	for _, r := range rows {
		if e := s.Put(name, r); e != api.OK {
			t.Fatalf("put %s %q: %v", name, r, e)
		}
	}
}

func commit(t *testing.T, s *table.Store) {
	t.Helper()
	if e := s.Commit(); e != api.OK {
		t.Fatal(e)
	}
}

func sameRow(a, b api.Row) bool { return a.Key == b.Key && slices.Equal(a.Columns, b.Columns) }

func wantRows(t *testing.T, s *table.Store, name string, rows ...api.Row) {
	t.Helper()
	all, e := s.All(name)
	if e != api.OK || !slices.EqualFunc(all, rows, sameRow) {
		t.Errorf("%s: %q %v; want %q", name, all, e, rows)
	}
}

func wantFound(t *testing.T, s *table.Store, name string, column int, value string, keys ...string) {
	t.Helper()
	found, e := s.Find(name, column, value)
	if e != api.OK || !slices.Equal(found, keys) {
		t.Errorf("%s %d %q: %q %v; want %q", name, column, value, found, e, keys)
	}
}

func wantCheck(t *testing.T, s *table.Store, rows, pairs int) {
	t.Helper()
	if r, p, e := s.Check(); r != rows || p != pairs || e != api.OK {
		t.Errorf("%d rows, %d pairs, %v; want %d, %d", r, p, e, rows, pairs)
	}
}

func wantBroken(t *testing.T, s *table.Store) {
	t.Helper()
	if r, p, e := s.Check(); r != 0 || p != 0 || e != api.ErrBroken {
		t.Errorf("%d rows, %d pairs, %v; want ErrBroken", r, p, e)
	}
}

// pairs are all of a tree, in order.
func pairs(t *testing.T, x *tree.Tree) []string {
	t.Helper()
	l, e := x.Scan(nil, nil, math.MaxInt)
	if e != api.OK {
		t.Fatal(e)
	}
	var texts []string
	for _, p := range l {
		texts = append(texts, fmt.Sprintf("%q %q", p.Key, p.Value))
	}
	return texts
}

// wantUntouched asks that a store has the same behind work as ahead of it.
func wantUntouched(t *testing.T, s *table.Store, work func()) {
	t.Helper()
	had, dirty, schemas := pairs(t, s.Tree()), s.Tree().Pager().Dirty(), fmt.Sprint(s.Schemas())
	work()
	if !slices.Equal(had, pairs(t, s.Tree())) || !slices.Equal(dirty, s.Tree().Pager().Dirty()) || schemas != fmt.Sprint(s.Schemas()) {
		t.Error("the store has become another one")
	}
}

func TestExample(t *testing.T) {
	s := open(t, newTree(t, 50), schema("s", 2, 0))
	put(t, s, "s", row("x", "u", "1"), row("y", "u", "2"))
	wantFound(t, s, "s", 0, "u", "x", "y")
	wantCheck(t, s, 2, 2)
}

func TestOpenRefuses(t *testing.T) {
	junk := newTree(t, 50)
	if e := junk.Put([]byte("x"), nil); e != api.OK {
		t.Fatal(e)
	}
	var many []api.Schema
	for i := range api.MaxTables + 1 {
		many = append(many, schema(fmt.Sprint("t", i), 1))
	}
	wrong := schema("", 1)
	cases := []struct {
		what    string
		tree    *tree.Tree
		schemas []api.Schema
		want    api.Errno
	}{
		{"no tree", nil, nil, api.ErrNil},
		{"no tree, and too many tables", nil, many, api.ErrNil},
		{"too many tables", newTree(t, 50), many, api.ErrLong},
		{"too many tables, and wrong ones", newTree(t, 50), append([]api.Schema{wrong, wrong}, many...), api.ErrLong},
		{"as many as may be", newTree(t, 50), many[:api.MaxTables], api.OK},
		{"a wrong one", newTree(t, 50), []api.Schema{many[0], wrong}, api.ErrForm},
		{"a name twice, and a wrong one", newTree(t, 50), []api.Schema{many[0], many[0], wrong}, api.ErrForm},
		{"a name twice", newTree(t, 50), []api.Schema{many[0], many[1], schema("t0", 2, 1)}, api.ErrKnown},
		{"a name twice, and pairs of no table", junk, []api.Schema{many[0], many[0]}, api.ErrKnown},
		{"pairs of no table", junk, many[:1], api.ErrBroken},
		{"pairs and no table at all", junk, nil, api.ErrBroken},
		{"no table", newTree(t, 50), nil, api.OK},
	}
	for _, c := range cases {
		if s, e := table.Open(c.tree, c.schemas...); e != c.want || (s != nil) != (e == api.OK) {
			t.Error(c.what, e, c.want)
		}
	}
}

func TestSchemas(t *testing.T) {
	wrong := []api.Schema{
		schema("", 1), schema("abcdefghij", 1), schema("A", 1), schema("a.b", 1), schema("a b", 1), schema("a\x00", 1),
		schema("a", -1), schema("a", api.MaxParts+1), schema("a", math.MinInt), schema("a", math.MaxInt),
		schema("a", 2, -1), schema("a", 2, 2), schema("a", 0, 0), schema("a", 2, 1, 0), schema("a", 2, 0, 0), schema("a", 2, math.MaxInt), schema("a", 8, 0, 1, 2, 3, 4, 5, 6, 7, 8),
	}
	for _, c := range wrong {
		if s, e := table.Open(newTree(t, 50), c); s != nil || e != api.ErrForm {
			t.Error(c, e)
		}
	}
	right := []api.Schema{
		schema("b-9", api.MaxParts, 0, 1, 2, 3, 4, 5, 6, 7), schema("a", 0), schema("abcdefghi", 1), schema("-", 3, 2), schema("0", 3, 0, 2),
	}
	s := open(t, newTree(t, 50), right...)
	if got := s.Schemas(); fmt.Sprint(got) != fmt.Sprint(right) {
		t.Error(got)
	}
	if got := open(t, newTree(t, 50)).Schemas(); len(got) != 0 {
		t.Error(got)
	}
}

func TestNil(t *testing.T) {
	var s *table.Store
	if e := s.Put("s", api.Row{}); e != api.ErrNil {
		t.Error(e)
	}
	if e := s.Delete("s", "x"); e != api.ErrNil {
		t.Error(e)
	}
	if r, e := s.Get("s", "x"); e != api.ErrNil || r.Key != "" || r.Columns != nil {
		t.Error(r, e)
	}
	if l, e := s.All("s"); e != api.ErrNil || l != nil {
		t.Error(l, e)
	}
	if l, e := s.Find("s", -1, ""); e != api.ErrNil || l != nil {
		t.Error(l, e)
	}
	if e := s.Commit(); e != api.ErrNil {
		t.Error(e)
	}
	if e := s.Abort(); e != api.ErrNil {
		t.Error(e)
	}
	if rows, pairs, e := s.Check(); rows != 0 || pairs != 0 || e != api.ErrNil {
		t.Error(rows, pairs, e)
	}
	if s.Tree() != nil || s.Schemas() != nil {
		t.Error(s.Tree(), s.Schemas())
	}
}

func TestRowsHaveLimits(t *testing.T) {
	s := open(t, newTree(t, 200), schema("s", 2, 1), schema("none", 0), schema("free", 1), schema("all", 8))
	text := func(n int) string { return strings.Repeat("t", n) }
	right := map[string][]api.Row{
		"s":    {row("k", "", ""), row(text(api.MaxRowKey), "a", text(api.MaxIndex)), row("\x01\xff", "\x00", "\x01"), row("l", text(api.MaxValue-3-api.MaxIndex), text(api.MaxIndex))},
		"none": {row("k"), row(text(api.MaxRowKey))},
		"free": {row("k", text(api.MaxText)), row("l", "\x00\xff")},
		"all":  {row("k", "", "", "", "", "", "", "", ""), row("l", "1", "2", "3", "4", "5", "6", "7", text(api.MaxValue-9-7))},
	}
	for name, rows := range right {
		for _, r := range rows {
			put(t, s, name, r)
			if got, e := s.Get(name, r.Key); e != api.OK || !sameRow(got, r) {
				t.Errorf("%s: %q %v; want %q", name, got, e, r)
			}
		}
	}
	wrong := map[string][]api.Row{
		"s": {
			row("", "", ""), row(text(api.MaxRowKey+1), "", ""), row("k\x00", "", ""), row("\x00", "", ""), row("k"), row("k", ""), row("k", "", "", ""),
			row("k", "", text(api.MaxIndex+1)), row("k", "", "\x00"), row("k", "", "a\x00b"),
			row("k", text(api.MaxText+1), ""), row("k", text(api.MaxValue-2-api.MaxIndex), text(api.MaxIndex)),
		},
		"none": {row("k", ""), row("")},
		"free": {row("k"), row("k", text(api.MaxText+1)), row("k", text(1000))},
		"all":  {row("k", "1", "2", "3", "4", "5", "6", "7", text(api.MaxValue-9-6)), row("k", "1", "2", "3", "4", "5", "6", "7", "8", "9")},
	}
	wantUntouched(t, s, func() {
		for name, rows := range wrong {
			for _, r := range rows {
				if e := s.Put(name, r); e != api.ErrForm {
					t.Errorf("%s %q: %v", name, r, e)
				}
				if e := s.Put("other", r); e != api.ErrNone {
					t.Error("no table comes ahead of a wrong row", e)
				}
			}
		}
	})
	wantCheck(t, s, 10, 4)
}

func TestGreatestRow(t *testing.T) {
	name, key := strings.Repeat("n", api.MaxName), strings.Repeat("\xff", api.MaxRowKey)
	s := open(t, newTree(t, 50), schema(name, 3, 0, 1, 2))
	value := strings.Repeat("\xfe", api.MaxIndex)
	r := row(key, value, value, value)
	put(t, s, name, r, row(key[1:], value, value, value[1:]))
	wantRows(t, s, name, row(key[1:], value, value, value[1:]), r)
	for column := range 3 {
		if found, e := s.Find(name, column, value); e != api.OK || !slices.Contains(found, key) {
			t.Error(column, found, e)
		}
	}
	wantFound(t, s, name, 2, value, key)
	wantCheck(t, s, 2, 6)
	if e := s.Delete(name, key); e != api.OK {
		t.Error(e)
	}
	wantCheck(t, s, 1, 3)
}

func TestPutInThePlaceOfARow(t *testing.T) {
	s := open(t, newTree(t, 50), schema("s", 3, 0, 2))
	put(t, s, "s", row("x", "u", "1", "p"), row("y", "u", "2", "p"), row("x", "v", "3", "p"))
	wantRows(t, s, "s", row("x", "v", "3", "p"), row("y", "u", "2", "p"))
	wantFound(t, s, "s", 0, "u", "y")
	wantFound(t, s, "s", 0, "v", "x")
	wantFound(t, s, "s", 2, "p", "x", "y")
	wantCheck(t, s, 2, 4)
	put(t, s, "s", row("x", "v", "4", "p"))
	wantRows(t, s, "s", row("x", "v", "4", "p"), row("y", "u", "2", "p"))
	wantCheck(t, s, 2, 4)
}

func TestDelete(t *testing.T) {
	s := open(t, newTree(t, 50), schema("s", 1, 0), schema("r", 1, 0))
	put(t, s, "s", row("x", "u"), row("y", "u"))
	put(t, s, "r", row("x", "u"))
	if e := s.Delete("s", "x"); e != api.OK {
		t.Error(e)
	}
	wantRows(t, s, "s", row("y", "u"))
	wantRows(t, s, "r", row("x", "u"))
	wantFound(t, s, "s", 0, "u", "y")
	wantFound(t, s, "r", 0, "u", "x")
	wantCheck(t, s, 2, 2)
	wantUntouched(t, s, func() {
		for _, key := range []string{"x", "", "z", "y\x00", strings.Repeat("y", 500), "\x00"} {
			if e := s.Delete("s", key); e != api.ErrNone {
				t.Errorf("%q: %v", key, e)
			}
			if r, e := s.Get("s", key); e != api.ErrNone || r.Key != "" || r.Columns != nil {
				t.Errorf("%q: %v %v", key, r, e)
			}
		}
		for _, name := range []string{"", "t", "sA", "s\x00", strings.Repeat("s", 500)} {
			if e := s.Delete(name, "y"); e != api.ErrNone {
				t.Errorf("%q: %v", name, e)
			}
			if r, e := s.Get(name, "y"); e != api.ErrNone || r.Key != "" {
				t.Errorf("%q: %v %v", name, r, e)
			}
			if l, e := s.All(name); e != api.ErrNone || l != nil {
				t.Errorf("%q: %v %v", name, l, e)
			}
		}
	})
}

func TestFind(t *testing.T) {
	s := open(t, newTree(t, 50), schema("s", 3, 1), schema("r", 2))
	put(t, s, "s", row("b", "u", "u", "u"), row("\xff", "u", "u", ""), row("a", "u", "", ""), row("a\x01", "", "u", ""), row("Z", "u", "uu", ""))
	wantFound(t, s, "s", 1, "u", "a\x01", "b", "\xff")
	wantFound(t, s, "s", 1, "", "a")
	wantFound(t, s, "s", 1, "uu", "Z")
	for _, value := range []string{"v", "U", "u\x00", "\x00", "u\x00\x01a", strings.Repeat("u", api.MaxIndex+1), strings.Repeat("u", 500)} {
		wantFound(t, s, "s", 1, value)
	}
	for _, column := range []int{-1, 0, 2, 3, 8, math.MinInt, math.MaxInt} {
		if l, e := s.Find("s", column, "u"); l != nil || e != api.ErrNone {
			t.Error(column, l, e)
		}
	}
	for _, name := range []string{"r", "t", "", "sB"} {
		if l, e := s.Find(name, 1, "u"); l != nil || e != api.ErrNone {
			t.Error(name, l, e)
		}
	}
}

func TestRowsAreInOrderOfTheirKeys(t *testing.T) {
	s := open(t, newTree(t, 50), schema("s", 0))
	keys := []string{"\x01", "\x01\x01", "A", "AA", "B", "a", "aa", "\x7f", "\x80", "\xff", "\xff\xff"}
	for i := range keys {
		put(t, s, "s", row(keys[i*5%len(keys)]))
	}
	var want []api.Row
	for _, key := range keys {
		want = append(want, row(key))
	}
	wantRows(t, s, "s", want...)
}

func TestTablesAreApart(t *testing.T) {
	names := []string{"a", "aa", "a-", "a0", "-a", "0", "b"}
	var schemas []api.Schema
	for _, name := range names {
		schemas = append(schemas, schema(name, 2, 0, 1))
	}
	s := open(t, newTree(t, 100), schemas...)
	for i, name := range names {
		put(t, s, name, row("k", "v", fmt.Sprint(i)), row("A", "Bv", "a"))
	}
	for i, name := range names {
		wantRows(t, s, name, row("A", "Bv", "a"), row("k", "v", fmt.Sprint(i)))
		wantFound(t, s, name, 0, "v", "k")
		wantFound(t, s, name, 0, "Bv", "A")
		wantFound(t, s, name, 1, "v")
	}
	wantCheck(t, s, 14, 28)
	if got := len(pairs(t, s.Tree())); got != 14+28 {
		t.Error("a pair for each row, and one for each row and index", got)
	}
}

func TestOpenAgain(t *testing.T) {
	x := newTree(t, 100)
	s := open(t, x, schema("a", 2, 0), schema("b", 1))
	put(t, s, "a", row("k", "u", "1"), row("l", "u", "2"))
	put(t, s, "b", row("k", "w"))
	commit(t, s)
	for range 2 {
		again := open(t, x, schema("b", 1), schema("c", 8, 0, 7), schema("a", 2, 0))
		wantRows(t, again, "a", row("k", "u", "1"), row("l", "u", "2"))
		wantRows(t, again, "b", row("k", "w"))
		wantRows(t, again, "c")
		wantFound(t, again, "a", 0, "u", "k", "l")
		wantCheck(t, again, 3, 2)
		x = openTree(t, x.Pager().Log().Disk(), logSize)
	}
	others := map[string][]api.Schema{
		"a table less":            {schema("a", 2, 0)},
		"an index less":           {schema("a", 2), schema("b", 1)},
		"another column's index":  {schema("a", 2, 1), schema("b", 1)},
		"a column more":           {schema("a", 3, 0), schema("b", 1)},
		"a column less":           {schema("a", 1, 0), schema("b", 1)},
		"another name of a table": {schema("a", 2, 0), schema("c", 1)},
	}
	for what, schemas := range others {
		if s, e := table.Open(x, schemas...); s != nil || e != api.ErrBroken {
			t.Error(what, e)
		}
	}
}

// An index that is new to a table has none of its pairs: all pairs are those of rows, so the store opens, and Check tells that some are missing.
func TestOpenWithAnotherIndex(t *testing.T) {
	x := newTree(t, 100)
	put(t, open(t, x, schema("a", 2)), "a", row("k", "u", "1"))
	s := open(t, x, schema("a", 2, 0))
	wantBroken(t, s)
	put(t, s, "a", row("k", "u", "1"))
	wantCheck(t, s, 1, 1)
	wantFound(t, s, "a", 0, "u", "k")
}

// built is a store of two rows in an index, and a row in none.
func built(t *testing.T) *table.Store {
	t.Helper()
	s := open(t, newTree(t, 100), schema("a", 2, 0), schema("b", 1))
	put(t, s, "a", row("k", "u", "1"), row("l", "v", "2"))
	put(t, s, "b", row("k", "w"))
	commit(t, s)
	return s
}

func TestEveryPairIsMissed(t *testing.T) {
	count := len(pairs(t, built(t).Tree()))
	if count != 5 {
		t.Fatal(count)
	}
	broken := 0
	for i := range count {
		s := built(t)
		l, _ := s.Tree().Scan(nil, nil, math.MaxInt)
		if e := s.Tree().Delete(l[i].Key); e != api.OK {
			t.Fatal(e)
		}
		if rows, pairs, e := s.Check(); e == api.ErrBroken && rows == 0 && pairs == 0 {
			broken++
		} else if e != api.OK || rows != 2 || pairs != 2 {
			t.Error(i, rows, pairs, e)
		}
	}
	// The row of b is in no index: without it all is as it must be.
	if broken != count-1 {
		t.Error(broken)
	}
}

func TestPairsOfOthers(t *testing.T) {
	key := func(parts ...string) string {
		b, e := codec.Key(parts...)
		if e != api.OK {
			t.Fatal(e)
		}
		return string(b)
	}
	columns := func(columns ...string) string {
		b, e := codec.Row(columns...)
		if e != api.OK {
			t.Fatal(e)
		}
		return string(b)
	}
	cases := map[string][2]string{
		"no key of parts":            {"x", ""},
		"one part":                   {key("a"), columns("u", "1")},
		"three parts":                {key("a", "m", "n"), columns("u", "1")},
		"no such table":              {key("c", "m"), columns("u", "1")},
		"no table at all":            {key("", "m"), columns("u", "1")},
		"no row":                     {key("a", "m"), ""},
		"a row of few columns":       {key("a", "m"), columns("u")},
		"a row of many columns":      {key("b", "m"), columns("u", "1")},
		"an empty key":               {key("a", ""), columns("u", "1")},
		"a long key":                 {key("a", strings.Repeat("m", api.MaxRowKey+1)), columns("u", "1")},
		"a key with a byte 0":        {key("a", "m\x00"), columns("u", "1")},
		"a long text in an index":    {key("a", "m"), columns(strings.Repeat("u", api.MaxIndex+1), "1")},
		"a byte 0 in an index":       {key("a", "m"), columns("\x00", "1")},
		"bytes behind a row":         {key("a", "m"), columns("u", "1") + "x"},
		"a pair of no row":           {key("aAu", "m"), ""},
		"a pair of another value":    {key("aAx", "k"), ""},
		"a pair of no index":         {key("aB1", "k"), ""},
		"a pair of no column":        {key("aH1", "k"), ""},
		"a pair of another table":    {key("bAw", "k"), ""},
		"a pair of no table":         {key("cAw", "k"), ""},
		"a pair that has a value":    {key("aAu", "k"), "x"},
		"a pair of a key with 0":     {key("aAu", "k\x00"), ""},
		"a pair of a letter beyond":  {key("aIu", "k"), ""},
		"a pair with a part more":    {key("aA", "u", "k"), ""},
		"a pair of a name with an A": {key("AAu", "k"), ""},
	}
	for what, c := range cases {
		s := built(t)
		if e := s.Tree().Put([]byte(c[0]), []byte(c[1])); e != api.OK {
			t.Fatal(what, e)
		}
		if again, e := table.Open(s.Tree(), s.Schemas()...); again != nil || e != api.ErrBroken {
			t.Error(what, e)
		}
		wantBroken(t, s)
		// No call panics, nor does one tell what is none of its rows.
		for _, name := range []string{"a", "b"} {
			if l, e := s.All(name); e != api.OK && (e != api.ErrBroken || l != nil) {
				t.Error(what, l, e)
			}
			for _, key := range []string{"k", "m", ""} {
				s.Get(name, key)
				s.Put(name, row(key, "u", "1"))
				s.Delete(name, key)
			}
			s.Find(name, 0, "u")
		}
	}
}

func TestPutOverWhatIsNoRow(t *testing.T) {
	s := built(t)
	b, _ := codec.Key("a", "k")
	if e := s.Tree().Put(b, []byte{255}); e != api.OK {
		t.Fatal(e)
	}
	if r, e := s.Get("a", "k"); e != api.ErrBroken || r.Key != "" || r.Columns != nil {
		t.Error(r, e)
	}
	if e := s.Put("a", row("k", "u", "1")); e != api.ErrBroken {
		t.Error(e)
	}
	if e := s.Delete("a", "k"); e != api.ErrBroken {
		t.Error(e)
	}
	if l, e := s.All("a"); e != api.ErrBroken || l != nil {
		t.Error(l, e)
	}
	if e := s.Abort(); e != api.OK {
		t.Error(e)
	}
	wantCheck(t, s, 3, 2)
}

func TestTreeThatNobodyMade(t *testing.T) {
	s := built(t)
	p := s.Tree().Pager()
	r, _ := s.Tree().Check()
	if e := p.Write(r.Pages[0], make([]byte, api.PageBytes)...); e != api.OK {
		t.Fatal(e)
	}
	if again, e := table.Open(s.Tree(), s.Schemas()...); again != nil || e != api.ErrBroken {
		t.Error(e)
	}
	wantBroken(t, s)
	if l, e := s.All("a"); e != api.ErrBroken || l != nil {
		t.Error(l, e)
	}
	if l, e := s.Find("a", 0, "u"); e != api.ErrBroken || l != nil {
		t.Error(l, e)
	}
	if r, e := s.Get("a", "k"); e != api.ErrBroken || r.Key != "" {
		t.Error(r, e)
	}
	if e := s.Put("a", row("k", "u", "1")); e != api.ErrBroken {
		t.Error(e)
	}
}

func TestCommitAndAbort(t *testing.T) {
	s := open(t, newTree(t, 100), schema("s", 1, 0))
	put(t, s, "s", row("x", "u"))
	if e := s.Abort(); e != api.OK {
		t.Error(e)
	}
	wantRows(t, s, "s")
	wantCheck(t, s, 0, 0)
	put(t, s, "s", row("x", "u"))
	commit(t, s)
	put(t, s, "s", row("x", "v"), row("y", "v"))
	if e := s.Abort(); e != api.OK {
		t.Error(e)
	}
	wantRows(t, s, "s", row("x", "u"))
	wantFound(t, s, "s", 0, "v")
	wantFound(t, s, "s", 0, "u", "x")
	wantCheck(t, s, 1, 1)
}

func TestCommitTellsTheTreesError(t *testing.T) {
	d, _ := block.New(60)
	s := open(t, openTree(t, d, 3), schema("s", 1, 0)) // a log with room for groups of two pages
	for i := range 20 {
		put(t, s, "s", row(fmt.Sprint("key", i), fmt.Sprint("value", i)))
	}
	if e := s.Commit(); e != api.ErrFull {
		t.Error(e)
	}
	wantCheck(t, s, 20, 20)
}

func TestWhatIsHandedInStays(t *testing.T) {
	spare := []int{0, 1, 7, 7}
	schemas := []api.Schema{{Name: "s", Columns: 2, Indexes: spare[:2]}, {Name: "r", Columns: 1}, {Name: "spare"}}
	s := open(t, newTree(t, 50), schemas[:2]...)
	columns := []string{"u", "v", "spare"}
	put(t, s, "s", api.Row{Key: "x", Columns: columns[:2]})
	if !slices.Equal(columns, []string{"u", "v", "spare"}) || !slices.Equal(spare, []int{0, 1, 7, 7}) || schemas[2].Name != "spare" {
		t.Error(columns, spare, schemas)
	}
	columns[0], spare[0], schemas[0].Name = "w", 1, "t"
	wantRows(t, s, "s", row("x", "u", "v"))
	wantFound(t, s, "s", 0, "u", "x")
	wantCheck(t, s, 1, 2)
}

func TestWhatIsAnsweredIsTheCallers(t *testing.T) {
	s := open(t, newTree(t, 50), schema("s", 2, 0, 1), schema("r", 1))
	put(t, s, "s", row("x", "u", "v"), row("y", "u", "v"))
	schemas := s.Schemas()
	schemas[0].Indexes[0] = 1
	schemas[1] = schema("q", 1)
	_ = append(schemas[0].Indexes, 5)
	r, _ := s.Get("s", "x")
	r.Columns[0] = "w"
	all, _ := s.All("s")
	_ = append(all[0].Columns, "over")
	all[0].Columns[0] = "w"
	found, _ := s.Find("s", 0, "u")
	found[0] = "w"
	if got := fmt.Sprint(s.Schemas()); got != fmt.Sprint([]api.Schema{schema("s", 2, 0, 1), schema("r", 1)}) {
		t.Error(got)
	}
	wantRows(t, s, "s", row("x", "u", "v"), row("y", "u", "v"))
	wantFound(t, s, "s", 0, "u", "x", "y")
	wantCheck(t, s, 2, 4)
}

// model is what the rows of some tables ought to be.
type model map[string]map[string]api.Row

func (m model) clone() model {
	c := model{}
	for name, rows := range m {
		c[name] = maps.Clone(rows)
	}
	return c
}

func (m model) rows(name string) []api.Row {
	var rows []api.Row
	for _, key := range slices.Sorted(maps.Keys(m[name])) {
		rows = append(rows, m[name][key])
	}
	return rows
}

// wantModel asks that a store has just a model's rows, and Find tells just those of them that have a value.
func wantModel(t *testing.T, s *table.Store, m model) {
	t.Helper()
	rows, pairs := 0, 0
	for _, c := range s.Schemas() {
		all := m.rows(c.Name)
		wantRows(t, s, c.Name, all...)
		rows += len(all)
		pairs += len(all) * len(c.Indexes)
		for _, column := range c.Indexes {
			for _, value := range values {
				var keys []string
				for _, r := range all {
					if r.Columns[column] == value {
						keys = append(keys, r.Key)
					}
				}
				wantFound(t, s, c.Name, column, value, keys...)
			}
		}
	}
	wantCheck(t, s, rows, pairs)
	if _, e := s.Tree().Check(); e != api.OK {
		t.Fatal(e)
	}
}

// values are those of columns with an index: some begin others.
var values = []string{"", "u", "uu", "\x01", "\xff", "A", "uA", strings.Repeat("v", api.MaxIndex)}

var tables = []api.Schema{schema("s", 3, 0, 2), schema("ss", 2, 1), schema("r", 1)}

func randomRow(chance *rand.Rand, c api.Schema) api.Row {
	r := api.Row{Key: strings.Repeat(string(rune('a'+chance.Intn(12))), 1+chance.Intn(3))}
	for range c.Columns {
		r.Columns = append(r.Columns, values[chance.Intn(len(values))])
	}
	return r
}

func TestManyDeeds(t *testing.T) {
	chance := rand.New(rand.NewSource(1))
	s := open(t, newTree(t, 400), tables...)
	m := model{"s": {}, "ss": {}, "r": {}}
	kept := m.clone()
	for range 2500 {
		c := tables[chance.Intn(len(tables))]
		r := randomRow(chance, c)
		switch n := chance.Intn(20); {
		case n < 10:
			put(t, s, c.Name, r)
			m[c.Name][r.Key] = r
		case n < 17:
			want := api.ErrNone
			if _, ok := m[c.Name][r.Key]; ok {
				want = api.OK
			}
			if e := s.Delete(c.Name, r.Key); e != want {
				t.Fatal(c.Name, r.Key, e, want)
			}
			delete(m[c.Name], r.Key)
		case n < 19:
			commit(t, s)
			kept = m.clone()
		default:
			if e := s.Abort(); e != api.OK {
				t.Fatal(e)
			}
			m = kept.clone()
		}
		wantModel(t, s, m)
		if t.Failed() {
			return
		}
	}
}

func TestPutsInAnyOrder(t *testing.T) {
	chance := rand.New(rand.NewSource(2))
	rows := map[string]api.Row{}
	for range 40 {
		r := randomRow(chance, tables[0])
		rows[r.Key] = r
	}
	var want []string
	for range 10 {
		s := open(t, newTree(t, 400), tables...)
		l := slices.SortedFunc(maps.Values(rows), func(a, b api.Row) int { return strings.Compare(a.Key, b.Key) })
		chance.Shuffle(len(l), func(i, j int) { l[i], l[j] = l[j], l[i] })
		put(t, s, "s", l...)
		got := pairs(t, s.Tree())
		if want != nil && !slices.Equal(got, want) {
			t.Error("another order, other pairs")
		}
		want = got
	}
}

func TestFullTreeForgets(t *testing.T) {
	for _, pages := range []int{2, 3, 8, 20} {
		s := open(t, newTree(t, pages), tables...)
		chance := rand.New(rand.NewSource(int64(pages)))
		m := model{"s": {}, "ss": {}, "r": {}}
		kept := m.clone()
		fulls := 0
		for i := range 600 {
			c := tables[chance.Intn(len(tables))]
			r := randomRow(chance, c)
			r.Key += fmt.Sprint(i)
			switch e := s.Put(c.Name, r); e {
			case api.OK:
				m[c.Name][r.Key] = r
			case api.ErrFull:
				fulls++
				m = kept.clone()
				if d := s.Tree().Pager().Dirty(); len(d) > 0 {
					t.Fatal("something was not forgotten", d)
				}
			default:
				t.Fatal(e)
			}
			if i%3 == 0 {
				commit(t, s)
				kept = m.clone()
			}
			if i%20 == 0 || fulls < 3 {
				wantModel(t, s, m)
			}
		}
		if fulls == 0 {
			t.Error("never full", pages)
		}
		wantModel(t, s, m)
	}
}

// broad is a store of so many rows that a group has not room for all their pages.
func broad(t *testing.T) (*table.Store, model) {
	t.Helper()
	s := open(t, newTree(t, 600), schema("s", 2, 0))
	m := model{"s": {}}
	for i := range 300 {
		r := row(fmt.Sprintf("%03d%s", i, strings.Repeat("k", 20)), "u", strings.Repeat("v", 60))
		put(t, s, "s", r)
		m["s"][r.Key] = r
		commit(t, s)
	}
	wantModel(t, s, m)
	return s, m
}

func TestFullGroupForgets(t *testing.T) {
	deeds := map[string]func(s *table.Store, r api.Row) api.Errno{
		"put":    func(s *table.Store, r api.Row) api.Errno { return s.Put("s", row(r.Key, "uu", "w")) },
		"delete": func(s *table.Store, r api.Row) api.Errno { return s.Delete("s", r.Key) },
	}
	for what, deed := range deeds {
		s, m := broad(t)
		done, e := 0, api.OK
		for i, r := range m.rows("s") {
			if i%4 > 0 { // those between stay, so that every deed is done to another page
				continue
			}
			if e = deed(s, r); e != api.OK {
				break
			}
			done++
		}
		if e != api.ErrFull || done < 10 {
			t.Fatal(what, done, e)
		}
		if d := s.Tree().Pager().Dirty(); len(d) > 0 {
			t.Error(what, d)
		}
		wantModel(t, s, m)
		r := m.rows("s")[0]
		if e := deed(s, r); e != api.OK {
			t.Error(what, e)
		}
		if e := s.Put("t", api.Row{}); e != api.ErrNone {
			t.Error(what, e)
		}
	}
}

func TestErrorsAheadOfFull(t *testing.T) {
	s := open(t, newTree(t, 2), schema("s", 1))
	for i := range 3 {
		put(t, s, "s", row(fmt.Sprint("k", i), strings.Repeat("v", 68)))
	}
	commit(t, s)
	put(t, s, "s", row("k0", strings.Repeat("w", 68)))
	wantUntouched(t, s, func() {
		if e := s.Put("t", row("k9", strings.Repeat("v", 68))); e != api.ErrNone {
			t.Error(e)
		}
		if e := s.Put("s", row("k9", strings.Repeat("v", 71))); e != api.ErrForm {
			t.Error(e)
		}
		if e := s.Delete("s", "k9"); e != api.ErrNone {
			t.Error(e)
		}
	})
	if e := s.Put("s", row("k9", strings.Repeat("v", 68))); e != api.ErrFull {
		t.Error(e)
	}
	wantRows(t, s, "s", row("k0", strings.Repeat("v", 68)), row("k1", strings.Repeat("v", 68)), row("k2", strings.Repeat("v", 68)))
}

func TestCutsWithinACommit(t *testing.T) {
	for _, size := range []int{40, logSize} { // a short log has its Checkpoints within Commits
		chance := rand.New(rand.NewSource(int64(size)))
		d, _ := block.New(size + 300)
		s := open(t, openTree(t, d, size), tables...)
		m := model{"s": {}, "ss": {}, "r": {}}
		for range 15 {
			before, from := m.clone(), s.Tree().Pager().Log().Disk().Count()
			for range 4 {
				c := tables[chance.Intn(len(tables))]
				r := randomRow(chance, c)
				put(t, s, c.Name, r)
				m[c.Name][r.Key] = r
			}
			for name, rows := range m {
				if keys := slices.Sorted(maps.Keys(rows)); len(keys) > 3 {
					if e := s.Delete(name, keys[1]); e != api.OK {
						t.Fatal(e)
					}
					delete(rows, keys[1])
				}
			}
			commit(t, s)
			wantCuts(t, s.Tree().Pager().Log().Disk(), size, from, before, m)
		}
	}
}

// wantCuts asks that the store behind each cut from one write on is that of the last Commit, or, with all writes, that behind it.
func wantCuts(t *testing.T, d *block.Disk, size, from int, before, after model) {
	t.Helper()
	for k := from; k <= d.Count(); k++ {
		c, e := d.Cut(k)
		if e != api.OK {
			t.Fatal(e)
		}
		want := before
		if k == d.Count() {
			want = after
		}
		wantModel(t, open(t, openTree(t, c, size), tables...), want)
	}
}
