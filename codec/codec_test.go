package codec_test

import (
	"bytes"
	"math"
	"slices"
	"strings"
	"testing"

	"holdfast/api"
	"holdfast/codec"
)

func key(t *testing.T, parts ...string) []byte {
	t.Helper()
	k, e := codec.Key(parts...)
	if e != api.OK {
		t.Fatalf("Key(%q): %v", parts, e)
	}
	return k
}

// texts are all of at most so many bytes, of some bytes.
func texts(some string, most int) []string {
	all := []string{""}
	for from := 0; most > 0; most-- {
		to := len(all)
		for _, ahead := range all[from:to] {
			for i := range len(some) {
				all = append(all, ahead+some[i:i+1])
			}
		}
		from = to
	}
	return all
}

// partLists are all of one and two parts, and some of three.
func partLists() [][]string {
	var lists [][]string
	parts := texts("\x00\x01\x02a\xff", 2)
	for _, a := range parts {
		lists = append(lists, []string{a})
		for _, b := range parts {
			lists = append(lists, []string{a, b})
		}
	}
	for _, a := range texts("\x00\x01\xff", 1) {
		for _, b := range texts("\x00\x01\xff", 1) {
			for _, c := range texts("\x00\x01\xff", 1) {
				lists = append(lists, []string{a, b, c})
			}
		}
	}
	return lists
}

func many(n int, text string) []string {
	return slices.Repeat([]string{text}, n)
}

func TestKeyBytes(t *testing.T) {
	for _, c := range []struct {
		parts []string
		want  string
	}{
		{[]string{"a"}, "a\x00\x01"},
		{[]string{"a", "b"}, "a\x00\x01b\x00\x01"},
		{[]string{""}, "\x00\x01"},
		{[]string{"", ""}, "\x00\x01\x00\x01"},
		{[]string{"\x00"}, "\x00\xff\x00\x01"},
		{[]string{"\x00\x00a\x00"}, "\x00\xff\x00\xffa\x00\xff\x00\x01"},
		{[]string{"\x01\xff", "\xff"}, "\x01\xff\x00\x01\xff\x00\x01"},
		{many(api.MaxParts, ""), strings.Repeat("\x00\x01", api.MaxParts)},
		{[]string{"\xc3\x28\x80"}, "\xc3\x28\x80\x00\x01"},
	} {
		if k, e := codec.Key(c.parts...); e != api.OK || string(k) != c.want {
			t.Errorf("Key(%q): %q %v", c.parts, k, e)
		}
		if p, e := codec.Parts([]byte(c.want)); e != api.OK || !slices.Equal(p, c.parts) {
			t.Errorf("Parts(%q): %q %v", c.want, p, e)
		}
	}
}

func TestKeyRefuses(t *testing.T) {
	long := strings.Repeat("x", api.MaxKey+1)
	for _, c := range []struct {
		parts []string
		want  api.Errno
	}{
		{nil, api.ErrRange},
		{many(api.MaxParts+1, ""), api.ErrRange},
		{many(api.MaxParts+1, long), api.ErrRange},
		{[]string{strings.Repeat("x", api.MaxKey-1)}, api.ErrLong},
		{[]string{long}, api.ErrLong},
		{[]string{strings.Repeat("\x00", api.MaxKey/2)}, api.ErrLong},
		{append(many(api.MaxParts-1, "123456"), "1234567"), api.ErrLong},
		{[]string{strings.Repeat("\x00", 1<<20)}, api.ErrLong},
	} {
		if k, e := codec.Key(c.parts...); k != nil || e != c.want {
			t.Errorf("%d parts: %q %v, not %v", len(c.parts), k, e, c.want)
		}
	}
}

func TestKeyOfMostBytes(t *testing.T) {
	for _, parts := range [][]string{
		{strings.Repeat("x", api.MaxKey-2)},
		{strings.Repeat("\x00", (api.MaxKey-2)/2)},
		many(api.MaxParts, "123456"),
	} {
		k, e := codec.Key(parts...)
		if e != api.OK || len(k) != api.MaxKey {
			t.Errorf("%q: %q %v", parts, k, e)
		}
		if p, e := codec.Parts(k); e != api.OK || !slices.Equal(p, parts) {
			t.Errorf("%q: %q %v", parts, p, e)
		}
	}
}

func TestPartsRefuses(t *testing.T) {
	for _, c := range []struct {
		key  string
		want api.Errno
	}{
		{"", api.ErrForm},
		{"a", api.ErrForm},
		{"\x00", api.ErrForm},
		{"a\x00", api.ErrForm},
		{"a\x00\xff", api.ErrForm},
		{"a\x00\x00", api.ErrForm},
		{"a\x00\x02", api.ErrForm},
		{"a\x00\xfe\x00\x01", api.ErrForm},
		{"a\x00\x01b", api.ErrForm},
		{"a\x00\x01\x00", api.ErrForm},
		{"a\x00\x01b\x00\x02", api.ErrForm},
		{"\x00\x00\x01", api.ErrForm},
		{strings.Repeat("\x00\x01", api.MaxParts+1), api.ErrForm},
		{strings.Repeat("\x00\x01", api.MaxKey/2), api.ErrForm},
		{strings.Repeat("\x00\x01", api.MaxParts) + "x", api.ErrForm},
		{strings.Repeat("x", api.MaxKey), api.ErrForm},
		{strings.Repeat("x", api.MaxKey+1), api.ErrLong},
		{strings.Repeat("x", api.MaxKey-1) + "\x00\x01", api.ErrLong},
	} {
		if p, e := codec.Parts([]byte(c.key)); p != nil || e != c.want {
			t.Errorf("Parts(%q): %q %v, not %v", c.key, p, e, c.want)
		}
	}
	if p, e := codec.Parts(nil); p != nil || e != api.ErrForm {
		t.Error("nil", p, e)
	}
}

func TestPartsOfKeyAreTheParts(t *testing.T) {
	for _, parts := range partLists() {
		if p, e := codec.Parts(key(t, parts...)); e != api.OK || !slices.Equal(p, parts) {
			t.Fatalf("%q: %q %v", parts, p, e)
		}
	}
}

func TestWhatPartsReadsKeyWrites(t *testing.T) {
	read := 0
	for _, text := range texts("\x00\x01\xffa", 7) {
		p, e := codec.Parts([]byte(text))
		if e == api.ErrForm && p == nil {
			continue
		}
		read++
		if k, e2 := codec.Key(p...); e != api.OK || e2 != api.OK || string(k) != text {
			t.Fatalf("%q: %q %v, %q %v", text, p, e, k, e2)
		}
	}
	if read < 100 {
		t.Error("too few keys were read:", read)
	}
}

func TestKeysAreOrderedAsTheirParts(t *testing.T) {
	lists := partLists()
	var keys [][]byte
	for _, parts := range lists {
		keys = append(keys, key(t, parts...))
	}
	for i := range lists {
		for j := range lists {
			if got, want := bytes.Compare(keys[i], keys[j]), slices.Compare(lists[i], lists[j]); got != want {
				t.Fatalf("%q and %q: %d, not %d", lists[i], lists[j], got, want)
			}
		}
	}
}

func TestKeysThatGoOnLieBelowAfter(t *testing.T) {
	lists := partLists()
	for _, ahead := range lists {
		from := key(t, ahead...)
		to := codec.After(from)
		for _, parts := range lists {
			k := key(t, parts...)
			within := bytes.Compare(from, k) <= 0 && bytes.Compare(k, to) < 0
			begins := len(parts) >= len(ahead) && slices.Equal(parts[:len(ahead)], ahead)
			if within != begins {
				t.Fatalf("%q against %q: within %v, begins %v", parts, ahead, within, begins)
			}
		}
	}
}

func TestRowBytes(t *testing.T) {
	for _, c := range []struct {
		columns []string
		want    string
	}{
		{nil, "\x00"},
		{[]string{"x", ""}, "\x02\x01x\x00"},
		{[]string{""}, "\x01\x00"},
		{[]string{"\x00\xff"}, "\x01\x02\x00\xff"},
		{many(api.MaxParts, ""), "\x08" + strings.Repeat("\x00", api.MaxParts)},
		{[]string{strings.Repeat("y", api.MaxText)}, "\x01\x46" + strings.Repeat("y", api.MaxText)},
		{many(api.MaxParts, "1234567"), "\x08" + strings.Repeat("\x071234567", api.MaxParts)},
		{[]string{strings.Repeat("y", 34), strings.Repeat("z", 35)}, "\x02\x22" + strings.Repeat("y", 34) + "\x23" + strings.Repeat("z", 35)},
	} {
		if b, e := codec.Row(c.columns...); e != api.OK || string(b) != c.want {
			t.Errorf("Row(%q): %q %v", c.columns, b, e)
		}
		if got, e := codec.Columns([]byte(c.want)); e != api.OK || !slices.Equal(got, c.columns) {
			t.Errorf("Columns(%q): %q %v", c.want, got, e)
		}
	}
}

func TestRowRefuses(t *testing.T) {
	for _, c := range []struct {
		columns []string
		want    api.Errno
	}{
		{many(api.MaxParts+1, ""), api.ErrRange},
		{many(api.MaxParts+1, strings.Repeat("x", api.MaxText+1)), api.ErrRange},
		{[]string{strings.Repeat("x", api.MaxText+1)}, api.ErrLong},
		{[]string{strings.Repeat("x", 256)}, api.ErrLong},
		{[]string{strings.Repeat("x", api.MaxText), ""}, api.ErrLong},
		{[]string{strings.Repeat("x", 35), strings.Repeat("x", 35)}, api.ErrLong},
		{many(api.MaxParts, "12345678"), api.ErrLong},
		{many(256, ""), api.ErrRange},
	} {
		if b, e := codec.Row(c.columns...); b != nil || e != c.want {
			t.Errorf("%d columns: %q %v, not %v", len(c.columns), b, e, c.want)
		}
	}
}

func TestColumnsRefuses(t *testing.T) {
	for _, c := range []struct {
		row  string
		want api.Errno
	}{
		{"", api.ErrForm},
		{"\x01", api.ErrForm},
		{"\x00\x00", api.ErrForm},
		{"\x01\x01", api.ErrForm},
		{"\x01\x02x", api.ErrForm},
		{"\x01\x01xy", api.ErrForm},
		{"\x02\x01x", api.ErrForm},
		{"\x02\x01x\x01", api.ErrForm},
		{"\x09" + strings.Repeat("\x00", 9), api.ErrForm},
		{"\xff", api.ErrForm},
		{"\x01\xff" + strings.Repeat("x", api.MaxValue-2), api.ErrForm},
		{"\x01\x47" + strings.Repeat("x", api.MaxValue-2), api.ErrForm},
		{"\x01\x47" + strings.Repeat("x", api.MaxText+1), api.ErrLong},
		{"\x00" + strings.Repeat("x", api.MaxValue), api.ErrLong},
		{strings.Repeat("x", 1<<16), api.ErrLong},
	} {
		if got, e := codec.Columns([]byte(c.row)); got != nil || e != c.want {
			t.Errorf("Columns(%q): %q %v, not %v", c.row, got, e, c.want)
		}
	}
	if got, e := codec.Columns(nil); got != nil || e != api.ErrForm {
		t.Error("nil", got, e)
	}
}

func TestColumnsOfRowAreTheColumns(t *testing.T) {
	for _, columns := range partLists() {
		b, e := codec.Row(columns...)
		if e != api.OK {
			t.Fatalf("%q: %v", columns, e)
		}
		if got, e := codec.Columns(b); e != api.OK || !slices.Equal(got, columns) {
			t.Fatalf("%q: %q %v", columns, got, e)
		}
	}
}

func TestWhatColumnsReadsRowWrites(t *testing.T) {
	read := 0
	for _, text := range texts("\x00\x01\x02\x03a", 6) {
		columns, e := codec.Columns([]byte(text))
		if e == api.ErrForm && columns == nil {
			continue
		}
		read++
		if b, e2 := codec.Row(columns...); e != api.OK || e2 != api.OK || string(b) != text {
			t.Fatalf("%q: %q %v, %q %v", text, columns, e, b, e2)
		}
	}
	if read < 100 {
		t.Error("too few rows were read:", read)
	}
}

func TestNumberTexts(t *testing.T) {
	for _, c := range []struct {
		n    int
		want string
	}{
		{0, "a"}, {1, "b1"}, {9, "b9"}, {10, "ba"}, {15, "bf"}, {16, "c10"}, {255, "cff"}, {256, "d100"},
		{1 << 40, "l10000000000"},
		{1<<60 - 1, "pfffffffffffffff"},
		{1 << 60, "q1000000000000000"},
		{1<<62 - 1, "q3fffffffffffffff"},
		{1 << 62, "q4000000000000000"},
	} {
		if s, e := codec.Number(c.n); e != api.OK || s != c.want {
			t.Errorf("Number(%d): %q %v", c.n, s, e)
		}
		if n, e := codec.ToNumber(c.want); e != api.OK || n != c.n {
			t.Errorf("ToNumber(%q): %d %v", c.want, n, e)
		}
	}
}

func TestNumberRefuses(t *testing.T) {
	for _, n := range []int{-1, math.MinInt, 1<<62 + 1, math.MaxInt} {
		if s, e := codec.Number(n); s != "" || e != api.ErrRange {
			t.Errorf("Number(%d): %q %v", n, s, e)
		}
	}
}

func TestToNumberRefuses(t *testing.T) {
	for _, c := range []struct {
		text string
		want api.Errno
	}{
		{"", api.ErrForm}, {"b", api.ErrForm}, {"a0", api.ErrForm}, {"a1", api.ErrForm}, {"b0", api.ErrForm},
		{"c0f", api.ErrForm}, {"c01", api.ErrForm}, {"cf", api.ErrForm}, {"bff", api.ErrForm},
		{"bA", api.ErrForm}, {"cFF", api.ErrForm}, {"bg", api.ErrForm}, {"b/", api.ErrForm}, {"b:", api.ErrForm},
		{"b`", api.ErrForm}, {"c1_", api.ErrForm}, {"c+1", api.ErrForm}, {"c-1", api.ErrForm}, {"d0x1", api.ErrForm},
		{"B1", api.ErrForm}, {"1", api.ErrForm}, {"`", api.ErrForm}, {"\x00", api.ErrForm}, {"\xff\xff", api.ErrForm},
		{" a", api.ErrForm}, {"a ", api.ErrForm}, {"c1\x00", api.ErrForm},
		{"q0fffffffffffffff", api.ErrForm},
		{"qfffffffffffffffg", api.ErrForm},
		{"r10000000000000000", api.ErrForm},
		{"r00000000000000001", api.ErrForm},
		{"q10000000000000000", api.ErrForm},
		{"p1000000000000000f", api.ErrForm},
		{"q" + strings.Repeat("1", 1<<16), api.ErrForm},
		{string(rune('a'+20)) + strings.Repeat("1", 20), api.ErrForm},
		{"\x61" + strings.Repeat("1", 256), api.ErrForm},
		{"q4000000000000001", api.ErrRange},
		{"q7fffffffffffffff", api.ErrRange},
		{"q8000000000000000", api.ErrRange},
		{"qffffffffffffffff", api.ErrRange},
	} {
		if n, e := codec.ToNumber(c.text); n != 0 || e != c.want {
			t.Errorf("ToNumber(%q): %d %v, not %v", c.text, n, e, c.want)
		}
	}
}

// numbers are those around every power of 2, and the first ones, rising.
func numbers() []int {
	var all []int
	for n := range 600 {
		all = append(all, n)
	}
	for i := 10; i <= 62; i++ {
		all = append(all, 1<<i-1, 1<<i)
		if i < 62 {
			all = append(all, 1<<i+1, 1<<i+1<<(i-1))
		}
	}
	slices.Sort(all)
	return slices.Compact(all)
}

func TestNumbersTextsReadAndAreOrdered(t *testing.T) {
	ahead := ""
	for _, n := range numbers() {
		s, e := codec.Number(n)
		if e != api.OK || s <= ahead {
			t.Fatalf("Number(%d): %q %v behind %q", n, s, e, ahead)
		}
		if got, e := codec.ToNumber(s); e != api.OK || got != n {
			t.Fatalf("ToNumber(%q): %d %v", s, got, e)
		}
		ahead = s
	}
}

func TestWhatToNumberReadsNumberWrites(t *testing.T) {
	read := 0
	for _, text := range texts("abcd019fgA", 4) {
		n, e := codec.ToNumber(text)
		if e == api.ErrForm && n == 0 {
			continue
		}
		read++
		if s, e2 := codec.Number(n); e != api.OK || e2 != api.OK || s != text {
			t.Fatalf("%q: %d %v, %q %v", text, n, e, s, e2)
		}
	}
	if read < 100 {
		t.Error("too few numbers were read:", read)
	}
}

func TestAfter(t *testing.T) {
	for _, c := range []struct{ key, want string }{
		{"", "\xff"},
		{"\x00", "\x01"},
		{"a\x00\x01", "a\x00\x02"},
		{"\xfe", "\xff"},
		{"\xff", "\xff\xff"},
		{"a\xff", "a\xff\xff"},
		{"\xffa", "\xffb"},
		{strings.Repeat("x", 1000), strings.Repeat("x", 999) + "y"},
	} {
		if got := codec.After([]byte(c.key)); string(got) != c.want {
			t.Errorf("After(%q): %q", c.key, got)
		}
	}
	if got := codec.After(nil); string(got) != "\xff" {
		t.Errorf("After(nil): %q", got)
	}
}

func TestIsName(t *testing.T) {
	for _, s := range []string{"a", "z", "0", "9", "-", "a-1", "---", "abcdefghi", strings.Repeat("z", api.MaxName)} {
		if !codec.IsName(s) {
			t.Errorf("%q is a name", s)
		}
	}
	for _, s := range []string{"", "A", "abcdefghij", strings.Repeat("-", api.MaxName+1), "a b", "a.", ".", "a_b", "\x00", "a\x00", "ab\xff", "é", "a/b", strings.Repeat("a", 1<<16)} {
		if codec.IsName(s) {
			t.Errorf("%q is no name", s)
		}
	}
}

func TestBytesOfNames(t *testing.T) {
	for c := range 256 {
		want := strings.Contains("abcdefghijklmnopqrstuvwxyz0123456789-", string([]byte{byte(c)}))
		for _, text := range []string{"\x00", "\x00a", "a\x00", "a\x00a"} {
			s := strings.ReplaceAll(text, "\x00", string([]byte{byte(c)}))
			if codec.IsName(s) != want {
				t.Errorf("%q: %v", s, !want)
			}
		}
	}
}

// withSpare is a list with room behind its end, and all of that room.
func withSpare(b []byte) (list, room []byte) {
	room = append(slices.Clone(b), 0xaa, 0xbb, 0xcc)
	return room[:len(b)], room
}

func TestWhatIsHandedInStays(t *testing.T) {
	for _, text := range []string{"", "a\x00\x01", "\xff", "\x02\x01x\x00", "a\x00\xff\x00\x01b\x00\x01"} {
		list, room := withSpare([]byte(text))
		kept := slices.Clone(room)
		after := codec.After(list)
		codec.Parts(list)
		codec.Columns(list)
		if !bytes.Equal(room, kept) {
			t.Errorf("%q: %q", text, room)
		}
		want := slices.Clone(after)
		clear(room)
		if !bytes.Equal(after, want) {
			t.Errorf("After(%q) lies in what was handed in", text)
		}
	}
	parts := []string{"a", "b", "spare"}
	codec.Key(parts[:2]...)
	codec.Row(parts[:2]...)
	if !slices.Equal(parts, []string{"a", "b", "spare"}) {
		t.Error(parts)
	}
}

func TestWhatIsAnsweredIsTheCallers(t *testing.T) {
	for range 2 {
		k := key(t, "a", "\x00")
		b, _ := codec.Row("a", "b")
		if string(k) != "a\x00\x01\x00\xff\x00\x01" || string(b) != "\x02\x01a\x01b" {
			t.Errorf("%q %q", k, b)
		}
		p, _ := codec.Parts(k)
		columns, _ := codec.Columns(b)
		clear(k)
		clear(b)
		if !slices.Equal(p, []string{"a", "\x00"}) || !slices.Equal(columns, []string{"a", "b"}) {
			t.Errorf("%q %q", p, columns)
		}
		clear(p)
		clear(columns)
	}
}
