package keys_test

import (
	"bytes"
	"crypto/hmac"
	"crypto/sha256"
	"encoding/hex"
	"fmt"
	"math"
	"reflect"
	"slices"
	"strings"
	"testing"

	"holdfast/api"
	"holdfast/codec"
	"holdfast/keys"
	"holdfast/seal"
)

const (
	most      = 16 // of rotated purposes, and of tenants that are gone
	mostPlain = 1024
)

var badNames = []string{"", "A", "a.", "a/b", "#", "abcdefghij", "a b", "\x00", "\xff", "é", strings.Repeat("a", 1<<16)}

// rising is a root that has no two bytes alike.
func rising() api.Hash {
	var root api.Hash
	for i := range root {
		root[i] = byte(i)
	}
	return root
}

// keyOf is the key of the document's words, by the library's own HMAC.
func keyOf(root api.Hash, tenant, purpose string, version int) api.Hash {
	text := fmt.Sprintf("%s\x00\x01%s\x00\x01%c%x\x00\x01", tenant, purpose, 'a'+len(fmt.Sprintf("%x", version)), version)
	m := hmac.New(sha256.New, root[:])
	m.Write([]byte(text))
	return api.Hash(m.Sum(nil))
}

// sealedOf is the sealed text of the document's words.
func sealedOf(t *testing.T, root api.Hash, tenant, purpose string, version, number int, plain []byte) []byte {
	t.Helper()
	b, e := seal.Seal(keyOf(root, tenant, purpose, version), uint64(number), plain)
	if e != api.OK {
		t.Fatal(e)
	}
	return append([]byte{byte(version)}, b...)
}

func wantCurrent(t *testing.T, k *keys.Tree, tenant, purpose string, want int) {
	t.Helper()
	if n, e := k.Current(tenant, purpose); n != want || e != api.OK {
		t.Errorf("Current(%q, %q): %d %v, not %d", tenant, purpose, n, e, want)
	}
}

func rotate(t *testing.T, k *keys.Tree, tenant, purpose string, want int) {
	t.Helper()
	if n, e := k.Rotate(tenant, purpose); n != want || e != api.OK {
		t.Fatalf("Rotate(%q, %q): %d %v, not %d", tenant, purpose, n, e, want)
	}
}

func wantRotateError(t *testing.T, k *keys.Tree, tenant, purpose string, want api.Errno) {
	t.Helper()
	if n, e := k.Rotate(tenant, purpose); n != 0 || e != want {
		t.Errorf("Rotate(%q, %q): %d %v, not the error %v", tenant, purpose, n, e, want)
	}
}

func destroy(t *testing.T, k *keys.Tree, tenant string, want api.Errno) {
	t.Helper()
	if e := k.Destroy(tenant); e != want {
		t.Errorf("Destroy(%q): %v, not %v", tenant, e, want)
	}
}

func sealed(t *testing.T, k *keys.Tree, tenant, purpose string, plain []byte) []byte {
	t.Helper()
	b, e := k.Seal(tenant, purpose, plain)
	if e != api.OK {
		t.Fatalf("Seal(%q, %q) of %d bytes: %v", tenant, purpose, len(plain), e)
	}
	return b
}

func wantOpen(t *testing.T, k *keys.Tree, tenant, purpose string, sealed, plain []byte, version int) {
	t.Helper()
	if p, n, e := k.Open(tenant, purpose, sealed); e != api.OK || n != version || !bytes.Equal(p, plain) {
		t.Errorf("Open(%q, %q): %x %d %v, not %x %d", tenant, purpose, p, n, e, plain, version)
	}
}

func wantOpenError(t *testing.T, k *keys.Tree, tenant, purpose string, sealed []byte, want api.Errno) {
	t.Helper()
	if p, n, e := k.Open(tenant, purpose, sealed); e != want || n != 0 || len(p) != 0 {
		t.Errorf("Open(%q, %q) of %d bytes: %x %d %v, not the error %v", tenant, purpose, len(sealed), p, n, e, want)
	}
	if b, changed, e := k.Reseal(tenant, purpose, sealed); e != want || changed || len(b) != 0 {
		t.Errorf("Reseal(%q, %q) of %d bytes: %x %v %v, not the error %v", tenant, purpose, len(sealed), b, changed, e, want)
	}
}

func wantRows(t *testing.T, k *keys.Tree, want ...api.Row) {
	t.Helper()
	if rows := k.Rows(); !sameRows(rows, want) {
		t.Errorf("Rows: %q, not %q", rows, want)
	}
}

// sameRows takes no columns and a list of none for the same.
func sameRows(a, b []api.Row) bool {
	return slices.EqualFunc(a, b, func(x, y api.Row) bool { return x.Key == y.Key && slices.Equal(x.Columns, y.Columns) })
}

func row(key string, columns ...string) api.Row { return api.Row{Key: key, Columns: columns} }

func load(t *testing.T, root api.Hash, rows ...api.Row) *keys.Tree {
	t.Helper()
	k, e := keys.Load(root, rows...)
	if e != api.OK || k == nil {
		t.Fatalf("Load(%q): %v", rows, e)
	}
	return k
}

// wantErrors asks for one error of all calls that have Current's.
func wantErrors(t *testing.T, k *keys.Tree, tenant, purpose string, want api.Errno) {
	t.Helper()
	if n, e := k.Current(tenant, purpose); n != 0 || e != want {
		t.Errorf("Current(%q, %q): %d %v, not the error %v", tenant, purpose, n, e, want)
	}
	wantRotateError(t, k, tenant, purpose, want)
	for _, version := range []int{1, 0, 99} {
		if h, e := k.Key(tenant, purpose, version); h != (api.Hash{}) || e != want {
			t.Errorf("Key(%q, %q, %d): %x %v, not the error %v", tenant, purpose, version, h, e, want)
		}
	}
	for _, plain := range [][]byte{nil, []byte("x"), make([]byte, mostPlain+1)} {
		if b, e := k.Seal(tenant, purpose, plain); len(b) != 0 || e != want {
			t.Errorf("Seal(%q, %q): %x %v, not the error %v", tenant, purpose, b, e, want)
		}
		wantOpenError(t, k, tenant, purpose, plain, want)
	}
}

func TestNewTree(t *testing.T) {
	k := keys.New(rising())
	for _, tenant := range []string{"a", "0", "-", "abcdefghi"} {
		for _, purpose := range []string{"mail", "a", "zyxwvutsr"} {
			wantCurrent(t, k, tenant, purpose, 1)
		}
	}
	wantRows(t, k, row("#", "a"))
}

func TestRotate(t *testing.T) {
	k := keys.New(rising())
	for n := 2; n <= api.MaxVersions; n++ {
		rotate(t, k, "a", "mail", n)
		wantCurrent(t, k, "a", "mail", n)
	}
	wantCurrent(t, k, "a", "web", 1)
	wantCurrent(t, k, "b", "mail", 1)
	for range 2 {
		wantRotateError(t, k, "a", "mail", api.ErrFull)
		wantCurrent(t, k, "a", "mail", api.MaxVersions)
	}
	rotate(t, k, "a", "web", 2)
}

// fill lets as many purposes as may be have the version 2: half of tenant a, half of b.
func fill(t *testing.T, k *keys.Tree) {
	t.Helper()
	for i := range most {
		rotate(t, k, "ab"[i%2:i%2+1], fmt.Sprint("p", i), 2)
	}
}

func TestRotateOfTooManyPurposes(t *testing.T) {
	k := keys.New(rising())
	fill(t, k)
	for _, tenant := range []string{"a", "b", "c"} {
		wantRotateError(t, k, tenant, "more", api.ErrFull)
		wantCurrent(t, k, tenant, "more", 1)
	}
	rotate(t, k, "a", "p0", 3)
	rotate(t, k, "b", "p15", 3)
	wantRotateError(t, k, "b", "p0", api.ErrFull)
	if n := len(k.Rows()); n != 1+most {
		t.Error(n)
	}
}

func TestPurposesOfADestroyedTenantCountNoMore(t *testing.T) {
	k := keys.New(rising())
	fill(t, k)
	destroy(t, k, "a", api.OK)
	wantCurrent(t, k, "b", "p1", 2)
	for i := range most / 2 {
		rotate(t, k, "c", fmt.Sprint("p", i), 2)
	}
	wantRotateError(t, k, "c", "more", api.ErrFull)
}

func TestDestroyIsForEver(t *testing.T) {
	k := keys.New(rising())
	b := sealed(t, k, "a", "mail", []byte("x"))
	rotate(t, k, "a", "web", 2)
	destroy(t, k, "a", api.OK)
	wantErrors(t, k, "a", "mail", api.ErrGone)
	wantErrors(t, k, "a", "web", api.ErrGone)
	wantErrors(t, k, "a", "never", api.ErrGone)
	wantOpenError(t, k, "a", "mail", b, api.ErrGone)
	destroy(t, k, "a", api.ErrGone)
	wantCurrent(t, k, "b", "a", 1)
	wantCurrent(t, k, "aa", "a", 1)
	wantRows(t, k, row("#", "b1"), row("a"))
	wantErrors(t, load(t, rising(), k.Rows()...), "a", "mail", api.ErrGone)
}

func TestDestroyOfTooManyTenants(t *testing.T) {
	k := keys.New(rising())
	for i := range most {
		destroy(t, k, fmt.Sprint("t", i), api.OK)
	}
	rotate(t, k, "more", "mail", 2)
	destroy(t, k, "more", api.ErrFull)
	wantCurrent(t, k, "more", "mail", 2)
	destroy(t, k, "t3", api.ErrGone)
	destroy(t, k, "MORE", api.ErrName)
	if n := len(k.Rows()); n != 2+most {
		t.Error(n)
	}
}

func TestNamesThatMayNotBe(t *testing.T) {
	k := keys.New(rising())
	destroy(t, k, "gone", api.OK)
	before := k.Rows()
	for _, bad := range badNames {
		wantErrors(t, k, bad, "mail", api.ErrName)
		wantErrors(t, k, "a", bad, api.ErrName)
		wantErrors(t, k, bad, bad, api.ErrName)
		wantErrors(t, k, "gone", bad, api.ErrName)
		destroy(t, k, bad, api.ErrName)
	}
	wantRows(t, k, before...)
}

func TestNilTree(t *testing.T) {
	var k *keys.Tree
	wantErrors(t, k, "a", "mail", api.ErrNil)
	wantErrors(t, k, "", "", api.ErrNil)
	destroy(t, k, "a", api.ErrNil)
	destroy(t, k, "", api.ErrNil)
	if rows := k.Rows(); len(rows) != 0 {
		t.Error(rows)
	}
}

func TestKey(t *testing.T) {
	k := keys.New(rising())
	for current := 1; current <= api.MaxVersions; current++ {
		if current > 1 {
			rotate(t, k, "a", "mail", current)
		}
		for version := 1; version <= current; version++ {
			h, e := k.Key("a", "mail", version)
			if e != api.OK || h != keyOf(rising(), "a", "mail", version) {
				t.Errorf("version %d of %d: %x %v", version, current, h, e)
			}
		}
		for _, version := range []int{0, -1, current + 1, current + 2, current + 256, math.MinInt, math.MaxInt, 1 << 62} {
			if h, e := k.Key("a", "mail", version); e != api.ErrRange || h != (api.Hash{}) {
				t.Errorf("version %d of %d: %x %v", version, current, h, e)
			}
		}
	}
}

func TestKeyKnownAnswer(t *testing.T) {
	k := keys.New(api.Hash{1})
	h, e := k.Key("a", "mail", 1)
	if want := "7ef4e05175042dd99af218456f6ebe200d51a8fc17919de3f59ad7ae66bb3e58"; e != api.OK || hex.EncodeToString(h[:]) != want {
		t.Errorf("%x %v", h, e)
	}
	b := sealed(t, k, "a", "mail", []byte("x"))
	if want := "010000000000000000fa34c9880b0a7be448386040ab1120e957"; hex.EncodeToString(b) != want {
		t.Errorf("%x", b)
	}
	rotate(t, k, "a", "mail", 2)
	b = sealed(t, k, "a", "mail", []byte("x"))
	if want := "020000000000000001f6eddf0213a6c69118bb9b8ff35e98a61a"; hex.EncodeToString(b) != want {
		t.Errorf("%x", b)
	}
}

func TestKeysOfUnlikeRootsTenantsAndPurposes(t *testing.T) {
	for _, root := range []api.Hash{{}, {1}, rising()} {
		k := keys.New(root)
		for _, c := range [][2]string{{"a", "b"}, {"b", "a"}, {"ab", "c"}, {"a", "bc"}, {"abcdefghi", "zyxwvutsr"}} {
			if h, e := k.Key(c[0], c[1], 1); e != api.OK || h != keyOf(root, c[0], c[1], 1) {
				t.Errorf("%q: %x %v", c, h, e)
			}
		}
	}
}

// The number goes on over all tenants and purposes, and over Rotate and Destroy.
func TestSealCounts(t *testing.T) {
	k := keys.New(rising())
	number := 0
	want := func(tenant, purpose string, version int) {
		t.Helper()
		plain := []byte(fmt.Sprint("text ", number))
		b := sealed(t, k, tenant, purpose, plain)
		if !bytes.Equal(b, sealedOf(t, rising(), tenant, purpose, version, number, plain)) {
			t.Errorf("text %d of %s, %s: %x", number, tenant, purpose, b)
		}
		wantOpen(t, k, tenant, purpose, b, plain, version)
		number++
	}
	want("a", "mail", 1)
	want("a", "mail", 1)
	want("a", "web", 1)
	want("b", "mail", 1)
	rotate(t, k, "a", "mail", 2)
	want("a", "mail", 2)
	destroy(t, k, "b", api.OK)
	want("a", "web", 1)
	for version := 3; version <= api.MaxVersions; version++ {
		rotate(t, k, "a", "mail", version)
		want("a", "mail", version)
	}
	text, _ := codec.Number(number)
	wantRows(t, k, row("#", text), row("a/mail", "c10"), row("b"))
}

func TestSealThatFailsDoesNotCount(t *testing.T) {
	k := keys.New(rising())
	destroy(t, k, "gone", api.OK)
	for _, c := range []struct {
		tenant string
		plain  []byte
		want   api.Errno
	}{
		{"a", make([]byte, mostPlain+1), api.ErrLong},
		{"a", make([]byte, 1<<20), api.ErrLong},
		{"", nil, api.ErrName},
		{"gone", nil, api.ErrGone},
	} {
		if b, e := k.Seal(c.tenant, "mail", c.plain); len(b) != 0 || e != c.want {
			t.Errorf("%x %v, not %v", b, e, c.want)
		}
	}
	wantRows(t, k, row("#", "a"), row("gone"))
}

func TestSealOfAllSizes(t *testing.T) {
	k := keys.New(rising())
	for number, n := range []int{0, 1, 31, 32, 33, mostPlain - 1, mostPlain} {
		plain := bytes.Repeat([]byte{byte(n)}, n)
		b := sealed(t, k, "a", "mail", plain)
		if !bytes.Equal(b, sealedOf(t, rising(), "a", "mail", 1, number, plain)) {
			t.Errorf("%d bytes: %x", n, b)
		}
		wantOpen(t, k, "a", "mail", b, plain, 1)
	}
}

func TestSealOfTheLastText(t *testing.T) {
	nearly, _ := codec.Number(api.MaxTime - 1)
	full, _ := codec.Number(api.MaxTime)
	k := load(t, rising(), row("#", nearly), row("a/mail", "b2"))
	old := sealedOf(t, rising(), "a", "mail", 1, 0, []byte("old"))
	b := sealed(t, k, "a", "mail", []byte("x"))
	if !bytes.Equal(b, sealedOf(t, rising(), "a", "mail", 2, api.MaxTime-1, []byte("x"))) {
		t.Errorf("%x", b)
	}
	if b, e := k.Seal("a", "mail", nil); len(b) != 0 || e != api.ErrFull {
		t.Errorf("%x %v", b, e)
	}
	if b, e := k.Seal("a", "mail", make([]byte, mostPlain+1)); len(b) != 0 || e != api.ErrLong {
		t.Errorf("%x %v", b, e)
	}
	if b, changed, e := k.Reseal("a", "mail", old); len(b) != 0 || changed || e != api.ErrFull {
		t.Errorf("%x %v %v", b, changed, e)
	}
	if again, changed, e := k.Reseal("a", "mail", b); !bytes.Equal(again, b) || changed || e != api.OK {
		t.Errorf("%x %v %v", again, changed, e)
	}
	wantOpen(t, k, "a", "mail", old, []byte("old"), 1)
	wantRows(t, k, row("#", full), row("a/mail", "b2"))
}

func TestOpenErrors(t *testing.T) {
	k := keys.New(rising())
	first := sealed(t, k, "a", "mail", []byte("text"))
	rotate(t, k, "a", "mail", 2)
	second := sealed(t, k, "a", "mail", []byte("text"))
	wantOpenError(t, k, "a", "mail", nil, api.ErrForm)
	wantOpenError(t, k, "a", "mail", []byte{}, api.ErrForm)
	for _, version := range []byte{0, 3, 16, 17, 128, 255} {
		wantOpenError(t, k, "a", "mail", []byte{version}, api.ErrRange)
		wantOpenError(t, k, "a", "mail", append([]byte{version}, second[1:]...), api.ErrRange)
		wantOpenError(t, k, "a", "mail", append([]byte{version}, make([]byte, 5000)...), api.ErrRange)
	}
	for n := 1; n < 25; n++ {
		wantOpenError(t, k, "a", "mail", second[:n], api.ErrForm)
	}
	wantOpenError(t, k, "a", "mail", append([]byte{2}, make([]byte, 1049)...), api.ErrLong)
	wantOpenError(t, k, "a", "mail", append([]byte{2}, make([]byte, 1048)...), api.ErrWrong)
	wantOpenError(t, k, "a", "mail", append([]byte{1}, second[1:]...), api.ErrWrong)
	wantOpenError(t, k, "a", "mail", append([]byte{2}, first[1:]...), api.ErrWrong)
	wantOpenError(t, k, "a", "web", first, api.ErrWrong)
	wantOpenError(t, k, "a", "web", second, api.ErrRange)
	wantOpenError(t, k, "b", "mail", first, api.ErrWrong)
	wantOpenError(t, keys.New(api.Hash{1}), "a", "mail", first, api.ErrWrong)
	for i := 1; i < len(second); i++ {
		changed := slices.Clone(second)
		changed[i] ^= 4
		wantOpenError(t, k, "a", "mail", changed, api.ErrWrong)
	}
	wantRows(t, k, row("#", "b2"), row("a/mail", "b2"))
}

func TestReseal(t *testing.T) {
	k := keys.New(rising())
	first := sealed(t, k, "a", "mail", []byte("text"))
	if b, changed, e := k.Reseal("a", "mail", first); e != api.OK || changed || !bytes.Equal(b, first) {
		t.Errorf("%x %v %v", b, changed, e)
	}
	wantRows(t, k, row("#", "b1"))
	rotate(t, k, "a", "mail", 2)
	rotate(t, k, "a", "mail", 3)
	b, changed, e := k.Reseal("a", "mail", first)
	if e != api.OK || !changed || !bytes.Equal(b, sealedOf(t, rising(), "a", "mail", 3, 1, []byte("text"))) {
		t.Errorf("%x %v %v", b, changed, e)
	}
	wantRows(t, k, row("#", "b2"), row("a/mail", "b3"))
	wantOpen(t, k, "a", "mail", b, []byte("text"), 3)
	wantOpen(t, k, "a", "mail", first, []byte("text"), 1)
	again, changed, e := k.Reseal("a", "mail", b)
	if e != api.OK || changed || !bytes.Equal(again, b) {
		t.Errorf("%x %v %v", again, changed, e)
	}
	wantRows(t, k, row("#", "b2"), row("a/mail", "b3"))
}

// P9.4 and P9.6: behind any rotations, Reseal, and Load.
func TestWhatWasSealedOpens(t *testing.T) {
	k := keys.New(rising())
	texts := map[int][]byte{}
	for version := 1; version <= api.MaxVersions; version++ {
		if version > 1 {
			rotate(t, k, "a", "mail", version)
		}
		texts[version] = sealed(t, k, "a", "mail", []byte(fmt.Sprint("by ", version)))
		for older := 1; older <= version; older++ {
			plain := []byte(fmt.Sprint("by ", older))
			wantOpen(t, k, "a", "mail", texts[older], plain, older)
			wantOpen(t, load(t, rising(), k.Rows()...), "a", "mail", texts[older], plain, older)
			fresh, changed, e := k.Reseal("a", "mail", texts[older])
			if e != api.OK || changed != (older < version) {
				t.Fatal(older, version, changed, e)
			}
			wantOpen(t, k, "a", "mail", fresh, plain, version)
		}
	}
	// P9.5: and none of them when the tenant is gone.
	destroy(t, k, "a", api.OK)
	for version := 1; version <= api.MaxVersions; version++ {
		wantOpenError(t, k, "a", "mail", texts[version], api.ErrGone)
		wantOpenError(t, load(t, rising(), k.Rows()...), "a", "mail", texts[version], api.ErrGone)
	}
}

// A - lies below a / , so rows of a tenant may have others between them.
func TestRowsAreByTheirKeysBytes(t *testing.T) {
	k := keys.New(rising())
	for _, c := range [][2]string{{"b", "x"}, {"a-", "y"}, {"a", "x"}, {"a", "-"}, {"a-", "x"}, {"9", "z"}, {"aa", "0"}, {"-", "-"}} {
		rotate(t, k, c[0], c[1], 2)
	}
	rotate(t, k, "b", "x", 3)
	for _, tenant := range []string{"zz", "a--", "0", "z"} {
		destroy(t, k, tenant, api.OK)
	}
	sealed(t, k, "c", "x", nil)
	want := []api.Row{row("#", "b1"), row("-/-", "b2"), row("0"), row("9/z", "b2"), row("a--"), row("a-/x", "b2"), row("a-/y", "b2"),
		row("a/-", "b2"), row("a/x", "b2"), row("aa/0", "b2"), row("b/x", "b3"), row("z"), row("zz")}
	for range 5 {
		wantRows(t, k, want...)
	}
	wantRows(t, load(t, rising(), want...), want...)
}

func manyRows(n int, form string, columns ...string) []api.Row {
	rows := []api.Row{row("#", "a")}
	for i := range n {
		rows = append(rows, row(fmt.Sprintf(form, i), columns...))
	}
	return rows
}

func TestLoadTakes(t *testing.T) {
	for _, rows := range [][]api.Row{
		{row("#", "a")},
		{row("#", "l10000000000")},
		{row("#", "a"), row("a/b", "b2"), row("a/c", "c10")},
		{row("#", "a"), row("a"), row("a-/b", "b2"), row("aa/b", "b2")},
		manyRows(most, "t%02d"),
		manyRows(most, "t/p%02d", "bf"),
		manyRows(most, "t%02d/p", "b2"),
		append(manyRows(most, "t%02d"), manyRows(most, "z/p%02d", "b2")[1:]...),
	} {
		wantRows(t, load(t, rising(), rows...), rows...)
	}
}

func TestLoadRefuses(t *testing.T) {
	count := row("#", "a")
	for _, rows := range [][]api.Row{
		nil,
		{},
		{row("a")},
		{row("a/b", "b2")},
		{row("a"), count},
		{count, count},
		{row("#")},
		{row("#", "a", "a")},
		{row("#", "")},
		{row("#", "0")},
		{row("#", "b0")},
		{row("#", "l10000000001")},
		{row("#", "q4000000000000000")},
		{row("#", "q4000000000000001")},
		{row("", "a")},
		{row("", "a"), count},
		{row("##", "a")},
		{count, row("##", "a")},
		{count, row("#/a", "b2")},
		{count, row("a/b")},
		{count, row("a/b", "b2", "b2")},
		{count, row("a/b", "a")},
		{count, row("a/b", "b1")},
		{count, row("a/b", "c11")},
		{count, row("a/b", "2")},
		{count, row("a/b", "")},
		{count, row("a/b", "c02")},
		{count, row("a/b", "q4000000000000001")},
		{count, row("a", "b2")},
		{count, row("a", "")},
		{count, row("A")},
		{count, row("a.")},
		{count, row("abcdefghij")},
		{count, row("a/", "b2")},
		{count, row("/a", "b2")},
		{count, row("/", "b2")},
		{count, row("a/B", "b2")},
		{count, row("a/b/", "b2")},
		{count, row("a/b/c", "b2")},
		{count, row("a//b", "b2")},
		{count, row("a/abcdefghij", "b2")},
		{count, row("a"), row("a/b", "b2")},
		{count, row("a"), row("a-/b", "b2"), row("a/b", "b2")},
		{count, row("b"), row("a")},
		{count, row("a"), row("a")},
		{count, row("a/c", "b2"), row("a/b", "b2")},
		{count, row("a/b", "b2"), row("a/b", "b2")},
		{count, row("a/b", "b2"), row("a-/b", "b2")},
		{count, row("a/b", "b2"), row("a")},
		manyRows(most+1, "t%02d"),
		manyRows(most+1, "t/p%02d", "b2"),
		manyRows(most+1, "t%02d/p", "b2"),
	} {
		if k, e := keys.Load(rising(), rows...); k != nil || e != api.ErrForm {
			t.Errorf("Load(%q): %v %v", rows, k, e)
		}
	}
}

// roomy is bytes with spare room behind them, all of which is to stay as it is.
func roomy(b []byte) (list, all []byte) {
	all = append(slices.Clone(b), bytes.Repeat([]byte{0xee}, 2000)...)
	return all[:len(b)], all
}

// P3: lists stay as they are, with their spare room, and answers are the caller's.
func TestListsAreApart(t *testing.T) {
	k := keys.New(rising())
	plain, allPlain := roomy([]byte("plain"))
	was := slices.Clone(allPlain)
	b := sealed(t, k, "a", "mail", plain)
	if !bytes.Equal(allPlain, was) {
		t.Error("the plain text is changed")
	}
	for version := 1; version <= 2; version++ {
		given, all := roomy(b)
		was := slices.Clone(all)
		opened, _, _ := k.Open("a", "mail", given)
		fresh, changed, e := k.Reseal("a", "mail", given)
		if !bytes.Equal(all, was) || changed != (version > 1) || e != api.OK {
			t.Error("the sealed text is changed", changed, e)
		}
		kept := slices.Clone(fresh)
		clear(all)
		if string(opened) != "plain" || !bytes.Equal(fresh, kept) {
			t.Error("an answer lies in what was handed in")
		}
		clear(opened[:cap(opened)])
		if !bytes.Equal(fresh, kept) {
			t.Error("an answer lies in another one")
		}
		clear(fresh[:cap(fresh)])
		wantOpen(t, k, "a", "mail", b, []byte("plain"), 1)
		rotate(t, k, "a", "mail", version+1)
	}
}

func TestRowsAreApart(t *testing.T) {
	k := keys.New(rising())
	rotate(t, k, "a", "mail", 2)
	destroy(t, k, "b", api.OK)
	want := []api.Row{row("#", "a"), row("a/mail", "b2"), row("b")}
	scribble(k.Rows())
	wantRows(t, k, want...)
	rows := append(k.Rows(), row("spare", "s"))
	other := load(t, rising(), rows[:3]...)
	if !sameRows(rows, append(slices.Clone(want), row("spare", "s"))) {
		t.Errorf("%q", rows)
	}
	scribble(rows)
	wantRows(t, other, want...)
	rotate(t, other, "a", "mail", 3)
	destroy(t, other, "a", api.OK)
	wantRows(t, k, want...)
}

func scribble(rows []api.Row) {
	for i := range rows {
		for j := range rows[i].Columns {
			rows[i].Columns[j] = "scribble"
		}
		rows[i] = row("scribble")
	}
}

func TestLoadedDoesTheSameByItself(t *testing.T) {
	k := keys.New(rising())
	rotate(t, k, "a", "mail", 2)
	rows := k.Rows()
	if !reflect.DeepEqual(rows, load(t, rising(), rows...).Rows()) {
		t.Error("rows of what was loaded are others")
	}
	if h, e := load(t, api.Hash{9}, rows...).Key("a", "mail", 2); e != api.OK || h != keyOf(api.Hash{9}, "a", "mail", 2) {
		t.Errorf("the root is not what was handed in: %x %v", h, e)
	}
}
