package tree_test

import (
	"bytes"
	"maps"
	"math"
	"slices"
	"strings"
	"testing"

	"holdfast/api"
	"holdfast/block"
	"holdfast/pager"
	"holdfast/tree"
	"holdfast/wal"
)

// logSize is room for any group.
const logSize = api.MaxGroup + 10

func newLog(t *testing.T, size, pages int) *wal.Log {
	t.Helper()
	d, e := block.New(size + 1 + pages)
	if e != api.OK {
		t.Fatal(e)
	}
	return openLog(t, d, size)
}

func openLog(t *testing.T, d *block.Disk, size int) *wal.Log {
	t.Helper()
	l, e := wal.Open(d, size)
	if e != api.OK {
		t.Fatal(e)
	}
	return l
}

func newPager(t *testing.T, l *wal.Log) *pager.Pager {
	t.Helper()
	p, e := pager.New(l, 8)
	if e != api.OK {
		t.Fatal(e)
	}
	return p
}

func openTree(t *testing.T, l *wal.Log) *tree.Tree {
	t.Helper()
	x, e := tree.Open(newPager(t, l))
	if e != api.OK || x == nil {
		t.Fatal(x, e)
	}
	return x
}

// newTree is an empty tree of so many pages, the head among them.
func newTree(t *testing.T, pages int) *tree.Tree {
	t.Helper()
	return openTree(t, newLog(t, logSize, pages))
}

func put(t *testing.T, x *tree.Tree, key, value string) {
	t.Helper()
	if e := x.Put([]byte(key), []byte(value)); e != api.OK {
		t.Fatalf("put %q: %v", key, e)
	}
}

func remove(t *testing.T, x *tree.Tree, key string) {
	t.Helper()
	if e := x.Delete([]byte(key)); e != api.OK {
		t.Fatalf("delete %q: %v", key, e)
	}
}

func commit(t *testing.T, x *tree.Tree) {
	t.Helper()
	if e := x.Commit(); e != api.OK {
		t.Fatal(e)
	}
}

func check(t *testing.T, x *tree.Tree) tree.Report {
	t.Helper()
	r, e := x.Check()
	if e != api.OK {
		t.Fatal(e)
	}
	return r
}

// pairs are all that a tree has.
func pairs(t *testing.T, x *tree.Tree) []api.Pair {
	t.Helper()
	l, e := x.Scan(nil, nil, math.MaxInt)
	if e != api.OK {
		t.Fatal(e)
	}
	return l
}

// model is what a tree ought to have.
type model map[string]string

func (m model) keys() []string { return slices.Sorted(maps.Keys(m)) }

func contents(t *testing.T, x *tree.Tree) model {
	t.Helper()
	m := model{}
	for _, p := range pairs(t, x) {
		m[string(p.Key)] = string(p.Value)
	}
	return m
}

// wantAll asks that a tree has just a model's pairs, in order, and that its pages lie as they must.
func wantAll(t *testing.T, x *tree.Tree, m model) tree.Report {
	t.Helper()
	l := pairs(t, x)
	if len(l) != len(m) {
		t.Fatalf("%d pairs; want %d", len(l), len(m))
	}
	for i, k := range m.keys() {
		if string(l[i].Key) != k || string(l[i].Value) != m[k] {
			t.Fatalf("pair %d: %q %q; want %q %q", i, l[i].Key, l[i].Value, k, m[k])
		}
	}
	r := check(t, x)
	wantReport(t, x, r, len(m))
	return r
}

// wantReport asks for E7, and P5.6.
func wantReport(t *testing.T, x *tree.Tree, r tree.Report, pairs int) {
	t.Helper()
	for _, l := range [][]int{r.Pages, r.Free, r.Fresh} {
		if !slices.IsSorted(l) {
			t.Fatal("not rising", r)
		}
	}
	all := slices.Sorted(slices.Values(slices.Concat(r.Pages, r.Free, r.Fresh)))
	for i, n := range all {
		if n != i+1 {
			t.Fatal("pages are not apart, or not all", r)
		}
	}
	count := x.Pager().Log().Pages()
	if len(all) != count-1 {
		t.Fatal("not all pages", r)
	}
	if len(r.Fresh) > 0 && r.Fresh[0] != count-len(r.Fresh) {
		t.Fatal("fresh pages are not the last ones", r)
	}
	if r.Least != 0 && r.Least < api.MinFill || (r.Least == 0) != (len(r.Pages) < 2) {
		t.Fatal("least", r)
	}
	if pairs > 0 && (r.Height < 1 || pairs < 1<<(r.Height-1)) {
		t.Fatal("height", r.Height, pairs)
	}
	if pairs == 0 && (r.Height > 1 || len(r.Pages) > 1) {
		t.Fatal("an empty tree has pages", r)
	}
}

// dirt is the bytes of all dirty pages, and the numbers of all writes to the disk.
func dirt(t *testing.T, x *tree.Tree) map[int]string {
	t.Helper()
	pages := map[int]string{-1: string(bytes.Repeat([]byte{'w'}, x.Pager().Log().Disk().Count()))}
	for _, n := range x.Pager().Dirty() {
		b, e := x.Pager().Read(n)
		if e != api.OK {
			t.Fatal(n, e)
		}
		pages[n] = string(b)
	}
	return pages
}

// wantUntouched asks that a tree and its pages are the same behind work as ahead of it.
func wantUntouched(t *testing.T, x *tree.Tree, work func()) {
	t.Helper()
	had, pages := contents(t, x), dirt(t, x)
	work()
	wantAll(t, x, had)
	if !maps.Equal(pages, dirt(t, x)) {
		t.Error("pages were written")
	}
}

func TestExample(t *testing.T) {
	x := newTree(t, 9)
	put(t, x, "b", "2")
	put(t, x, "a", "1")
	want := []api.Pair{{Key: []byte("a"), Value: []byte("1")}, {Key: []byte("b"), Value: []byte("2")}}
	l := pairs(t, x)
	if len(l) != 2 || !slices.EqualFunc(l, want, samePair) {
		t.Error(l)
	}
	if v, e := x.Get([]byte("c")); v != nil || e != api.ErrNone {
		t.Error(v, e)
	}
}

func samePair(a, b api.Pair) bool {
	return bytes.Equal(a.Key, b.Key) && bytes.Equal(a.Value, b.Value)
}

func filled(c byte) []byte { return bytes.Repeat([]byte{c}, api.PageBytes) }

func TestOpenRefuses(t *testing.T) {
	if x, e := tree.Open(nil); x != nil || e != api.ErrNil {
		t.Error(x, e)
	}
	one := newPager(t, newLog(t, 4, 1))
	if x, e := tree.Open(one); x != nil || e != api.ErrRange {
		t.Error(x, e)
	}
	one.Write(0, filled(9)...)
	if x, e := tree.Open(one); x != nil || e != api.ErrRange {
		t.Error("a number ahead of dirty pages", x, e)
	}
	for _, n := range []int{0, 1} {
		p := newPager(t, newLog(t, 4, 2))
		p.Write(n, filled(9)...)
		if x, e := tree.Open(p); x != nil || e != api.ErrForm {
			t.Error("dirty pages, even a head that is none", n, x, e)
		}
		p.Abort()
		if x, e := tree.Open(p); x == nil || e != api.OK {
			t.Error(x, e)
		}
	}
	for _, b := range [][]byte{filled(9), filled(255), append(make([]byte, api.PageBytes-1), 1), append([]byte{1}, make([]byte, api.PageBytes-1)...)} {
		l := newLog(t, 4, 2)
		l.Commit(api.Page{Number: 0, Bytes: b})
		p := newPager(t, l)
		if x, e := tree.Open(p); x != nil || e != api.ErrBroken {
			t.Error("a page 0 that is no head", x, e)
		}
		if len(p.Dirty()) > 0 {
			t.Error(p.Dirty())
		}
	}
}

func TestOpenWritesNothing(t *testing.T) {
	l := newLog(t, logSize, 2)
	p := newPager(t, l)
	x, e := tree.Open(p)
	if e != api.OK || x.Pager() != p || p.Log() != l {
		t.Fatal(e)
	}
	wantAll(t, x, model{})
	if len(p.Dirty()) > 0 || l.Disk().Count() > 0 {
		t.Error(p.Dirty(), l.Disk().Writes())
	}
}

func TestNil(t *testing.T) {
	var x *tree.Tree
	for _, key := range [][]byte{nil, []byte("a"), make([]byte, api.MaxKey+1)} {
		if v, e := x.Get(key); v != nil || e != api.ErrNil {
			t.Error(v, e)
		}
		if e := x.Put(key, make([]byte, api.MaxValue+1)); e != api.ErrNil {
			t.Error(e)
		}
		if e := x.Delete(key); e != api.ErrNil {
			t.Error(e)
		}
	}
	for _, most := range []int{-1, 0, 1} {
		if l, e := x.Scan(nil, nil, most); l != nil || e != api.ErrNil {
			t.Error(l, e)
		}
	}
	if e := x.Commit(); e != api.ErrNil {
		t.Error(e)
	}
	if e := x.Abort(); e != api.ErrNil {
		t.Error(e)
	}
	if r, e := x.Check(); e != api.ErrNil || r.Height != 0 || r.Least != 0 || r.Pages != nil || r.Free != nil || r.Fresh != nil {
		t.Error(r, e)
	}
	if x.Pager() != nil {
		t.Error(x.Pager())
	}
}

func TestKeysAndValuesHaveLimits(t *testing.T) {
	x := newTree(t, 30)
	longest := strings.Repeat("k", api.MaxKey)
	m := model{"a": "", "b": strings.Repeat("v", api.MaxValue), longest: strings.Repeat("w", api.MaxValue), "\x00": "\x00"}
	for k, v := range m {
		put(t, x, k, v)
	}
	wantAll(t, x, m)
	for k, v := range m {
		if b, e := x.Get([]byte(k)); e != api.OK || string(b) != v {
			t.Errorf("%q: %q %v", k, b, e)
		}
	}
	wantUntouched(t, x, func() {
		for _, key := range [][]byte{nil, {}, []byte(longest + "k"), make([]byte, 1000)} {
			if v, e := x.Get(key); v != nil || e != api.ErrLong {
				t.Error(len(key), v, e)
			}
			if e := x.Put(key, nil); e != api.ErrLong {
				t.Error(len(key), e)
			}
			if e := x.Delete(key); e != api.ErrLong {
				t.Error(len(key), e)
			}
		}
		for _, size := range []int{api.MaxValue + 1, 1000} {
			if e := x.Put([]byte("a"), make([]byte, size)); e != api.ErrLong {
				t.Error(size, e)
			}
		}
	})
}

func TestWrongKeysOfAnEmptyTree(t *testing.T) {
	x := newTree(t, 2)
	for _, key := range []string{"", strings.Repeat("k", api.MaxKey+1)} {
		if _, e := x.Get([]byte(key)); e != api.ErrLong {
			t.Error("too long comes ahead of none", e)
		}
		if e := x.Delete([]byte(key)); e != api.ErrLong {
			t.Error("too long comes ahead of none", e)
		}
	}
	if e := x.Delete([]byte("a")); e != api.ErrNone {
		t.Error(e)
	}
	wantAll(t, x, model{})
}

func TestTooLongComesAheadOfFull(t *testing.T) {
	x := newTree(t, 2)
	put(t, x, "a", strings.Repeat("v", 72))
	put(t, x, "b", strings.Repeat("v", 72))
	put(t, x, "c", strings.Repeat("v", 72))
	if e := x.Put([]byte("d"), make([]byte, api.MaxValue)); e != api.ErrFull {
		t.Fatal(e)
	}
	if e := x.Put([]byte("d"), make([]byte, api.MaxValue+1)); e != api.ErrLong {
		t.Error(e)
	}
}

func TestPutAndDelete(t *testing.T) {
	x := newTree(t, 9)
	put(t, x, "a", "1")
	put(t, x, "ab", "2")
	put(t, x, "a", "3")
	wantAll(t, x, model{"a": "3", "ab": "2"})
	for _, key := range []string{"b", "aa", "abc", "A", "\x00"} {
		if _, e := x.Get([]byte(key)); e != api.ErrNone {
			t.Error(key, e)
		}
		if e := x.Delete([]byte(key)); e != api.ErrNone {
			t.Error(key, e)
		}
	}
	remove(t, x, "a")
	wantAll(t, x, model{"ab": "2"})
	if e := x.Delete([]byte("a")); e != api.ErrNone {
		t.Error(e)
	}
	remove(t, x, "ab")
	r := wantAll(t, x, model{})
	if r.Least != 0 {
		t.Error(r)
	}
}

func TestOrderIsByBytes(t *testing.T) {
	x := newTree(t, 9)
	keys := []string{"\x00", "\x00\x00", "\x00\x01", "a", "a\x00", "aa", "b", "\x7f", "\x80", "\xff", "\xff\xff"}
	for i := range keys {
		put(t, x, keys[(i*7)%len(keys)], "")
	}
	for i, p := range pairs(t, x) {
		if string(p.Key) != keys[i] {
			t.Errorf("%d: %q; want %q", i, p.Key, keys[i])
		}
	}
}

// scanned are the pairs that Scan ought to tell.
func scanned(m model, from, to string, most int) []string {
	var keys []string
	for _, k := range m.keys() {
		if k >= from && (to == "" || k < to) && len(keys) < most {
			keys = append(keys, k)
		}
	}
	return keys
}

func TestScan(t *testing.T) {
	x := newTree(t, 60)
	m := model{}
	for i := range 80 {
		k := strings.Repeat(string(rune('a'+i%16)), 1+i/16*9)
		m[k] = strings.Repeat("v", i%73)
		put(t, x, k, m[k])
	}
	if r := wantAll(t, x, m); r.Height < 3 {
		t.Fatal("a tree too small", r)
	}
	bounds := []string{"", "\x00", "a", "aa", "b", "cccc", "ccccccccccc", "h", strings.Repeat("h", 64), strings.Repeat("h", 200), "p", "pp", strings.Repeat("p", 37), "q", "\xff", strings.Repeat("\xff", 300)}
	for _, from := range bounds {
		for _, to := range bounds {
			for _, most := range []int{0, 1, 2, 7, 80, math.MaxInt} {
				l, e := x.Scan([]byte(from), []byte(to), most)
				want := scanned(m, from, to, most)
				if e != api.OK || !slices.EqualFunc(l, want, func(p api.Pair, k string) bool { return string(p.Key) == k && string(p.Value) == m[k] }) {
					t.Fatalf("%q %q %d: %d pairs, %v; want %d", from, to, most, len(l), e, len(want))
				}
			}
		}
	}
	for _, most := range []int{-1, math.MinInt} {
		if l, e := x.Scan(nil, nil, most); l != nil || e != api.ErrRange {
			t.Error(l, e)
		}
	}
}

func TestScanOfAnEmptyTree(t *testing.T) {
	x := newTree(t, 2)
	for _, most := range []int{0, 1, math.MaxInt} {
		if l, e := x.Scan(nil, nil, most); len(l) > 0 || e != api.OK {
			t.Error(l, e)
		}
	}
	if _, e := x.Scan(nil, nil, -1); e != api.ErrRange {
		t.Error(e)
	}
}

func TestWhatIsHandedInStays(t *testing.T) {
	x := newTree(t, 9)
	roomy := []byte("key\x01\x02\x03value\x04\x05\x06")
	was := slices.Clone(roomy)
	key, value := roomy[0:3], roomy[6:11]
	if e := x.Put(key, value); e != api.OK {
		t.Fatal(e)
	}
	x.Get(key)
	x.Scan(key, value, 5)
	x.Delete(value)
	if e := x.Put(key, value); e != api.OK || !bytes.Equal(roomy, was) {
		t.Error(e, roomy)
	}
	clear(roomy)
	wantAll(t, x, model{"key": "value"})
}

func TestWhatIsAnsweredIsTheCallers(t *testing.T) {
	x := newTree(t, 9)
	m := model{"a": "12", "b": "34", "c": ""}
	for k, v := range m {
		put(t, x, k, v)
	}
	v, _ := x.Get([]byte("a"))
	clear(v)
	_ = append(v, 9, 9, 9)
	l := pairs(t, x)
	for i := range l {
		_ = append(l[i].Key, 9, 9, 9, 9)
		_ = append(l[i].Value, 9, 9, 9, 9)
	}
	for _, p := range l {
		if m[string(p.Key)] != string(p.Value) {
			t.Errorf("pairs share memory: %q %q", p.Key, p.Value)
		}
		clear(p.Key)
		clear(p.Value)
	}
	r := check(t, x)
	clear(r.Pages)
	clear(r.Fresh)
	clear(r.Free)
	wantAll(t, x, m)
	commit(t, x)
	wantAll(t, x, m)
}
