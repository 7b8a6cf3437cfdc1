package tree_test

import (
	"fmt"
	"maps"
	"math/rand"
	"slices"
	"strings"
	"testing"

	"holdfast/api"
	"holdfast/tree"
)

// kind is a kind of pairs, of which there are as many as one likes.
type kind struct {
	name string
	pair func(i int) (key, value string)
}

// kinds have keys of unlike lengths, and entries from the smallest to the greatest one that may be.
var kinds = []kind{
	{"short", func(i int) (string, string) {
		return fmt.Sprint(i), ""
	}},
	{"long keys that begin alike", func(i int) (string, string) {
		return fmt.Sprintf("%s%04d", strings.Repeat("k", api.MaxKey-4), i), strings.Repeat("v", i*31%api.MaxValue)
	}},
	{"greatest", func(i int) (string, string) {
		return fmt.Sprintf("%04d%s", i, strings.Repeat("k", api.MaxKey-4)), strings.Repeat("v", api.MaxValue)
	}},
	{"unlike lengths", func(i int) (string, string) {
		return strings.Repeat(fmt.Sprint(i%7), 1+i*13%50) + fmt.Sprint(i), strings.Repeat("v", i*29%(api.MaxValue+1))
	}},
	{"beginnings of one another", func(i int) (string, string) {
		return strings.Repeat(string([]byte{byte('a' + i/api.MaxKey)}), 1+i%api.MaxKey), strings.Repeat("v", i*17%40)
	}},
}

func (k kind) model(n int) model {
	m := model{}
	for i := range n {
		key, value := k.pair(i)
		m[key] = value
	}
	return m
}

// ordered are keys in an order.
func ordered(keys []string, order string) []string {
	l := slices.Clone(keys)
	switch order {
	case "falling":
		slices.Reverse(l)
	case "mixed":
		rand.New(rand.NewSource(int64(len(l)))).Shuffle(len(l), func(i, j int) { l[i], l[j] = l[j], l[i] })
	}
	return l
}

var orders = []string{"rising", "falling", "mixed"}

func TestManyKeys(t *testing.T) {
	for _, k := range kinds {
		for _, in := range orders {
			for _, out := range orders {
				t.Run(k.name+" in "+in+" out "+out, func(t *testing.T) { manyKeys(t, k.model(120), in, out) })
			}
		}
	}
}

// manyKeys puts all pairs of a model, lets half of them have other values and the old ones again, and deletes all, with a look at the whole tree behind each deed.
func manyKeys(t *testing.T, all model, in, out string) {
	x := newTree(t, 300)
	m := model{}
	height := 0
	deed := func() {
		t.Helper()
		height = max(height, wantAll(t, x, m).Height)
		commit(t, x)
	}
	for _, key := range ordered(all.keys(), in) {
		m[key] = all[key]
		put(t, x, key, m[key])
		deed()
	}
	if height < 2 {
		t.Fatal("a tree too small", height)
	}
	for i, key := range ordered(all.keys(), "mixed") {
		m[key] = strings.Repeat("w", i*41%(api.MaxValue+1))
		put(t, x, key, m[key])
		deed()
	}
	for _, key := range ordered(all.keys(), out) {
		delete(m, key)
		remove(t, x, key)
		deed()
		if _, e := x.Get([]byte(key)); e != api.ErrNone {
			t.Fatal(key, e)
		}
	}
	if r := check(t, x); len(r.Free)+len(r.Fresh)+len(r.Pages) != 299 || len(r.Pages) > 1 {
		t.Error(r)
	}
}

func TestManyMixedDeeds(t *testing.T) {
	for n, k := range kinds {
		t.Run(k.name, func(t *testing.T) {
			x := newTree(t, 120)
			chance := rand.New(rand.NewSource(int64(n)))
			kept, m := model{}, model{}
			for range 1500 {
				mixedDeed(t, x, chance, k, kept, m)
				wantAll(t, x, m)
			}
		})
	}
}

// mixedDeed does one deed to a tree and to what it ought to have: m is what it has now, kept what it had at the last Commit.
func mixedDeed(t *testing.T, x *tree.Tree, chance *rand.Rand, k kind, kept, m model) {
	t.Helper()
	key, _ := k.pair(chance.Intn(150))
	switch chance.Intn(12) {
	case 0, 1, 2, 3, 4:
		value := strings.Repeat("x", chance.Intn(api.MaxValue+1))
		put(t, x, key, value)
		m[key] = value
	case 5, 6, 7, 8, 9:
		want := api.ErrNone
		if _, ok := m[key]; ok {
			want = api.OK
		}
		if e := x.Delete([]byte(key)); e != want {
			t.Fatal(key, e, want)
		}
		delete(m, key)
	case 10:
		commit(t, x)
		clear(kept)
		maps.Copy(kept, m)
	case 11:
		if e := x.Abort(); e != api.OK {
			t.Fatal(e)
		}
		clear(m)
		maps.Copy(m, kept)
	}
}

func TestPutAndDeletedAgain(t *testing.T) {
	x := newTree(t, 200)
	m := kinds[3].model(100)
	for key, value := range m {
		put(t, x, key, value)
		commit(t, x)
	}
	for i := range 100 {
		key := fmt.Sprint("other", i)
		put(t, x, key, strings.Repeat("o", i%api.MaxValue))
		remove(t, x, key)
		wantAll(t, x, m)
		commit(t, x)
	}
}

func TestOnePageSplitsAndIsOneAgain(t *testing.T) {
	x := newTree(t, 20)
	value := strings.Repeat("v", 48) // 50 bytes of key and value, and 2
	for _, key := range []string{"k1", "k2", "k3", "k4"} {
		put(t, x, key, value)
	}
	if r := check(t, x); r.Height != 1 || len(r.Pages) != 1 || r.Least != 0 {
		t.Fatal(r)
	}
	put(t, x, "k5", value)
	r := check(t, x)
	if r.Height != 2 || len(r.Pages) != 3 || r.Least != 104 || len(r.Free) != 0 {
		t.Fatal(r)
	}
	remove(t, x, "k3")
	if r := check(t, x); r.Height != 2 || r.Least != 104 {
		t.Fatal(r)
	}
	remove(t, x, "k1")
	r = check(t, x)
	if r.Height != 1 || len(r.Pages) != 1 || len(r.Free) != 2 || r.Least != 0 {
		t.Error(r)
	}
	wantAll(t, x, model{"k2": value, "k4": value, "k5": value})
}

func TestLeafBecomesThree(t *testing.T) {
	x := newTree(t, 20)
	// Entries of 120 and 134 bytes fill a page; one of 138 between them goes with neither.
	m := model{"a" + strings.Repeat("k", 49): strings.Repeat("v", 68), "c" + strings.Repeat("k", 59): strings.Repeat("v", 72)}
	for key, value := range m {
		put(t, x, key, value)
	}
	if r := wantAll(t, x, m); len(r.Pages) != 1 {
		t.Fatal(r)
	}
	key, value := "b"+strings.Repeat("k", api.MaxKey-1), strings.Repeat("v", api.MaxValue)
	put(t, x, key, value)
	m[key] = value
	if r := wantAll(t, x, m); len(r.Pages) != 4 || r.Height != 2 || r.Least != 120 {
		t.Error(r)
	}
}

func TestShorterValuesPutPagesTogether(t *testing.T) {
	x := newTree(t, 60)
	m := model{}
	for i := range 40 {
		m[fmt.Sprintf("%02d", i)] = strings.Repeat("v", api.MaxValue)
		put(t, x, fmt.Sprintf("%02d", i), m[fmt.Sprintf("%02d", i)])
	}
	before := wantAll(t, x, m)
	for _, key := range m.keys() {
		m[key] = ""
		put(t, x, key, "")
		wantAll(t, x, m)
	}
	after := check(t, x)
	if after.Height != 1 || len(after.Pages) != 1 || len(after.Free) != len(before.Pages)-1 || len(after.Fresh) != len(before.Fresh) {
		t.Error(before, after)
	}
}

func TestFreePagesComeAheadOfFreshOnes(t *testing.T) {
	x := newTree(t, 100)
	m := kinds[2].model(40)
	for key, value := range m {
		put(t, x, key, value)
	}
	commit(t, x)
	full := wantAll(t, x, m)
	for key := range m {
		remove(t, x, key)
	}
	if r := wantAll(t, x, model{}); len(r.Fresh) != len(full.Fresh) || len(r.Free) != 99-len(r.Fresh)-len(r.Pages) {
		t.Error("pages that were used are not fresh any more", full, r)
	}
	put(t, x, "a", "b")
	if r := wantAll(t, x, model{"a": "b"}); len(r.Fresh) != len(full.Fresh) {
		t.Error("a fresh page was taken, where one is free", full, r)
	}
	if e := x.Abort(); e != api.OK {
		t.Error(e)
	}
	if r := wantAll(t, x, m); !slices.Equal(r.Pages, full.Pages) {
		t.Error(full, r)
	}
}
