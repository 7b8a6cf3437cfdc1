package cred_test

import (
	"crypto/hmac"
	"crypto/sha256"
	"fmt"
	"math"
	"slices"
	"strings"
	"testing"

	"holdfast/api"
	"holdfast/cred"
)

var badNames = []string{"", "A", "a.", "a/b", "#", "abcdefghij", "a b", "\x00", "\xff", "é", strings.Repeat("a", 1<<16)}

var noTimes = []int{-1, api.MaxTime + 1, math.MinInt, math.MaxInt}

var someone = owner("t", "u")

func owner(tenant, user string) api.Owner { return api.Owner{Tenant: tenant, User: user} }

func row(key string, columns ...string) api.Row { return api.Row{Key: key, Columns: columns} }

// hashOf is the hash of the document's words, by the library's own HMAC.
func hashOf(password, salt string, cost int) string {
	tag := func(key, text string) string {
		m := hmac.New(sha256.New, []byte(key))
		m.Write([]byte(text))
		return string(m.Sum(nil))
	}
	h := tag(salt, password)
	for range cost {
		h = tag(password, h)
	}
	return h
}

// book has one user, whose password is p with the salt s and the cost 2, and some codes.
func book(t *testing.T, codes ...string) *cred.Book {
	t.Helper()
	b := cred.New()
	want(t, "Add", b.Add(someone, "p", "s", 2), api.OK)
	want(t, "Codes", b.Codes(someone, codes...), api.OK)
	return b
}

func want(t *testing.T, what string, got, want api.Errno) {
	t.Helper()
	if got != want {
		t.Errorf("%s: %v, not %v", what, got, want)
	}
}

func wantTries(t *testing.T, b *cred.Book, o api.Owner, tries, until int) {
	t.Helper()
	if n, u, e := b.Tries(o); n != tries || u != until || e != api.OK {
		t.Errorf("Tries(%v): %d %d %v, not %d %d", o, n, u, e, tries, until)
	}
}

func wantLeft(t *testing.T, b *cred.Book, o api.Owner, left int) {
	t.Helper()
	if n := b.Left(o); n != left {
		t.Errorf("Left(%v): %d, not %d", o, n, left)
	}
}

func sameRows(a, b []api.Row) bool {
	return slices.EqualFunc(a, b, func(x, y api.Row) bool { return x.Key == y.Key && slices.Equal(x.Columns, y.Columns) })
}

func wantRows(t *testing.T, b *cred.Book, want ...api.Row) {
	t.Helper()
	if rows := b.Rows(); !sameRows(rows, want) {
		t.Errorf("Rows: %q, not %q", rows, want)
	}
}

func load(t *testing.T, rows ...api.Row) *cred.Book {
	t.Helper()
	b, e := cred.Load(rows...)
	if e != api.OK || b == nil {
		t.Fatalf("Load(%q): %v", rows, e)
	}
	return b
}

func TestNewBook(t *testing.T) {
	b := cred.New()
	wantRows(t, b)
	wantNobody(t, b, someone, api.ErrNone)
	if o, n := b.Owners("t"), b.Tenants(); len(o) != 0 || len(n) != 0 {
		t.Error(o, n)
	}
}

// wantNobody asks for one error of all calls that want a user to be there.
func wantNobody(t *testing.T, b *cred.Book, o api.Owner, e api.Errno) {
	t.Helper()
	want(t, "Remove", b.Remove(o), e)
	want(t, "Codes", b.Codes(o), e)
	want(t, "Codes of too many", b.Codes(o, "1", "2", "3", "4", "5"), e)
	for _, now := range append([]int{0, api.MaxTime}, noTimes...) {
		want(t, "Try", b.Try(o, now), e)
		want(t, "Check", b.Check(o, "p", now), e)
		want(t, "Use", b.Use(o, "k", now), e)
	}
	wantLeft(t, b, o, 0)
	if n, until, got := b.Tries(o); n != 0 || until != 0 || got != e {
		t.Errorf("Tries(%v): %d %d %v", o, n, until, got)
	}
}

func TestNilBook(t *testing.T) {
	var b *cred.Book
	wantNobody(t, b, someone, api.ErrNil)
	wantNobody(t, b, api.Owner{}, api.ErrNil)
	for _, o := range []api.Owner{someone, {}} {
		want(t, "Add", b.Add(o, "p", "s", 1), api.ErrNil)
		want(t, "Add of what may not be", b.Add(o, "p", "123456789", 0), api.ErrNil)
		want(t, "Reset", b.Reset(o, "p", "s", 1), api.ErrNil)
	}
	if b.Fork() != nil || len(b.Rows()) != 0 || len(b.Owners("t")) != 0 || len(b.Tenants()) != 0 {
		t.Error("a nil book has something")
	}
}

func TestAdd(t *testing.T) {
	b := cred.New()
	want(t, "Add", b.Add(someone, "pass", "salt", 3), api.OK)
	wantTries(t, b, someone, 0, 0)
	wantLeft(t, b, someone, 0)
	wantRows(t, b, row("t/u", hashOf("pass", "salt", 3), "salt", "b3", "a", "a"))
	want(t, "Check", b.Check(someone, "pass", 0), api.OK)
	want(t, "Add again", b.Add(someone, "other", "salt", 3), api.ErrKnown)
	want(t, "Check", b.Check(someone, "pass", 0), api.OK)
	want(t, "Check of another one", b.Check(someone, "other", 0), api.ErrWrong)
}

// wantRefused asks Add and Reset for what both refuse.
func wantRefused(t *testing.T, b *cred.Book, o api.Owner, password, salt string, cost int, e api.Errno) {
	t.Helper()
	before := b.Rows()
	what := fmt.Sprintf(" of %q, %d and %d bytes, %d", o, len(password), len(salt), cost)
	want(t, "Add"+what, b.Add(o, password, salt, cost), e)
	want(t, "Reset"+what, b.Reset(o, password, salt, cost), e)
	wantRows(t, b, before...)
}

func TestAddAndResetRefuse(t *testing.T) {
	long, longSalt := strings.Repeat("p", 65), strings.Repeat("s", 9)
	b := book(t, "k")
	for _, bad := range badNames {
		for _, o := range []api.Owner{owner(bad, "u"), owner("t", bad), owner(bad, bad)} {
			wantRefused(t, b, o, "p", "s", 1, api.ErrName)
			wantRefused(t, b, o, long, longSalt, 0, api.ErrName)
		}
	}
	for _, o := range []api.Owner{someone, owner("t", "new"), owner("new", "u")} {
		for _, cost := range []int{1, 0} {
			wantRefused(t, b, o, long, "s", cost, api.ErrLong)
			wantRefused(t, b, o, "p", longSalt, cost, api.ErrLong)
			wantRefused(t, b, o, strings.Repeat("p", 1<<16), strings.Repeat("s", 1<<16), cost, api.ErrLong)
		}
		for _, cost := range []int{0, -1, api.MaxCost + 1, math.MinInt, math.MaxInt} {
			wantRefused(t, b, o, "p", "s", cost, api.ErrRange)
		}
	}
}

func TestAddAndResetAtTheEdges(t *testing.T) {
	for _, c := range []struct {
		password, salt string
		cost           int
	}{
		{"", "", 1},
		{strings.Repeat("p", 64), strings.Repeat("s", 8), api.MaxCost},
		{"\x00\xff", "\x00/\xff#", 2},
	} {
		cost := map[int]string{1: "b1", 2: "b2", api.MaxCost: "c40"}[c.cost]
		b := cred.New()
		want(t, "Add", b.Add(someone, c.password, c.salt, c.cost), api.OK)
		wantRows(t, b, row("t/u", hashOf(c.password, c.salt, c.cost), c.salt, cost, "a", "a"))
		want(t, "Check", b.Check(someone, c.password, 0), api.OK)
		b = book(t)
		want(t, "Reset", b.Reset(someone, c.password, c.salt, c.cost), api.OK)
		wantRows(t, b, row("t/u", hashOf(c.password, c.salt, c.cost), c.salt, cost, "a", "a"))
		wantRows(t, load(t, b.Rows()...), b.Rows()...)
	}
}

// full has as many users as may be.
func full(t *testing.T) *cred.Book {
	t.Helper()
	b := cred.New()
	for i := range api.MaxTenants {
		for j := range api.MaxUsers {
			want(t, "Add", b.Add(owner(fmt.Sprint("t", i), fmt.Sprint("u", j)), "p", "s", 1), api.OK)
		}
	}
	return b
}

func TestAddOfTooManyUsers(t *testing.T) {
	b := full(t)
	for i := range api.MaxTenants {
		want(t, "Add to a full tenant", b.Add(owner(fmt.Sprint("t", i), "more"), "p", "s", 1), api.ErrUsers)
		want(t, "Add of a known one", b.Add(owner(fmt.Sprint("t", i), "u0"), "p", "s", 1), api.ErrKnown)
	}
	want(t, "Add to one tenant more", b.Add(owner("more", "u0"), "p", "s", 1), api.ErrUsers)
	want(t, "Reset of none", b.Reset(owner("more", "u0"), "p", "s", 1), api.ErrNone)
	want(t, "Reset in a full book", b.Reset(owner("t0", "u0"), "q", "s", 1), api.OK)
	want(t, "Remove", b.Remove(owner("t1", "u3")), api.OK)
	want(t, "Add to one tenant more", b.Add(owner("more", "u0"), "p", "s", 1), api.ErrUsers)
	want(t, "Add to a full tenant", b.Add(owner("t0", "more"), "p", "s", 1), api.ErrUsers)
	want(t, "Add where one went", b.Add(owner("t1", "more"), "p", "s", 1), api.OK)
	for j := range api.MaxUsers {
		want(t, "Remove", b.Remove(owner("t2", fmt.Sprint("u", j))), api.OK)
	}
	want(t, "Add where a tenant went", b.Add(owner("more", "u0"), "p", "s", 1), api.OK)
	want(t, "Add to one tenant more", b.Add(owner("t2", "u0"), "p", "s", 1), api.ErrUsers)
	if rows := len(b.Rows()); rows != (api.MaxTenants-1)*api.MaxUsers+1 {
		t.Error(rows)
	}
}

func TestReset(t *testing.T) {
	b := book(t, "k", "l")
	for range api.MaxTries {
		want(t, "Try", b.Try(someone, 7), api.OK)
		want(t, "Check", b.Check(someone, "q", 7), api.ErrWrong)
	}
	wantTries(t, b, someone, 3, 107)
	want(t, "Reset", b.Reset(someone, "new", "salz", 4), api.OK)
	wantTries(t, b, someone, 0, 0)
	wantLeft(t, b, someone, 0)
	wantRows(t, b, row("t/u", hashOf("new", "salz", 4), "salz", "b4", "a", "a"))
	want(t, "Try", b.Try(someone, 8), api.OK)
	want(t, "Check of the old one", b.Check(someone, "p", 8), api.ErrWrong)
	want(t, "Use of an old one", b.Use(someone, "k", 8), api.ErrWrong)
	want(t, "Check", b.Check(someone, "new", 8), api.OK)
	for _, o := range []api.Owner{owner("t", "v"), owner("v", "u"), owner("u", "t")} {
		want(t, "Reset of none", b.Reset(o, "p", "s", 1), api.ErrNone)
	}
	if n := len(b.Rows()); n != 1 {
		t.Error(n)
	}
}

func TestRemove(t *testing.T) {
	b := book(t, "k")
	want(t, "Add", b.Add(owner("t", "v"), "p", "s", 1), api.OK)
	want(t, "Remove", b.Remove(someone), api.OK)
	wantNobody(t, b, someone, api.ErrNone)
	wantRows(t, b, row("t/v", hashOf("p", "s", 1), "s", "b1", "a", "a"))
	want(t, "Add anew", b.Add(someone, "q", "s", 1), api.OK)
	wantLeft(t, b, someone, 0)
	for _, bad := range badNames {
		wantNobody(t, b, owner(bad, "u"), api.ErrNone)
		wantNobody(t, b, owner("t", bad), api.ErrNone)
	}
}

func TestCodes(t *testing.T) {
	b := book(t)
	for n := range api.Codes + 1 {
		codes := []string{"", strings.Repeat("k", 64), "\x00", "\xff"}[:n]
		want(t, "Codes", b.Codes(someone, codes...), api.OK)
		wantLeft(t, b, someone, n)
		rows := []api.Row{row("t/u", hashOf("p", "s", 2), "s", "b2", "a", "a")}
		for i, code := range codes {
			rows = append(rows, row(fmt.Sprint("t/u/", i+1), hashOf(code, "s", 1)))
		}
		wantRows(t, b, rows...)
	}
	want(t, "Codes", b.Codes(someone, "new"), api.OK)
	wantLeft(t, b, someone, 1)
	want(t, "Use of one that was", b.Use(someone, "\x00", 0), api.ErrWrong)
	want(t, "Use", b.Use(someone, "new", 0), api.OK)
	want(t, "Codes", b.Codes(someone, "k", "l"), api.OK)
	want(t, "Codes of none", b.Codes(someone), api.OK)
	wantLeft(t, b, someone, 0)
}

func TestCodesRefuses(t *testing.T) {
	long := strings.Repeat("k", 65)
	b := book(t, "k", "l")
	want(t, "Try", b.Try(someone, 0), api.OK)
	before := b.Rows()
	for _, c := range []struct {
		codes []string
		want  api.Errno
	}{
		{[]string{"1", "2", "3", "4", "5"}, api.ErrRange},
		{[]string{"1", "1", long, "4", "5"}, api.ErrRange},
		{slices.Repeat([]string{"1"}, 1<<16), api.ErrRange},
		{[]string{long}, api.ErrLong},
		{[]string{"1", "1", long}, api.ErrLong},
		{[]string{long, long}, api.ErrLong},
		{[]string{"1", "2", "3", strings.Repeat("k", 1<<16)}, api.ErrLong},
		{[]string{"1", "1"}, api.ErrKnown},
		{[]string{"1", "2", "3", "1"}, api.ErrKnown},
		{[]string{"1", "2", "3", "3"}, api.ErrKnown},
		{[]string{"", "2", ""}, api.ErrKnown},
	} {
		want(t, fmt.Sprintf("Codes(%.90q)", c.codes), b.Codes(someone, c.codes...), c.want)
		wantRows(t, b, before...)
	}
}

// The document's example.
func TestLockout(t *testing.T) {
	b := book(t)
	for i := range api.MaxTries {
		wantTries(t, b, someone, i, 0)
		want(t, "Try", b.Try(someone, 5), api.OK)
		wantTries(t, b, someone, i+1, 0)
		want(t, "Check", b.Check(someone, "q", 5), api.ErrWrong)
	}
	wantTries(t, b, someone, 3, 105)
	for _, now := range []int{0, 5, 104} {
		want(t, "Try", b.Try(someone, now), api.ErrLocked)
		wantTries(t, b, someone, 3, 105)
	}
	want(t, "Try", b.Try(someone, 105), api.OK)
	wantTries(t, b, someone, 1, 0)
	want(t, "Check", b.Check(someone, "q", 105), api.ErrWrong)
	wantTries(t, b, someone, 1, 0)
	want(t, "Check", b.Check(someone, "p", 105), api.OK)
	wantTries(t, b, someone, 0, 0)
}

// Tries behind which nothing was compared lock a user out too, and that changes the record.
func TestTriesWithoutChecks(t *testing.T) {
	b := book(t)
	for i := range api.MaxTries {
		want(t, "Try", b.Try(someone, i), api.OK)
	}
	wantTries(t, b, someone, 3, 0)
	want(t, "Try", b.Try(someone, 10), api.ErrLocked)
	wantTries(t, b, someone, 3, 110)
	want(t, "Try", b.Try(someone, 50), api.ErrLocked)
	wantTries(t, b, someone, 3, 110)
	want(t, "Try", b.Try(someone, 110), api.OK)
	wantTries(t, b, someone, 1, 0)
}

func TestNoTimes(t *testing.T) {
	b := book(t, "k")
	for _, ahead := range []int{0, 1, 2, 3} {
		if ahead > 0 {
			want(t, "Try", b.Try(someone, 0), api.OK)
		}
		before := b.Rows()
		for _, now := range noTimes {
			want(t, "Try", b.Try(someone, now), api.ErrRange)
			want(t, "Check", b.Check(someone, "p", now), api.ErrRange)
			want(t, "Check", b.Check(someone, "q", now), api.ErrRange)
			want(t, "Use", b.Use(someone, "k", now), api.ErrRange)
			want(t, "Use", b.Use(someone, "l", now), api.ErrRange)
			wantRows(t, b, before...)
		}
	}
}

func TestTheLastTime(t *testing.T) {
	b := book(t, "k")
	for range api.MaxTries {
		want(t, "Try", b.Try(someone, api.MaxTime), api.OK)
		want(t, "Check", b.Check(someone, "q", api.MaxTime), api.ErrWrong)
	}
	wantTries(t, b, someone, 3, api.MaxTime+api.Lockout)
	want(t, "Try", b.Try(someone, api.MaxTime), api.ErrLocked)
	b = load(t, b.Rows()...)
	wantTries(t, b, someone, 3, api.MaxTime+api.Lockout)
	want(t, "Check", b.Check(someone, "p", api.MaxTime), api.OK)
	wantTries(t, b, someone, 0, 0)
}

// Check and Use compare, whether a user is locked out or not: Try stands ahead of them.
func TestRightEndsALockout(t *testing.T) {
	for _, deed := range []func(*cred.Book) api.Errno{
		func(b *cred.Book) api.Errno { return b.Check(someone, "p", 20) },
		func(b *cred.Book) api.Errno { return b.Use(someone, "k", 20) },
	} {
		b := book(t, "k")
		for range api.MaxTries {
			want(t, "Try", b.Try(someone, 5), api.OK)
		}
		want(t, "Check", b.Check(someone, "q", 5), api.ErrWrong)
		wantTries(t, b, someone, 3, 105)
		want(t, "Check", b.Check(someone, "q", 9), api.ErrWrong)
		wantTries(t, b, someone, 3, 109)
		want(t, "Use", b.Use(someone, "l", 12), api.ErrWrong)
		wantTries(t, b, someone, 3, 112)
		want(t, "a right one", deed(b), api.OK)
		wantTries(t, b, someone, 0, 0)
	}
}

// What is wrong by itself takes no try.
func TestChecksWithoutTries(t *testing.T) {
	b := book(t, "k")
	for range 10 {
		want(t, "Check", b.Check(someone, "q", 5), api.ErrWrong)
		want(t, "Use", b.Use(someone, "q", 5), api.ErrWrong)
		wantTries(t, b, someone, 0, 0)
	}
	for i := range api.MaxTries - 1 {
		want(t, "Try", b.Try(someone, 5), api.OK)
		want(t, "Use", b.Use(someone, "q", 5), api.ErrWrong)
		wantTries(t, b, someone, i+1, 0)
	}
	want(t, "Try", b.Try(someone, 5), api.OK)
	want(t, "Use", b.Use(someone, "q", 6), api.ErrWrong)
	wantTries(t, b, someone, 3, 106)
}

// Longer ones than may be have no hash: they are wrong, also where the hash that is kept is 0 everywhere.
func TestTooLongIsWrong(t *testing.T) {
	noughts := string(make([]byte, 32))
	b := load(t, row("t/u", noughts, "s", "b2", "b3", "a"), row("t/u/1", noughts))
	for _, text := range []string{strings.Repeat("p", 65), strings.Repeat("p", 1<<16)} {
		want(t, "Check", b.Check(someone, text, 5), api.ErrWrong)
		wantTries(t, b, someone, 3, 105)
		want(t, "Use", b.Use(someone, text, 6), api.ErrWrong)
		wantTries(t, b, someone, 3, 106)
		wantLeft(t, b, someone, 1)
	}
}

// The password is compared by the record's salt and cost, a code by the salt and the cost 1.
func TestWhatIsCompared(t *testing.T) {
	for _, c := range []struct {
		hash  string
		right bool
	}{
		{hashOf("p", "s", 3), true},
		{hashOf("p", "s", 2), false},
		{hashOf("p", "s", 1), false},
		{hashOf("p", "t", 3), false},
		{hashOf("q", "s", 3), false},
		{hashOf("p", "s", 3)[:31] + "\x00", false},
	} {
		b := load(t, row("t/u", c.hash, "s", "b3", "a", "a"))
		if got := b.Check(someone, "p", 0) == api.OK; got != c.right {
			t.Errorf("%x: %v", c.hash, got)
		}
	}
	for cost, right := range map[int]bool{1: true, 2: false, 3: false} {
		b := load(t, row("t/u", hashOf("p", "s", 3), "s", "b3", "a", "a"), row("t/u/1", hashOf("k", "s", cost)))
		if got := b.Use(someone, "k", 0) == api.OK; got != right {
			t.Errorf("a code with the cost %d: %v", cost, got)
		}
	}
}

// P10.6, in any order.
func TestACodeIsRightOnce(t *testing.T) {
	codes := []string{"k", "l", "m", "n"}
	for _, order := range [][]int{{0, 1, 2, 3}, {3, 2, 1, 0}, {1, 3, 0, 2}, {2, 0, 3, 1}} {
		b := book(t, codes...)
		left := slices.Clone(codes)
		for _, i := range order {
			want(t, "Try", b.Try(someone, 5), api.OK)
			want(t, "Use", b.Use(someone, codes[i], 5), api.OK)
			wantTries(t, b, someone, 0, 0)
			left = slices.DeleteFunc(left, func(code string) bool { return code == codes[i] })
			wantLeft(t, b, someone, len(left))
			rows := []api.Row{row("t/u", hashOf("p", "s", 2), "s", "b2", "a", "a")}
			for j, code := range left {
				rows = append(rows, row(fmt.Sprint("t/u/", j+1), hashOf(code, "s", 1)))
			}
			wantRows(t, b, rows...)
			b = load(t, rows...)
			want(t, "Use again", b.Use(someone, codes[i], 5), api.ErrWrong)
			wantLeft(t, b, someone, len(left))
		}
	}
}

func TestPasswordsAndCodesAreApart(t *testing.T) {
	b := book(t, "k")
	want(t, "Use of the password", b.Use(someone, "p", 0), api.ErrWrong)
	want(t, "Check of a code", b.Check(someone, "k", 0), api.ErrWrong)
	want(t, "Check", b.Check(someone, "p", 0), api.OK)
	want(t, "Use", b.Use(someone, "k", 0), api.OK)
}

// P10.5: whatever times come, no more wrong ones are compared than for each lockout that ends.
func TestTriesAreBounded(t *testing.T) {
	for step := 1; step < 250; step += 7 {
		b := book(t, "k")
		compared, ended, now := 0, 0, 0
		for i := range 400 {
			_, until, _ := b.Tries(someone)
			if b.Try(someone, now) == api.OK {
				if until != 0 {
					ended++
				}
				compared++
				if i%2 == 0 {
					want(t, "Check", b.Check(someone, "q", now), api.ErrWrong)
				} else {
					want(t, "Use", b.Use(someone, "q", now), api.ErrWrong)
				}
			}
			if compared > api.MaxTries*(1+ended) || ended > now/api.Lockout {
				t.Fatal(step, compared, ended, now)
			}
			now += step * (i % 3)
		}
	}
}

func TestUsersAreApart(t *testing.T) {
	b := book(t, "k")
	others := []api.Owner{owner("t", "v"), owner("v", "u"), owner("u", "t")}
	for _, o := range others {
		want(t, "Add", b.Add(o, "other", "s", 1), api.OK)
		want(t, "Codes", b.Codes(o, "o"), api.OK)
	}
	for range api.MaxTries {
		want(t, "Try", b.Try(someone, 0), api.OK)
		want(t, "Check", b.Check(someone, "other", 0), api.ErrWrong)
	}
	want(t, "Use", b.Use(someone, "o", 0), api.ErrWrong)
	want(t, "Remove", b.Remove(someone), api.OK)
	for _, o := range others {
		wantTries(t, b, o, 0, 0)
		wantLeft(t, b, o, 1)
		want(t, "Check", b.Check(o, "other", 0), api.OK)
		want(t, "Use", b.Use(o, "o", 0), api.OK)
	}
}

func TestOwnersAndTenants(t *testing.T) {
	b := cred.New()
	for _, o := range []api.Owner{owner("t", "b"), owner("t-", "a"), owner("t", "a-"), owner("9", "z"), owner("t", "a"), owner("t", "-"), owner("t", "aa"), owner("s", "x")} {
		want(t, "Add", b.Add(o, "p", "s", 1), api.OK)
	}
	for range 5 {
		if got := b.Owners("t"); !slices.Equal(got, []api.Owner{owner("t", "-"), owner("t", "a"), owner("t", "a-"), owner("t", "aa"), owner("t", "b")}) {
			t.Error(got)
		}
		if got := b.Tenants(); !slices.Equal(got, []string{"9", "s", "t", "t-"}) {
			t.Error(got)
		}
	}
	if got := b.Owners("t-"); !slices.Equal(got, []api.Owner{owner("t-", "a")}) {
		t.Error(got)
	}
	for _, tenant := range append([]string{"x", "a"}, badNames...) {
		if got := b.Owners(tenant); len(got) != 0 {
			t.Error(tenant, got)
		}
	}
	want(t, "Remove", b.Remove(owner("s", "x")), api.OK)
	if got := b.Tenants(); !slices.Equal(got, []string{"9", "t", "t-"}) {
		t.Error(got)
	}
	clear(b.Owners("t"))
	clear(b.Tenants())
	if len(b.Owners("t")) != 5 || b.Owners("t")[0].User != "-" || b.Tenants()[0] != "9" {
		t.Error("an answer is kept")
	}
}
