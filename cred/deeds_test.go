package cred_test

import (
	"fmt"
	"math/rand"
	"slices"
	"testing"

	"holdfast/api"
	"holdfast/cred"
)

// one is a user as the document tells it, with its texts in place of their hashes.
type one struct {
	password, salt     string
	cost, tries, until int
	codes              []string
}

type model map[api.Owner]*one

func (m model) add(o api.Owner, password, salt string, cost int) api.Errno {
	if m[o] != nil {
		return api.ErrKnown
	}
	each := map[string]int{}
	for other := range m {
		each[other.Tenant]++
	}
	if each[o.Tenant] == 8 || each[o.Tenant] == 0 && len(each) == 4 {
		return api.ErrUsers
	}
	m[o] = &one{password: password, salt: salt, cost: cost}
	return api.OK
}

func (m model) try(o api.Owner, now int) api.Errno {
	u := m[o]
	if u == nil {
		return api.ErrNone
	}
	if u.until != 0 && now < u.until {
		return api.ErrLocked
	}
	if u.until != 0 {
		u.tries, u.until = 0, 0
	}
	if u.tries == 3 {
		u.until = now + 100
		return api.ErrLocked
	}
	u.tries++
	return api.OK
}

func (m model) compare(o api.Owner, now int, right func(*one) bool) api.Errno {
	u := m[o]
	if u == nil {
		return api.ErrNone
	}
	if right(u) {
		u.tries, u.until = 0, 0
		return api.OK
	}
	if u.tries >= 3 {
		u.until = now + 100
	}
	return api.ErrWrong
}

func (m model) check(o api.Owner, password string, now int) api.Errno {
	return m.compare(o, now, func(u *one) bool { return u.password == password })
}

func (m model) use(o api.Owner, code string, now int) api.Errno {
	return m.compare(o, now, func(u *one) bool {
		left := len(u.codes)
		u.codes = slices.DeleteFunc(slices.Clone(u.codes), func(c string) bool { return c == code })
		return len(u.codes) < left
	})
}

func (m model) codes(o api.Owner, codes []string) api.Errno {
	if m[o] == nil {
		return api.ErrNone
	}
	m[o].codes = codes
	return api.OK
}

func (m model) remove(o api.Owner) api.Errno {
	if m[o] == nil {
		return api.ErrNone
	}
	delete(m, o)
	return api.OK
}

func (m model) reset(o api.Owner, password, salt string, cost int) api.Errno {
	if m[o] == nil {
		return api.ErrNone
	}
	m[o] = &one{password: password, salt: salt, cost: cost}
	return api.OK
}

// deed does one thing by chance, with the book and with the model: its name, and both errors.
func deed(chance *rand.Rand, b *cred.Book, m model, now int) (what string, got, want api.Errno) {
	o := owner(fmt.Sprint("t", chance.Intn(5)), fmt.Sprint("u", chance.Intn(9)))
	if chance.Intn(3) > 0 {
		o = owner("t0", "u0")
	}
	text := string("pqk"[chance.Intn(3)])
	switch chance.Intn(30) {
	case 0, 1, 2, 3:
		cost := 1 + chance.Intn(3)
		return "add", b.Add(o, text, "s", cost), m.add(o, text, "s", cost)
	case 4:
		return "remove", b.Remove(o), m.remove(o)
	case 5:
		return "reset", b.Reset(o, text, "t", 1), m.reset(o, text, "t", 1)
	case 6, 7:
		codes := []string{"k", "p", "l", "m"}[:chance.Intn(5)]
		return "codes", b.Codes(o, codes...), m.codes(o, codes)
	case 8, 9, 10, 11, 12, 13, 14, 15:
		return "try", b.Try(o, now), m.try(o, now)
	case 16, 17, 18, 19, 20, 21, 22:
		return "check", b.Check(o, text, now), m.check(o, text, now)
	}
	return "use", b.Use(o, text, now), m.use(o, text, now)
}

// Chance deeds on few names, with times that come and go; now and then the book goes on as its Fork, or as Load of its Rows (P10.7).
func TestChanceDeeds(t *testing.T) {
	met := map[string]int{}
	for seed := range int64(40) {
		chance := rand.New(rand.NewSource(seed))
		b, m := cred.New(), model{}
		for step := range 1500 {
			what, got, want := deed(chance, b, m, 3*step+chance.Intn(20))
			if got != want {
				t.Fatalf("seed %d, step %d: %s: %v, not %v", seed, step, what, got, want)
			}
			met[fmt.Sprint(what, " ", got)]++
			switch chance.Intn(20) {
			case 0:
				b = load(t, b.Rows()...)
			case 1:
				b = b.Fork()
			}
			wantModel(t, b, m)
		}
	}
	for _, what := range []string{"add 0", "add 5", "add 21", "remove 0", "remove 4", "reset 0", "reset 4", "codes 0", "codes 4",
		"try 0", "try 4", "try 11", "check 0", "check 4", "check 10", "use 0", "use 4", "use 10"} {
		if met[what] == 0 {
			t.Errorf("%s was never met", what)
		}
	}
}

func wantModel(t *testing.T, b *cred.Book, m model) {
	t.Helper()
	count := 0
	for _, tenant := range b.Tenants() {
		count += len(b.Owners(tenant))
	}
	if count != len(m) {
		t.Fatalf("%d users, not %d", count, len(m))
	}
	for o, u := range m {
		n, until, e := b.Tries(o)
		if n != u.tries || until != u.until || e != api.OK || b.Left(o) != len(u.codes) {
			t.Fatalf("%v: %d %d %v, %d codes, not %+v", o, n, until, e, b.Left(o), *u)
		}
	}
}
