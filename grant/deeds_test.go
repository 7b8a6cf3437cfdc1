package grant_test

import (
	"fmt"
	"math/rand"
	"reflect"
	"slices"
	"strings"
	"testing"

	"holdfast/api"
	"holdfast/grant"
)

// model is a store as the document tells it: clients and consents in lists.
type model struct {
	clients  []api.Client
	consents []api.Consent
}

func (m *model) client(tenant, name string) *api.Client {
	for i := range m.clients {
		if m.clients[i].Tenant == tenant && m.clients[i].Name == name {
			return &m.clients[i]
		}
	}
	return nil
}

func (m *model) consent(o api.Owner, name string) *api.Consent {
	for i := range m.consents {
		if m.consents[i].Owner == o && m.consents[i].Client == name {
			return &m.consents[i]
		}
	}
	return nil
}

func (m *model) register(c api.Client) api.Errno {
	if m.client(c.Tenant, c.Name) != nil {
		return api.ErrKnown
	}
	counts := map[string]int{}
	for _, known := range m.clients {
		counts[known.Tenant]++
	}
	if counts[c.Tenant] == 4 || counts[c.Tenant] == 0 && len(counts) == 4 {
		return api.ErrClients
	}
	m.clients = append(m.clients, c)
	return api.OK
}

func (m *model) narrow(tenant, name string, scopes api.Scopes) (api.Scopes, api.Errno) {
	c := m.client(tenant, name)
	if c == nil {
		return 0, api.ErrNone
	}
	c.Scopes &= scopes
	for i := range m.consents {
		if m.consents[i].Owner.Tenant == tenant && m.consents[i].Client == name {
			m.consents[i].Scopes &= scopes
		}
	}
	return c.Scopes, api.OK
}

// withdraw lets the consents go that are wanted: how many.
func (m *model) withdraw(wanted func(api.Consent) bool) int {
	before := len(m.consents)
	m.consents = slices.DeleteFunc(m.consents, wanted)
	return before - len(m.consents)
}

func (m *model) drop(tenant, name string) api.Errno {
	before := len(m.clients)
	m.clients = slices.DeleteFunc(m.clients, func(c api.Client) bool { return c.Tenant == tenant && c.Name == name })
	m.withdraw(func(c api.Consent) bool { return c.Owner.Tenant == tenant && c.Client == name })
	if len(m.clients) == before {
		return api.ErrNone
	}
	return api.OK
}

func (m *model) allow(c api.Consent) api.Errno {
	to := m.client(c.Owner.Tenant, c.Client)
	if to == nil {
		return api.ErrNone
	}
	if c.Scopes|to.Scopes != to.Scopes {
		return api.ErrScope
	}
	if old := m.consent(c.Owner, c.Client); old != nil {
		*old = c
		return api.OK
	}
	m.consents = append(m.consents, c)
	return api.OK
}

func (m *model) may(o api.Owner, name, redirect string, scopes api.Scopes) api.Errno {
	c, has := m.client(o.Tenant, name), m.consent(o, name)
	switch {
	case c == nil || has == nil:
		return api.ErrNone
	case c.Redirect != redirect:
		return api.ErrWrong
	case scopes|has.Scopes != has.Scopes:
		return api.ErrScope
	}
	return api.OK
}

func (m *model) rows() []api.Row {
	var rows []api.Row
	for _, c := range m.clients {
		rows = append(rows, row(c.Tenant+"/"+c.Name, c.Redirect, number(int(c.Scopes))))
	}
	for _, c := range m.consents {
		rows = append(rows, row(c.Owner.Tenant+"/"+c.Owner.User+"/"+c.Client, number(int(c.Scopes))))
	}
	slices.SortFunc(rows, func(a, b api.Row) int { return strings.Compare(a.Key, b.Key) })
	return rows
}

func number(n int) string {
	if n == 0 {
		return "a"
	}
	digits := fmt.Sprintf("%x", n)
	return string(rune('a'+len(digits))) + digits
}

// deed does one thing by chance, with the store and with the model: its name, and both answers.
func deed(chance *rand.Rand, s *grant.Store, m *model) (what string, got, want []any) {
	tenant := fmt.Sprint("t", chance.Intn(6))
	name := fmt.Sprint("c", chance.Intn(6))
	redirect := fmt.Sprint("r", chance.Intn(2))
	o := owner(tenant, fmt.Sprint("c", chance.Intn(4)))
	scopes := api.Scopes(chance.Intn(16) & chance.Intn(256))
	answer := func(things ...any) []any { return things }
	switch chance.Intn(16) {
	case 0, 1, 2, 3:
		c := client(tenant, name, redirect, api.Scopes(chance.Intn(256)))
		return "register", answer(s.Register(c)), answer(m.register(c))
	case 4:
		x, e := s.Narrow(tenant, name, scopes|0xf0)
		y, f := m.narrow(tenant, name, scopes|0xf0)
		return "narrow", answer(x, e), answer(y, f)
	case 5, 6:
		return "drop", answer(s.Drop(tenant, name)), answer(m.drop(tenant, name))
	case 7, 8, 9, 10:
		return "allow", answer(s.Allow(consent(o, name, scopes))), answer(m.allow(consent(o, name, scopes)))
	case 11:
		e := s.Withdraw(o, name)
		f := api.ErrNone
		if m.withdraw(func(c api.Consent) bool { return c.Owner == o && c.Client == name }) == 1 {
			f = api.OK
		}
		return "withdraw", answer(e), answer(f)
	case 12:
		n := m.withdraw(func(c api.Consent) bool { return c.Owner == o })
		return "dropuser", answer(s.DropUser(o), min(n, 2)), answer(n, min(n, 2))
	}
	return "may", answer(s.May(o, name, redirect, scopes)), answer(m.may(o, name, redirect, scopes))
}

// wantNarrow asks for P13.5 and P13.6 of what a store tells.
func wantNarrow(t *testing.T, s *grant.Store, o api.Owner) {
	t.Helper()
	for _, c := range s.Consents(o) {
		known, e := s.Client(o.Tenant, c.Client)
		if e != api.OK || c.Scopes&^known.Scopes != 0 {
			t.Fatalf("%v is not narrower than %v (%v)", c, known, e)
		}
		for bit := range api.MaxScopes {
			scopes := api.Scopes(1 << bit)
			if s.May(o, c.Client, known.Redirect, scopes) == api.OK && known.Scopes&scopes == 0 {
				t.Fatalf("%v may have %b", known, scopes)
			}
		}
	}
}

// Chance deeds on few names; now and then the store goes on as its Fork, or as Load of its Rows (P13.7).
func TestChanceDeeds(t *testing.T) {
	met := map[string]int{}
	for seed := range int64(60) {
		chance := rand.New(rand.NewSource(seed))
		s, m := grant.New(), &model{}
		for step := range 600 {
			what, got, want := deed(chance, s, m)
			if !reflect.DeepEqual(got, want) {
				t.Fatalf("seed %d, step %d: %s: %v, not %v", seed, step, what, got, want)
			}
			met[fmt.Sprint(what, " ", got[len(got)-1])]++
			switch chance.Intn(20) {
			case 0:
				s = load(t, s.Rows()...)
			case 1:
				s = s.Fork()
			}
			wantRows(t, s, m.rows()...)
			wantNarrow(t, s, owner(fmt.Sprint("t", chance.Intn(6)), fmt.Sprint("c", chance.Intn(4))))
		}
	}
	for _, what := range []string{"register 0", "register 5", "register 24", "narrow 0", "narrow 4", "drop 0", "drop 4", "allow 0", "allow 4", "allow 14",
		"withdraw 0", "withdraw 4", "dropuser 0", "dropuser 1", "dropuser 2", "may 0", "may 4", "may 10", "may 14"} {
		if met[what] == 0 {
			t.Errorf("%s was never met", what)
		}
	}
}
