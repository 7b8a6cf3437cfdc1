package token_test

import (
	"fmt"
	"math/rand"
	"reflect"
	"slices"
	"testing"

	"holdfast/api"
	"holdfast/token"
)

// model is a store as the document tells it: nothing is ever forgotten.
type model struct {
	families []api.Family // number i + 1 is families[i]
	tokens   []api.Token
	ended    map[int]bool // families
	swept    map[int]bool // tokens
	noted    int
}

func newModel() *model { return &model{ended: map[int]bool{}, swept: map[int]bool{}} }

func (m *model) issue(family int, scopes api.Scopes, until, now int) api.Token {
	m.noted = now
	m.tokens = append(m.tokens, access(len(m.tokens)+1, family, scopes, until))
	return m.tokens[len(m.tokens)-1]
}

func (m *model) grant(session int, client string, scopes api.Scopes, now int) (api.Family, api.Token, api.Errno) {
	if now < m.noted {
		return api.Family{}, api.Token{}, api.ErrBack
	}
	if len(m.of(session)) >= 2 {
		return api.Family{}, api.Token{}, api.ErrFamilies
	}
	f := family(len(m.families)+1, session, client, scopes, 1)
	m.families = append(m.families, f)
	return f, m.issue(f.Id, scopes, now+50, now), api.OK
}

func (m *model) of(session int) []api.Family {
	var families []api.Family
	for _, f := range m.families {
		if f.Session == session && !m.ended[f.Id] {
			families = append(families, f)
		}
	}
	return families
}

func (m *model) family(id int) api.Errno {
	if id < 1 || id > len(m.families) {
		return api.ErrNone
	}
	if m.ended[id] {
		return api.ErrGone
	}
	return api.OK
}

func (m *model) refresh(id, number, now int) (api.Family, api.Token, api.Errno) {
	if now < m.noted {
		return api.Family{}, api.Token{}, api.ErrBack
	}
	if e := m.family(id); e != api.OK {
		return api.Family{}, api.Token{}, e
	}
	f := &m.families[id-1]
	if number < 1 || number > f.Next {
		return api.Family{}, api.Token{}, api.ErrWrong
	}
	if number < f.Next {
		m.noted = now
		m.ended[id] = true
		return api.Family{}, api.Token{}, api.ErrReuse
	}
	f.Next++
	return *f, m.issue(id, f.Scopes, now+50, now), api.OK
}

func (m *model) access(id, now int) (api.Token, api.Errno) {
	if now < m.noted {
		return api.Token{}, api.ErrBack
	}
	if id < 1 || id > len(m.tokens) {
		return api.Token{}, api.ErrNone
	}
	x := m.tokens[id-1]
	if m.ended[x.Family] || m.swept[id] || now >= x.Until {
		return api.Token{}, api.ErrGone
	}
	return x, api.OK
}

func (m *model) exchange(id int, scopes api.Scopes, now int) (api.Token, api.Errno) {
	x, e := m.access(id, now)
	if e != api.OK {
		return api.Token{}, e
	}
	if scopes|x.Scopes != x.Scopes {
		return api.Token{}, api.ErrScope
	}
	return m.issue(x.Family, scopes, x.Until, now), api.OK
}

func (m *model) end(id int) api.Errno {
	if e := m.family(id); e != api.OK {
		return e
	}
	m.ended[id] = true
	return api.OK
}

func (m *model) endAll(wanted func(api.Family) bool) []int {
	var ids []int
	for _, f := range m.families {
		if !m.ended[f.Id] && wanted(f) {
			ids = append(ids, f.Id)
			m.ended[f.Id] = true
		}
	}
	return ids
}

func (m *model) sweep(now int) (int, api.Errno) {
	if now < m.noted {
		return 0, api.ErrBack
	}
	m.noted = now
	count := 0
	for _, x := range m.tokens {
		if !m.ended[x.Family] && !m.swept[x.Id] && now >= x.Until {
			m.swept[x.Id] = true
			count++
		}
	}
	return count, api.OK
}

func (m *model) rows() []api.Row {
	rows := []api.Row{row("#", number(len(m.families)+1), number(len(m.tokens)+1), number(m.noted))}
	for _, f := range m.families {
		if !m.ended[f.Id] {
			rows = append(rows, row("f"+number(f.Id), number(f.Session), f.Client, number(int(f.Scopes)), number(f.Next)))
		}
	}
	for _, x := range m.tokens {
		if !m.ended[x.Family] && !m.swept[x.Id] {
			rows = append(rows, row("t"+number(x.Id), number(x.Family), number(int(x.Scopes)), number(x.Until)))
		}
	}
	return rows
}

func number(n int) string {
	if n == 0 {
		return "a"
	}
	digits := fmt.Sprintf("%x", n)
	return string(rune('a'+len(digits))) + digits
}

// near is a number at the end of so many.
func near(chance *rand.Rand, count int) int { return count + 1 - chance.Intn(10) }

// deed does one thing by chance, with the store and with the model: its name, and both answers.
func deed(chance *rand.Rand, s *token.Store, m *model, now int) (what string, got, want []any) {
	session, client := 1+chance.Intn(4), string("cd"[chance.Intn(2)])
	scopes := api.Scopes(chance.Intn(256))
	id := near(chance, len(m.families))
	answer := func(things ...any) []any { return things }
	switch chance.Intn(24) {
	case 0, 1, 2, 3, 4:
		f, x, e := s.Grant(session, client, scopes, now)
		g, y, h := m.grant(session, client, scopes, now)
		return "grant", answer(f, x, e), answer(g, y, h)
	case 5, 6, 7, 8, 9, 10, 11:
		number := 1 + chance.Intn(4)
		if m.family(id) == api.OK && chance.Intn(6) > 0 {
			number = m.families[id-1].Next
		}
		f, x, e := s.Refresh(id, number, now)
		g, y, h := m.refresh(id, number, now)
		return "refresh", answer(f, x, e), answer(g, y, h)
	case 12, 13, 14, 15, 16, 17:
		return exchangeDeed(chance, s, m, now)
	case 18:
		return "end", answer(s.End(id)), answer(m.end(id))
	case 19:
		return "endsessions", answer(s.EndSessions(session, 9), api.OK), answer(m.endAll(func(f api.Family) bool { return f.Session == session }), api.OK)
	case 20:
		sessions := []int{session, session%4 + 1}
		wanted := func(f api.Family) bool { return f.Client == client && slices.Contains(sessions, f.Session) }
		return "endclient", answer(s.EndClient(client, sessions...), api.OK), answer(m.endAll(wanted), api.OK)
	case 21:
		n, e := s.Sweep(now)
		o, h := m.sweep(now)
		return "sweep", answer(n, e), answer(o, h)
	case 22:
		return "families", answer(s.Families(session), api.OK), answer(m.of(session), api.OK)
	}
	f, e := s.Family(id)
	if h := m.family(id); h != api.OK {
		return "family", answer(f, e), answer(api.Family{}, h)
	}
	return "family", answer(f, e), answer(m.families[id-1], api.OK)
}

// exchangeDeed asks for an access token, or exchanges it.
func exchangeDeed(chance *rand.Rand, s *token.Store, m *model, now int) (what string, got, want []any) {
	id := near(chance, len(m.tokens))
	if chance.Intn(2) == 0 {
		x, e := s.Access(id, now)
		y, h := m.access(id, now)
		return "access", []any{x, e}, []any{y, h}
	}
	scopes := api.Scopes(chance.Intn(256))
	if x, e := m.access(id, now); e == api.OK && chance.Intn(4) > 0 {
		scopes &= x.Scopes
	}
	x, e := s.Exchange(id, scopes, now)
	y, h := m.exchange(id, scopes, now)
	return "exchange", []any{x, e}, []any{y, h}
}

// Chance deeds on few sessions, with times that rise by and by, or fall back; now and then the store goes on as its Fork, or as Load of its Rows (P12.8).
func TestChanceDeeds(t *testing.T) {
	met := map[string]int{}
	for seed := range int64(60) {
		chance := rand.New(rand.NewSource(seed))
		s, m := token.New(), newModel()
		now := 0
		for step := range 600 {
			now += chance.Intn(1 + int(seed)/3)
			what, got, want := deed(chance, s, m, max(0, now-chance.Intn(12)/11))
			if !reflect.DeepEqual(got, want) {
				t.Fatalf("seed %d, step %d: %s: %v, not %v", seed, step, what, got, want)
			}
			met[fmt.Sprint(what, " ", got[len(got)-1])]++
			switch chance.Intn(20) {
			case 0:
				s = load(t, s.Rows()...)
			case 1:
				s = s.Fork()
			}
			wantRows(t, s, m.rows()...)
		}
	}
	for _, what := range []string{"grant 0", "grant 9", "grant 23", "refresh 0", "refresh 4", "refresh 9", "refresh 10", "refresh 12", "refresh 13",
		"access 0", "access 4", "access 9", "access 12", "exchange 0", "exchange 4", "exchange 9", "exchange 12", "exchange 14",
		"end 0", "end 4", "end 12", "endsessions 0", "endclient 0", "sweep 0", "sweep 9", "family 0", "family 4", "family 12", "families 0"} {
		if met[what] == 0 {
			t.Errorf("%s was never met", what)
		}
	}
}

// P12.5, P12.6 and P12.7, of whatever was done.
func TestWhatFollows(t *testing.T) {
	chance := rand.New(rand.NewSource(11))
	s, m := token.New(), newModel()
	gone, spent := map[int]bool{}, map[[2]int]bool{}
	now := 0
	for range 3000 {
		now += chance.Intn(5)
		what, got, _ := deed(chance, s, m, now)
		if f, ok := got[0].(api.Family); ok && what == "refresh" && got[2] == api.OK {
			if spent[[2]int{f.Id, f.Next}] {
				t.Fatalf("%v: a refresh token was taken twice", f)
			}
			spent[[2]int{f.Id, f.Next}] = true
		}
		for id := max(1, len(m.families)-30); id <= len(m.families); id++ {
			f, e := s.Family(id)
			if gone[id] && (e != api.ErrGone || len(s.Tokens(id)) > 0) {
				t.Fatalf("%d was ended, and is %v", id, e)
			}
			gone[id] = e == api.ErrGone
			for _, x := range s.Tokens(id) {
				if x.Scopes|f.Scopes != f.Scopes {
					t.Fatal(f, x)
				}
			}
		}
	}
}
