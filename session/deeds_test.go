package session_test

import (
	"fmt"
	"math/rand"
	"reflect"
	"testing"

	"holdfast/api"
	"holdfast/session"
)

// model is a table as the document tells it: no session is ever forgotten.
type model struct {
	all   []api.Session // number i + 1 is all[i]
	ended map[int]bool  // or swept
	noted int
}

// over reckons as the document's words do.
func (m *model) over(s api.Session, now int) bool {
	return m.ended[s.Id] || now >= s.Used+200 || now >= s.Since+1000
}

func (m *model) live(o api.Owner, now int) []api.Session {
	var live []api.Session
	for _, s := range m.all {
		if s.Owner == o && !m.over(s, now) {
			live = append(live, s)
		}
	}
	return live
}

func (m *model) begin(o api.Owner, now int) (api.Session, api.Errno) {
	if now < m.noted {
		return api.Session{}, api.ErrBack
	}
	if len(m.live(o, now)) >= 3 {
		return api.Session{}, api.ErrSessions
	}
	m.noted = now
	m.all = append(m.all, one(len(m.all)+1, o, now, now))
	return m.all[len(m.all)-1], api.OK
}

func (m *model) get(id, now int) (api.Session, api.Errno) {
	switch {
	case now < m.noted:
		return api.Session{}, api.ErrBack
	case id < 1 || id > len(m.all):
		return api.Session{}, api.ErrNone
	case m.over(m.all[id-1], now):
		return api.Session{}, api.ErrGone
	}
	return m.all[id-1], api.OK
}

func (m *model) touch(id, now int) (api.Session, api.Errno) {
	if _, e := m.get(id, now); e != api.OK {
		return api.Session{}, e
	}
	m.noted = now
	m.all[id-1].Used = now
	return m.all[id-1], api.OK
}

func (m *model) end(id int) api.Errno {
	if id < 1 || id > len(m.all) {
		return api.ErrNone
	}
	if m.ended[id] {
		return api.ErrGone
	}
	m.ended[id] = true
	return api.OK
}

// drop ends all that are wanted.
func (m *model) drop(wanted func(api.Session) bool) []int {
	var ids []int
	for _, s := range m.all {
		if !m.ended[s.Id] && wanted(s) {
			ids = append(ids, s.Id)
			m.ended[s.Id] = true
		}
	}
	return ids
}

func (m *model) sweep(now int) ([]int, api.Errno) {
	if now < m.noted {
		return nil, api.ErrBack
	}
	m.noted = now
	return m.drop(func(s api.Session) bool { return m.over(s, now) }), api.OK
}

func (m *model) rows() []api.Row {
	rows := []api.Row{row("#", number(len(m.all)+1), number(m.noted))}
	for _, s := range m.all {
		if !m.ended[s.Id] {
			rows = append(rows, row(number(s.Id), s.Owner.Tenant, s.Owner.User, number(s.Since), number(s.Used)))
		}
	}
	return rows
}

func number(n int) string {
	if n == 0 {
		return "a"
	}
	digits := fmt.Sprintf("%x", n)
	return string(rune('a'+len(digits))) + digits
}

// deed does one thing by chance, with the table and with the model: its name, and both answers.
func deed(chance *rand.Rand, s *session.Table, m *model, now int) (what string, got, want []any) {
	o := []api.Owner{owner("t", "u"), owner("t", "v"), owner("v", "u")}[chance.Intn(3)]
	id := len(m.all) + 1 - chance.Intn(9)
	answer := func(things ...any) []any { return things }
	switch chance.Intn(20) {
	case 0, 1, 2, 3, 4:
		x, e := s.Begin(o, now)
		y, f := m.begin(o, now)
		return "begin", answer(x, e), answer(y, f)
	case 5, 6, 7, 8, 9, 10, 11:
		x, e := s.Touch(id, now)
		y, f := m.touch(id, now)
		return "touch", answer(x, e), answer(y, f)
	case 12, 13:
		x, e := s.Get(id, now)
		y, f := m.get(id, now)
		return "get", answer(x, e), answer(y, f)
	case 14, 15:
		return "end", answer(s.End(id)), answer(m.end(id))
	case 16:
		return "endall", answer(s.EndAll(o), api.OK), answer(m.drop(func(s api.Session) bool { return s.Owner == o }), api.OK)
	case 17:
		x, e := s.Sweep(now)
		y, f := m.sweep(now)
		return "sweep", answer(x, e), answer(y, f)
	}
	x, e := s.Live(o, now)
	if now < m.noted {
		return "live", answer(x, e), answer([]api.Session(nil), api.ErrBack)
	}
	return "live", answer(x, e), answer(m.live(o, now), api.OK)
}

// Chance deeds on few users, with times that rise by and by, or fall back; now and then the table goes on as its Fork, or as Load of its Rows (P11.6).
func TestChanceDeeds(t *testing.T) {
	met := map[string]int{}
	for seed := range int64(60) {
		chance := rand.New(rand.NewSource(seed))
		s, m := session.New(), &model{ended: map[int]bool{}}
		now := 0
		for step := range 800 {
			now += chance.Intn(1 + int(seed)*2)
			what, got, want := deed(chance, s, m, max(0, now-chance.Intn(12)/11))
			if !reflect.DeepEqual(got, want) {
				t.Fatalf("seed %d, step %d: %s: %v, not %v", seed, step, what, got, want)
			}
			met[fmt.Sprint(what, " ", got[len(got)-1])]++
			switch chance.Intn(20) {
			case 0:
				s = load(t, s.Rows()...)
			case 1:
				s = s.Fork()
			}
			wantRows(t, s, m.rows()...)
		}
	}
	for _, what := range []string{"begin 0", "begin 9", "begin 22", "touch 0", "touch 4", "touch 9", "touch 12", "get 0", "get 4", "get 9", "get 12",
		"end 0", "end 4", "end 12", "endall 0", "sweep 0", "sweep 9", "live 0", "live 9"} {
		if met[what] == 0 {
			t.Errorf("%s was never met", what)
		}
	}
}

// P11.4 and P11.5: what is over stays so at all times that may come, and nobody has too many.
func TestOverForEver(t *testing.T) {
	chance := rand.New(rand.NewSource(7))
	s, m := session.New(), &model{ended: map[int]bool{}}
	over := map[int]bool{}
	now := 0
	for range 4000 {
		now += chance.Intn(30)
		deed(chance, s, m, now)
		if chance.Intn(10) == 0 {
			s.Sweep(now)
		}
		for id := max(1, len(m.all)-40); id <= len(m.all); id++ {
			_, e := s.Get(id, now)
			if over[id] && e != api.ErrGone {
				t.Fatalf("%d was over, and is at %d: %v", id, now, e)
			}
			over[id] = e == api.ErrGone
		}
		for _, o := range []api.Owner{owner("t", "u"), owner("t", "v"), owner("v", "u")} {
			if live, e := s.Live(o, now); len(live) > api.MaxSessions || e != api.OK {
				t.Fatal(live, e)
			}
		}
	}
}

// P11.7: of two tables, one has others' sessions too: of a user's they tell the same, but for numbers.
func TestUsersAreApart(t *testing.T) {
	chance := rand.New(rand.NewSource(3))
	alone, crowd := session.New(), session.New()
	there := []int{0} // number i of the one is there[i] of the other one
	now := 0
	for range 3000 {
		now += chance.Intn(40)
		crowded(chance, crowd, now)
		if chance.Intn(2) == 0 {
			x, e := alone.Begin(someone, now)
			y, f := crowd.Begin(someone, now)
			if e != f || x.Owner != y.Owner || x.Since != y.Since || x.Used != y.Used {
				t.Fatal(x, e, y, f)
			}
			if e == api.OK {
				there = append(there, y.Id)
			}
		}
		id := max(0, len(there)-1-chance.Intn(6))
		x, e := alone.Touch(id, now)
		y, f := crowd.Touch(there[id], now)
		if e != f || x.Owner != y.Owner || x.Since != y.Since || x.Used != y.Used {
			t.Fatal(id, x, e, y, f)
		}
		if chance.Intn(4) == 0 && alone.End(id) != crowd.End(there[id]) {
			t.Fatal(id)
		}
	}
}

// crowded does something with sessions of others.
func crowded(chance *rand.Rand, s *session.Table, now int) {
	o := owner("t", fmt.Sprint("v", chance.Intn(3)))
	switch chance.Intn(4) {
	case 0:
		s.EndAll(o)
	case 1:
		if live, _ := s.Live(o, now); len(live) > 0 {
			s.Touch(live[0].Id, now)
		}
	default:
		s.Begin(o, now)
	}
}
