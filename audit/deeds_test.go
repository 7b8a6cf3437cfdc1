package audit_test

import (
	"fmt"
	"math/rand"
	"reflect"
	"strings"
	"testing"

	"holdfast/api"
	"holdfast/audit"
)

// model is a chain as the document tells it: no event is ever forgotten, and hashes are reckoned anew.
type model struct {
	events       []api.Event // number i + 1 is events[i]
	base, anchor int
}

func (m *model) hashAt(n int) api.Hash { return headOf(api.Hash{}, m.events[:n]...) }

func (m *model) last() int {
	if len(m.events) == 0 {
		return 0
	}
	return m.events[len(m.events)-1].At
}

func (m *model) add(at int, what, who string) (api.Event, api.Errno) {
	switch {
	case at < 0 || at > 1<<40:
		return api.Event{}, api.ErrRange
	case len(what) > 12 || len(who) > 30:
		return api.Event{}, api.ErrLong
	case at < m.last():
		return api.Event{}, api.ErrBack
	case len(m.events)-m.base == 64:
		return api.Event{}, api.ErrAudit
	}
	m.events = append(m.events, event(len(m.events)+1, at, what, who))
	return m.events[len(m.events)-1], api.OK
}

func (m *model) prune(n int) (int, api.Errno) {
	if n > m.anchor || n < m.base {
		return 0, api.ErrRange
	}
	gone := n - m.base
	m.base = n
	return gone, api.OK
}

func (m *model) rows() []api.Row {
	return rowsOf(m.base, m.hashAt(m.base), m.anchor, m.hashAt(m.anchor), m.hashAt(len(m.events)), m.last(), m.events[m.base:]...)
}

// deed does one thing by chance, with the chain and with the model: its name, and both answers.
func deed(chance *rand.Rand, c *audit.Chain, m *model) (what string, got, want []any) {
	answer := func(things ...any) []any { return things }
	switch chance.Intn(20) {
	case 0:
		n, h := c.Anchor()
		m.anchor = len(m.events)
		return "anchor", answer(n, h, api.OK), answer(m.anchor, m.hashAt(m.anchor), api.OK)
	case 1:
		n := m.base - 2 + chance.Intn(m.anchor-m.base+5)
		x, e := c.Prune(n)
		y, f := m.prune(n)
		return "prune", answer(x, e), answer(y, f)
	case 2:
		n, h := c.Anchored()
		return "anchored", answer(n, h, c.Verify()), answer(m.anchor, m.hashAt(m.anchor), api.OK)
	}
	at := m.last() + chance.Intn(6) - chance.Intn(12)/11
	word, who := strings.Repeat("w", chance.Intn(14)), strings.Repeat("u", 30-chance.Intn(12)+chance.Intn(6)/5)
	x, e := c.Add(at, word, who)
	y, f := m.add(at, word, who)
	return "add", answer(x, e), answer(y, f)
}

// Chance deeds; now and then the chain goes on as its Fork, or as Load of its Rows (P14.7); it is always right (P14.4).
func TestChanceDeeds(t *testing.T) {
	met := map[string]int{}
	for seed := range int64(20) {
		chance := rand.New(rand.NewSource(seed))
		c, m := audit.New(), &model{}
		for step := range 300 {
			what, got, want := deed(chance, c, m)
			if !reflect.DeepEqual(got, want) {
				t.Fatalf("seed %d, step %d: %s: %v, not %v", seed, step, what, got, want)
			}
			met[fmt.Sprint(what, " ", got[len(got)-1])]++
			switch chance.Intn(20) {
			case 0:
				c = load(t, c.Rows()...)
			case 1:
				c = c.Fork()
			}
			wantRows(t, c, m.rows()...)
			wantChain(t, c, m.hashAt(len(m.events)), len(m.events), m.events[m.base:]...)
			if e := c.Verify(); e != api.OK {
				t.Fatalf("seed %d, step %d: %v", seed, step, e)
			}
		}
	}
	for _, what := range []string{"anchor 0", "anchored 0", "prune 0", "prune 2", "add 0", "add 2", "add 6", "add 9", "add 26"} {
		if met[what] == 0 {
			t.Errorf("%s was never met", what)
		}
	}
}

// P14.5: whatever one column of an event's row becomes, Load refuses it, or Verify tells it.
func TestChanceChanges(t *testing.T) {
	chance := rand.New(rand.NewSource(5))
	refused, broken := 0, 0
	for range 3000 {
		c, m := audit.New(), &model{}
		for range 1 + chance.Intn(12) {
			deed(chance, c, m)
		}
		rows := c.Rows()
		if len(rows) == 4 {
			continue
		}
		i, j := 4+chance.Intn(len(rows)-4), chance.Intn(3)
		changed := changedText(chance, rows[i].Columns[j])
		if changed == rows[i].Columns[j] {
			continue
		}
		rows[i].Columns[j] = changed
		d, e := audit.Load(rows...)
		switch {
		case e == api.ErrForm:
			refused++
		case e == api.OK && d.Verify() == api.ErrBroken:
			broken++
		default:
			t.Fatalf("%q: %v %v", rows, e, d.Verify())
		}
	}
	if refused < 100 || broken < 100 {
		t.Error(refused, broken)
	}
}

// changedText is a text with one byte changed, taken out, or put in.
func changedText(chance *rand.Rand, text string) string {
	at, b := chance.Intn(len(text)+1), string([]byte{byte(chance.Intn(256))})
	if at == len(text) {
		return text + b
	}
	return text[:at] + []string{b, "", b + text[at:at+1]}[chance.Intn(3)] + text[at+1:]
}
