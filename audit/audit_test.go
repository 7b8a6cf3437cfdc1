package audit_test

import (
	"crypto/sha256"
	"fmt"
	"math"
	"slices"
	"strings"
	"testing"

	"holdfast/api"
	"holdfast/audit"
)

var noTimes = []int{-1, api.MaxTime + 1, math.MinInt, math.MaxInt}

func row(key string, columns ...string) api.Row { return api.Row{Key: key, Columns: columns} }

func event(number, at int, what, who string) api.Event {
	return api.Event{Number: number, At: at, What: what, Who: who}
}

func number(n int) string {
	if n == 0 {
		return "a"
	}
	digits := fmt.Sprintf("%x", n)
	return string(rune('a'+len(digits))) + digits
}

// link is what a hash becomes by an event, of the document's words, by the library's own SHA-256.
func link(h api.Hash, x api.Event) api.Hash {
	bytes := append(h[:], 4)
	for _, column := range []string{number(x.Number), number(x.At), x.What, x.Who} {
		bytes = append(bytes, byte(len(column)))
		bytes = append(bytes, column...)
	}
	return sha256.Sum256(bytes)
}

func headOf(h api.Hash, events ...api.Event) api.Hash {
	for _, x := range events {
		h = link(h, x)
	}
	return h
}

// rowsOf are those of a chain's parts, as the document tells them.
func rowsOf(base int, baseHash api.Hash, anchor int, anchorHash, head api.Hash, last int, events ...api.Event) []api.Row {
	rows := []api.Row{
		row("#", number(base), number(anchor), number(last)),
		row("a", string(anchorHash[:])),
		row("b", string(baseHash[:])),
		row("h", string(head[:])),
	}
	for _, x := range events {
		rows = append(rows, row("n"+number(x.Number), number(x.At), x.What, x.Who))
	}
	return rows
}

func want(t *testing.T, what string, got, want api.Errno) {
	t.Helper()
	if got != want {
		t.Errorf("%s: %v, not %v", what, got, want)
	}
}

func add(t *testing.T, c *audit.Chain, number, at int, what, who string) api.Event {
	t.Helper()
	x, e := c.Add(at, what, who)
	if x != event(number, at, what, who) || e != api.OK {
		t.Errorf("Add(%d, %q, %q): %v %v, not number %d", at, what, who, x, e, number)
	}
	return x
}

func wantNoAdd(t *testing.T, c *audit.Chain, at int, what, who string, want api.Errno) {
	t.Helper()
	before := c.Rows()
	if x, e := c.Add(at, what, who); x != (api.Event{}) || e != want {
		t.Errorf("Add(%d, %.20q, %.40q): %v %v, not %v", at, what, who, x, e, want)
	}
	wantRows(t, c, before...)
}

func wantAnchor(t *testing.T, c *audit.Chain, number int, h api.Hash) {
	t.Helper()
	if n, got := c.Anchor(); n != number || got != h {
		t.Errorf("Anchor: %d %x, not %d %x", n, got, number, h)
	}
	wantAnchored(t, c, number, h)
}

func wantAnchored(t *testing.T, c *audit.Chain, number int, h api.Hash) {
	t.Helper()
	if n, got := c.Anchored(); n != number || got != h {
		t.Errorf("Anchored: %d %x, not %d %x", n, got, number, h)
	}
}

func prune(t *testing.T, c *audit.Chain, n, gone int) {
	t.Helper()
	if got, e := c.Prune(n); got != gone || e != api.OK {
		t.Errorf("Prune(%d): %d %v, not %d", n, got, e, gone)
	}
}

func wantNoPrune(t *testing.T, c *audit.Chain, want api.Errno, numbers ...int) {
	t.Helper()
	before := c.Rows()
	for _, n := range numbers {
		if got, e := c.Prune(n); got != 0 || e != want {
			t.Errorf("Prune(%d): %d %v, not %v", n, got, e, want)
		}
	}
	wantRows(t, c, before...)
}

// wantChain asks for all that a chain tells.
func wantChain(t *testing.T, c *audit.Chain, head api.Hash, count int, events ...api.Event) {
	t.Helper()
	if got := c.Events(); !slices.Equal(got, events) {
		t.Errorf("Events: %v, not %v", got, events)
	}
	if got := c.Head(); got != head {
		t.Errorf("Head: %x, not %x", got, head)
	}
	if got := c.Count(); got != count {
		t.Errorf("Count: %d, not %d", got, count)
	}
}

func sameRows(a, b []api.Row) bool {
	return slices.EqualFunc(a, b, func(x, y api.Row) bool { return x.Key == y.Key && slices.Equal(x.Columns, y.Columns) })
}

func wantRows(t *testing.T, c *audit.Chain, want ...api.Row) {
	t.Helper()
	if rows := c.Rows(); !sameRows(rows, want) {
		t.Errorf("Rows: %q, not %q", rows, want)
	}
}

func load(t *testing.T, rows ...api.Row) *audit.Chain {
	t.Helper()
	c, e := audit.Load(rows...)
	if e != api.OK || c == nil {
		t.Fatalf("Load(%q): %v", rows, e)
	}
	return c
}

// The document's example.
func TestExample(t *testing.T) {
	c := audit.New()
	x := add(t, c, 1, 5, "login", "t/u")
	wantAnchor(t, c, 1, headOf(api.Hash{}, x))
	prune(t, c, 1, 1)
	wantChain(t, c, headOf(api.Hash{}, x), 1)
	add(t, c, 2, 5, "login", "t/u")
}

func TestNewChain(t *testing.T) {
	c := audit.New()
	wantChain(t, c, api.Hash{}, 0)
	wantAnchored(t, c, 0, api.Hash{})
	want(t, "Verify", c.Verify(), api.OK)
	wantRows(t, c, rowsOf(0, api.Hash{}, 0, api.Hash{}, api.Hash{}, 0)...)
	wantNoPrune(t, c, api.ErrRange, 1, -1, math.MinInt, math.MaxInt)
	prune(t, c, 0, 0)
	wantAnchor(t, c, 0, api.Hash{})
	wantRows(t, c, rowsOf(0, api.Hash{}, 0, api.Hash{}, api.Hash{}, 0)...)
}

func TestNilChain(t *testing.T) {
	var c *audit.Chain
	for _, at := range append([]int{0, 5}, noTimes...) {
		wantNoAdd(t, c, at, "w", "u", api.ErrNil)
		wantNoAdd(t, c, at, strings.Repeat("w", 99), "u", api.ErrNil)
		wantNoPrune(t, c, api.ErrNil, at)
	}
	want(t, "Verify", c.Verify(), api.ErrNil)
	wantChain(t, c, api.Hash{}, 0)
	wantAnchor(t, c, 0, api.Hash{})
	if c.Fork() != nil || len(c.Rows()) != 0 {
		t.Error("a nil chain has something")
	}
}

func TestAdd(t *testing.T) {
	c := audit.New()
	events := []api.Event{
		add(t, c, 1, 0, "", ""),
		add(t, c, 2, 0, "login", "t/u"),
		add(t, c, 3, 7, strings.Repeat("w", 12), strings.Repeat("u", 30)),
		add(t, c, 4, 7, "\x00\xff/#", "\x00\xff/#"),
		add(t, c, 5, api.MaxTime, "w", "u"),
		add(t, c, 6, api.MaxTime, "w", "u"),
	}
	head := headOf(api.Hash{}, events...)
	wantChain(t, c, head, 6, events...)
	wantAnchored(t, c, 0, api.Hash{})
	want(t, "Verify", c.Verify(), api.OK)
	wantRows(t, c, rowsOf(0, api.Hash{}, 0, api.Hash{}, head, api.MaxTime, events...)...)
}

// The errors come in their order: of a full chain, too.
func TestAddRefuses(t *testing.T) {
	long, longer := strings.Repeat("w", 13), strings.Repeat("u", 31)
	some, full := audit.New(), audit.New()
	add(t, some, 1, 9, "w", "u")
	for i := range api.MaxAudit {
		add(t, full, i+1, 9, "w", "u")
	}
	for _, c := range []*audit.Chain{some, full} {
		for _, at := range noTimes {
			wantNoAdd(t, c, at, "w", "u", api.ErrRange)
			wantNoAdd(t, c, at, long, longer, api.ErrRange)
		}
		for _, at := range []int{0, 8, 9, 10, api.MaxTime} {
			wantNoAdd(t, c, at, long, "u", api.ErrLong)
			wantNoAdd(t, c, at, "w", longer, api.ErrLong)
			wantNoAdd(t, c, at, long, longer, api.ErrLong)
			wantNoAdd(t, c, at, strings.Repeat("w", 256), "u", api.ErrLong)
			wantNoAdd(t, c, at, "w", strings.Repeat("u", 1<<16), api.ErrLong)
		}
		for _, at := range []int{0, 1, 8} {
			wantNoAdd(t, c, at, "w", "u", api.ErrBack)
		}
	}
	for _, at := range []int{9, 10, api.MaxTime} {
		wantNoAdd(t, full, at, "w", "u", api.ErrAudit)
	}
	add(t, some, 2, 9, "w", "u")
}

// Pruning makes room again, as much as it let go.
func TestAFullChain(t *testing.T) {
	c := audit.New()
	var events []api.Event
	for i := range api.MaxAudit {
		events = append(events, add(t, c, i+1, i, "w", fmt.Sprint(i)))
	}
	wantNoAdd(t, c, 64, "w", "u", api.ErrAudit)
	wantAnchor(t, c, 64, headOf(api.Hash{}, events...))
	wantNoAdd(t, c, 64, "w", "u", api.ErrAudit)
	prune(t, c, 2, 2)
	for range 2 {
		events = append(events, add(t, c, len(events)+1, 64, "w", "u"))
	}
	wantNoAdd(t, c, 64, "w", "u", api.ErrAudit)
	wantChain(t, c, headOf(api.Hash{}, events...), 66, events[2:]...)
	wantNoPrune(t, c, api.ErrRange, 65, 66, 1, 0)
	prune(t, c, 64, 62)
	wantChain(t, c, headOf(api.Hash{}, events...), 66, events[64:]...)
	want(t, "Verify", c.Verify(), api.OK)
	for i := range api.MaxAudit - 2 {
		add(t, c, 67+i, 64, "w", "u")
	}
	wantNoAdd(t, c, 64, "w", "u", api.ErrAudit)
}

// The last time is that of the last event ever, be it pruned or not.
func TestTheLastTimeStays(t *testing.T) {
	c := audit.New()
	x := add(t, c, 1, 9, "w", "u")
	head := headOf(api.Hash{}, x)
	wantAnchor(t, c, 1, head)
	prune(t, c, 1, 1)
	wantRows(t, c, rowsOf(1, head, 1, head, head, 9)...)
	wantNoAdd(t, c, 8, "w", "u", api.ErrBack)
	wantNoAdd(t, load(t, c.Rows()...), 8, "w", "u", api.ErrBack)
	wantNoAdd(t, c.Fork(), 8, "w", "u", api.ErrBack)
	add(t, c, 2, 9, "w", "u")
}

// five is a chain of five events, whose hashes by their numbers are beside it; it is anchored at the fourth.
func five(t *testing.T) (*audit.Chain, []api.Event, []api.Hash) {
	t.Helper()
	c := audit.New()
	var events []api.Event
	hashes := []api.Hash{{}}
	for i := 1; i <= 5; i++ {
		events = append(events, add(t, c, i, 10*i, fmt.Sprint("what", i), "t/u"))
		hashes = append(hashes, headOf(api.Hash{}, events...))
		if i == 4 {
			wantAnchor(t, c, 4, hashes[4])
		}
	}
	return c, events, hashes
}

func TestAnchor(t *testing.T) {
	c, events, hashes := five(t)
	wantAnchored(t, c, 4, hashes[4])
	wantChain(t, c, hashes[5], 5, events...)
	wantAnchor(t, c, 5, hashes[5])
	wantAnchor(t, c, 5, hashes[5])
	prune(t, c, 5, 5)
	wantAnchor(t, c, 5, hashes[5])
	wantRows(t, c, rowsOf(5, hashes[5], 5, hashes[5], hashes[5], 50)...)
}

// P14.6, at once and by steps.
func TestPrune(t *testing.T) {
	for first := range 5 {
		for second := first; second < 5; second++ {
			c, events, hashes := five(t)
			wantNoPrune(t, c, api.ErrRange, 5, 6, math.MaxInt, -1, math.MinInt)
			for _, n := range []int{first, second, second} {
				prune(t, c, n, n-c.Count()+len(c.Events()))
				wantChain(t, c, hashes[5], 5, events[n:]...)
				wantAnchored(t, c, 4, hashes[4])
				want(t, "Verify", c.Verify(), api.OK)
				wantRows(t, c, rowsOf(n, hashes[n], 4, hashes[4], hashes[5], 50, events[n:]...)...)
				wantNoPrune(t, c, api.ErrRange, n-1, 5)
			}
			last := add(t, c, 6, 50, "w", "u")
			wantChain(t, c, headOf(hashes[5], last), 6, append(events[second:], last)...)
			want(t, "Verify", c.Verify(), api.OK)
		}
	}
}

// wantBroken asks it of rows that Load takes, and of what becomes of them.
func wantBroken(t *testing.T, rows []api.Row) {
	t.Helper()
	c := load(t, rows...)
	wantRows(t, c, rows...)
	want(t, "Verify", c.Verify(), api.ErrBroken)
	want(t, "Verify of a fork", c.Fork().Verify(), api.ErrBroken)
	wantRows(t, c, rows...)
}

// P14.5: events that were changed, by texts that Load takes; a time may become that of the event behind, or for the last one that of the event ahead.
func TestChangedEvents(t *testing.T) {
	for _, pruned := range []int{0, 2, 3} {
		c, _, _ := five(t)
		prune(t, c, pruned, pruned)
		rows := c.Rows()
		times := []string{rows[len(rows)-2].Columns[0]}
		for i := len(rows) - 1; i >= 4; i-- {
			for j, columns := range [][]string{times, {"what", "what ", "", "xhat1", "What1", "\x00"}, {"t/v", "t/u ", "", "t/", "T/u"}} {
				for _, column := range columns {
					changed := c.Rows()
					changed[i].Columns[j] = column
					wantBroken(t, changed)
				}
			}
			times = []string{rows[i].Columns[0]}
		}
	}
}

// P14.5: what goes over from one text of an event to the next one is a change too.
func TestTextsAreApart(t *testing.T) {
	c := audit.New()
	add(t, c, 1, 5, "ab", "cd")
	for _, texts := range [][2]string{{"abc", "d"}, {"a", "bcd"}, {"", "abcd"}, {"abcd", ""}, {"cd", "ab"}} {
		rows := c.Rows()
		rows[4].Columns[1], rows[4].Columns[2] = texts[0], texts[1]
		wantBroken(t, rows)
	}
}

// renumbered are rows of a chain with other events, by the numbers that they must have.
func renumbered(rows []api.Row, base int, events ...api.Row) []api.Row {
	rows = slices.Clone(rows[:4])
	for i, x := range events {
		rows = append(rows, row("n"+number(base+1+i), x.Columns...))
	}
	return rows
}

// P14.5: events that were taken out, put in, or changed places.
func TestEventsTakenOutOrPutIn(t *testing.T) {
	c, _, _ := five(t)
	for _, pruned := range []int{0, 1, 3} {
		prune(t, c, pruned, pruned-c.Count()+len(c.Events()))
		rows := c.Rows()
		events := rows[4:]
		for i := range events {
			if without := slices.Delete(slices.Clone(events), i, i+1); pruned+len(without) >= 4 {
				wantBroken(t, renumbered(rows, pruned, without...))
			}
			wantBroken(t, renumbered(rows, pruned, slices.Insert(slices.Clone(events), i, events[i])...))
		}
		wantBroken(t, renumbered(rows, pruned, append(slices.Clone(events), row("", "c32", "w", "u"))...))
	}
	same := audit.New()
	for i, what := range []string{"x", "y", "z"} {
		add(t, same, i+1, 5, what, "u")
	}
	rows := same.Rows()
	for _, order := range [][]int{{4, 6, 5}, {5, 4, 6}, {6, 5, 4}, {5, 6, 4}} {
		wantBroken(t, renumbered(rows, 0, rows[order[0]], rows[order[1]], rows[order[2]]))
	}
	want(t, "Verify", load(t, renumbered(rows, 0, rows[4:]...)...).Verify(), api.OK)
}

// Each of the hashes is held against the events, in each of its bytes; the anchor's only from the base on.
func TestChangedHashes(t *testing.T) {
	for _, pruned := range []int{0, 2, 4} {
		c, _, _ := five(t)
		prune(t, c, pruned, pruned)
		for i := 1; i <= 3; i++ {
			for at := range 32 {
				rows := c.Rows()
				bytes := []byte(rows[i].Columns[0])
				bytes[at] ^= 1 << (at % 8)
				rows[i].Columns[0] = string(bytes)
				wantBroken(t, rows)
			}
		}
	}
	c, _, hashes := five(t)
	prune(t, c, 3, 3)
	for anchor := range 6 {
		for number, h := range hashes {
			rows := c.Rows()
			rows[0].Columns[1] = "b" + fmt.Sprint(anchor)
			if anchor == 0 {
				rows[0].Columns[1] = "a"
			}
			rows[1].Columns[0] = string(h[:])
			if anchor < 3 || anchor == number {
				want(t, "Verify", load(t, rows...).Verify(), api.OK)
			} else {
				wantBroken(t, rows)
			}
		}
	}
}

// A chain without events is right just if its head is its base's hash.
func TestVerifyWithoutEvents(t *testing.T) {
	one, two := api.Hash{1}, api.Hash{2}
	for _, c := range []struct {
		base, anchor int
		b, a, head   api.Hash
		right        bool
	}{
		{base: 0, anchor: 0, right: true},
		{base: 0, anchor: 0, b: one, a: one, head: one, right: true},
		{base: 0, anchor: 0, b: one, a: two, head: one, right: false},
		{base: 0, anchor: 0, b: one, a: one, head: two, right: false},
		{base: 7, anchor: 7, b: one, a: one, head: one, right: true},
		{base: 7, anchor: 7, b: one, a: two, head: one, right: false},
		{base: 7, anchor: 6, b: one, a: two, head: one, right: true},
		{base: 7, anchor: 6, b: one, a: two, head: two, right: false},
		{base: 7, anchor: 0, b: one, head: one, right: true},
		{base: api.MaxTime, anchor: api.MaxTime, b: one, a: one, head: one, right: true},
	} {
		got := load(t, rowsOf(c.base, c.b, c.anchor, c.a, c.head, 0)...).Verify()
		if right := got == api.OK; right != c.right || !right && got != api.ErrBroken {
			t.Errorf("%+v: %v", c, got)
		}
	}
}

// A broken chain goes on from the head that is kept, and stays broken; what is pruned leaves the hash of the events that were there.
func TestABrokenChainGoesOn(t *testing.T) {
	_, events, hashes := five(t)
	events[1].What = "other"
	c := load(t, rowsOf(0, api.Hash{}, 4, hashes[4], hashes[5], 50, events...)...)
	want(t, "Verify", c.Verify(), api.ErrBroken)
	last := add(t, c, 6, 60, "w", "u")
	head := headOf(hashes[5], last)
	wantChain(t, c, head, 6, append(slices.Clone(events), last)...)
	want(t, "Verify", c.Verify(), api.ErrBroken)
	prune(t, c, 3, 3)
	wantRows(t, c, rowsOf(3, headOf(api.Hash{}, events[:3]...), 4, hashes[4], head, 60, append(slices.Clone(events[3:]), last)...)...)
	want(t, "Verify", c.Verify(), api.ErrBroken)
	wantAnchor(t, c, 6, head)
	want(t, "Verify", c.Verify(), api.ErrBroken)
	prune(t, c, 6, 3)
	want(t, "Verify", c.Verify(), api.ErrBroken)
	wantChain(t, c, head, 6)
}

// Where the anchor lies ahead of the base, no number is one to prune to.
func TestPruneWithAnAnchorAheadOfTheBase(t *testing.T) {
	_, events, hashes := five(t)
	c := load(t, rowsOf(3, hashes[3], 2, hashes[2], hashes[5], 50, events[3:]...)...)
	want(t, "Verify", c.Verify(), api.OK)
	wantNoPrune(t, c, api.ErrRange, 0, 1, 2, 3, 4, 5, 6)
	wantAnchor(t, c, 5, hashes[5])
	wantNoPrune(t, c, api.ErrRange, 0, 1, 2, 6)
	prune(t, c, 4, 1)
	want(t, "Verify", c.Verify(), api.OK)
}

// The longest event of all, with the greatest numbers, has its own hash.
func TestTheLongestEvent(t *testing.T) {
	one := api.Hash{1}
	what, who := strings.Repeat("w", 12), strings.Repeat("u", 30)
	c := load(t, rowsOf(api.MaxTime, one, api.MaxTime, one, one, api.MaxTime)...)
	var events []api.Event
	for i := range api.MaxAudit {
		events = append(events, add(t, c, api.MaxTime+1+i, api.MaxTime, what, who))
	}
	wantChain(t, c, headOf(one, events...), api.MaxTime+64, events...)
	want(t, "Verify", c.Verify(), api.OK)
	wantRows(t, load(t, c.Rows()...), c.Rows()...)
	rows := c.Rows()
	rows[67].Columns[2] = who[1:] + "v"
	wantBroken(t, rows)
}

// P3: what was answered may be changed.
func TestEventsAreApart(t *testing.T) {
	c, events, hashes := five(t)
	answered := c.Events()
	for i := range answered {
		answered[i] = event(99, 99, "scribble", "scribble")
	}
	wantChain(t, c, hashes[5], 5, events...)
	kept := c.Events()
	add(t, c, 6, 60, "w", "u")
	prune(t, c, 4, 4)
	if !slices.Equal(kept, events) {
		t.Error(kept)
	}
}
