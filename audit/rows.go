package audit

import (
	"slices"

	"holdfast/api"
	"holdfast/state"
)

// Keys of the rows with hashes; eventMark stands ahead of an event's number, and lies above them.
const (
	anchorKey = "a"
	baseKey   = "b"
	headKey   = "h"
	eventMark = "n"
)

// firstEvent is how many rows stand ahead of those of the events.
const firstEvent = 4

// Rows are its state; Load is a chain with such a state; Fork another one with the same.
func (c *Chain) Rows() []api.Row {
	if c == nil {
		return nil
	}
	rows := []api.Row{
		{Key: state.HeadKey, Columns: state.Texts(c.base.number, c.anchor.number, c.last)},
		hashRow(anchorKey, c.anchor.hash),
		hashRow(baseKey, c.base.hash),
		hashRow(headKey, c.head),
	}
	for _, event := range c.events {
		rows = append(rows, api.Row{Key: eventKey(event.Number), Columns: []string{state.Text(event.At), event.What, event.Who}})
	}
	return rows
}

func Load(rows ...api.Row) (*Chain, api.Errno) {
	c := New()
	// The keys rise, since each one is held against the only one that may stand there.
	if len(rows) < firstEvent || len(rows) > firstEvent+api.MaxAudit || !c.takeNumbers(rows[0]) || !c.takeHashes(rows[1:firstEvent]) {
		return nil, api.ErrForm
	}
	for _, row := range rows[firstEvent:] {
		if !c.takeEvent(row) {
			return nil, api.ErrForm
		}
	}
	if c.anchor.number > c.Count() {
		return nil, api.ErrForm
	}
	return c, api.OK
}

func (c *Chain) Fork() *Chain {
	if c == nil {
		return nil
	}
	other := *c
	other.events = slices.Clone(c.events)
	return &other
}

func hashRow(key string, h api.Hash) api.Row {
	return api.Row{Key: key, Columns: []string{string(h[:])}}
}

func eventKey(number int) string {
	return eventMark + state.Text(number)
}

func (c *Chain) takeNumbers(row api.Row) bool {
	if row.Key != state.HeadKey || len(row.Columns) != 3 {
		return false
	}
	base, isBase := state.Number(row.Columns[0], 0, api.MaxTime)
	anchor, isAnchor := state.Number(row.Columns[1], 0, api.MaxTime)
	last, isLast := state.Number(row.Columns[2], 0, api.MaxTime)
	c.base.number, c.anchor.number, c.last = base, anchor, last
	return isBase && isAnchor && isLast
}

func (c *Chain) takeHashes(rows []api.Row) bool {
	anchor, isAnchor := toHash(rows[0], anchorKey)
	base, isBase := toHash(rows[1], baseKey)
	head, isHead := toHash(rows[2], headKey)
	c.anchor.hash, c.base.hash, c.head = anchor, base, head
	return isAnchor && isBase && isHead
}

func toHash(row api.Row, key string) (api.Hash, bool) {
	if row.Key != key || len(row.Columns) != 1 {
		return api.Hash{}, false
	}
	return state.Hash(row.Columns[0])
}

// takeEvent lets a row be that of the next event, if it may be.
func (c *Chain) takeEvent(row api.Row) bool {
	number := c.Count() + 1
	if row.Key != eventKey(number) || len(row.Columns) != 3 || isTooLong(row.Columns[1], row.Columns[2]) {
		return false
	}
	at, ok := state.Number(row.Columns[0], c.lastAt(), c.last)
	if ok {
		c.events = append(c.events, api.Event{Number: number, At: at, What: row.Columns[1], Who: row.Columns[2]})
	}
	return ok
}

// lastAt is the time of the last event that is kept, or 0.
func (c *Chain) lastAt() int {
	if len(c.events) == 0 {
		return 0
	}
	return c.events[len(c.events)-1].At
}
