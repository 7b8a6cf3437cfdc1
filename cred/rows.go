package cred

import (
	"slices"
	"strconv"
	"strings"

	"holdfast/api"
	"holdfast/state"
)

const (
	mostSalt  = 8
	mostUntil = api.MaxTime + api.Lockout
)

// Rows are its state; Load is a book with such a state; Fork another one with the same.
func (b *Book) Rows() []api.Row {
	if b == nil {
		return nil
	}
	var rows []api.Row
	for o, r := range b.records {
		rows = append(rows, r.rows(o.Tenant+state.Between+o.User)...)
	}
	state.Sort(rows)
	return rows
}

func Load(rows ...api.Row) (*Book, api.Errno) {
	if !state.Rising(rows) {
		return nil, api.ErrForm
	}
	b := New()
	for _, row := range rows {
		if !b.take(row) {
			return nil, api.ErrForm
		}
	}
	return b, api.OK
}

func (b *Book) Fork() *Book {
	if b == nil {
		return nil
	}
	other := New()
	for o, r := range b.records {
		same := *r
		same.codes = slices.Clone(r.codes)
		other.records[o] = &same
	}
	return other
}

func (r *record) rows(key string) []api.Row {
	columns := []string{string(r.hash[:]), r.salt, state.Text(r.cost), state.Text(r.tries), state.Text(r.until)}
	rows := []api.Row{{Key: key, Columns: columns}}
	for i, code := range r.codes {
		rows = append(rows, api.Row{Key: key + state.Between + strconv.Itoa(i+1), Columns: []string{string(code[:])}})
	}
	return rows
}

// take lets a row be part of the book's state, if it may be. Rows rise: so a user comes ahead of its codes, and these in their order; but other users may stand between them.
func (b *Book) take(row api.Row) bool {
	parts := strings.Split(row.Key, state.Between)
	if len(parts) < 2 || len(parts) > 3 {
		return false
	}
	o := api.Owner{Tenant: parts[0], User: parts[1]}
	if len(parts) == 2 {
		return b.takeUser(o, row.Columns)
	}
	return b.takeCode(o, parts[2], row.Columns)
}

func (b *Book) takeUser(o api.Owner, columns []string) bool {
	r, ok := toRecord(columns)
	if !ok || !state.IsOwner(o) || !b.hasRoom(o.Tenant) {
		return false
	}
	b.records[o] = r
	return true
}

func (b *Book) takeCode(o api.Owner, number string, columns []string) bool {
	r, e := b.find(o)
	if e != api.OK || len(columns) != 1 || len(r.codes) == api.Codes || number != strconv.Itoa(len(r.codes)+1) {
		return false
	}
	h, ok := state.Hash(columns[0])
	if ok {
		r.codes = append(r.codes, h)
	}
	return ok
}

func toRecord(columns []string) (*record, bool) {
	if len(columns) != 5 || len(columns[1]) > mostSalt {
		return nil, false
	}
	h, isHash := state.Hash(columns[0])
	cost, isCost := state.Number(columns[2], 1, api.MaxCost)
	tries, isTries := state.Number(columns[3], 0, api.MaxTries)
	until, isUntil := state.Number(columns[4], 0, mostUntil)
	if !isHash || !isCost || !isTries || !isUntil {
		return nil, false
	}
	return &record{counters: counters{tries: tries, until: until}, hash: h, salt: columns[1], cost: cost}, true
}
