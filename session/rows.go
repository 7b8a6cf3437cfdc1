package session

import (
	"holdfast/api"
	"holdfast/state"
)

// noMark stands ahead of a session's number in its row's key: sessions are the table's only kind.
const noMark = ""

// Rows are its state; Load is a table with such a state; Fork another one with the same.
func (t *Table) Rows() []api.Row {
	if t == nil {
		return nil
	}
	head := api.Row{Key: state.HeadKey, Columns: state.Texts(t.sessions.Next, t.noted)}
	return append([]api.Row{head}, state.RowsOf(&t.sessions, noMark, columnsOf)...)
}

func Load(rows ...api.Row) (*Table, api.Errno) {
	if len(rows) == 0 || !state.Rising(rows) {
		return nil, api.ErrForm
	}
	t, ok := fromHead(rows[0])
	if !ok {
		return nil, api.ErrForm
	}
	for _, row := range rows[1:] {
		if !state.TakeRow(&t.sessions, row.Key, row.Columns, t.toSession) {
			return nil, api.ErrForm
		}
	}
	return t, api.OK
}

func (t *Table) Fork() *Table {
	if t == nil {
		return nil
	}
	return &Table{clock: t.clock, sessions: t.sessions.Fork()}
}

func columnsOf(s api.Session) []string {
	return []string{s.Owner.Tenant, s.Owner.User, state.Text(s.Since), state.Text(s.Used)}
}

// fromHead is a table without sessions.
func fromHead(row api.Row) (*Table, bool) {
	if row.Key != state.HeadKey || len(row.Columns) != 2 {
		return nil, false
	}
	next, isNext := state.Number(row.Columns[0], state.FirstNumber, state.LastNext)
	noted, isNoted := state.Number(row.Columns[1], 0, api.MaxTime)
	if !isNext || !isNoted {
		return nil, false
	}
	return &Table{clock: clock{noted}, sessions: state.NewNumbered[api.Session](next)}, true
}

func (t *Table) toSession(id int, columns []string) (api.Session, bool) {
	if len(columns) != 4 {
		return api.Session{}, false
	}
	o := api.Owner{Tenant: columns[0], User: columns[1]}
	used, isUsed := state.Number(columns[3], 0, t.noted)
	since, isSince := state.Number(columns[2], 0, used)
	if !state.IsOwner(o) || !isUsed || !isSince {
		return api.Session{}, false
	}
	return api.Session{Id: id, Owner: o, Since: since, Used: used}, true
}
