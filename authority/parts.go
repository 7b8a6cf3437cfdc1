package authority

import (
	"slices"
	"strings"

	"holdfast/api"
	"holdfast/audit"
	"holdfast/cred"
	"holdfast/grant"
	"holdfast/session"
	"holdfast/state"
	"holdfast/token"
)

// Marks stand ahead of the keys of a part's rows.
const (
	chainMark  = "a:"
	bookMark   = "c:"
	clientMark = "g:"
	tableMark  = "s:"
	tokenMark  = "t:"
	markBytes  = 2
)

// Two parts are called Store where they come from; inside the state each needs a name of its own.
type (
	tokens  = token.Store
	clients = grant.Store
)

// parts is the state, but for the time.
type parts struct {
	*cred.Book
	*session.Table
	*tokens
	*clients
	*audit.Chain
}

// part is what all parts have alike.
type part interface {
	Rows() []api.Row
}

// marked is a part with the mark of its rows.
type marked struct {
	mark string
	part
}

func newParts() parts {
	return parts{cred.New(), session.New(), token.New(), grant.New(), audit.New()}
}

func (p parts) fork() parts {
	return parts{p.Book.Fork(), p.Table.Fork(), p.tokens.Fork(), p.clients.Fork(), p.Chain.Fork()}
}

// butChain are the parts that requests are done to; all is these, and the chain that tells of them. Both stand in the order of their marks.
func (p parts) butChain() []marked {
	return []marked{{bookMark, p.Book}, {clientMark, p.clients}, {tableMark, p.Table}, {tokenMark, p.tokens}}
}

func (p parts) all() []marked {
	return append([]marked{{chainMark, p.Chain}}, p.butChain()...)
}

// rowsOf are those of parts, by their keys' bytes: each part's are in order, and so are the marks.
func rowsOf(from []marked) []api.Row {
	var rows []api.Row
	for _, one := range from {
		for _, row := range one.Rows() {
			rows = append(rows, api.Row{Key: one.mark + row.Key, Columns: row.Columns})
		}
	}
	return rows
}

// load is the state with such rows; it tells whether there is one.
func load(rows []api.Row) (parts, bool) {
	var p parts
	var faults [5]api.Errno
	p.Book, faults[0] = cred.Load(unmarked(rows, bookMark)...)
	p.Table, faults[1] = session.Load(unmarked(rows, tableMark)...)
	p.tokens, faults[2] = token.Load(unmarked(rows, tokenMark)...)
	p.clients, faults[3] = grant.Load(unmarked(rows, clientMark)...)
	p.Chain, faults[4] = audit.Load(unmarked(rows, chainMark)...)
	if faults != [5]api.Errno{} {
		return parts{}, false
	}
	return p, true
}

// unmarked are the rows with a mark, as the part has them.
func unmarked(rows []api.Row, mark string) []api.Row {
	var own []api.Row
	for _, row := range rows {
		if key, ok := strings.CutPrefix(row.Key, mark); ok {
			own = append(own, api.Row{Key: key, Columns: row.Columns})
		}
	}
	return own
}

// noted is the greatest time that a part has noted: it stands in the last column of the row that tells of that part as a whole.
func (p parts) noted() int {
	noted := 0
	for _, one := range p.all() {
		for _, row := range one.Rows() {
			if row.Key == state.HeadKey {
				time, _ := state.Number(row.Columns[len(row.Columns)-1], 0, api.MaxTime)
				noted = max(noted, time)
			}
		}
	}
	return noted
}

// find is the row of a key, among rows by their keys.
func find(rows []api.Row, key string) (api.Row, bool) {
	i, found := slices.BinarySearchFunc(rows, key, func(row api.Row, key string) int { return strings.Compare(row.Key, key) })
	if !found {
		return api.Row{}, false
	}
	return rows[i], true
}

func sameRow(a, b api.Row) bool {
	return a.Key == b.Key && slices.Equal(a.Columns, b.Columns)
}

func sameRows(a, b []api.Row) bool {
	return slices.EqualFunc(a, b, sameRow)
}
