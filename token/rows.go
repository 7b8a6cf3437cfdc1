package token

import (
	"strings"

	"holdfast/api"
	"holdfast/codec"
	"holdfast/state"
)

// Marks stand ahead of a number in a row's key. Families lie below tokens.
const (
	familyMark = "f"
	tokenMark  = "t"
)

const mostSession = 1 << 62

// Rows are its state; Load is a store with such a state; Fork another one with the same.
func (s *Store) Rows() []api.Row {
	if s == nil {
		return nil
	}
	rows := []api.Row{{Key: state.HeadKey, Columns: state.Texts(s.families.Next, s.tokens.Next, s.noted)}}
	rows = append(rows, state.RowsOf(&s.families, familyMark, familyColumns)...)
	return append(rows, state.RowsOf(&s.tokens, tokenMark, tokenColumns)...)
}

func Load(rows ...api.Row) (*Store, api.Errno) {
	if len(rows) == 0 || !state.Rising(rows) {
		return nil, api.ErrForm
	}
	s, ok := fromHead(rows[0])
	if !ok {
		return nil, api.ErrForm
	}
	for _, row := range rows[1:] {
		if !s.take(row) {
			return nil, api.ErrForm
		}
	}
	if s.hasTooMany() {
		return nil, api.ErrForm
	}
	return s, api.OK
}

func (s *Store) Fork() *Store {
	if s == nil {
		return nil
	}
	return &Store{clock: s.clock, families: s.families.Fork(), tokens: s.tokens.Fork()}
}

func familyColumns(f api.Family) []string {
	return []string{state.Text(f.Session), f.Client, state.ScopesText(f.Scopes), state.Text(f.Next)}
}

func tokenColumns(t api.Token) []string {
	return []string{state.Text(t.Family), state.ScopesText(t.Scopes), state.Text(t.Until)}
}

// fromHead is a store without families and tokens.
func fromHead(row api.Row) (*Store, bool) {
	if row.Key != state.HeadKey || len(row.Columns) != 3 {
		return nil, false
	}
	family, isFamily := state.Number(row.Columns[0], state.FirstNumber, state.LastNext)
	token, isToken := state.Number(row.Columns[1], state.FirstNumber, state.LastNext)
	noted, isNoted := state.Number(row.Columns[2], 0, api.MaxTime)
	if !isFamily || !isToken || !isNoted {
		return nil, false
	}
	return &Store{
		clock:    clock{noted},
		families: state.NewNumbered[api.Family](family),
		tokens:   state.NewNumbered[api.Token](token),
	}, true
}

// take lets a row be part of the store's state, if it may be. Rows rise: so a family comes ahead of its tokens.
func (s *Store) take(row api.Row) bool {
	if text, isFamily := strings.CutPrefix(row.Key, familyMark); isFamily {
		return state.TakeRow(&s.families, text, row.Columns, toFamily)
	}
	if text, isToken := strings.CutPrefix(row.Key, tokenMark); isToken {
		return state.TakeRow(&s.tokens, text, row.Columns, s.toToken)
	}
	return false
}

func toFamily(id int, columns []string) (api.Family, bool) {
	if len(columns) != 4 || !codec.IsName(columns[1]) {
		return api.Family{}, false
	}
	session, isSession := state.Number(columns[0], 1, mostSession)
	scopes, isScopes := state.Scopes(columns[2])
	next, isNext := state.Number(columns[3], firstRefresh, api.MaxTime)
	if !isSession || !isScopes || !isNext {
		return api.Family{}, false
	}
	return api.Family{Id: id, Session: session, Client: columns[1], Scopes: scopes, Next: next}, true
}

func (s *Store) toToken(id int, columns []string) (api.Token, bool) {
	if len(columns) != 3 {
		return api.Token{}, false
	}
	family, isFamily := state.Number(columns[0], state.FirstNumber, api.MaxTime)
	scopes, isScopes := state.Scopes(columns[1])
	until, isUntil := state.Number(columns[2], 0, api.MaxTime)
	if !isFamily || !isScopes || !isUntil {
		return api.Token{}, false
	}
	f, e := s.families.Find(family)
	if e != api.OK || !state.IsNarrower(scopes, f.Scopes) {
		return api.Token{}, false
	}
	return api.Token{Id: id, Family: family, Scopes: scopes, Until: until}, true
}

// hasTooMany tells whether a session has more families than may be.
func (s *Store) hasTooMany() bool {
	counts := map[int]int{}
	for _, f := range s.families.Kept {
		counts[f.Session]++
		if counts[f.Session] > api.MaxFamilies {
			return true
		}
	}
	return false
}
