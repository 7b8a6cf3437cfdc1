package grant

import (
	"maps"
	"strings"

	"holdfast/api"
	"holdfast/state"
)

// So many names has a client's key, and a consent's.
const (
	clientNames  = 2
	consentNames = 3
)

// Rows are its state; Load is a store with such a state; Fork another one with the same.
func (s *Store) Rows() []api.Row {
	if s == nil {
		return nil
	}
	var rows []api.Row
	for at, c := range s.clients {
		rows = append(rows, rowOf([]string{at.tenant, at.name}, c.redirect, state.ScopesText(c.scopes)))
		for user, allowed := range c.consents {
			rows = append(rows, rowOf([]string{at.tenant, user, at.name}, state.ScopesText(allowed)))
		}
	}
	state.Sort(rows)
	return rows
}

func Load(rows ...api.Row) (*Store, api.Errno) {
	if !state.Rising(rows) {
		return nil, api.ErrForm
	}
	s := New()
	// A consent may stand ahead of its client: so all clients are taken first.
	for _, row := range rows {
		if !s.takeClient(row) {
			return nil, api.ErrForm
		}
	}
	for _, row := range rows {
		if !s.takeConsent(row) {
			return nil, api.ErrForm
		}
	}
	return s, api.OK
}

func (s *Store) Fork() *Store {
	if s == nil {
		return nil
	}
	other := New()
	for at, c := range s.clients {
		other.clients[at] = &registered{redirect: c.redirect, scopes: c.scopes, consents: maps.Clone(c.consents)}
	}
	return other
}

func rowOf(names []string, columns ...string) api.Row {
	return api.Row{Key: strings.Join(names, state.Between), Columns: columns}
}

// takeClient lets a row's client be there, if it may be; a consent's row it leaves for takeConsent, and that leaves a client's.
func (s *Store) takeClient(row api.Row) bool {
	names := strings.Split(row.Key, state.Between)
	if len(names) == consentNames {
		return true
	}
	if len(names) != clientNames || len(row.Columns) != 2 {
		return false
	}
	scopes, ok := state.Scopes(row.Columns[1])
	return ok && s.Register(api.Client{Tenant: names[0], Name: names[1], Redirect: row.Columns[0], Scopes: scopes}) == api.OK
}

func (s *Store) takeConsent(row api.Row) bool {
	names := strings.Split(row.Key, state.Between)
	if len(names) == clientNames {
		return true
	}
	if len(names) != consentNames || len(row.Columns) != 1 {
		return false
	}
	scopes, ok := state.Scopes(row.Columns[0])
	o := api.Owner{Tenant: names[0], User: names[1]}
	return ok && s.Allow(api.Consent{Owner: o, Client: names[2], Scopes: scopes}) == api.OK
}
