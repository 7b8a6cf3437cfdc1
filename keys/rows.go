package keys

import (
	"strings"

	"holdfast/api"
	"holdfast/state"
)

// Rows are its state; Load is a tree with a root and such a state.
func (t *Tree) Rows() []api.Row {
	if t == nil {
		return nil
	}
	rows := []api.Row{numberRow(state.HeadKey, t.sealed)}
	for tenant := range t.gone {
		rows = append(rows, api.Row{Key: tenant})
	}
	for at, version := range t.versions {
		rows = append(rows, numberRow(at.tenant+state.Between+at.purpose, version))
	}
	state.Sort(rows)
	return rows
}

func Load(root api.Hash, rows ...api.Row) (*Tree, api.Errno) {
	if len(rows) == 0 || rows[0].Key != state.HeadKey || !state.Rising(rows) {
		return nil, api.ErrForm
	}
	t := New(root)
	for _, row := range rows {
		if !t.take(row) {
			return nil, api.ErrForm
		}
	}
	return t, api.OK
}

func numberRow(key string, n int) api.Row {
	return api.Row{Key: key, Columns: []string{state.Text(n)}}
}

// take lets a row be part of the tree's state, if it may be. Rows rise: so a tenant that is gone comes ahead of its purposes.
func (t *Tree) take(row api.Row) bool {
	tenant, purpose, rotated := strings.Cut(row.Key, state.Between)
	switch {
	case row.Key == state.HeadKey:
		return t.takeSealed(row.Columns)
	case rotated:
		return t.takeVersion(tenant, purpose, row.Columns)
	}
	return len(row.Columns) == 0 && t.Destroy(tenant) == api.OK
}

func (t *Tree) takeSealed(columns []string) bool {
	sealed, ok := onlyNumber(columns, 0, api.MaxTime)
	t.sealed = sealed
	return ok
}

func (t *Tree) takeVersion(tenant, purpose string, columns []string) bool {
	version, ok := onlyNumber(columns, firstVersion+1, api.MaxVersions)
	if !ok || t.reach(tenant, tenant, purpose) != api.OK || len(t.versions) == mostRotated {
		return false
	}
	t.versions[place{tenant, purpose}] = version
	return true
}

// onlyNumber is that of a row's one column.
func onlyNumber(columns []string, least, most int) (int, bool) {
	if len(columns) != 1 {
		return 0, false
	}
	return state.Number(columns[0], least, most)
}
