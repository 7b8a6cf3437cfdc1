package authority

import (
	"slices"
	"strconv"

	"holdfast/api"
	"holdfast/block"
	"holdfast/pager"
	"holdfast/state"
	"holdfast/table"
	"holdfast/tree"
	"holdfast/wal"
)

const (
	leastBlocks = 300
	logBlocks   = 110
)

// kind is the rows of a part that have one number of columns: they are a table, since all rows of a table have.
type kind struct {
	mark    string
	columns int
}

// kinds are all that come up.
var kinds = [...]kind{
	{chainMark, 1}, {chainMark, 3},
	{bookMark, 1}, {bookMark, 5},
	{clientMark, 1}, {clientMark, 2},
	{tableMark, 2}, {tableMark, 4},
	{tokenMark, 3}, {tokenMark, 4},
}

// table is the name of a kind's table. A key there has no mark: with one the longest would be too long.
func (k kind) table() string {
	return k.mark[:1] + strconv.Itoa(k.columns)
}

// placed is where a row of the state lies: its table, and how it is there.
func placed(row api.Row) (table string, own api.Row) {
	k := kind{row.Key[:markBytes], len(row.Columns)}
	return k.table(), api.Row{Key: row.Key[markBytes:], Columns: row.Columns}
}

// shelf is tables on a disk, in which the rows of a state are kept.
type shelf struct {
	*table.Store
}

func openShelf(d *block.Disk) (shelf, api.Errno) {
	l, e := wal.Open(d, logBlocks)
	if e != api.OK {
		return shelf{}, e
	}
	p, e := pager.New(l, api.MaxCache)
	if e != api.OK {
		return shelf{}, e
	}
	t, e := tree.Open(p)
	if e != api.OK {
		return shelf{}, e
	}
	var schemas []api.Schema
	for _, k := range kinds {
		schemas = append(schemas, api.Schema{Name: k.table(), Columns: k.columns})
	}
	s, e := table.Open(t, schemas...)
	return shelf{s}, e
}

// disk is a Fork of the shelf's disk.
func (s shelf) disk() *block.Disk {
	return s.Tree().Pager().Log().Disk()
}

// rows are all that lie there, by their keys with marks.
func (s shelf) rows() ([]api.Row, api.Errno) {
	var rows []api.Row
	for _, k := range kinds {
		own, e := s.All(k.table())
		if e != api.OK {
			return nil, e
		}
		for _, row := range own {
			rows = append(rows, api.Row{Key: k.mark + row.Key, Columns: row.Columns})
		}
	}
	state.Sort(rows)
	return rows, api.OK
}

// kept is the rows of the state that is kept: where nothing was kept yet, of an empty one.
func (s shelf) kept() ([]api.Row, api.Errno) {
	own, e := s.rows()
	if e == api.OK && len(own) == 0 {
		return rowsOf(newParts().all()), api.OK
	}
	return own, e
}

// isEmpty tells whether nothing was kept yet: every state has the row that tells of its sessions as a whole.
func (s shelf) isEmpty() bool {
	_, e := s.Get(kind{tableMark, 2}.table(), state.HeadKey)
	return e == api.ErrNone
}

// keep lets the rows of a state be followed by those of another one, as one group; if they are the same, nothing is written. Where there is no room for what has changed, all rows are laid anew, which leaves no gaps between them.
func (s shelf) keep(before, after []api.Row) api.Errno {
	if sameRows(before, after) {
		return api.OK
	}
	if s.isEmpty() {
		before = nil
	}
	e := s.lay(gone(before, after), fresh(before, after))
	if e == api.ErrFull {
		e = s.lay(before, after)
	}
	if e != api.OK {
		return e
	}
	return s.Commit()
}

// lay takes rows off, and puts others there. With ErrFull all is as it was: the tables forget what was done.
func (s shelf) lay(off, on []api.Row) api.Errno {
	for _, row := range off {
		name, own := placed(row)
		if e := s.Delete(name, own.Key); e != api.OK {
			return e
		}
	}
	for _, row := range on {
		if e := s.Put(placed(row)); e != api.OK {
			return e
		}
	}
	return api.OK
}

// gone are the rows of keys that are not there any more; fresh those that were not there, or were others.
func gone(before, after []api.Row) []api.Row {
	return slices.DeleteFunc(slices.Clone(before), func(row api.Row) bool {
		_, found := find(after, row.Key)
		return found
	})
}

func fresh(before, after []api.Row) []api.Row {
	return slices.DeleteFunc(slices.Clone(after), func(row api.Row) bool {
		old, found := find(before, row.Key)
		return found && sameRow(old, row)
	})
}
