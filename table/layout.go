package table

import (
	"slices"
	"strings"

	"holdfast/api"
	"holdfast/codec"
)

// letters stand for columns, ahead of the value in an index's pair. No name has one of them, so they end a table's name there; a part of its own would be more than a key has room for.
const letters = "ABCDEFGH"

// noColumn stands in the place of a column, where a pair is a row.
const noColumn = -1

// A row lies below the parts table, key; and a pair of an index, which has no value, below table + letter + value, key. None of their keys is longer than one may be.
func rowKey(table, key string) []byte {
	b, _ := codec.Key(table, key)
	return b
}

func indexKey(table string, column int, value, key string) []byte {
	b, _ := codec.Key(table+letters[column:column+1]+value, key)
	return b
}

// rowStart is where all rows of a table begin; indexStart where all pairs of a value do.
func rowStart(table string) []byte {
	b, _ := codec.Key(table)
	return b
}

func indexStart(table string, column int, value string) []byte {
	b, _ := codec.Key(table + letters[column:column+1] + value)
	return b
}

// indexKeys are a row's, one for each index of its schema.
func indexKeys(schema api.Schema, r api.Row) [][]byte {
	var keys [][]byte
	for _, column := range schema.Indexes {
		keys = append(keys, indexKey(schema.Name, column, r.Columns[column], r.Key))
	}
	return keys
}

// pair is one of the tree's: what its first part tells, the row's key, and what it has there.
type pair struct {
	table  string
	column int
	value  string
	key    string
	bytes  []byte
}

// parsePair takes a pair's key apart; whether there is such a table, or row, is not asked.
func parsePair(p api.Pair) (pair, bool) {
	parts, e := codec.Parts(p.Key)
	if e != api.OK || len(parts) != 2 {
		return pair{}, false
	}
	i := strings.IndexAny(parts[0], letters)
	if i < 0 {
		return pair{table: parts[0], column: noColumn, key: parts[1], bytes: p.Value}, true
	}
	column := strings.IndexByte(letters, parts[0][i])
	return pair{table: parts[0][:i], column: column, value: parts[0][i+1:], key: parts[1], bytes: p.Value}, true
}

// parseRow is a row of a schema.
func parseRow(schema api.Schema, key string, bytes []byte) (api.Row, bool) {
	columns, e := codec.Columns(bytes)
	row := api.Row{Key: key, Columns: columns}
	if e != api.OK || !isRow(schema, row) {
		return api.Row{}, false
	}
	return row, true
}

func isSchema(schema api.Schema) bool {
	if !codec.IsName(schema.Name) || schema.Columns < 0 || schema.Columns > api.MaxParts {
		return false
	}
	least := 0
	for _, column := range schema.Indexes {
		if column < least || column >= schema.Columns {
			return false
		}
		least = column + 1
	}
	return true
}

func isRow(schema api.Schema, r api.Row) bool {
	if !isRowKey(r.Key) || len(r.Columns) != schema.Columns {
		return false
	}
	if _, e := codec.Row(r.Columns...); e != api.OK {
		return false
	}
	for _, column := range schema.Indexes {
		if !isIndexed(r.Columns[column]) {
			return false
		}
	}
	return true
}

func isRowKey(s string) bool { return len(s) >= 1 && len(s) <= api.MaxRowKey && !hasZero(s) }

// isIndexed tells whether a text may stand in a column that has an index.
func isIndexed(s string) bool { return len(s) <= api.MaxIndex && !hasZero(s) }

func hasZero(s string) bool { return strings.IndexByte(s, 0) >= 0 }

func cloneSchema(schema api.Schema) api.Schema {
	schema.Indexes = slices.Clone(schema.Indexes)
	return schema
}
