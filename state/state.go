// Package state is what all parts that are kept as rows have alike: the order of rows, and numbers in their columns.
package state

import (
	"slices"
	"strings"

	"holdfast/api"
	"holdfast/codec"
)

// Sort orders rows by their keys' bytes.
func Sort(rows []api.Row) {
	slices.SortFunc(rows, func(a, b api.Row) int { return strings.Compare(a.Key, b.Key) })
}

// Rising tells whether each row's key lies above that of the row ahead: so no key stands twice.
func Rising(rows []api.Row) bool {
	for i := 1; i < len(rows); i++ {
		if rows[i-1].Key >= rows[i].Key {
			return false
		}
	}
	return true
}

// Text is a number's text, in a column or a key. What is kept is never a number that has none.
func Text(n int) string {
	text, _ := codec.Number(n)
	return text
}

// Number is that of a text, if it is one from least to most.
func Number(text string, least, most int) (int, bool) {
	n, e := codec.ToNumber(text)
	if e != api.OK || n < least || n > most {
		return 0, false
	}
	return n, true
}
