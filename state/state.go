// Package state is what all parts that are kept as rows have alike: the order of rows, what stands in their keys and columns, things that are numbered, times, owners, and scopes.
package state

import (
	"slices"
	"strings"

	"holdfast/api"
	"holdfast/codec"
)

// HeadKey is the key of the row that tells of a part as a whole: it lies below all numbers' texts and all names. Between stands between the names of a key: it is a byte of none of them.
const (
	HeadKey = "#"
	Between = "/"
)

// Sort orders rows by their keys' bytes.
func Sort(rows []api.Row) {
	slices.SortFunc(rows, func(a, b api.Row) int { return strings.Compare(a.Key, b.Key) })
}

// Rising tells whether each row's key lies above that of the row ahead: so no key stands twice.
func Rising(rows []api.Row) bool {
	for i := 1; i < len(rows); i++ {
		if rows[i-1].Key >= rows[i].Key {
			return false
		}
	}
	return true
}

// Text is a number's text, in a column or a key; of a number that has none it is empty, so that Number refuses it. Texts are those of several.
func Text(n int) string {
	text, _ := codec.Number(n)
	return text
}

func Texts(numbers ...int) []string {
	var texts []string
	for _, n := range numbers {
		texts = append(texts, Text(n))
	}
	return texts
}

// Number is that of a text, if it is one from least to most.
func Number(text string, least, most int) (int, bool) {
	n, e := codec.ToNumber(text)
	if e != api.OK || n < least || n > most {
		return 0, false
	}
	return n, true
}

// Hash is that of a column: all columns of so many bytes are one.
func Hash(column string) (api.Hash, bool) {
	if len(column) != len(api.Hash{}) {
		return api.Hash{}, false
	}
	return api.Hash([]byte(column)), true
}

// IsOwner tells whether both of an owner's parts are names.
func IsOwner(o api.Owner) bool {
	return codec.IsName(o.Tenant) && codec.IsName(o.User)
}
