package state

import (
	"maps"
	"slices"

	"holdfast/api"
)

// Numbers of things are given from FirstNumber on; when the next one is LastNext, all were given.
const (
	FirstNumber = 1
	LastNext    = api.MaxTime + 1
)

// Numbered is things with numbers, none of which is given twice: the next number, and the things that are still kept, by theirs. A number below Next that is not among them is that of a thing that is gone: so nothing needs to be kept of it.
type Numbered[T any] struct {
	Next int
	Kept map[int]T
}

// NewNumbered has no thing, and a next number.
func NewNumbered[T any](next int) Numbered[T] {
	return Numbered[T]{Next: next, Kept: map[int]T{}}
}

// Full tells whether all numbers were given.
func (n *Numbered[T]) Full() bool {
	return n.Next >= LastNext
}

// Give is the next number, which is so given. It is asked only where Full is false.
func (n *Numbered[T]) Give() int {
	given := n.Next
	n.Next++
	return given
}

// Find is the thing of a number: ErrNone, if none had it yet; ErrGone, if that is kept no more.
func (n *Numbered[T]) Find(number int) (T, api.Errno) {
	var none T
	if number < FirstNumber || number >= n.Next {
		return none, api.ErrNone
	}
	thing, kept := n.Kept[number]
	if !kept {
		return none, api.ErrGone
	}
	return thing, api.OK
}

// Numbers are those of the things that are wanted, rising; Things are these things.
func (n *Numbered[T]) Numbers(wanted func(T) bool) []int {
	var numbers []int
	for number, thing := range n.Kept {
		if wanted(thing) {
			numbers = append(numbers, number)
		}
	}
	slices.Sort(numbers)
	return numbers
}

func (n *Numbered[T]) Things(wanted func(T) bool) []T {
	var things []T
	for _, number := range n.Numbers(wanted) {
		things = append(things, n.Kept[number])
	}
	return things
}

// Drop lets the things that are wanted go: their numbers, rising.
func (n *Numbered[T]) Drop(wanted func(T) bool) []int {
	gone := n.Numbers(wanted)
	for _, number := range gone {
		delete(n.Kept, number)
	}
	return gone
}

// Fork is the same things, kept apart.
func (n *Numbered[T]) Fork() Numbered[T] {
	return Numbered[T]{Next: n.Next, Kept: maps.Clone(n.Kept)}
}

// RowsOf are rows of things, by their numbers; a row's key is a mark and the number's text.
func RowsOf[T any](n *Numbered[T], mark string, columns func(T) []string) []api.Row {
	var rows []api.Row
	for _, number := range n.Numbers(func(T) bool { return true }) {
		rows = append(rows, api.Row{Key: mark + Text(number), Columns: columns(n.Kept[number])})
	}
	return rows
}

// TakeRow keeps the thing of a row's columns under the number of a text, if that was given, and the columns may be read.
func TakeRow[T any](n *Numbered[T], text string, columns []string, read func(number int, columns []string) (T, bool)) bool {
	number, given := Number(text, FirstNumber, n.Next-1)
	if !given {
		return false
	}
	thing, ok := read(number, columns)
	if ok {
		n.Kept[number] = thing
	}
	return ok
}
