package proto

import (
	"slices"
	"strconv"

	"holdfast/api"
	"holdfast/ops"
)

// words are those of a line that were not read yet.
type words struct {
	left []string
}

// next is the next word. Where none is left it is empty: that is neither a number nor a text, so whoever reads it refuses it.
func (w *words) next() string {
	if len(w.left) == 0 {
		return ""
	}
	word := w.left[0]
	w.left = w.left[1:]
	return word
}

// reader reads the words of a line into a request.
type reader struct {
	words
	request api.Request
}

// readAll tells whether the words are those of a request.
func (r *reader) readAll() bool {
	if !r.readNumber(&r.request.Now) {
		return false
	}
	r.request.Op = ops.Op(r.next())
	if r.request.Op == api.NoOp {
		return false
	}
	for _, f := range fields[r.request.Op] {
		if !r.readField(f) {
			return false
		}
	}
	return len(r.left) == 0
}

func (r *reader) readField(f field) bool {
	switch f {
	case number:
		return r.readNumber(&r.request.N)
	case second:
		return r.readNumber(&r.request.M)
	case scopes:
		return r.readScopes()
	case codes:
		return r.readCodes()
	}
	return r.readText(textAt(&r.request, f))
}

func (r *reader) readNumber(to *int) bool {
	n, ok := toNumber(r.next(), mostNumber)
	*to = n
	return ok
}

func (r *reader) readScopes() bool {
	n, ok := toNumber(r.next(), mostScopes)
	r.request.Scopes = api.Scopes(n)
	return ok
}

func (r *reader) readText(to *string) bool {
	*to = r.next()
	return isText(*to)
}

// readCodes leaves words where there are more than a user may have: what is left makes the line none.
func (r *reader) readCodes() bool {
	for range min(len(r.left), api.Codes) {
		code := r.next()
		if !isText(code) {
			return false
		}
		r.request.Codes = append(r.request.Codes, code)
	}
	return true
}

// toNumber is that of a word, if it is written as a number is: no other writing of it will do.
func toNumber(word string, most int) (int, bool) {
	n, err := strconv.Atoi(word)
	if err != nil || n < 0 || n > most || strconv.Itoa(n) != word {
		return 0, false
	}
	return n, true
}

func isText(word string) bool {
	if len(word) < 1 || len(word) > mostText {
		return false
	}
	return !slices.ContainsFunc([]byte(word), func(b byte) bool { return b < leastByte || b > mostByte })
}
