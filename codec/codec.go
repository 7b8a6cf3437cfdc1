// Package codec is keys and rows as bytes. See ../../shared/doc/02-codec.md.
package codec

import (
	"iter"
	"slices"
	"strconv"
	"strings"

	"holdfast/api"
)

// What stands behind a byte 0 in a key: a part's end lies below every byte of a part, so that a text comes ahead of those that go on.
const (
	partEnd  = 1
	zeroByte = 255
)

const (
	maxNumber = 1 << 62
	maxDigits = 16
)

// Key is the bytes of a key of parts, ordered as the parts are; Parts are those of a key.
func Key(parts ...string) ([]byte, api.Errno) {
	if len(parts) < 1 || len(parts) > api.MaxParts {
		return nil, api.ErrRange
	}
	size := keySize(parts)
	if size > api.MaxKey {
		return nil, api.ErrLong
	}
	key := make([]byte, 0, size)
	for _, part := range parts {
		key = appendPart(key, part)
	}
	return key, api.OK
}

func Parts(key []byte) ([]string, api.Errno) {
	if len(key) > api.MaxKey {
		return nil, api.ErrLong
	}
	var parts []string
	for part, ok := range eachPart(key) {
		if !ok || len(parts) == api.MaxParts {
			return nil, api.ErrForm
		}
		parts = append(parts, part)
	}
	if len(parts) == 0 {
		return nil, api.ErrForm
	}
	return parts, api.OK
}

// keySize is reckoned ahead of the key, so that no text too long is copied.
func keySize(parts []string) int {
	size := 0
	for _, part := range parts {
		size += len(part) + strings.Count(part, "\x00") + 2
	}
	return size
}

func appendPart(key []byte, part string) []byte {
	for i := range len(part) {
		key = append(key, part[i])
		if part[i] == 0 {
			key = append(key, zeroByte)
		}
	}
	return append(key, 0, partEnd)
}

// eachPart yields a key's parts, each with true; where the bytes go on with what is no part, it yields a false and ends.
func eachPart(key []byte) iter.Seq2[string, bool] {
	return func(yield func(string, bool) bool) {
		rest := key
		for len(rest) > 0 {
			part, size, ok := firstPart(rest)
			if !yield(part, ok) || !ok {
				return
			}
			rest = rest[size:]
		}
	}
}

// firstPart is the part that bytes begin with, and how many of them it takes.
func firstPart(b []byte) (part string, size int, ok bool) {
	var text []byte
	for i := 0; i < len(b); i++ {
		text = append(text, b[i])
		if b[i] != 0 {
			continue
		}
		i++
		if i < len(b) && b[i] == partEnd {
			return string(text[:len(text)-1]), i + 1, true
		}
		if i == len(b) || b[i] != zeroByte {
			return "", 0, false
		}
	}
	return "", 0, false
}

// Row is the bytes of columns; Columns are those of a row.
func Row(columns ...string) ([]byte, api.Errno) {
	if len(columns) > api.MaxParts {
		return nil, api.ErrRange
	}
	row := []byte{byte(len(columns))}
	for _, column := range columns {
		if len(column) > api.MaxText {
			return nil, api.ErrLong
		}
		row = append(row, byte(len(column)))
		row = append(row, column...)
	}
	if len(row) > api.MaxValue {
		return nil, api.ErrLong
	}
	return row, api.OK
}

func Columns(b []byte) ([]string, api.Errno) {
	if len(b) > api.MaxValue {
		return nil, api.ErrLong
	}
	if len(b) == 0 || b[0] > api.MaxParts {
		return nil, api.ErrForm
	}
	var columns []string
	rest := b[1:]
	for range b[0] {
		column, ok := firstColumn(rest)
		if !ok {
			return nil, api.ErrForm
		}
		columns = append(columns, column)
		rest = rest[1+len(column):]
	}
	if len(rest) > 0 {
		return nil, api.ErrForm
	}
	return columns, api.OK
}

// firstColumn is the column that bytes begin with. It need not hold its length against MaxText: no longer one fits into MaxValue.
func firstColumn(b []byte) (string, bool) {
	if len(b) == 0 || int(b[0]) > len(b)-1 {
		return "", false
	}
	return string(b[1 : 1+int(b[0])]), true
}

// Number is a number as a text whose order is the number's; ToNumber reads one.
func Number(n int) (string, api.Errno) {
	if n < 0 || n > maxNumber {
		return "", api.ErrRange
	}
	if n == 0 {
		return "a", api.OK
	}
	digits := strconv.FormatInt(int64(n), 16)
	return string(rune('a'+len(digits))) + digits, api.OK
}

func ToNumber(s string) (int, api.Errno) {
	if len(s) == 0 || len(s) > 1+maxDigits {
		return 0, api.ErrForm
	}
	digits := s[1:]
	if int(s[0]) != 'a'+len(digits) || strings.HasPrefix(digits, "0") {
		return 0, api.ErrForm
	}
	var n uint64 // sixteen digits may be more than an int has room for
	for i := range len(digits) {
		value, ok := digitValue(digits[i])
		if !ok {
			return 0, api.ErrForm
		}
		n = n<<4 | value
	}
	if n > maxNumber {
		return 0, api.ErrRange
	}
	return int(n), api.OK
}

func digitValue(c byte) (uint64, bool) {
	switch {
	case '0' <= c && c <= '9':
		return uint64(c - '0'), true
	case 'a' <= c && c <= 'f':
		return uint64(c-'a') + 10, true
	}
	return 0, false
}

// After is bytes above all keys that begin with the parts of one, and not above those behind them.
func After(key []byte) []byte {
	after := slices.Clone(key)
	last := len(after) - 1
	if last < 0 || after[last] == 255 {
		return append(after, 255)
	}
	after[last]++
	return after
}

// IsName tells whether a text is a name.
func IsName(s string) bool {
	if len(s) < 1 || len(s) > api.MaxName {
		return false
	}
	for i := range len(s) {
		if !isNameByte(s[i]) {
			return false
		}
	}
	return true
}

func isNameByte(c byte) bool {
	return 'a' <= c && c <= 'z' || '0' <= c && c <= '9' || c == '-'
}
