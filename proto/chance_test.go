package proto_test

import (
	"maps"
	"math/rand"
	"slices"
	"strings"
	"testing"

	"holdfast/api"
	"holdfast/proto"
)

// changed is a line with a few bytes, or words, put in, taken out, or changed.
func changed(c *rand.Rand, line string, lines []string) string {
	for range c.Intn(4) {
		i := c.Intn(len(line) + 1)
		j := min(len(line), i+c.Intn(3))
		words := strings.Split(lines[c.Intn(len(lines))], " ")
		put := []string{"", " ", "0", "9", "a", "\n", "\x7f", words[c.Intn(len(words))], " " + words[c.Intn(len(words))]}[c.Intn(9)]
		line = line[:i] + put + line[j:]
	}
	return line
}

// What Parse tells is said by its line, and by no other one.
func TestChanceLines(t *testing.T) {
	c := rand.New(rand.NewSource(1))
	lines := slices.Sorted(maps.Keys(said))
	right := 0
	for range 100000 {
		line := changed(c, lines[c.Intn(len(lines))], lines)
		r, e := proto.Parse(line)
		switch e {
		case api.OK:
			right++
			if got, e := proto.Line(r); e != api.OK || got != line {
				t.Fatalf("%q: %+v: %q %v", line, r, got, e)
			}
		case api.ErrWord:
			if !same(r, api.Request{}) {
				t.Fatalf("%q: %+v", line, r)
			}
		default:
			t.Fatalf("%q: %v", line, e)
		}
		if answer := proto.Serve(nil, line); answer != "no 1" && e == api.OK || strings.Contains(answer, "\n") {
			t.Fatalf("%q: %q", line, answer)
		}
	}
	if right < 20000 || right > 80000 {
		t.Error(right)
	}
}
