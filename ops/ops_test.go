package ops_test

import (
	"math"
	"slices"
	"strings"
	"testing"

	"holdfast/api"
	"holdfast/ops"
)

const all = "adduser rmuser reset codes login recover touch logout logoutall client narrow rmclient allow withdraw grant refresh access exchange revoke rmtenant anchor prune verify tick"

func TestWordsAreInTheOrderOfOps(t *testing.T) {
	words := strings.Fields(all)
	if !slices.Equal(ops.Words(), words) || len(words) != int(api.Tick) {
		t.Error(ops.Words())
	}
	for i, word := range words {
		op := api.Op(i + 1)
		if ops.Word(op) != word || ops.Op(word) != op {
			t.Error(op, ops.Word(op), word, ops.Op(word))
		}
	}
	for word, op := range map[string]api.Op{"adduser": api.AddUser, "login": api.Login, "client": api.Register, "grant": api.Grant, "rmtenant": api.RemoveTenant, "tick": api.Tick} {
		if ops.Op(word) != op {
			t.Error(word, ops.Op(word))
		}
	}
}

func TestNoOps(t *testing.T) {
	for _, op := range []api.Op{api.NoOp, -1, api.Tick + 1, math.MinInt, math.MaxInt} {
		if ops.Word(op) != "" {
			t.Error(op, ops.Word(op))
		}
	}
	for _, word := range []string{"", "Tick", "tick ", "ticks", "tic", "\x00"} {
		if ops.Op(word) != api.NoOp {
			t.Errorf("%q: %v", word, ops.Op(word))
		}
	}
}

func TestWordsAreTheCallers(t *testing.T) {
	ops.Words()[0] = "other"
	if ops.Words()[0] != "adduser" {
		t.Error(ops.Words())
	}
}
