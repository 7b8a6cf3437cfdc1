// Package ops is what requests are called: in lines, and in the events that tell of them.
package ops

import (
	"slices"

	"holdfast/api"
)

// first is the Op that the first word is of: NoOp has none.
const first = api.AddUser

// words stand in the order of api's Ops.
var words = [...]string{
	"adduser", "rmuser", "reset", "codes", "login", "recover", "touch", "logout", "logoutall",
	"client", "narrow", "rmclient", "allow", "withdraw",
	"grant", "refresh", "access", "exchange", "revoke",
	"rmtenant", "anchor", "prune", "verify", "tick",
}

// Words are all of them.
func Words() []string {
	return slices.Clone(words[:])
}

// Word is that of an Op; of one that is none it is empty.
func Word(op api.Op) string {
	if op < first || op > api.Tick {
		return ""
	}
	return words[op-first]
}

// Op is that of a word; of one that is none it is NoOp.
func Op(word string) api.Op {
	i := slices.Index(words[:], word)
	if i < 0 {
		return api.NoOp
	}
	return first + api.Op(i)
}
