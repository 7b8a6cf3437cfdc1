// Package ops is what requests are called: in lines, and in the events that tell of them.
package ops

import "holdfast/api"

// first is the Op that the first word is of: NoOp has none.
const first = api.AddUser

// words stand in the order of api's Ops.
var words = [...]string{
	"adduser", "rmuser", "reset", "codes", "login", "recover", "touch", "logout", "logoutall",
	"client", "narrow", "rmclient", "allow", "withdraw",
	"grant", "refresh", "access", "exchange", "revoke",
	"rmtenant", "anchor", "prune", "verify", "tick",
}

// Words are all of them.
func Words() []string {
	all := make([]string, len(words))
	for i, word := range words {
		all[i] = word
	}
	return all
}

// Word is that of an Op; of one that is none it is empty.
func Word(op api.Op) string {
	if op < first || op > api.Tick {
		return ""
	}
	return words[op-first]
}

// Op is that of a word; of one that is none it is NoOp.
func Op(word string) api.Op {
	for i, known := range words {
		if known == word {
			return first + api.Op(i)
		}
	}
	return api.NoOp
}
