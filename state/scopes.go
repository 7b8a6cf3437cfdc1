package state

import "holdfast/api"

const allScopes = 1<<api.MaxScopes - 1

// IsNarrower tells whether other scopes have all of these.
func IsNarrower(scopes, than api.Scopes) bool {
	return scopes&^than == 0
}

// ScopesText is the text of scopes, in a column; Scopes are those of one.
func ScopesText(scopes api.Scopes) string {
	return Text(int(scopes))
}

func Scopes(text string) (api.Scopes, bool) {
	n, ok := Number(text, 0, allScopes)
	return api.Scopes(n), ok
}
