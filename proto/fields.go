package proto

import (
	"strconv"

	"holdfast/api"
	"holdfast/ops"
)

const (
	mostNumber = 1 << 40
	mostScopes = 1<<api.MaxScopes - 1

	mostText            = 64 // bytes
	leastByte, mostByte = 33, 126
)

// field is what stands in a request's line, behind its Op's word.
type field int

const (
	tenant field = iota
	user
	client
	text
	salt
	number
	second
	scopes
	codes
)

// fields are those of each Op, in the order of its line. Codes stand last: they are all words that are left.
var fields = [...][]field{
	api.AddUser:      {tenant, user, text, salt, number},
	api.RemoveUser:   {tenant, user},
	api.ResetUser:    {tenant, user, text, salt, number},
	api.SetCodes:     {tenant, user, codes},
	api.Login:        {tenant, user, text},
	api.Recover:      {tenant, user, text},
	api.Touch:        {number},
	api.Logout:       {number},
	api.LogoutAll:    {tenant, user},
	api.Register:     {tenant, client, text, scopes},
	api.Narrow:       {tenant, client, scopes},
	api.DropClient:   {tenant, client},
	api.Allow:        {tenant, user, client, scopes},
	api.Withdraw:     {tenant, user, client},
	api.Grant:        {number, client, text, scopes},
	api.Refresh:      {number, second},
	api.Access:       {number},
	api.Exchange:     {number, scopes},
	api.Revoke:       {number},
	api.RemoveTenant: {tenant},
	api.Anchor:       {},
	api.Prune:        {number},
	api.Verify:       {},
	api.Tick:         {},
}

// textAt is where a field that is a text stands in a request.
func textAt(r *api.Request, f field) *string {
	switch f {
	case tenant:
		return &r.Owner.Tenant
	case user:
		return &r.Owner.User
	case client:
		return &r.Client
	case salt:
		return &r.Salt
	}
	return &r.Text
}

// wordsOf are those that a request would have in its line, whether they may stand there or not.
func wordsOf(r api.Request) []string {
	words := []string{strconv.Itoa(r.Now), ops.Word(r.Op)}
	for _, f := range fields[r.Op] {
		switch f {
		case number:
			words = append(words, strconv.Itoa(r.N))
		case second:
			words = append(words, strconv.Itoa(r.M))
		case scopes:
			words = append(words, strconv.Itoa(int(r.Scopes)))
		case codes:
			words = append(words, r.Codes...)
		default:
			words = append(words, *textAt(&r, f))
		}
	}
	return words
}
