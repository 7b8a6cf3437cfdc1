package authority

import (
	"holdfast/api"
	"holdfast/codec"
	"holdfast/cred"
	"holdfast/session"
	"holdfast/state"
)

// works is what each Op does.
func works() map[api.Op]work {
	return map[api.Op]work{
		api.AddUser:      (*turn).addUser,
		api.RemoveUser:   (*turn).removeUser,
		api.ResetUser:    (*turn).resetUser,
		api.SetCodes:     (*turn).setCodes,
		api.Login:        (*turn).login,
		api.Recover:      (*turn).useCode,
		api.Touch:        (*turn).touch,
		api.Logout:       (*turn).logout,
		api.LogoutAll:    (*turn).logoutAll,
		api.Register:     (*turn).register,
		api.Narrow:       (*turn).narrow,
		api.DropClient:   (*turn).dropClient,
		api.Allow:        (*turn).allow,
		api.Withdraw:     (*turn).withdraw,
		api.Grant:        (*turn).grant,
		api.Refresh:      (*turn).refresh,
		api.Access:       (*turn).access,
		api.Exchange:     (*turn).exchange,
		api.Revoke:       (*turn).revoke,
		api.RemoveTenant: (*turn).removeTenant,
		api.Anchor:       (*turn).anchor,
		api.Prune:        (*turn).prune,
		api.Verify:       (*turn).verify,
		api.Tick:         (*turn).tick,
	}
}

func (t *turn) addUser(r api.Request) ([]int, api.Errno) {
	return nil, t.Book.Add(r.Owner, r.Text, r.Salt, r.N)
}

func (t *turn) removeUser(r api.Request) ([]int, api.Errno) {
	if e := t.Remove(r.Owner); e != api.OK {
		return nil, e
	}
	t.endUser(r.Owner)
	t.DropUser(r.Owner)
	return nil, api.OK
}

func (t *turn) resetUser(r api.Request) ([]int, api.Errno) {
	if e := t.Reset(r.Owner, r.Text, r.Salt, r.N); e != api.OK {
		return nil, e
	}
	t.endUser(r.Owner)
	return nil, api.OK
}

func (t *turn) setCodes(r api.Request) ([]int, api.Errno) {
	return nil, t.Codes(r.Owner, r.Codes...)
}

// endUser ends all sessions of a user: how many.
func (t *turn) endUser(o api.Owner) int {
	ended := t.EndAll(o)
	t.EndSessions(ended...)
	return len(ended)
}

func (t *turn) login(r api.Request) ([]int, api.Errno) {
	return t.enter(r, (*cred.Book).Check)
}

func (t *turn) useCode(r api.Request) ([]int, api.Errno) {
	return t.enter(r, (*cred.Book).Use)
}

// enter begins a session for who has the right text. The try is kept ahead of what is compared: so whoever cuts the power off has taken it all the same.
func (t *turn) enter(r api.Request, compare func(b *cred.Book, o api.Owner, text string, now int) api.Errno) ([]int, api.Errno) {
	if e := t.Try(r.Owner, r.Now); e != api.OK {
		return nil, e
	}
	if e := t.keep(); e != api.OK {
		return nil, e
	}
	if e := compare(t.Book, r.Owner, r.Text, r.Now); e != api.OK {
		return nil, e
	}
	s, e := t.Begin(r.Owner, r.Now)
	return []int{s.Id}, e
}

func (t *turn) touch(r api.Request) ([]int, api.Errno) {
	s, e := t.Touch(r.N, r.Now)
	return []int{s.Id, session.Until(s)}, e
}

func (t *turn) logout(r api.Request) ([]int, api.Errno) {
	if e := t.Table.End(r.N); e != api.OK {
		return nil, e
	}
	t.EndSessions(r.N)
	return nil, api.OK
}

func (t *turn) logoutAll(r api.Request) ([]int, api.Errno) {
	if _, _, e := t.Tries(r.Owner); e != api.OK {
		return nil, e
	}
	return []int{t.endUser(r.Owner)}, api.OK
}

func (t *turn) register(r api.Request) ([]int, api.Errno) {
	return nil, t.Register(api.Client{Tenant: r.Owner.Tenant, Name: r.Client, Redirect: r.Text, Scopes: r.Scopes})
}

func (t *turn) narrow(r api.Request) ([]int, api.Errno) {
	scopes, e := t.Narrow(r.Owner.Tenant, r.Client, r.Scopes)
	if e != api.OK {
		return nil, e
	}
	t.endClient(r.Client, t.Owners(r.Owner.Tenant)...)
	return []int{int(scopes)}, api.OK
}

func (t *turn) dropClient(r api.Request) ([]int, api.Errno) {
	if e := t.Drop(r.Owner.Tenant, r.Client); e != api.OK {
		return nil, e
	}
	t.endClient(r.Client, t.Owners(r.Owner.Tenant)...)
	return nil, api.OK
}

func (t *turn) allow(r api.Request) ([]int, api.Errno) {
	old, had := t.Consent(r.Owner, r.Client)
	if e := t.Allow(api.Consent{Owner: r.Owner, Client: r.Client, Scopes: r.Scopes}); e != api.OK {
		return nil, e
	}
	if had == api.OK && !state.IsNarrower(old.Scopes, r.Scopes) {
		t.endClient(r.Client, r.Owner)
	}
	return nil, api.OK
}

func (t *turn) withdraw(r api.Request) ([]int, api.Errno) {
	if e := t.Withdraw(r.Owner, r.Client); e != api.OK {
		return nil, e
	}
	t.endClient(r.Client, r.Owner)
	return nil, api.OK
}

// endClient ends all families of a client in sessions of users, those too that are over but were not swept yet: only a Table that ends them names these, so it is a fork that does.
func (t *turn) endClient(client string, owners ...api.Owner) {
	other := t.Table.Fork()
	for _, o := range owners {
		t.EndClient(client, other.EndAll(o)...)
	}
}

func (t *turn) grant(r api.Request) ([]int, api.Errno) {
	s, e := t.Get(r.N, r.Now)
	if e != api.OK {
		return nil, e
	}
	if e := t.May(s.Owner, r.Client, r.Text, r.Scopes); e != api.OK {
		return nil, e
	}
	f, x, e := t.Grant(r.N, r.Client, r.Scopes, r.Now)
	return []int{f.Id, x.Id}, e
}

func (t *turn) refresh(r api.Request) ([]int, api.Errno) {
	if e := t.familyError(r.N, r.Now); e != api.OK {
		return nil, e
	}
	f, x, e := t.Refresh(r.N, r.M, r.Now)
	return []int{f.Next, x.Id}, e
}

// familyError is that of asking for a family of a session: ErrGone, if the session is over.
func (t *turn) familyError(family, now int) api.Errno {
	f, e := t.Family(family)
	if e != api.OK {
		return e
	}
	if _, e := t.Get(f.Session, now); e != api.OK {
		return api.ErrGone
	}
	return api.OK
}

func (t *turn) access(r api.Request) ([]int, api.Errno) {
	x, e := t.Access(r.N, r.Now)
	if e != api.OK {
		return nil, e
	}
	return []int{int(x.Scopes), x.Until}, t.familyError(x.Family, r.Now)
}

func (t *turn) exchange(r api.Request) ([]int, api.Errno) {
	if _, e := t.access(r); e != api.OK {
		return nil, e
	}
	x, e := t.Exchange(r.N, r.Scopes, r.Now)
	return []int{x.Id}, e
}

func (t *turn) revoke(r api.Request) ([]int, api.Errno) {
	return nil, t.tokens.End(r.N)
}

func (t *turn) removeTenant(r api.Request) ([]int, api.Errno) {
	tenant := r.Owner.Tenant
	if !codec.IsName(tenant) {
		return nil, api.ErrName
	}
	owners := t.Owners(tenant)
	for _, o := range owners {
		t.removeUser(api.Request{Owner: o})
	}
	for _, c := range t.Clients(tenant) {
		t.dropClient(api.Request{Owner: r.Owner, Client: c.Name})
	}
	return []int{len(owners)}, api.OK
}

func (t *turn) anchor(api.Request) ([]int, api.Errno) {
	number, _ := t.Anchor()
	return []int{number}, api.OK
}

func (t *turn) prune(r api.Request) ([]int, api.Errno) {
	count, e := t.Prune(r.N)
	return []int{count}, e
}

func (t *turn) verify(api.Request) ([]int, api.Errno) {
	return nil, t.Verify()
}

func (t *turn) tick(r api.Request) ([]int, api.Errno) {
	swept, e := t.Table.Sweep(r.Now)
	if e != api.OK {
		return nil, e
	}
	t.EndSessions(swept...)
	if _, e := t.tokens.Sweep(r.Now); e != api.OK {
		return nil, e
	}
	return []int{len(swept)}, api.OK
}
