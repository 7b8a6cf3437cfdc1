package authority

import (
	"holdfast/api"
	"holdfast/ops"
	"holdfast/state"
)

// turn is a request as it is done: the parts as they become by it, and as they are kept on the shelf, which is what stays of them if there is no room.
type turn struct {
	parts
	kept  parts
	shelf shelf
}

// work is what an Op does: the numbers that it tells.
type work func(t *turn, r api.Request) ([]int, api.Errno)

// do does a request's work, adds the event that tells of it, and keeps both.
func (t *turn) do(w work, r api.Request) ([]int, api.Errno) {
	ahead := rowsOf(t.butChain())
	numbers, told := w(t, r)
	if told == api.ErrFull {
		return nil, told
	}
	// A Tick changes only what was over anyhow.
	if r.Op != api.Tick && !sameRows(ahead, rowsOf(t.butChain())) {
		if _, e := t.Chain.Add(r.Now, ops.Word(r.Op), who(r)); e != api.OK {
			return nil, e
		}
	}
	if e := t.keep(); e != api.OK {
		return nil, e
	}
	return numbers, told
}

// keep keeps the parts as they are now.
func (t *turn) keep() api.Errno {
	if e := t.shelf.keep(rowsOf(t.kept.all()), rowsOf(t.all())); e != api.OK {
		return e
	}
	t.kept = t.fork()
	return api.OK
}

// who is by whom a request was made, or with what.
func who(r api.Request) string {
	switch r.Op {
	case api.AddUser, api.RemoveUser, api.ResetUser, api.SetCodes, api.Login, api.Recover, api.LogoutAll, api.Allow, api.Withdraw:
		return r.Owner.Tenant + state.Between + r.Owner.User
	case api.Register, api.Narrow, api.DropClient:
		return r.Owner.Tenant + state.Between + r.Client
	case api.RemoveTenant:
		return r.Owner.Tenant
	}
	return state.Text(r.N)
}
