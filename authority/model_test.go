package authority_test

import (
	"cmp"
	"maps"
	"slices"
	"strconv"
	"strings"

	"holdfast/api"
	"holdfast/audit"
	"holdfast/codec"
	"holdfast/hash"
)

// model is an authority as the document tells it, on no disk: nothing of what was ended is forgotten. Of the layers below it asks only the chain, for hashes of events.
type model struct {
	now           int
	users         map[api.Owner]*user
	sessions      []held[api.Session] // number i + 1 is sessions[i]
	families      []held[api.Family]
	tokens        []held[api.Token]
	sessionsNoted int
	tokensNoted   int
	clients       map[place]api.Client
	consents      map[api.Consent]api.Scopes // by consents without scopes
	chain         *audit.Chain
	hashes        map[[3]string]string
	tried         []api.Row // the rows behind the Try of the last request; none, if that kept none by itself
	changed       bool      // whether the last request changed rows but the chain's
}

type user struct {
	password, salt     string
	cost, tries, until int
	codes              []string
}

// held is a thing with a number, which is gone when it was ended or swept.
type held[T any] struct {
	it   T
	gone bool
}

type place struct{ tenant, name string }

func newModel() *model {
	return &model{users: map[api.Owner]*user{}, clients: map[place]api.Client{}, consents: map[api.Consent]api.Scopes{}, chain: audit.New(), hashes: map[[3]string]string{}}
}

func number(n int) string {
	s, _ := codec.Number(n)
	return s
}

func isName(s string) bool {
	return len(s) >= 1 && len(s) <= 9 && strings.Trim(s, "abcdefghijklmnopqrstuvwxyz0123456789-") == ""
}

// hashOf asks for each hash once: rows are told far more often than passwords are set.
func (m *model) hashOf(text, salt string, cost int) string {
	key := [3]string{text, salt, number(cost)}
	if _, known := m.hashes[key]; !known {
		h, _ := hash.Iterate(text, salt, cost)
		m.hashes[key] = string(h[:])
	}
	return m.hashes[key]
}

// rows are those of the whole state.
func (m *model) rows() []api.Row {
	var rows []api.Row
	add := func(key string, columns ...string) { rows = append(rows, api.Row{Key: key, Columns: columns}) }
	for _, r := range m.chain.Rows() {
		add("a:"+r.Key, r.Columns...)
	}
	for o, u := range m.users {
		key := "c:" + o.Tenant + "/" + o.User
		add(key, m.hashOf(u.password, u.salt, u.cost), u.salt, number(u.cost), number(u.tries), number(u.until))
		for i, code := range u.codes {
			add(key+"/"+strconv.Itoa(i+1), m.hashOf(code, u.salt, 1))
		}
	}
	for at, c := range m.clients {
		add("g:"+at.tenant+"/"+at.name, c.Redirect, number(int(c.Scopes)))
	}
	for c, scopes := range m.consents {
		add("g:"+c.Owner.Tenant+"/"+c.Owner.User+"/"+c.Client, number(int(scopes)))
	}
	add("s:#", number(len(m.sessions)+1), number(m.sessionsNoted))
	for _, h := range m.sessions {
		if s := h.it; !h.gone {
			add("s:"+number(s.Id), s.Owner.Tenant, s.Owner.User, number(s.Since), number(s.Used))
		}
	}
	add("t:#", number(len(m.families)+1), number(len(m.tokens)+1), number(m.tokensNoted))
	for _, h := range m.families {
		if f := h.it; !h.gone {
			add("t:f"+number(f.Id), number(f.Session), f.Client, number(int(f.Scopes)), number(f.Next))
		}
	}
	for _, h := range m.tokens {
		if x := h.it; !h.gone {
			add("t:t"+number(x.Id), number(x.Family), number(int(x.Scopes)), number(x.Until))
		}
	}
	slices.SortFunc(rows, func(a, b api.Row) int { return strings.Compare(a.Key, b.Key) })
	return rows
}

// do does a request that is refused neither by its Op nor by its time.
func (m *model) do(r api.Request) api.Reply {
	m.now, m.tried, m.changed = r.Now, nil, false
	silent := slices.Contains([]api.Op{api.Access, api.Anchor, api.Prune, api.Verify, api.Tick}, r.Op)
	if !silent && len(m.chain.Events()) >= 64 {
		return api.Reply{Errno: api.ErrAudit}
	}
	before := m.rows()
	numbers, e := m.work(r)
	m.changed = !sameRows(butChain(before), butChain(m.rows()))
	if m.changed && r.Op != api.Tick {
		what, who := told(r)
		m.chain.Add(r.Now, what, who)
	}
	if e != api.OK {
		return api.Reply{Errno: e}
	}
	return api.Reply{Numbers: numbers}
}

func butChain(rows []api.Row) []api.Row {
	return slices.DeleteFunc(slices.Clone(rows), func(r api.Row) bool { return strings.HasPrefix(r.Key, "a:") })
}

// told is what an event tells of a request.
func told(r api.Request) (what, who string) {
	user, client, n := r.Owner.Tenant+"/"+r.Owner.User, r.Owner.Tenant+"/"+r.Client, number(r.N)
	event := map[api.Op][2]string{
		api.AddUser: {"adduser", user}, api.RemoveUser: {"rmuser", user}, api.ResetUser: {"reset", user}, api.SetCodes: {"codes", user},
		api.Login: {"login", user}, api.Recover: {"recover", user}, api.LogoutAll: {"logoutall", user},
		api.Allow: {"allow", user}, api.Withdraw: {"withdraw", user},
		api.Register: {"client", client}, api.Narrow: {"narrow", client}, api.DropClient: {"rmclient", client},
		api.Touch: {"touch", n}, api.Logout: {"logout", n}, api.Grant: {"grant", n}, api.Refresh: {"refresh", n},
		api.Exchange: {"exchange", n}, api.Revoke: {"revoke", n}, api.RemoveTenant: {"rmtenant", r.Owner.Tenant},
	}[r.Op]
	return event[0], event[1]
}

func (m *model) work(r api.Request) ([]int, api.Errno) {
	switch r.Op {
	case api.AddUser, api.RemoveUser, api.ResetUser, api.SetCodes, api.Login, api.Recover, api.LogoutAll, api.RemoveTenant:
		return m.userWork(r)
	case api.Register, api.Narrow, api.DropClient, api.Allow, api.Withdraw:
		return m.clientWork(r)
	case api.Anchor:
		n, _ := m.chain.Anchor()
		return []int{n}, api.OK
	case api.Prune:
		n, e := m.chain.Prune(r.N)
		return []int{n}, e
	case api.Verify:
		return nil, api.OK
	}
	return m.numberWork(r)
}

func (m *model) userWork(r api.Request) ([]int, api.Errno) {
	u := m.users[r.Owner]
	switch r.Op {
	case api.AddUser, api.ResetUser:
		return nil, m.setUser(r)
	case api.RemoveTenant:
		return m.removeTenant(r.Owner.Tenant)
	}
	if u == nil {
		return nil, api.ErrNone
	}
	switch r.Op {
	case api.RemoveUser:
		m.removeUser(r.Owner)
	case api.SetCodes:
		return nil, u.setCodes(r.Codes)
	case api.LogoutAll:
		return []int{m.endUser(r.Owner)}, api.OK
	default:
		return m.enter(u, r)
	}
	return nil, api.OK
}

func (m *model) setUser(r api.Request) api.Errno {
	switch {
	case !isName(r.Owner.Tenant) || !isName(r.Owner.User):
		return api.ErrName
	case len(r.Text) > 64 || len(r.Salt) > 8:
		return api.ErrLong
	case r.N < 1 || r.N > 64:
		return api.ErrRange
	case r.Op == api.ResetUser && m.users[r.Owner] == nil:
		return api.ErrNone
	case r.Op == api.AddUser && m.users[r.Owner] != nil:
		return api.ErrKnown
	case r.Op == api.AddUser && !m.hasRoom(r.Owner.Tenant):
		return api.ErrUsers
	}
	m.users[r.Owner] = &user{password: r.Text, salt: r.Salt, cost: r.N}
	if r.Op == api.ResetUser {
		m.endUser(r.Owner)
	}
	return api.OK
}

func (m *model) hasRoom(tenant string) bool {
	counts := map[string]int{}
	for o := range m.users {
		counts[o.Tenant]++
	}
	return counts[tenant] < 8 && (counts[tenant] > 0 || len(counts) < 4)
}

func (m *model) removeUser(o api.Owner) {
	delete(m.users, o)
	m.endUser(o)
	maps.DeleteFunc(m.consents, func(c api.Consent, _ api.Scopes) bool { return c.Owner == o })
}

func (m *model) removeTenant(tenant string) ([]int, api.Errno) {
	if !isName(tenant) {
		return nil, api.ErrName
	}
	count := 0
	for o := range maps.Clone(m.users) {
		if o.Tenant == tenant {
			m.removeUser(o)
			count++
		}
	}
	maps.DeleteFunc(m.clients, func(at place, _ api.Client) bool { return at.tenant == tenant })
	maps.DeleteFunc(m.consents, func(c api.Consent, _ api.Scopes) bool { return c.Owner.Tenant == tenant })
	return []int{count}, api.OK
}

func (u *user) setCodes(codes []string) api.Errno {
	if len(codes) > 4 {
		return api.ErrRange
	}
	for _, code := range codes {
		if len(code) > 64 {
			return api.ErrLong
		}
	}
	if sorted := slices.Sorted(slices.Values(codes)); len(slices.Compact(sorted)) < len(codes) {
		return api.ErrKnown
	}
	u.codes = slices.Clone(codes)
	return api.OK
}

func (m *model) enter(u *user, r api.Request) ([]int, api.Errno) {
	if u.until > r.Now {
		return nil, api.ErrLocked
	}
	if u.until > 0 {
		u.tries, u.until = 0, 0
	}
	if u.tries == 3 {
		u.until = r.Now + 100
		return nil, api.ErrLocked
	}
	u.tries++
	m.tried = m.rows()
	if !u.accepts(r) {
		if u.tries == 3 {
			u.until = r.Now + 100
		}
		return nil, api.ErrWrong
	}
	u.tries, u.until = 0, 0
	live := 0
	for _, h := range m.sessions {
		if !h.gone && h.it.Owner == r.Owner && r.Now < until(h.it) {
			live++
		}
	}
	if live >= 3 {
		return nil, api.ErrSessions
	}
	id := len(m.sessions) + 1
	m.sessions = append(m.sessions, held[api.Session]{it: api.Session{Id: id, Owner: r.Owner, Since: r.Now, Used: r.Now}})
	m.sessionsNoted = r.Now
	return []int{id}, api.OK
}

func (u *user) accepts(r api.Request) bool {
	if r.Op == api.Login {
		return r.Text == u.password
	}
	i := slices.Index(u.codes, r.Text)
	if i >= 0 {
		u.codes = slices.Delete(u.codes, i, i+1)
	}
	return i >= 0
}

func until(s api.Session) int { return min(s.Used+200, s.Since+1000, 1<<40) }

// endUser ends all sessions of a user that are there, over or not.
func (m *model) endUser(o api.Owner) int {
	count := 0
	for i, h := range m.sessions {
		if !h.gone && h.it.Owner == o {
			m.endSession(i + 1)
			count++
		}
	}
	return count
}

func (m *model) endSession(id int) {
	m.sessions[id-1].gone = true
	m.endFamilies(func(f api.Family) bool { return f.Session == id })
}

func (m *model) endFamilies(wanted func(api.Family) bool) {
	for i, f := range m.families {
		if f.gone || !wanted(f.it) {
			continue
		}
		m.families[i].gone = true
		for j, x := range m.tokens {
			m.tokens[j].gone = x.gone || x.it.Family == f.it.Id
		}
	}
}

// endClient ends the families of a client in sessions of the users that are wanted.
func (m *model) endClient(client string, wanted func(api.Owner) bool) {
	m.endFamilies(func(f api.Family) bool { return f.Client == client && wanted(m.sessions[f.Session-1].it.Owner) })
}

func (m *model) clientWork(r api.Request) ([]int, api.Errno) {
	at := place{r.Owner.Tenant, r.Client}
	own := func(o api.Owner) bool { return o.Tenant == r.Owner.Tenant }
	user := func(o api.Owner) bool { return o == r.Owner }
	key := api.Consent{Owner: r.Owner, Client: r.Client}
	old, had := m.consents[key]
	c, known := m.clients[at]
	switch {
	case r.Op == api.Register:
		return nil, m.register(at, r)
	case r.Op == api.Allow && (!isName(r.Owner.Tenant) || !isName(r.Owner.User)):
		return nil, api.ErrName
	case !known || r.Op == api.Withdraw && !had:
		return nil, api.ErrNone
	case r.Op == api.Allow && r.Scopes&^c.Scopes != 0:
		return nil, api.ErrScope
	case r.Op == api.Allow:
		m.consents[key] = r.Scopes
		if had && old&^r.Scopes != 0 {
			m.endClient(r.Client, user)
		}
	case r.Op == api.Withdraw:
		delete(m.consents, key)
		m.endClient(r.Client, user)
	case r.Op == api.DropClient:
		delete(m.clients, at)
		maps.DeleteFunc(m.consents, func(c api.Consent, _ api.Scopes) bool { return own(c.Owner) && c.Client == r.Client })
		m.endClient(r.Client, own)
	default:
		return m.narrow(at, r.Scopes), api.OK
	}
	return nil, api.OK
}

func (m *model) register(at place, r api.Request) api.Errno {
	counts := map[string]int{}
	for other := range m.clients {
		counts[other.tenant]++
	}
	_, known := m.clients[at]
	switch {
	case !isName(at.tenant) || !isName(at.name):
		return api.ErrName
	case len(r.Text) > 24:
		return api.ErrLong
	case known:
		return api.ErrKnown
	case counts[at.tenant] >= 4 || counts[at.tenant] == 0 && len(counts) >= 4:
		return api.ErrClients
	}
	m.clients[at] = api.Client{Redirect: r.Text, Scopes: r.Scopes}
	return api.OK
}

func (m *model) narrow(at place, scopes api.Scopes) []int {
	c := m.clients[at]
	c.Scopes &= scopes
	m.clients[at] = c
	for key, old := range maps.Clone(m.consents) {
		if key.Owner.Tenant == at.tenant && key.Client == at.name {
			m.consents[key] = old & scopes
		}
	}
	m.endClient(at.name, func(o api.Owner) bool { return o.Tenant == at.tenant })
	return []int{int(c.Scopes)}
}

// find is a thing by its number.
func find[T any](things []held[T], id int) (T, api.Errno) {
	var none T
	if id < 1 || id > len(things) {
		return none, api.ErrNone
	}
	if things[id-1].gone {
		return none, api.ErrGone
	}
	return things[id-1].it, api.OK
}

// live is a session that is not over.
func (m *model) live(id int) (api.Session, api.Errno) {
	s, e := find(m.sessions, id)
	if e == api.OK && m.now >= until(s) {
		return s, api.ErrGone
	}
	return s, e
}

func (m *model) numberWork(r api.Request) ([]int, api.Errno) {
	switch r.Op {
	case api.Touch:
		s, e := m.live(r.N)
		if e != api.OK {
			return nil, e
		}
		s.Used, m.sessionsNoted = r.Now, r.Now
		m.sessions[r.N-1].it = s
		return []int{r.N, until(s)}, api.OK
	case api.Logout:
		_, e := find(m.sessions, r.N)
		if e == api.OK {
			m.endSession(r.N)
		}
		return nil, e
	case api.Revoke:
		_, e := find(m.families, r.N)
		if e == api.OK {
			m.endFamilies(func(f api.Family) bool { return f.Id == r.N })
		}
		return nil, e
	case api.Grant:
		return m.grant(r)
	case api.Refresh:
		return m.refresh(r)
	case api.Tick:
		return m.tick(), api.OK
	}
	return m.tokenWork(r)
}

func (m *model) grant(r api.Request) ([]int, api.Errno) {
	s, e := m.live(r.N)
	if e != api.OK {
		return nil, e
	}
	allowed, given := m.consents[api.Consent{Owner: s.Owner, Client: r.Client}]
	count := 0
	for _, f := range m.families {
		if !f.gone && f.it.Session == r.N {
			count++
		}
	}
	switch {
	case !given:
		return nil, api.ErrNone
	case m.clients[place{s.Owner.Tenant, r.Client}].Redirect != r.Text:
		return nil, api.ErrWrong
	case r.Scopes&^allowed != 0:
		return nil, api.ErrScope
	case count >= 2:
		return nil, api.ErrFamilies
	}
	f := api.Family{Id: len(m.families) + 1, Session: r.N, Client: r.Client, Scopes: r.Scopes, Next: 1}
	m.families = append(m.families, held[api.Family]{it: f})
	return []int{f.Id, m.issue(f.Id, f.Scopes, min(r.Now+50, 1<<40))}, api.OK
}

func (m *model) issue(family int, scopes api.Scopes, until int) int {
	id := len(m.tokens) + 1
	m.tokens = append(m.tokens, held[api.Token]{it: api.Token{Id: id, Family: family, Scopes: scopes, Until: until}})
	m.tokensNoted = m.now
	return id
}

func (m *model) refresh(r api.Request) ([]int, api.Errno) {
	f, e := find(m.families, r.N)
	if e != api.OK {
		return nil, e
	}
	if _, e := m.live(f.Session); e != api.OK {
		return nil, api.ErrGone
	}
	switch {
	case r.M < 1 || r.M > f.Next:
		return nil, api.ErrWrong
	case r.M < f.Next:
		m.endFamilies(func(other api.Family) bool { return other.Id == f.Id })
		m.tokensNoted = r.Now
		return nil, api.ErrReuse
	}
	m.families[f.Id-1].it.Next++
	return []int{f.Next + 1, m.issue(f.Id, f.Scopes, min(r.Now+50, 1<<40))}, api.OK
}

func (m *model) tokenWork(r api.Request) ([]int, api.Errno) {
	x, e := find(m.tokens, r.N)
	if e != api.OK {
		return nil, e
	}
	if _, e := m.live(m.families[x.Family-1].it.Session); e != api.OK || r.Now >= x.Until {
		return nil, api.ErrGone
	}
	if r.Op == api.Access {
		return []int{int(x.Scopes), x.Until}, api.OK
	}
	if r.Scopes&^x.Scopes != 0 {
		return nil, api.ErrScope
	}
	return []int{m.issue(x.Family, r.Scopes, x.Until)}, api.OK
}

func (m *model) tick() []int {
	count := 0
	for i, h := range m.sessions {
		if !h.gone && m.now >= until(h.it) {
			m.endSession(i + 1)
			count++
		}
	}
	for i, x := range m.tokens {
		m.tokens[i].gone = x.gone || m.now >= x.it.Until
	}
	m.sessionsNoted, m.tokensNoted = m.now, m.now
	return []int{count}
}

// noted is the greatest time that is on the disk.
func (m *model) noted() int {
	last := 0
	for _, r := range m.chain.Rows() {
		if r.Key == "#" {
			last, _ = codec.ToNumber(r.Columns[2])
		}
	}
	return max(m.sessionsNoted, m.tokensNoted, last)
}

func sameRow(a, b api.Row) bool { return a.Key == b.Key && slices.Equal(a.Columns, b.Columns) }

func sameRows(a, b []api.Row) bool { return slices.EqualFunc(a, b, sameRow) }

func sameReply(a, b api.Reply) bool {
	return cmp.Compare(a.Errno, b.Errno) == 0 && slices.Equal(a.Numbers, b.Numbers)
}
