package proto_test

import (
	"fmt"
	"math"
	"slices"
	"strings"
	"testing"

	"holdfast/api"
	"holdfast/authority"
	"holdfast/block"
	"holdfast/proto"
)

var someone = api.Owner{Tenant: "t", User: "u"}

var longText = strings.Repeat("x", 64)

// said is lines, and the requests that they say.
var said = map[string]api.Request{
	"1 adduser t u p s 3":         {Op: api.AddUser, Now: 1, Owner: someone, Text: "p", Salt: "s", N: 3},
	"2 rmuser t u":                {Op: api.RemoveUser, Now: 2, Owner: someone},
	"3 reset t u p s 0":           {Op: api.ResetUser, Now: 3, Owner: someone, Text: "p", Salt: "s"},
	"4 codes t u":                 {Op: api.SetCodes, Now: 4, Owner: someone},
	"4 codes t u 1":               {Op: api.SetCodes, Now: 4, Owner: someone, Codes: []string{"1"}},
	"4 codes t u 1 2 3 4":         {Op: api.SetCodes, Now: 4, Owner: someone, Codes: []string{"1", "2", "3", "4"}},
	"4 codes t u 1 1":             {Op: api.SetCodes, Now: 4, Owner: someone, Codes: []string{"1", "1"}},
	"5 login t u p":               {Op: api.Login, Now: 5, Owner: someone, Text: "p"},
	"6 recover t u 1":             {Op: api.Recover, Now: 6, Owner: someone, Text: "1"},
	"7 touch 1":                   {Op: api.Touch, Now: 7, N: 1},
	"8 logout 2":                  {Op: api.Logout, Now: 8, N: 2},
	"9 logoutall t u":             {Op: api.LogoutAll, Now: 9, Owner: someone},
	"10 client t c r 255":         {Op: api.Register, Now: 10, Owner: api.Owner{Tenant: "t"}, Client: "c", Text: "r", Scopes: 255},
	"11 narrow t c 0":             {Op: api.Narrow, Now: 11, Owner: api.Owner{Tenant: "t"}, Client: "c"},
	"12 rmclient t c":             {Op: api.DropClient, Now: 12, Owner: api.Owner{Tenant: "t"}, Client: "c"},
	"13 allow t u c 3":            {Op: api.Allow, Now: 13, Owner: someone, Client: "c", Scopes: 3},
	"14 withdraw t u c":           {Op: api.Withdraw, Now: 14, Owner: someone, Client: "c"},
	"15 grant 1 c r 128":          {Op: api.Grant, Now: 15, N: 1, Client: "c", Text: "r", Scopes: 128},
	"16 refresh 1 2":              {Op: api.Refresh, Now: 16, N: 1, M: 2},
	"17 access 3":                 {Op: api.Access, Now: 17, N: 3},
	"18 exchange 3 1":             {Op: api.Exchange, Now: 18, N: 3, Scopes: 1},
	"19 revoke 4":                 {Op: api.Revoke, Now: 19, N: 4},
	"20 rmtenant t":               {Op: api.RemoveTenant, Now: 20, Owner: api.Owner{Tenant: "t"}},
	"21 anchor":                   {Op: api.Anchor, Now: 21},
	"22 prune 10":                 {Op: api.Prune, Now: 22, N: 10},
	"23 verify":                   {Op: api.Verify, Now: 23},
	"0 tick":                      {Op: api.Tick},
	"1099511627776 tick":          {Op: api.Tick, Now: 1 << 40},
	"1 touch 1099511627776":       {Op: api.Touch, Now: 1, N: 1 << 40},
	"1 touch 0":                   {Op: api.Touch, Now: 1},
	"1 rmuser T/ #~!":             {Op: api.RemoveUser, Now: 1, Owner: api.Owner{Tenant: "T/", User: "#~!"}},
	"1 login t u login":           {Op: api.Login, Now: 1, Owner: someone, Text: "login"},
	"1 rmtenant " + longText:      {Op: api.RemoveTenant, Now: 1, Owner: api.Owner{Tenant: longText}},
	"1 codes t u 01 -1":           {Op: api.SetCodes, Now: 1, Owner: someone, Codes: []string{"01", "-1"}},
	"1 adduser t u 5 123456789 1": {Op: api.AddUser, Now: 1, Owner: someone, Text: "5", Salt: "123456789", N: 1},
}

func same(a, b api.Request) bool { return fmt.Sprintf("%#v", a) == fmt.Sprintf("%#v", b) }

func TestLinesAndRequests(t *testing.T) {
	met := map[api.Op]int{}
	for line, want := range said {
		if r, e := proto.Parse(line); e != api.OK || !same(r, want) {
			t.Errorf("%q: %+v %v", line, r, e)
		}
		if got, e := proto.Line(want); e != api.OK || got != line {
			t.Errorf("%+v: %q %v", want, got, e)
		}
		met[want.Op]++
	}
	if len(met) != int(api.Tick) {
		t.Error(met)
	}
}

func TestLinesThatAreNone(t *testing.T) {
	lines := []string{
		"", " ", "tick", "1", "1 ", " 1 tick", "1 tick ", "1  tick", "1\ttick", "1 tick\n", "1 tick\r", "1 Tick", "1 none", "1 noop", "tick 1", "\x00",
		"05 tick", "00 tick", "-1 tick", "+1 tick", "-0 tick", "1.0 tick", "1e3 tick", "0x1 tick", "1_0 tick", "a tick", "1099511627777 tick", "99999999999999999999 tick", "٣ tick",
		"1 touch", "1 touch 1 1", "1 touch 01", "1 touch -1", "1 touch a", "1 touch 1099511627777", "1 touch ", "1 touch 18446744073709551617",
		"1 narrow t c 256", "1 narrow t c 00", "1 narrow t c 01", "1 narrow t c -1", "1 narrow t c", "1 exchange 1 256", "1 exchange 1", "1 grant 1 c r 999",
		"1 adduser t u p s", "1 adduser t u p s 1 1", "1 adduser t u p s x", "1 adduser t u p s 1099511627777", "1 adduser t u  s 1",
		"1 codes t", "1 codes t u 1 2 3 4 5", "1 codes t u ", "1 codes t u 1 ", "1 codes t u 1  2", "1 codes t u \x7f",
		"1 refresh 1", "1 refresh 1 2 3", "1 refresh 1 x", "1 anchor 1", "1 verify x", "1 prune", "1 rmtenant", "1 rmtenant t u",
		"1 login t u p\x7f", "1 login t u \xff", "1 login t u é", "1 login t u a\x1f", "1 login t u p q", "1 login t u",
		"1 rmtenant " + longText + "x", "1 tick\x00", "\x001 tick",
	}
	for line := range said {
		lines = append(lines, line+" ", " "+line, line+"\n", "0"+line, strings.Replace(line, " ", "  ", 1))
	}
	for _, line := range lines {
		if r, e := proto.Parse(line); e != api.ErrWord || !same(r, api.Request{}) {
			t.Errorf("%q: %+v %v", line, r, e)
		}
	}
}

func TestBytesOfTexts(t *testing.T) {
	for b := range 256 {
		line := "1 login t u a" + string([]byte{byte(b)}) + "c"
		want := api.ErrWord
		if b >= 33 && b <= 126 {
			want = api.OK
		}
		if r, e := proto.Parse(line); e != want || e == api.OK && r.Text != line[12:] {
			t.Errorf("%q: %+v %v", line, r, e)
		}
	}
}

func TestLongLines(t *testing.T) {
	// 256 bytes: 1 codes t u, and codes of 64, 64, 64 and 50 bytes.
	line := "1 codes t u " + strings.Join([]string{longText, longText, longText, longText[:49]}, " ")
	if len(line) != api.MaxLine {
		t.Fatal(len(line))
	}
	if r, e := proto.Parse(line); e != api.OK || len(r.Codes) != 4 {
		t.Error(r, e)
	}
	for _, long := range []string{line + "x", strings.Repeat(" ", 257), strings.Repeat("x", 1<<20)} {
		if r, e := proto.Parse(long); e != api.ErrLong || !same(r, api.Request{}) {
			t.Error(len(long), r, e)
		}
	}
	if _, e := proto.Parse(strings.Repeat("x", 256)); e != api.ErrWord {
		t.Error(e)
	}
	r := api.Request{Op: api.SetCodes, Now: 1, Owner: someone, Codes: []string{longText, longText, longText, longText[:49]}}
	if got, e := proto.Line(r); e != api.OK || got != line {
		t.Error(got, e)
	}
	r.Codes[3] += "x"
	if got, e := proto.Line(r); e != api.ErrWord || got != "" {
		t.Error(got, e)
	}
}

// A request is changed in one field: where its line has no place for that, or it may not stand there, no line says it.
func TestRequestsThatNoLineSays(t *testing.T) {
	changes := []func(r *api.Request){
		func(r *api.Request) { r.Op = api.NoOp },
		func(r *api.Request) { r.Op = api.Tick + 1 },
		func(r *api.Request) { r.Op = -1 },
		func(r *api.Request) { r.Op = math.MinInt },
		func(r *api.Request) { r.Now = -1 },
		func(r *api.Request) { r.Now = 1<<40 + 1 },
		func(r *api.Request) { r.N = -1 },
		func(r *api.Request) { r.N = 1<<40 + 1 },
		func(r *api.Request) { r.M = -1 },
		func(r *api.Request) { r.Owner.Tenant = " " },
		func(r *api.Request) { r.Owner.User = "a b" },
		func(r *api.Request) { r.Client = "a\x00" },
		func(r *api.Request) { r.Text = longText + "x" },
		func(r *api.Request) { r.Text = "a b" },
		func(r *api.Request) { r.Text = "\n" },
		func(r *api.Request) { r.Salt = "é" },
		func(r *api.Request) { r.Codes = []string{""} },
		func(r *api.Request) { r.Codes = []string{"1 2"} },
		func(r *api.Request) { r.Codes = []string{"1", "2", "3", "4", "5"} },
	}
	for line, r := range said {
		for i, change := range changes {
			other := r
			change(&other)
			if got, e := proto.Line(other); e != api.ErrWord || got != "" {
				t.Errorf("%q, change %d: %q %v", line, i, got, e)
			}
		}
	}
}

// Each Op has its own fields: another value in one of them is told in the line, and one in another field by none.
func TestFieldsThatALineHasNoPlaceFor(t *testing.T) {
	set := map[string]func(r *api.Request){
		"tenant": func(r *api.Request) { r.Owner.Tenant = "o" },
		"user":   func(r *api.Request) { r.Owner.User = "o" },
		"client": func(r *api.Request) { r.Client = "o" },
		"text":   func(r *api.Request) { r.Text = "o" },
		"salt":   func(r *api.Request) { r.Salt = "o" },
		"codes":  func(r *api.Request) { r.Codes = []string{"o"} },
		"n":      func(r *api.Request) { r.N = 77 },
		"m":      func(r *api.Request) { r.M = 77 },
		"scopes": func(r *api.Request) { r.Scopes = 77 },
	}
	has := map[api.Op]string{
		api.AddUser: "tenant user text salt n", api.RemoveUser: "tenant user", api.ResetUser: "tenant user text salt n", api.SetCodes: "tenant user codes",
		api.Login: "tenant user text", api.Recover: "tenant user text", api.Touch: "n", api.Logout: "n", api.LogoutAll: "tenant user",
		api.Register: "tenant client text scopes", api.Narrow: "tenant client scopes", api.DropClient: "tenant client",
		api.Allow: "tenant user client scopes", api.Withdraw: "tenant user client", api.Grant: "n client text scopes", api.Refresh: "n m",
		api.Access: "n", api.Exchange: "n scopes", api.Revoke: "n", api.RemoveTenant: "tenant", api.Prune: "n",
	}
	for line, r := range said {
		for name, change := range set {
			want := api.ErrWord
			if slices.Contains(strings.Fields(has[r.Op]), name) {
				want = api.OK
			}
			other := r
			change(&other)
			got, e := proto.Line(other)
			if e != want {
				t.Errorf("%q with another %s: %q %v", line, name, got, e)
			}
			if e == api.OK {
				if back, e := proto.Parse(got); e != api.OK || !same(back, other) {
					t.Errorf("%q: %+v %v, not %+v", got, back, e, other)
				}
			}
		}
	}
}

func TestNoCodes(t *testing.T) {
	r := api.Request{Op: api.SetCodes, Owner: someone, Codes: []string{}}
	if line, e := proto.Line(r); e != api.OK || line != "0 codes t u" {
		t.Error(line, e)
	}
}

func TestRequestStaysAsItIs(t *testing.T) {
	codes := []string{"1", "2", "3", "4"}
	proto.Line(api.Request{Op: api.SetCodes, Owner: someone, Codes: codes[:2]})
	if !slices.Equal(codes, []string{"1", "2", "3", "4"}) {
		t.Error(codes)
	}
}

func TestReply(t *testing.T) {
	for want, r := range map[string]api.Reply{
		"ok":                       {},
		"ok 1":                     {Numbers: []int{1}},
		"ok 0 -5 77":               {Numbers: []int{0, -5, 77}},
		"ok -9223372036854775808":  {Numbers: []int{math.MinInt}},
		"ok 9223372036854775807 1": {Numbers: []int{math.MaxInt, 1}},
		"no 16":                    {Errno: api.ErrWord},
		"no 1":                     {Errno: api.ErrNil, Numbers: []int{1, 2}},
		"no -3":                    {Errno: -3},
		"no 1000":                  {Errno: 1000},
	} {
		if got := proto.Reply(r); got != want {
			t.Errorf("%v: %q, not %q", r, got, want)
		}
	}
}

func TestWords(t *testing.T) {
	const all = "adduser rmuser reset codes login recover touch logout logoutall client narrow rmclient allow withdraw grant refresh access exchange revoke rmtenant anchor prune verify tick"
	if got := proto.Words(); strings.Join(got, " ") != all {
		t.Error(got)
	}
	proto.Words()[0] = "other"
	if proto.Words()[0] != "adduser" {
		t.Error("an answer is the caller's")
	}
}

func TestServe(t *testing.T) {
	for line, want := range map[string]string{"1 tick": "no 1", "1 tick ": "no 16", strings.Repeat("x", 257): "no 6"} {
		if got := proto.Serve(nil, line); got != want {
			t.Errorf("%q: %q", line, got)
		}
	}
	d, _ := block.New(300)
	a, _ := authority.Open(d)
	for _, c := range [][2]string{
		{"5 adduser t u p s 1", "ok"}, {"5 login t u p", "ok 1"}, {"5 login t u", "no 16"}, {"4 tick", "no 9"}, {"6 touch 1", "ok 1 206"},
		{strings.Repeat("7", 257), "no 6"}, {"6 rmuser T u", "no 4"}, {"6 adduser T u p s 1", "no 8"}, {"6 codes t u 1 2", "ok"}, {"6 recover t u 2", "ok 2"},
	} {
		if got := proto.Serve(a, c[0]); got != c[1] {
			t.Errorf("%q: %q, not %q", c[0], got, c[1])
		}
	}
	if a.Now() != 6 || len(a.Events()) != 5 {
		t.Error(a.Now(), a.Events())
	}
}

const script = "1 adduser t u p s 1\n2 login t u p\n3 login t u q\n4 client t c r 7\n5 allow t u c 3\n6 grant 1 c r 1\n7 access 1\n8 refresh 1 1\n9 refresh 1 1\n10 access 2\n"

const replies = "ok\nok 1\nno 10\nok\nok\nok 1 1\nok 1 56\nok 2 2\nno 13\nno 12\n"

func TestRun(t *testing.T) {
	for text, want := range map[string]string{
		script:                                  replies,
		strings.TrimSuffix(script, "\n"):        replies,
		"":                                      "",
		"\n":                                    "no 16\n",
		"\n\n":                                  "no 16\nno 16\n",
		"0 tick":                                "ok 0\n",
		"0 tick\n":                              "ok 0\n",
		"0 tick\n\n":                            "ok 0\nno 16\n",
		"\n0 tick":                              "no 16\nok 0\n",
		"0 tick\r\n":                            "no 16\n",
		"05 tick\n5 tick\n4 tick\n":             "no 16\nok 0\nno 9\n",
		"1 adduser t u p s 1\n2 login t u p":    "ok\nok 1\n",
		strings.Repeat("x", 300) + "\n0 verify": "no 6\nok\n",
	} {
		if got := proto.Run(text); got != want {
			t.Errorf("%q: %q, not %q", text, got, want)
		}
	}
}

func TestLongScripts(t *testing.T) {
	const line = "0 verify\n"
	whole := strings.Repeat(line, api.MaxScript/len(line))
	whole += strings.Repeat("\n", api.MaxScript-len(whole))
	if got := proto.Run(whole); len(whole) != api.MaxScript || strings.Count(got, "\n") != strings.Count(whole, "\n") || !strings.HasPrefix(got, "ok\nok\n") {
		t.Error(len(whole), len(got))
	}
	for _, long := range []string{whole + "\n", whole + "0", strings.Repeat("\n", 1<<20)} {
		if got := proto.Run(long); got != "no 6\n" {
			t.Errorf("%q", got)
		}
	}
}

func TestRunBeginsWithItsBeginnings(t *testing.T) {
	for i := range len(script) + 1 {
		beginning := script[:i]
		got := proto.Run(beginning)
		if strings.HasSuffix(beginning, "\n") && !strings.HasPrefix(replies, got) {
			t.Errorf("%q: %q", beginning, got)
		}
		lines := strings.Count(beginning, "\n")
		if beginning != "" && !strings.HasSuffix(beginning, "\n") {
			lines++
		}
		if strings.Count(got, "\n") != lines || got != "" && !strings.HasSuffix(got, "\n") {
			t.Errorf("each line has a reply: %q: %q", beginning, got)
		}
	}
}

// A long script of many tokens, all of which go at once.
func TestRunHasRoom(t *testing.T) {
	var text strings.Builder
	text.WriteString("0 adduser t u p s 1\n0 client t c r 7\n0 allow t u c 7\n0 login t u p\n0 grant 1 c r 7\n")
	lines := 5
	for i := 0; text.Len() < api.MaxScript-100; i++ {
		if i%50 == 49 {
			fmt.Fprintf(&text, "0 anchor\n0 prune %d\n", i)
			lines += 2
		}
		text.WriteString("0 exchange 1 1\n")
		lines++
	}
	text.WriteString("60 tick\n60 logout 1\n")
	got := proto.Run(text.String())
	if strings.Contains(got, "no") || strings.Count(got, "\n") != lines+2 || !strings.HasSuffix(got, "\nok 0\nok\n") {
		i := strings.Index(got, "no")
		t.Error(strings.Count(got, "\n"), lines, i, got[max(0, i-20):])
	}
}
