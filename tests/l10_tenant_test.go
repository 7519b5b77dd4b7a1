package tests

import (
	"math"
	"slices"
	"strings"
	"testing"

	"loop.example/g00757/impl"
)

func wantCredOf(client int) impl.Cred {
	switch client {
	case 1:
		return impl.Cred{Uid: 0, Gid: 0}
	case 2:
		return impl.Cred{Uid: 2, Gid: 2, Groups: []int{5}}
	case 3:
		return impl.Cred{Uid: 3, Gid: 2}
	default:
		return impl.Cred{Uid: 1000, Gid: 1000}
	}
}

// wantTenantOk gathers what is wrong; each session is held against all of them.
func wantTenantOk(t impl.Tenant) bool {
	wrong := !wantVolOk(t.Vol) || !wantAuditOk(t.Audit)
	wrong = wrong || t.Tokens < 0 || t.Tokens > 30
	for i, s := range t.Sessions {
		for j, other := range t.Sessions {
			wrong = wrong || i < j && s.Client >= other.Client
		}
		wrong = wrong || s.Client < 1 || s.Client > 3
		wrong = wrong || s.Serial < 1 || s.Serial > 1000000
		wrong = wrong || s.Index < 1 || s.Index > 100000
		wrong = wrong || !wantResultOk(s.Result)
	}
	return !wrong
}

// wantIndexes are the least and the greatest index that a call may have.
func wantIndexes(t impl.Tenant) (int, int) {
	least := 1
	for _, n := range t.Audit {
		least = max(least, n.Index)
	}
	for _, s := range t.Sessions {
		least = max(least, s.Index)
	}
	return least, 100000
}

func wantSession(t impl.Tenant, client int) impl.Session {
	for _, s := range t.Sessions {
		if s.Client == client {
			return s
		}
	}
	return impl.Session{Client: client}
}

// turn is a call of a client, with its serial, at a number of the log.
type turn struct {
	client, serial int
	x              impl.Call
	index          int
}

func wantTenantDo(t impl.Tenant, a turn) (impl.Tenant, impl.Result, bool) {
	if !wantTenantOk(t) {
		return impl.Tenant{}, impl.Result{}, false
	}
	t = copiedTenant(t)
	low, high := wantIndexes(t)
	if a.client < 1 || a.client > 3 || a.serial < 1 || a.serial > 1000000 || a.index < low || a.index > high {
		return t, impl.Result{}, false
	}
	last := wantSession(t, a.client)
	if a.serial == last.Serial {
		return t, last.Result, false
	}
	if a.serial-1 != last.Serial {
		return t, impl.Result{}, false
	}
	r := wantSteps(&t, a)
	told := wantCost(a.x.Kind) == 1 && r.Code == 0
	archived := a.x.Kind == 22 && r.Code == 0
	if wantCallOk(a.x) && !told && !archived && len(t.Audit) < 20 {
		t.Audit = append(t.Audit, impl.Note{Index: a.index, Client: a.client, Serial: a.serial, Kind: a.x.Kind, Code: r.Code})
	}
	t.Sessions = slices.DeleteFunc(t.Sessions, func(s impl.Session) bool { return s.Client == a.client })
	t.Sessions = append(t.Sessions, impl.Session{Client: a.client, Serial: a.serial, Index: a.index, Result: r})
	slices.SortFunc(t.Sessions, func(s, other impl.Session) int { return s.Client - other.Client })
	return t, r, true
}

// wantSteps are the chapter's six.
func wantSteps(t *impl.Tenant, a turn) impl.Result {
	if !wantCallOk(a.x) {
		return impl.Result{Code: 22}
	}
	left, enough := wantSpend(t.Tokens, a.x.Kind)
	if !enough {
		return impl.Result{Code: 11}
	}
	t.Tokens = left
	private := a.x.Kind == 21 || a.x.Kind == 22
	switch {
	case private && a.client != 1:
		return impl.Result{Code: 1}
	case a.x.Kind == 21 && a.x.N < 0:
		return impl.Result{Code: 22}
	case a.x.Kind == 21:
		return impl.Result{Data: wantShowAudit(t.Audit, a.x.N)}
	case a.x.Kind == 22:
		t.Audit = nil
		return impl.Result{}
	case wantCost(a.x.Kind) == 3 && len(t.Audit) == 20:
		return impl.Result{Code: 28}
	}
	v, r := wantVolDo(t.Vol, wantCredOf(a.client), a.x)
	t.Vol = v
	return r
}

func sameTenant(a, b impl.Tenant) bool {
	return sameVol(a.Vol, b.Vol) && a.Tokens == b.Tokens && slices.Equal(a.Audit, b.Audit) && slices.Equal(a.Sessions, b.Sessions)
}

func copiedTenant(t impl.Tenant) impl.Tenant {
	t.Vol, t.Audit, t.Sessions = copiedVol(t.Vol), slices.Clone(t.Audit), slices.Clone(t.Sessions)
	return t
}

// roomyTenant has marks in the spare room of each list.
type roomyTenant struct {
	vol      roomyVol
	audit    roomy[impl.Note]
	sessions roomy[impl.Session]
}

func newRoomyTenant(t impl.Tenant) (roomyTenant, impl.Tenant) {
	var room roomyTenant
	room.vol, t.Vol = newRoomyVol(t.Vol)
	room.audit, t.Audit = newRoomy(t.Audit, impl.Note{Index: 1, Client: 1, Serial: 1, Kind: 1})
	room.sessions, t.Sessions = newRoomy(t.Sessions, impl.Session{Client: 3, Serial: 1, Index: 1})
	return room, t
}

func (w roomyTenant) touched() bool {
	return w.vol.touched() || w.audit.touched() || w.sessions.touched()
}

func textsOfTenant(t impl.Tenant) []string {
	out := textsOf(t.Vol)
	for _, s := range t.Sessions {
		out = append(out, s.Result.Data)
	}
	return out
}

// sharesTenant tells if a list or a text of the answer has memory of an argument.
func sharesTenant(got, given impl.Tenant, texts ...string) bool {
	shares := sharesVol(got.Vol, given.Vol) || overlap(got.Audit, given.Audit) || overlap(got.Sessions, given.Sessions)
	for _, s := range textsOfTenant(got) {
		for _, other := range append(textsOfTenant(given), texts...) {
			shares = shares || sharesBytes(s, other)
		}
	}
	return shares
}

// tenantDo asks for a call with marks behind each list, and holds what it answers against the test's own, the promises and the memory of both.
func tenantDo(t *testing.T, who impl.Tenant, a turn) (impl.Tenant, impl.Result, bool) {
	t.Helper()
	room, given := newRoomyTenant(who)
	got, res, done := impl.TenantDo(given, a.client, a.serial, a.x, a.index)
	want, told, does := wantTenantDo(who, a)
	if res != told || done != does || !sameTenant(got, want) {
		t.Fatalf("TenantDo of %+v in %+v = %+v, %+v, %v, want %+v, %+v, %v", a, who, got, res, done, want, told, does)
	}
	if room.touched() || !sameTenant(given, who) {
		t.Fatalf("%+v: written into %+v", a, who)
	}
	if sharesTenant(got, given, a.x.Path, a.x.To, a.x.Data) {
		t.Fatalf("%+v: the answer shares memory: %+v", a, who)
	}
	for _, s := range append(textsOfTenant(given), textsOfTenant(got)...) {
		if sharesBytes(res.Data, s) {
			t.Fatalf("%+v is told %+v, bytes that %+v has, too", a, res, who)
		}
	}
	if impl.TenantOk(got) != impl.TenantOk(who) {
		t.Fatalf("%+v: of %+v it makes %+v", a, who, got)
	}
	return got, res, done
}

// livedTenant is a tenant in which someone, who is client 2, can do each kind of call; the clients 1 and 3 have called, the last one at 12.
func livedTenant() impl.Tenant {
	return impl.Tenant{Vol: flawVol(), Tokens: 20, Audit: audit(5), Sessions: []impl.Session{
		{Client: 1, Serial: 4, Index: 9, Result: impl.Result{Data: "what it was told"}},
		{Client: 3, Serial: 8, Index: 12, Result: impl.Result{Code: impl.EAcces}},
	}}
}

func livedWith(change func(t *impl.Tenant)) impl.Tenant {
	t := livedTenant()
	change(&t)
	return t
}

func TestTenantNumbers(t *testing.T) {
	if impl.MaxClients != 3 || impl.MaxSerial != 1000000 {
		t.Error("MaxClients, MaxSerial:", impl.MaxClients, impl.MaxSerial)
	}
}

// checkTenantOk asks of each function what it answers, if that is a tenant.
func checkTenantOk(t *testing.T, what string, who impl.Tenant, right bool) {
	t.Helper()
	if got := impl.TenantOk(who); got != right || got != wantTenantOk(who) {
		t.Errorf("%s: TenantOk is %v", what, got)
	}
	tick := impl.TenantTick(who)
	got, res, done := impl.TenantDo(who, 2, 1, callAt(impl.CaStatfs, ""), impl.MaxIndex)
	s := impl.ShowTenant(who)
	if right {
		if !impl.TenantOk(tick) || !impl.TenantOk(got) || s == "" {
			t.Errorf("%s: it ticks to %+v, it calls to %+v, its text is %q", what, tick, got, s)
		}
		return
	}
	if !sameTenant(tick, impl.Tenant{}) || !sameTenant(got, impl.Tenant{}) || res != (impl.Result{}) || done || s != "" {
		t.Errorf("%s: it ticks to %+v, it calls to %+v, %+v, %v, its text is %q", what, tick, got, res, done, s)
	}
}

func TestTenantOk(t *testing.T) {
	checkTenantOk(t, "nothing", impl.Tenant{}, false)
	checkTenantOk(t, "new", impl.NewTenant(), true)
	checkTenantOk(t, "lived", livedTenant(), true)
	checkTenantOk(t, "no notes, no sessions", livedWith(func(t *impl.Tenant) { t.Audit, t.Sessions = []impl.Note{}, []impl.Session{} }), true)
	for _, tokens := range append(farNumbers(), -1, 0, 1, 2, 29, 30, 31) {
		checkTenantOk(t, "Tokens "+impl.Dec(tokens), livedWith(func(t *impl.Tenant) { t.Tokens = tokens }), tokens >= 0 && tokens <= 30)
	}
	for i, v := range wrongVols() {
		checkTenantOk(t, "wrong volume "+impl.Dec(i), livedWith(func(t *impl.Tenant) { t.Vol = v }), false)
	}
	for _, v := range textVols() {
		checkTenantOk(t, "right volume", livedWith(func(t *impl.Tenant) { t.Vol = v }), true)
	}
	for size := range 23 {
		checkTenantOk(t, impl.Dec(size)+" notes", livedWith(func(t *impl.Tenant) { t.Audit = audit(size) }), size <= 20)
	}
	for name, field := range noteFields() {
		for _, to := range []int{math.MinInt, field.low - 1, field.low, field.high, field.high + 1, math.MaxInt} {
			who := livedWith(func(t *impl.Tenant) { t.Audit = audit(1); *field.of(&t.Audit[0]) = to })
			checkTenantOk(t, name+" of a note", who, to >= field.low && to <= field.high)
		}
	}
	checkTenantOk(t, "notes that fall", livedWith(func(t *impl.Tenant) { slices.Reverse(t.Audit) }), false)
}

func sessionsOf(clients ...int) []impl.Session {
	var out []impl.Session
	for i, client := range clients {
		out = append(out, impl.Session{Client: client, Serial: 1 + i, Index: 30 - i})
	}
	return out
}

func TestTenantOkOfClients(t *testing.T) {
	for _, c := range []struct {
		clients []int
		right   bool
	}{
		{nil, true}, {[]int{1}, true}, {[]int{2}, true}, {[]int{3}, true}, {[]int{1, 2}, true}, {[]int{1, 3}, true}, {[]int{2, 3}, true}, {[]int{1, 2, 3}, true},
		{[]int{0}, false}, {[]int{4}, false}, {[]int{-1}, false}, {[]int{math.MinInt}, false}, {[]int{math.MaxInt}, false}, {[]int{257}, false}, {[]int{1<<32 + 1}, false},
		{[]int{1, 1}, false}, {[]int{2, 2}, false}, {[]int{3, 3}, false}, {[]int{2, 1}, false}, {[]int{3, 1}, false}, {[]int{3, 2}, false},
		{[]int{1, 2, 2}, false}, {[]int{1, 1, 2}, false}, {[]int{1, 3, 2}, false}, {[]int{2, 1, 3}, false}, {[]int{1, 3, 3}, false}, {[]int{1, 2, 1}, false},
		{[]int{0, 1, 2, 3}, false}, {[]int{1, 2, 3, 4}, false}, {[]int{1, 2, 4}, false}, {[]int{0, 2}, false}, {[]int{1, math.MaxInt}, false}, {[]int{math.MinInt, 1}, false},
		{slices.Repeat([]int{1, 2, 3}, 1000), false},
	} {
		who := livedWith(func(t *impl.Tenant) { t.Sessions = sessionsOf(c.clients...) })
		checkTenantOk(t, "a row of clients", who, c.right)
	}
}

func TestTenantOkOfSessions(t *testing.T) {
	fields := []struct {
		name      string
		of        func(s *impl.Session) *int
		low, high int
	}{
		{"Serial", func(s *impl.Session) *int { return &s.Serial }, 1, 1000000},
		{"Index", func(s *impl.Session) *int { return &s.Index }, 1, 100000},
		{"Code", func(s *impl.Session) *int { return &s.Result.Code }, 0, 200},
	}
	for _, field := range fields {
		for at := range 3 {
			for _, to := range append(farNumbers(), -1, 0, 1, 2, 199, 200, 201, 99999, 100000, 100001, 999999, 1000000, 1000001) {
				who := livedWith(func(t *impl.Tenant) { t.Sessions = sessionsOf(1, 2, 3); *field.of(&t.Sessions[at]) = to })
				checkTenantOk(t, field.name+" "+impl.Dec(to), who, to >= field.low && to <= field.high)
			}
		}
	}
	for _, size := range []int{0, 1, 399, 400, 401, 5000} {
		for at := range 2 {
			who := livedWith(func(t *impl.Tenant) { t.Sessions[at].Result.Data = strings.Repeat("x", size) })
			checkTenantOk(t, impl.Dec(size)+" bytes told", who, size <= 400)
		}
	}
}

// What sessions and notes say of an index need not go together: the document asks for no more.
func TestTenantOkOfIndexes(t *testing.T) {
	for _, index := range []int{1, 2, 3, 12, 100000} {
		checkTenantOk(t, "any index", livedWith(func(t *impl.Tenant) { t.Sessions[0].Index = index; t.Audit[4].Index = 100000 }), true)
	}
}

func TestNewTenant(t *testing.T) {
	want := impl.Tenant{Vol: impl.Vol{Next: 2, Inodes: []impl.Inode{{Id: 1, Kind: 2, Mode: 1023}}}, Tokens: 30}
	a, b := impl.NewTenant(), impl.NewTenant()
	if !sameTenant(a, want) || a.Audit != nil || a.Sessions != nil || a.Vol.Inodes[0].Names != nil {
		t.Errorf("NewTenant() = %+v", a)
	}
	a.Vol.Inodes[0].Mode = 0
	a.Vol.Inodes = append(a.Vol.Inodes, impl.Inode{})
	if !sameTenant(b, want) || !sameTenant(impl.NewTenant(), want) || impl.NewVol().Inodes[0].Mode != 493 {
		t.Error("two new tenants are one")
	}
}

func TestCredOf(t *testing.T) {
	for _, client := range append(farNumbers(), 0, 1, 2, 3, 4, 5, 257, 258, 259, 1<<32+1, 1<<32+2) {
		got, want := impl.CredOf(client), wantCredOf(client)
		if got.Uid != want.Uid || got.Gid != want.Gid || !slices.Equal(got.Groups, want.Groups) {
			t.Errorf("CredOf(%d) = %+v", client, got)
		}
		if !impl.CredOk(got) {
			t.Errorf("CredOf(%d) is not right", client)
		}
	}
	c := impl.CredOf(2)
	c.Groups[0] = 9
	if other := impl.CredOf(2); other.Groups[0] != 5 || overlap(c.Groups, other.Groups) {
		t.Error("two Creds share their Groups")
	}
}

func TestTenantTick(t *testing.T) {
	for tokens, want := range map[int]int{0: 4, 1: 5, 2: 6, 25: 29, 26: 30, 27: 30, 28: 30, 29: 30, 30: 30} {
		who := livedWith(func(t *impl.Tenant) { t.Tokens = tokens })
		room, given := newRoomyTenant(who)
		got := impl.TenantTick(given)
		if !sameTenant(got, livedWith(func(t *impl.Tenant) { t.Tokens = want })) {
			t.Errorf("%d tokens tick to %+v", tokens, got)
		}
		if room.touched() || !sameTenant(given, who) || sharesTenant(got, given) {
			t.Errorf("written into what ticks, or shared with it: %+v", given)
		}
	}
	if got := impl.TenantTick(impl.NewTenant()); !sameTenant(got, impl.NewTenant()) || got.Audit != nil || got.Sessions != nil {
		t.Errorf("a new one ticks to %+v", got)
	}
	who := livedWith(func(t *impl.Tenant) { t.Tokens = 0 })
	for range 10 {
		who = impl.TenantTick(who)
	}
	if who.Tokens != 30 {
		t.Error("ten ticks fill it:", who.Tokens)
	}
	for _, tokens := range []int{-1, 31, math.MinInt, math.MaxInt} {
		if got := impl.TenantTick(livedWith(func(t *impl.Tenant) { t.Tokens = tokens })); !sameTenant(got, impl.Tenant{}) {
			t.Errorf("%d tokens tick to %+v", tokens, got)
		}
	}
}
