package tests

import (
	"math/rand"
	"slices"
	"strings"
	"testing"

	"loop.example/g00757/impl"
)

// someTenant is right: with few or many tokens and notes, and sessions of some of its clients.
func someTenant(r *rand.Rand) impl.Tenant {
	t := impl.Tenant{Vol: someCallVol(r), Tokens: r.Intn(5)}
	if r.Intn(3) > 0 {
		t.Tokens = r.Intn(31)
	}
	for !wantAuditOk(t.Audit) || t.Audit == nil {
		t.Audit = someAudit(r)
	}
	if r.Intn(4) == 0 {
		t.Audit = audit(18 + r.Intn(3))
	}
	for client := 1; client <= 3; client++ {
		if r.Intn(3) > 0 {
			s := impl.Session{Client: client, Serial: 1 + r.Intn(4), Index: 1 + r.Intn(9), Result: impl.Result{Code: r.Intn(201), Data: strings.Repeat("told", r.Intn(101))}}
			if r.Intn(20) == 0 {
				s.Serial = 1000000 - r.Intn(2)
			}
			t.Sessions = append(t.Sessions, s)
		}
	}
	return t
}

// bentTenant is wrong in one thing, mostly.
func bentTenant(r *rand.Rand, t impl.Tenant) impl.Tenant {
	t = copiedTenant(t)
	switch r.Intn(5) {
	case 0:
		t.Vol = bentVol(r, t.Vol)
	case 1:
		t.Tokens += 31 * (r.Intn(3) - 1)
	case 2:
		t.Audit = someAudit(r)
	case 3:
		t.Sessions = append(t.Sessions, impl.Session{Client: r.Intn(5), Serial: 1, Index: 1})
	case 4:
		if len(t.Sessions) > 0 {
			s := &t.Sessions[r.Intn(len(t.Sessions))]
			*[]*int{&s.Client, &s.Serial, &s.Index, &s.Result.Code}[r.Intn(4)] = r.Intn(5) - 1
		}
	}
	return t
}

// someTurn is in its turn, mostly, of a right tenant.
func someTurn(r *rand.Rand, t impl.Tenant) turn {
	low, high := wantIndexes(t)
	a := turn{client: 1 + r.Intn(3), index: min(low+r.Intn(3), high), x: impl.Call{Kind: 21 + r.Intn(2), N: r.Intn(9) - 2}}
	if r.Intn(6) > 0 {
		a.x = someCall(r, t.Vol)
	}
	a.serial = wantSession(t, a.client).Serial + 1
	switch r.Intn(16) {
	case 0:
		a.client = r.Intn(7) - 1
	case 1:
		a.serial += r.Intn(5) - 3
	case 2:
		a.index = low - r.Intn(3)
	case 3:
		a.index = high + r.Intn(3) - 1
	case 4:
		a.serial--
	case 5:
		a.x.Kind = r.Intn(26) - 2
	}
	return a
}

func TestSomeTenants(t *testing.T) {
	r := rand.New(rand.NewSource(101))
	wrong, codes, done := 0, map[int]int{}, map[bool]int{}
	for range 6000 {
		who := someTenant(r)
		a := someTurn(r, who)
		if r.Intn(6) == 0 {
			who = bentTenant(r, who)
		}
		if impl.TenantOk(who) != wantTenantOk(who) {
			t.Fatalf("TenantOk(%+v) is %v", who, impl.TenantOk(who))
		}
		if !wantTenantOk(who) {
			wrong++
		}
		_, res, does := tenantDo(t, who, a)
		codes[res.Code]++
		done[does]++
	}
	if wrong < 300 || done[true] < 2500 || done[false] < 800 || codes[impl.EAgain] < 50 || codes[impl.ENoSpc] < 100 || codes[impl.EPerm] < 100 || codes[impl.EInval] < 100 || codes[impl.EOk] < 1000 {
		t.Error("so many are wrong, done, told each code:", wrong, done, codes)
	}
}

// Promise 10, asked of the program's answers alone, of rows of calls and ticks.
func TestTenantPromises(t *testing.T) {
	r := rand.New(rand.NewSource(102))
	archived, full := 0, 0
	for range 150 {
		who := impl.NewTenant()
		if r.Intn(2) == 0 {
			who = someTenant(r)
		}
		spent, filled := 0, impl.Burst
		for range 60 {
			if r.Intn(3) == 0 {
				who, filled = impl.TenantTick(who), filled+impl.Rate
			}
			a := someTurn(r, who)
			got, res, done := impl.TenantDo(who, a.client, a.serial, a.x, a.index)
			if !impl.TenantOk(got) || !impl.ResultOk(res) || impl.ShowTenant(got) == "" {
				t.Fatalf("%+v makes of %+v %+v", a, who, got)
			}
			spent += who.Tokens - got.Tokens
			again, told, twice := impl.TenantDo(got, a.client, a.serial, a.x, a.index)
			if twice || done && told != res || !sameTenant(again, got) {
				t.Fatalf("%+v is told %+v, %v, then %+v, %v: %+v", a, res, done, told, twice, again)
			}
			if !done && !sameTenant(got, who) {
				t.Fatalf("%+v is not done and makes of %+v %+v", a, who, got)
			}
			added := len(got.Audit) >= len(who.Audit) && len(got.Audit) <= len(who.Audit)+1 && slices.Equal(got.Audit[:len(who.Audit)], who.Audit)
			if !added && !(a.x.Kind == impl.CaArchive && res.Code == impl.EOk && len(got.Audit) == 0) {
				t.Fatalf("%+v makes of the notes %+v %+v", a, who.Audit, got.Audit)
			}
			if !added {
				archived++
			}
			if len(got.Audit) == impl.MaxAudit {
				full++
			}
			who = got
		}
		if spent > filled {
			t.Fatalf("%d tokens are spent of %d", spent, filled)
		}
	}
	if archived < 50 || full < 500 {
		t.Error("so many notes were put away, so often there were as many as may be:", archived, full)
	}
}

// A tenant goes on behind its text as it would have without.
func TestTurnsBehindTexts(t *testing.T) {
	r := rand.New(rand.NewSource(103))
	for range 1500 {
		who := someTenant(r)
		there, ok := impl.ReadTenant(impl.ShowTenant(who))
		if !ok || !sameTenant(there, who) {
			t.Fatalf("%+v is read as %+v, %v", who, there, ok)
		}
		a := someTurn(r, who)
		got, res, done := impl.TenantDo(there, a.client, a.serial, a.x, a.index)
		want, told, does := impl.TenantDo(who, a.client, a.serial, a.x, a.index)
		if res != told || done != does || !sameTenant(got, want) || impl.ShowTenant(got) != impl.ShowTenant(want) {
			t.Fatalf("%+v in %+v: %+v behind its text, else %+v", a, who, res, told)
		}
	}
}

func TestSomeTenantTexts(t *testing.T) {
	r := rand.New(rand.NewSource(104))
	shown, taken, refused := 0, 0, 0
	for range 2500 {
		who := someTenant(r)
		if r.Intn(3) == 0 {
			who = bentTenant(r, who)
		}
		if tenantForm().checkShow(t, who) != "" {
			shown++
		}
		for range 4 {
			s := bentText(r, tenantTokens(who))
			if !tenantForm().checkRead(t, s) {
				refused++
			} else if got, _ := impl.ReadTenant(s); !sameTenant(got, who) {
				taken++
			}
		}
	}
	if shown < 1200 || taken < 50 || refused < 1200 {
		t.Error("so many are shown, taken as others, refused:", shown, taken, refused)
	}
}

// No text is a list's or a text's of what it tells, and what is read has memory of its own.
func TestTenantTextMemory(t *testing.T) {
	r := rand.New(rand.NewSource(105))
	for i := range 800 {
		who := someTenant(r)
		if i%4 == 0 {
			who = bentTenant(r, who)
		}
		room, given := newRoomyTenant(who)
		s := impl.ShowTenant(given)
		was := strings.Clone(s)
		impl.TenantOk(given)
		if room.touched() || !sameTenant(given, who) {
			t.Fatalf("written into %+v", who)
		}
		for _, part := range textsOfTenant(given) {
			if sharesBytes(s, part) {
				t.Fatalf("the text of %+v shares the bytes of %q", who, part)
			}
		}
		got, ok := impl.ReadTenant(s)
		again, _ := impl.ReadTenant(s)
		if sharesTenant(got, again, s) || sharesTenant(again, got, s) {
			t.Fatalf("two readings of %q share memory", s)
		}
		for j := range got.Audit {
			got.Audit[j].Serial = -7
		}
		for j := range got.Sessions {
			got.Sessions[j].Serial = -7
		}
		got.Audit, got.Sessions = append(got.Audit, impl.Note{Index: -7}), append(got.Sessions, impl.Session{Index: -7})
		for j := range got.Vol.Inodes {
			got.Vol.Inodes[j].Names = append(got.Vol.Inodes[j].Names, impl.Dirent{Name: "mark", Id: -7})
		}
		if third, still := impl.ReadTenant(s); s != was || still != ok || !sameTenant(third, again) || ok && impl.ShowTenant(again) != s {
			t.Fatalf("%q is read as %+v, then as %+v", s, again, third)
		}
	}
}

// Nothing is kept from one call to another, and what is written into an answer is in no other one.
func TestTenantsKeepNothing(t *testing.T) {
	r := rand.New(rand.NewSource(106))
	for range 1000 {
		who := someTenant(r)
		a := someTurn(r, who)
		was := copiedTenant(who)
		got, res, done := impl.TenantDo(who, a.client, a.serial, a.x, a.index)
		tick := impl.TenantTick(who)
		first, firstTick := copiedTenant(got), copiedTenant(tick)
		for _, other := range []impl.Tenant{got, tick} {
			for i := range other.Vol.Inodes {
				other.Vol.Inodes[i].Mode = -7
				other.Vol.Inodes[i].Names = append(other.Vol.Inodes[i].Names, impl.Dirent{Name: "mark", Id: -7})
			}
			for i := range other.Sessions {
				other.Sessions[i] = impl.Session{Client: -7}
			}
			for i := range other.Audit {
				other.Audit[i] = impl.Note{Client: -7}
			}
		}
		again, told, does := impl.TenantDo(who, a.client, a.serial, a.x, a.index)
		if !sameTenant(who, was) || told != res || does != done || !sameTenant(again, first) || !sameTenant(impl.TenantTick(who), firstTick) {
			t.Fatalf("%+v in %+v: once %+v, then %+v", a, was, first, again)
		}
	}
}
