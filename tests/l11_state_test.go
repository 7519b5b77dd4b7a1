package tests

import (
	"fmt"
	"math"
	"math/rand"
	"slices"
	"strings"
	"testing"

	"loop.example/g00757/impl"
)

func wantStateOk(s []impl.Tenant) bool {
	wrong := len(s) != 3
	for _, who := range s {
		wrong = wrong || !wantTenantOk(who)
	}
	return !wrong
}

func stateTokens(s []impl.Tenant) []token {
	var out []token
	for _, who := range s {
		out = append(out, pieceTokens(joined(tenantTokens(who)))...)
	}
	return out
}

func (e *eater) state() []impl.Tenant {
	var out []impl.Tenant
	for range 3 {
		inner := eater{left: e.piece()}
		out = append(out, inner.tenant())
		e.lacks = e.lacks || inner.lacks || inner.left != ""
	}
	return out
}

func sameState(a, b []impl.Tenant) bool { return slices.EqualFunc(a, b, sameTenant) }

func stateForm() form[[]impl.Tenant] {
	return form[[]impl.Tenant]{impl.ShowState, impl.ReadState, stateTokens, (*eater).state, wantStateOk, sameState}
}

func copiedState(s []impl.Tenant) []impl.Tenant {
	var out []impl.Tenant
	for _, who := range s {
		out = append(out, copiedTenant(who))
	}
	return out
}

// roomyState has marks in the spare room of each list.
type roomyState struct {
	all, was []impl.Tenant
	tenants  []roomyTenant
}

func newRoomyState(s []impl.Tenant) (roomyState, []impl.Tenant) {
	var room roomyState
	for _, who := range s {
		each, given := newRoomyTenant(who)
		room.tenants, room.all = append(room.tenants, each), append(room.all, given)
	}
	room.all = append(room.all, impl.Tenant{Tokens: -7}, impl.Tenant{Tokens: -8})
	room.was = slices.Clone(room.all)
	return room, room.all[:len(s)]
}

func (w roomyState) touched() bool {
	touched := !sameState(w.all, w.was)
	for _, each := range w.tenants {
		touched = touched || each.touched()
	}
	return touched
}

// sharesState tells if a tenant of the answer has memory of an argument, or two of the answer have some.
func sharesState(got, given []impl.Tenant, texts ...string) bool {
	shares := overlap(got, given)
	for i, who := range got {
		for _, other := range given {
			shares = shares || sharesTenant(who, other, texts...)
		}
		for _, other := range got[:i] {
			shares = shares || sharesTenant(who, other)
		}
	}
	return shares
}

// livedState has three tenants that no two are alike.
func livedState() []impl.Tenant {
	return []impl.Tenant{livedTenant(), impl.NewTenant(), livedWith(func(t *impl.Tenant) { t.Vol, t.Tokens, t.Sessions = rightVol(), 1, sessionsOf(1, 2, 3) })}
}

func stateWith(change func(s []impl.Tenant)) []impl.Tenant {
	s := livedState()
	change(s)
	return s
}

func textStates() [][]impl.Tenant {
	out := [][]impl.Tenant{impl.NewState(), livedState(), {fullTenant(), impl.NewTenant(), livedTenant()}, {livedTenant(), livedTenant(), livedTenant()}}
	return append(out, []impl.Tenant{livedWithTokens(0, 0), livedWithTokens(29, 19), livedWithTokens(30, 20)})
}

// checkStateOk asks of each function what it answers, if that is a state.
func checkStateOk(t *testing.T, what string, s []impl.Tenant, right bool) {
	t.Helper()
	if got := impl.StateOk(s); got != right || got != wantStateOk(s) {
		t.Errorf("%s: StateOk is %v", what, got)
	}
	shown := impl.ShowState(s)
	if (shown != "") != right {
		t.Errorf("%s: its text is %q", what, shown)
	}
	for _, text := range []string{"f", impl.ShowFrame(slotsOf(0, 1, 2)), "", "no frame"} {
		got, told := impl.ApplyFrame(s, text, impl.MaxIndex)
		if right != impl.StateOk(got) || !right && (got != nil || told != nil) {
			t.Errorf("%s: %q makes %+v of it and tells %+v", what, text, got, told)
		}
	}
}

func TestStateOk(t *testing.T) {
	checkStateOk(t, "nothing", nil, false)
	checkStateOk(t, "no tenant", []impl.Tenant{}, false)
	checkStateOk(t, "new", impl.NewState(), true)
	checkStateOk(t, "lived", livedState(), true)
	for size := range 8 {
		checkStateOk(t, impl.Dec(size)+" tenants", slices.Repeat([]impl.Tenant{livedTenant()}, size), size == 3)
		checkStateOk(t, impl.Dec(size)+" zero tenants", make([]impl.Tenant, size), false)
	}
	for _, s := range textStates() {
		checkStateOk(t, "a state", s, true)
		checkStateOk(t, "one less", s[:2], false)
		checkStateOk(t, "another one less", s[1:], false)
		checkStateOk(t, "one more", append(slices.Clone(s), impl.NewTenant()), false)
		checkStateOk(t, "a wrong one more", append(slices.Clone(s), impl.Tenant{}), false)
	}
}

// A state with one that is not right, at each place.
func TestStateOkOfTenants(t *testing.T) {
	wrong := []impl.Tenant{{}, livedWith(func(t *impl.Tenant) { t.Tokens = 31 }), livedWith(func(t *impl.Tenant) { t.Tokens = -1 }), livedWith(func(t *impl.Tenant) { t.Audit = audit(21) }),
		livedWith(func(t *impl.Tenant) { t.Sessions = sessionsOf(2, 1) }), livedWith(func(t *impl.Tenant) { t.Sessions = sessionsOf(4) }), livedWith(func(t *impl.Tenant) { t.Sessions[0].Result.Data = strings.Repeat("x", 401) })}
	for _, v := range wrongVols() {
		wrong = append(wrong, livedWith(func(t *impl.Tenant) { t.Vol = v }))
	}
	for at := range 3 {
		for _, who := range wrong {
			checkStateOk(t, "wrong at "+impl.Dec(at), stateWith(func(s []impl.Tenant) { s[at] = who }), false)
		}
		for _, who := range textTenants() {
			checkStateOk(t, "right at "+impl.Dec(at), stateWith(func(s []impl.Tenant) { s[at] = who }), true)
		}
		for other := range at {
			checkStateOk(t, "two wrong", stateWith(func(s []impl.Tenant) { s[at], s[other] = impl.Tenant{}, impl.Tenant{} }), false)
		}
	}
}

func TestNewState(t *testing.T) {
	want := impl.Tenant{Vol: impl.Vol{Next: 2, Inodes: []impl.Inode{{Id: 1, Kind: 2, Mode: 1023}}}, Tokens: 30}
	a, b := impl.NewState(), impl.NewState()
	if !sameState(a, []impl.Tenant{want, want, want}) || !impl.StateOk(a) {
		t.Errorf("NewState() = %+v", a)
	}
	if sharesState(a, b) || sharesState(b, a) {
		t.Error("new tenants share memory")
	}
	// What is written into one, and into the room behind it, is in no other one.
	for i := range a {
		a[i].Vol.Inodes[0].Mode = i
		a[i].Vol.Inodes[0].Names = append(a[i].Vol.Inodes[0].Names, impl.Dirent{Name: "x", Id: i})
		a[i].Vol.Inodes = append(a[i].Vol.Inodes, impl.Inode{Id: i})
		a[i].Audit, a[i].Sessions = append(a[i].Audit, impl.Note{Index: i}), append(a[i].Sessions, impl.Session{Index: i})
	}
	for i, who := range a {
		if who.Vol.Inodes[0].Mode != i || who.Vol.Inodes[0].Names[0].Id != i || who.Vol.Inodes[1].Id != i || who.Audit[0].Index != i || who.Sessions[0].Index != i {
			t.Errorf("tenant %d is %+v", i, who)
		}
	}
	if !sameState(b, []impl.Tenant{want, want, want}) || !sameState(impl.NewState(), b) {
		t.Error("two new states are one")
	}
}

func TestShowState(t *testing.T) {
	fresh := "\x0c" + "\x02\x01\x01\x02\xff\x07\x00\x00\x00\x00\x00\x00" + "\x1e\x00" + "\x00"
	lived := impl.NewTenant()
	lived.Tokens, lived.Audit = 0, []impl.Note{{Index: 1, Client: 2, Serial: 3, Kind: 4, Code: 5}}
	lived.Sessions = []impl.Session{{Client: 3, Serial: 1000000, Index: 100000, Result: impl.Result{Code: 200, Data: "told"}}}
	shown := fresh[:13] + "\x00\x01" + "\x01\x02\x03\x04\x05" + "\x01" + "\x03\xc0\x84\x3d\xa0\x8d\x06\x06\xc8\x01told"
	for _, c := range []struct {
		s    []impl.Tenant
		want string
	}{
		{impl.NewState(), "\x10" + fresh + "\x10" + fresh + "\x10" + fresh},
		{[]impl.Tenant{impl.NewTenant(), lived, impl.NewTenant()}, "\x10" + fresh + "\x23" + shown + "\x10" + fresh},
		{[]impl.Tenant{lived, impl.NewTenant(), lived}, "\x23" + shown + "\x10" + fresh + "\x23" + shown},
	} {
		stateForm().checkText(t, c.s, c.want)
	}
	for _, s := range textStates() {
		if stateForm().checkShow(t, s) == "" {
			t.Errorf("no text of %+v", s)
		}
	}
}

// longestVol has the most and the longest names that there may be: all but the last inode are directories, and what names one has left are that one file's.
func longestVol() impl.Vol {
	v := impl.Vol{Next: 100000}
	for i := range 24 {
		v.Inodes = append(v.Inodes, impl.Inode{Id: 90000 + i, Kind: impl.KdDir, Mode: 2047, Uid: 1000, Gid: 1000, MaxB: 400, MaxI: 24})
	}
	v.Inodes[0].Id = 1
	v.Inodes[23] = impl.Inode{Id: 90023, Kind: impl.KdFile, Mode: 2047, Uid: 1000, Gid: 1000, Data: everyByte()[192:]}
	for i := range 23 {
		for j := range 12 {
			to := min(12*i+j+1, 23)
			v.Inodes[i].Names = append(v.Inodes[i].Names, impl.Dirent{Name: fmt.Sprintf("name-%03d", j), Id: 90000 + to})
		}
	}
	return v
}

// A state as full as may be is no more than a store takes.
func TestShowFullState(t *testing.T) {
	who := fullTenant()
	who.Vol = longestVol()
	s := stateForm().checkShow(t, []impl.Tenant{who, who, who})
	if len(s) < 15000 || len(s) > impl.MaxSnap {
		t.Errorf("the fullest state has %d bytes", len(s))
	}
	for _, v := range []impl.Vol{edgeVol(), wideVol(24), bytesVol(400), deepVol(24)} {
		who.Vol = v
		if other := stateForm().checkShow(t, []impl.Tenant{who, who, who}); len(other) == 0 || len(other) > len(s) {
			t.Errorf("a full state has %d bytes", len(other))
		}
	}
}

func TestReadStateRefuses(t *testing.T) {
	for _, s := range textStates() {
		stateForm().checkWhole(t, s)
		stateForm().checkNumbers(t, s)
	}
	for _, s := range append(texts(), "\x00\x00\x00", "\x00\x00\x00\x00", strings.Repeat("\x00", 1000), strings.Repeat("\x10", 1000)) {
		stateForm().checkRefused(t, "no state", s)
	}
}

func TestReadStateOfOtherBytes(t *testing.T) {
	stateForm().checkBytes(t, impl.NewState())
	stateForm().checkBytes(t, []impl.Tenant{impl.NewTenant(), livedWith(func(t *impl.Tenant) { t.Vol, t.Audit = impl.NewVol(), audit(1) }), impl.NewTenant()})
}

// A state has just three pieces, each of them a tenant's whole text.
func TestReadStatePieces(t *testing.T) {
	of := func(texts ...string) string {
		out := ""
		for _, text := range texts {
			out += joined(pieceTokens(text))
		}
		return out
	}
	s, fresh := impl.ShowTenant(livedTenant()), impl.ShowTenant(impl.NewTenant())
	for count := range 7 {
		if stateForm().checkRead(t, of(slices.Repeat([]string{fresh}, count)...)) != (count == 3) {
			t.Errorf("%d pieces", count)
		}
	}
	at := func(place int, text string) string {
		texts := []string{fresh, s, fresh}
		texts[place] = text
		return of(texts...)
	}
	for place := range 3 {
		if !stateForm().checkRead(t, at(place, s)) || !stateForm().checkRead(t, at(place, fresh)) {
			t.Error("whole pieces")
		}
		for size := range len(s) {
			stateForm().checkRefused(t, "a tenant cut off", at(place, s[:size]))
		}
		for c := range 256 {
			stateForm().checkRefused(t, "a byte behind a tenant", at(place, s+string([]byte{byte(c)})))
		}
		for _, text := range []string{"", "\x00", s + s, fresh + fresh, of(s), of(fresh, s, fresh), "f", strings.Repeat("\x00", 100)} {
			stateForm().checkRefused(t, "no tenant", at(place, text))
		}
		for _, n := range []int{0, 15, 17, 127, 1 << 20, math.MaxInt32, math.MaxUint32, impl.MaxVar} {
			bent := []string{of(fresh), of(fresh), of(fresh)}
			bent[place] = wantVar(n) + fresh
			stateForm().checkRefused(t, fmt.Sprint(n, " bytes of a tenant"), strings.Join(bent, ""))
			stateForm().checkRefused(t, fmt.Sprint(n, " bytes of a tenant, bytes behind"), strings.Join(bent, "")+strings.Repeat("\x00", 1<<12))
		}
	}
}

// What would be the text of a list that is no state is none, where its numbers can be written.
func TestTextsOfWrongStates(t *testing.T) {
	for at := range 3 {
		for _, who := range []impl.Tenant{{}, livedWith(func(t *impl.Tenant) { t.Tokens = 31 }), livedWith(func(t *impl.Tenant) { t.Audit = audit(21) }), livedWith(func(t *impl.Tenant) { t.Sessions = sessionsOf(2, 1) }), livedWith(func(t *impl.Tenant) { t.Vol = wideVol(25) }), livedWith(func(t *impl.Tenant) { slices.Reverse(t.Audit) })} {
			s := stateWith(func(s []impl.Tenant) { s[at] = who })
			stateForm().checkShow(t, s)
			stateForm().checkRefused(t, "a tenant that is not right", joined(stateTokens(s)))
		}
	}
	for _, size := range []int{0, 1, 2, 4, 5, 100} {
		s := slices.Repeat([]impl.Tenant{livedTenant()}, size)
		stateForm().checkShow(t, s)
		stateForm().checkRefused(t, fmt.Sprint(size, " tenants"), joined(stateTokens(s)))
	}
}

// Promise 8 with promise 11: a state takes those pieces that ReadTenant takes.
func TestStatesTakeTenants(t *testing.T) {
	r := rand.New(rand.NewSource(110))
	fresh := joined(pieceTokens(impl.ShowTenant(impl.NewTenant())))
	taken, refused := 0, 0
	for i := range 2500 {
		s := bentText(r, tenantTokens(someTenant(r)))
		who, ok := impl.ReadTenant(s)
		texts := []string{fresh, fresh, fresh}
		texts[i%3] = impl.Var(len(s)) + s
		got, read := impl.ReadState(strings.Join(texts, ""))
		if read != ok || ok && !sameTenant(got[i%3], who) || !ok && got != nil {
			t.Fatalf("%q is the tenant %+v, %v, and in a state %+v, %v", s, who, ok, got, read)
		}
		if ok {
			taken++
		} else {
			refused++
		}
	}
	if taken < 200 || refused < 500 {
		t.Error("so many are taken, refused:", taken, refused)
	}
}
