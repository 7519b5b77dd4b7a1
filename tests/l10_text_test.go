package tests

import (
	"fmt"
	"math"
	"math/rand"
	"slices"
	"strings"
	"testing"

	"loop.example/g00757/impl"
)

func tenantTokens(t impl.Tenant) []token {
	out := append(pieceTokens(joined(volTokens(t.Vol))), num(t.Tokens), num(len(t.Audit)))
	for _, n := range t.Audit {
		out = append(out, num(n.Index), num(n.Client), num(n.Serial), num(n.Kind), num(n.Code))
	}
	out = append(out, num(len(t.Sessions)))
	for _, s := range t.Sessions {
		out = append(out, num(s.Client), num(s.Serial), num(s.Index))
		out = append(out, pieceTokens(joined(resultTokens(s.Result)))...)
	}
	return out
}

func (e *eater) tenant() impl.Tenant {
	t, inner := impl.Tenant{}, eater{left: e.piece()}
	t.Vol = inner.vol()
	e.lacks = e.lacks || inner.lacks || inner.left != ""
	t.Tokens = e.number()
	for left := e.number(); left > 0 && !e.lacks; left-- {
		n := impl.Note{}
		for _, field := range []*int{&n.Index, &n.Client, &n.Serial, &n.Kind, &n.Code} {
			*field = e.number()
		}
		t.Audit = append(t.Audit, n)
	}
	for left := e.number(); left > 0 && !e.lacks; left-- {
		s := impl.Session{}
		for _, field := range []*int{&s.Client, &s.Serial, &s.Index} {
			*field = e.number()
		}
		inner := eater{left: e.piece()}
		s.Result = inner.result()
		e.lacks = e.lacks || inner.lacks
		t.Sessions = append(t.Sessions, s)
	}
	return t
}

func tenantForm() form[impl.Tenant] {
	return form[impl.Tenant]{impl.ShowTenant, impl.ReadTenant, tenantTokens, (*eater).tenant, wantTenantOk, sameTenant}
}

// fullTenant is as full as may be, with each number at its greatest.
func fullTenant() impl.Tenant {
	t := impl.Tenant{Vol: edgeVol(), Tokens: 30, Audit: slices.Repeat([]impl.Note{{Index: 100000, Client: 3, Serial: 1000000, Kind: 22, Code: 200}}, 20)}
	for client := 1; client <= 3; client++ {
		t.Sessions = append(t.Sessions, impl.Session{Client: client, Serial: 1000000, Index: 100000, Result: impl.Result{Code: 200, Data: strings.Repeat(everyByte(), 2)[:400]}})
	}
	return t
}

func textTenants() []impl.Tenant {
	out := []impl.Tenant{impl.NewTenant(), livedTenant(), fullTenant(), livedWithTokens(0, 0), livedWithTokens(1, 1), livedWithTokens(29, 19)}
	for _, clients := range [][]int{{1}, {2}, {3}, {1, 2}, {2, 3}, {1, 2, 3}} {
		out = append(out, livedWith(func(t *impl.Tenant) { t.Vol, t.Sessions = impl.NewVol(), sessionsOf(clients...) }))
	}
	return out
}

func TestShowTenant(t *testing.T) {
	newVol := "\x0c" + "\x02\x01\x01\x02\xff\x07\x00\x00\x00\x00\x00\x00"
	lived := impl.NewTenant()
	lived.Tokens, lived.Audit = 0, []impl.Note{{Index: 1, Client: 2, Serial: 3, Kind: 4, Code: 5}, {Index: 100000, Client: 3, Serial: 1000000, Kind: 22, Code: 200}}
	lived.Sessions = []impl.Session{{Client: 1, Serial: 128, Index: 127}, {Client: 3, Serial: 1000000, Index: 100000, Result: impl.Result{Code: 200, Data: "told"}}}
	for _, c := range []struct {
		who  impl.Tenant
		want string
	}{
		{impl.NewTenant(), newVol + "\x1e\x00" + "\x00"},
		{lived, newVol + "\x00\x02" + "\x01\x02\x03\x04\x05" + "\xa0\x8d\x06\x03\xc0\x84\x3d\x16\xc8\x01" + "\x02" + "\x01\x80\x01\x7f\x01\x00" + "\x03\xc0\x84\x3d\xa0\x8d\x06\x06\xc8\x01told"},
	} {
		tenantForm().checkText(t, c.who, c.want)
	}
	for _, who := range textTenants() {
		if tenantForm().checkShow(t, who) == "" {
			t.Errorf("no text of %+v", who)
		}
	}
	empty := livedWith(func(t *impl.Tenant) { t.Audit, t.Sessions = []impl.Note{}, []impl.Session{} })
	if impl.ShowTenant(empty) == "" || impl.ShowTenant(empty) != impl.ShowTenant(livedWith(func(t *impl.Tenant) { t.Audit, t.Sessions = nil, nil })) {
		t.Error("an empty list is not nil")
	}
	if back, ok := impl.ReadTenant(impl.ShowTenant(empty)); !ok || back.Audit != nil || back.Sessions != nil {
		t.Errorf("read with no notes: %+v", back)
	}
}

func TestReadTenantRefuses(t *testing.T) {
	for _, who := range textTenants() {
		tenantForm().checkWhole(t, who)
	}
	for _, s := range append(texts(), "", "\x00", "\x00\x00\x00\x00", "\x00\x1e\x00\x00") {
		tenantForm().checkRefused(t, "no tenant", s)
	}
}

func TestReadTenantOfOtherNumbers(t *testing.T) {
	for _, who := range textTenants() {
		tenantForm().checkNumbers(t, who)
	}
}

func TestReadTenantOfOtherBytes(t *testing.T) {
	small := livedWith(func(t *impl.Tenant) { t.Vol, t.Audit = impl.NewVol(), audit(2) })
	for _, who := range []impl.Tenant{impl.NewTenant(), small} {
		tenantForm().checkBytes(t, who)
	}
}

// A tenant that is not right has no text, and the text that it would have is no tenant's.
func TestTextsOfWrongTenants(t *testing.T) {
	var wrong []impl.Tenant
	for _, v := range wrongVols() {
		wrong = append(wrong, livedWith(func(t *impl.Tenant) { t.Vol = v }))
	}
	for _, clients := range [][]int{{0}, {4}, {1, 1}, {2, 1}, {1, 2, 2}, {1, 2, 3, 3}, {1, 2, 3, 4}, {-1}, {0, 1, 2, 3}} {
		wrong = append(wrong, livedWith(func(t *impl.Tenant) { t.Sessions = sessionsOf(clients...) }))
	}
	for _, n := range []int{math.MinInt, -1, 0, 201, 100001, 1000001, math.MaxInt} {
		for _, change := range []func(t *impl.Tenant){
			func(t *impl.Tenant) { t.Tokens = n - 1 }, func(t *impl.Tenant) { t.Sessions[0].Serial = n }, func(t *impl.Tenant) { t.Sessions[1].Index = n }, func(t *impl.Tenant) { t.Sessions[1].Result.Code = n },
			func(t *impl.Tenant) { t.Audit[4].Code = n }, func(t *impl.Tenant) { t.Audit[0].Serial = n }, func(t *impl.Tenant) { t.Audit[1].Index = n },
		} {
			wrong = append(wrong, livedWith(change))
		}
	}
	wrong = append(wrong, livedWith(func(t *impl.Tenant) { t.Audit = audit(21) }), livedWith(func(t *impl.Tenant) { slices.Reverse(t.Audit) }), livedWith(func(t *impl.Tenant) { t.Sessions[0].Result.Data = strings.Repeat("x", 401) }))
	refused := 0
	for _, who := range wrong {
		s := joined(tenantTokens(who))
		tenantForm().checkShow(t, who)
		if !tenantForm().checkRead(t, s) {
			refused++
		}
	}
	// What is left of these would be right: a Serial of 201 is, and so on.
	if refused < len(wrong)-20 {
		t.Errorf("of %d texts so many are refused: %d", len(wrong), refused)
	}
}

// A count of more than there are, of notes, sessions or bytes, up to as many as a number can tell; and of less.
func TestReadTenantCounts(t *testing.T) {
	v := "\x0c" + "\x02\x01\x01\x02\xff\x07\x00\x00\x00\x00\x00\x00"
	note, session := "\x01\x01\x01\x01\x00", "\x01\x01\x01\x01\x00"
	for _, n := range []int{0, 2, 3, 4, 19, 20, 21, 127, 128, 1 << 14, 1 << 20, math.MaxInt32, math.MaxUint32, impl.MaxVar} {
		for _, c := range []struct{ what, s string }{
			{"notes", v + "\x1e" + wantVar(n) + note + "\x00"},
			{"notes, notes behind", v + "\x1e" + wantVar(n) + strings.Repeat(note, 1<<15) + "\x00"},
			{"sessions", v + "\x1e\x00" + wantVar(n) + session},
			{"sessions, sessions behind", v + "\x1e\x00" + wantVar(n) + strings.Repeat(session, 1<<15)},
			{"bytes of a result", v + "\x1e\x00\x01\x01\x01\x01" + wantVar(n) + "\x00"},
			{"bytes of a volume", wantVar(n) + v[1:] + "\x1e\x00\x00"},
		} {
			tenantForm().checkRefused(t, fmt.Sprint("a count of ", n, " ", c.what), c.s)
			tenantForm().checkRead(t, c.s)
		}
	}
	for _, s := range []string{v + "\x1e\x01" + note + "\x00", v + "\x1e\x00\x01" + session, v + "\x1e\x14" + strings.Repeat(note, 20) + "\x00"} {
		if !tenantForm().checkRead(t, s) {
			t.Errorf("%q is no tenant", s)
		}
	}
	if tenantForm().checkRead(t, v+"\x1e\x15"+strings.Repeat(note, 21)+"\x00") {
		t.Error("21 notes")
	}
}

// The piece of a volume is one's whole text, that of a result is one's, too: no byte lacks, none is behind.
func TestReadTenantPieces(t *testing.T) {
	who := livedTenant()
	of := func(v, result string) string {
		tokens := slices.Concat(pieceTokens(v), []token{num(20), num(0), num(1), num(2), num(7), num(9)}, pieceTokens(result))
		return joined(tokens)
	}
	v, result := impl.ShowVol(who.Vol), impl.ShowResult(impl.Result{Code: 128, Data: "told"})
	if !tenantForm().checkRead(t, of(v, result)) || !tenantForm().checkRead(t, of(v, "\x00")) {
		t.Error("whole pieces")
	}
	for at := range len(v) {
		tenantForm().checkRefused(t, "a volume cut off", of(v[:at], result))
	}
	for c := range 256 {
		tenantForm().checkRefused(t, "a byte behind a volume", of(v+string([]byte{byte(c)}), result))
	}
	for _, bent := range []string{"", "\x80", "\x80\x00", "\xc9\x01", "\xc9\x01told", "\xff\xff\xff", "\x81\x80\x00told", "\x00" + strings.Repeat("x", 401)} {
		tenantForm().checkRefused(t, "no result", of(v, bent))
	}
	if !tenantForm().checkRead(t, of(v, "\x00"+strings.Repeat("x", 400))) {
		t.Error("a result as long as may be")
	}
	for _, bent := range wrongVols() {
		s := of(joined(volTokens(bent)), result)
		tenantForm().checkRead(t, s)
	}
	r := rand.New(rand.NewSource(100))
	for range 3000 {
		tenantForm().checkRead(t, of(bentText(r, volTokens(someTextVol(r))), bentText(r, resultTokens(someTextResult(r)))))
	}
}
