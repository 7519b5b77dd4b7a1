package tests

import (
	"math"
	"slices"
	"testing"

	"loop.example/g00757/impl"
)

// turnCase is a turn, what it is told, and if it is done.
type turnCase struct {
	a    turn
	res  impl.Result
	done bool
}

func checkTurns(t *testing.T, who impl.Tenant, cases []turnCase) {
	t.Helper()
	if !impl.TenantOk(who) {
		t.Fatalf("not right: %+v", who)
	}
	for _, c := range cases {
		got, res, done := tenantDo(t, who, c.a)
		if res != c.res || done != c.done {
			t.Errorf("%+v: %+v, %v, want %+v, %v", c.a, res, done, c.res, c.done)
		}
		if !done && !sameTenant(got, who) {
			t.Errorf("%+v is not done, and leaves %+v", c.a, got)
		}
		if done && wantSession(got, c.a.client) != (impl.Session{Client: c.a.client, Serial: c.a.serial, Index: c.a.index, Result: res}) {
			t.Errorf("%+v is done, and leaves the sessions %+v", c.a, got.Sessions)
		}
	}
}

var stats = callAt(impl.CaStatfs, "")

func statsTold(client, serial, index int) turnCase {
	return turnCase{turn{client, serial, stats, index}, impl.Result{Data: "9 5"}, true}
}

func nothing(client, serial, index int) turnCase {
	return turnCase{turn{client, serial, stats, index}, impl.Result{}, false}
}

// again is the last call of a client, whatever the call is now.
func again(client, serial, index int, res impl.Result) turnCase {
	return turnCase{turn{client, serial, stats, index}, res, false}
}

func TestTenantDoOfClients(t *testing.T) {
	cases := []turnCase{statsTold(1, 5, 12), statsTold(2, 1, 12), statsTold(3, 9, 12)}
	for _, client := range append(farNumbers(), 0, 4, 5, 257, 258, 1<<32+2) {
		for _, serial := range []int{0, 1, 4, 5, 9} {
			cases = append(cases, nothing(client, serial, 12))
		}
	}
	checkTurns(t, livedTenant(), cases)
}

func TestTenantDoOfSerials(t *testing.T) {
	lived := livedTenant()
	one, three := lived.Sessions[0].Result, lived.Sessions[1].Result
	cases := []turnCase{
		again(1, 4, 12, one), statsTold(1, 5, 12), nothing(1, 3, 12), nothing(1, 6, 12), nothing(1, 1, 12), nothing(1, 8, 12), nothing(1, 9, 12),
		again(3, 8, 12, three), statsTold(3, 9, 12), nothing(3, 7, 12), nothing(3, 10, 12), nothing(3, 1, 12), nothing(3, 4, 12), nothing(3, 5, 12),
		statsTold(2, 1, 12), nothing(2, 2, 12), nothing(2, 4, 12), nothing(2, 5, 12), nothing(2, 8, 12), nothing(2, 9, 12),
	}
	for client := 1; client <= 3; client++ {
		for _, serial := range append(farNumbers(), 0, -5, 99, 999999, 1000000, 1000001) {
			cases = append(cases, nothing(client, serial, 12))
		}
	}
	checkTurns(t, lived, cases)
	// The last serials of all.
	for _, serial := range []int{999998, 999999, 1000000} {
		late := livedWith(func(t *impl.Tenant) { t.Sessions[0].Serial = serial })
		next := statsTold(1, serial+1, 12)
		if serial == 1000000 {
			next = nothing(1, serial+1, 12)
		}
		checkTurns(t, late, []turnCase{again(1, serial, 12, one), next, nothing(1, serial+2, 12), nothing(1, serial-1, 12), nothing(1, 0, 12), nothing(1, 1, 12)})
	}
}

// A client without a session has the last serial 0, which is no serial of a call.
func TestTenantDoOfFirstSerials(t *testing.T) {
	for client := range 5 {
		for serial := -2; serial < 4; serial++ {
			a := turn{client, serial, stats, 1}
			_, res, done := tenantDo(t, impl.NewTenant(), a)
			first := client >= 1 && client <= 3 && serial == 1
			if done != first || !first && res != (impl.Result{}) || first && res.Data != "1 0" {
				t.Errorf("%+v: %+v, %v", a, res, done)
			}
		}
	}
}

func TestTenantDoOfIndexes(t *testing.T) {
	told := livedTenant().Sessions[0].Result
	var cases []turnCase
	for _, index := range []int{12, 13, 99999, 100000} {
		cases = append(cases, statsTold(2, 1, index), statsTold(1, 5, index), statsTold(3, 9, index), again(1, 4, index, told), nothing(2, 2, index))
	}
	for _, index := range []int{0, -1, -12, 1, 3, 9, 10, 11, 100001, 1<<32 + 12, math.MinInt, math.MaxInt} {
		cases = append(cases, nothing(2, 1, index), nothing(1, 5, index), nothing(3, 9, index), nothing(1, 4, index), nothing(2, 2, index))
	}
	checkTurns(t, livedTenant(), cases)
	fresh := []turnCase{}
	for _, index := range []int{1, 2, 100000} {
		fresh = append(fresh, turnCase{turn{1, 1, stats, index}, impl.Result{Data: "1 0"}, true})
	}
	for _, index := range []int{0, -1, 100001, math.MinInt, math.MaxInt} {
		fresh = append(fresh, nothing(1, 1, index))
	}
	checkTurns(t, impl.NewTenant(), fresh)
}

// Each note's index and each session's is the least one in its turn, its own client's or not.
func TestTenantDoOfEachIndex(t *testing.T) {
	for at := range 4 {
		who := livedWith(func(t *impl.Tenant) {
			t.Sessions = sessionsOf(1, 2, 3)
			for i := range t.Sessions {
				t.Sessions[i].Index = 40
			}
			if at < 3 {
				t.Sessions[at].Index = 50
			} else {
				t.Audit[4].Index = 50
			}
		})
		var cases []turnCase
		for client := 1; client <= 3; client++ {
			cases = append(cases, nothing(client, client+1, 49), statsTold(client, client+1, 50), statsTold(client, client+1, 51), nothing(client, client+1, 39), nothing(client, client+1, 40),
				nothing(client, client, 49), again(client, client, 50, impl.Result{}))
		}
		checkTurns(t, who, cases)
	}
	// The greatest index of all is passed by none.
	for _, who := range []impl.Tenant{livedWith(func(t *impl.Tenant) { t.Sessions[0].Index = 100000 }), livedWith(func(t *impl.Tenant) { t.Audit[4].Index = 100000 })} {
		checkTurns(t, who, []turnCase{nothing(2, 1, 99999), statsTold(2, 1, 100000), nothing(2, 1, 100001)})
	}
}

// What comes twice is done once, and told the same, whatever is called then, at any later number.
func TestTenantDoTwice(t *testing.T) {
	others := append(callsOfEachKind(), impl.Call{}, impl.Call{Kind: 23}, callAt(impl.CaArchive, ""), callAt(impl.CaReadaudit, "", -1), callAt(impl.CaReadaudit, ""))
	for _, x := range others {
		for client := 1; client <= 3; client++ {
			who := livedTenant()
			serial := wantSession(who, client).Serial + 1
			once, res, done := tenantDo(t, who, turn{client, serial, x, 14})
			if !done {
				t.Fatalf("%+v is not done", x)
			}
			for _, index := range []int{14, 15, 100000} {
				for _, other := range []impl.Call{x, others[index%3], others[19], others[21]} {
					checkTurns(t, once, []turnCase{{turn{client, serial, other, index}, res, false}})
				}
			}
			checkTurns(t, once, []turnCase{nothing(client, serial, 13), nothing(client, serial-1, 14), nothing(client, serial+2, 14)})
		}
	}
}

// A turn between two others that are alike changes nothing of what the first one is told.
func TestTenantDoTwiceBehindOthers(t *testing.T) {
	who, res, _ := tenantDo(t, livedTenant(), turn{2, 1, callAt(impl.CaReaddir, "/d"), 14})
	who, _, _ = tenantDo(t, who, turn{1, 5, callAt(impl.CaUnlink, "/d/f"), 15})
	who, _, _ = tenantDo(t, who, turn{3, 9, callAt(impl.CaMkdir, "/d/g", 511), 15})
	if res.Data != "e/f/l" {
		t.Error(res)
	}
	checkTurns(t, who, []turnCase{{turn{2, 1, callAt(impl.CaReaddir, "/d"), 16}, res, false}, {turn{2, 2, callAt(impl.CaReaddir, "/d"), 16}, impl.Result{Data: "e/g/l"}, true}})
}

// tenantStep is a call and what it leaves: tokens and notes.
type tenantStep struct {
	what   string
	who    impl.Tenant
	client int
	x      impl.Call
	res    impl.Result
	tokens int
	notes  int
}

func checkTenantSteps(t *testing.T, cases []tenantStep) {
	t.Helper()
	for _, c := range cases {
		a := turn{c.client, wantSession(c.who, c.client).Serial + 1, c.x, 12}
		got, res, done := tenantDo(t, c.who, a)
		if !done || res != c.res || got.Tokens != c.tokens || len(got.Audit) != c.notes {
			t.Errorf("%s: %+v, %v, %d tokens, %d notes, want %+v, %d, %d", c.what, res, done, got.Tokens, len(got.Audit), c.res, c.tokens, c.notes)
		}
		if c.notes == len(c.who.Audit)+1 {
			if note := got.Audit[c.notes-1]; note != (impl.Note{Index: 12, Client: c.client, Serial: a.serial, Kind: c.x.Kind, Code: res.Code}) || !slices.Equal(got.Audit[:c.notes-1], c.who.Audit) {
				t.Errorf("%s: the notes are %+v", c.what, got.Audit)
			}
		}
	}
}

func livedWithTokens(tokens, notes int) impl.Tenant {
	return livedWith(func(t *impl.Tenant) { t.Tokens, t.Audit = tokens, audit(notes) })
}

func code(n int) impl.Result { return impl.Result{Code: n} }

// 1: what is not CallOk costs nothing and leaves no note, whatever else would be refused.
func TestTenantStepCall(t *testing.T) {
	var cases []tenantStep
	for _, x := range []impl.Call{
		{}, {Kind: 23}, {Kind: -1}, {Kind: math.MinInt}, {Kind: math.MaxInt}, {Kind: impl.CaStatfs, N: impl.MaxArg + 1}, {Kind: impl.CaStatfs, M: -impl.MaxArg - 1}, {Kind: impl.CaRead, To: "a"},
		{Kind: impl.CaArchive, N: impl.MaxArg + 1}, {Kind: impl.CaArchive, Data: "x"}, {Kind: impl.CaReadaudit, N: -impl.MaxArg - 1}, {Kind: impl.CaReadaudit, To: "x"}, {Kind: impl.CaMkdir, Path: everyByte()[:61]},
	} {
		for client := 1; client <= 3; client++ {
			for _, notes := range []int{0, 19, 20} {
				for _, tokens := range []int{0, 2, 30} {
					cases = append(cases, tenantStep{"not CallOk", livedWithTokens(tokens, notes), client, x, code(impl.EInval), tokens, notes})
				}
			}
		}
	}
	checkTenantSteps(t, cases)
}

// 2: of too few tokens none is spent, and the call is noted where there is room, whatever else would be refused.
func TestTenantStepTokens(t *testing.T) {
	list := callAt(impl.CaReaddir, "/d")
	made := callAt(impl.CaMkdir, "/d/new", 511)
	checkTenantSteps(t, []tenantStep{
		{"one for one", livedWithTokens(1, 5), 2, list, impl.Result{Data: "e/f/l"}, 0, 5},
		{"none for one", livedWithTokens(0, 5), 2, list, code(impl.EAgain), 0, 6},
		{"three for three", livedWithTokens(3, 5), 2, made, impl.Result{}, 0, 6},
		{"two for three", livedWithTokens(2, 5), 2, made, code(impl.EAgain), 2, 6},
		{"none for three", livedWithTokens(0, 5), 2, made, code(impl.EAgain), 0, 6},
		{"all for three", livedWithTokens(30, 5), 2, made, impl.Result{}, 27, 6},
		{"all for one", livedWithTokens(30, 5), 2, list, impl.Result{Data: "e/f/l"}, 29, 5},
		{"the 20th note", livedWithTokens(0, 19), 2, list, code(impl.EAgain), 0, 20},
		{"no room to note it", livedWithTokens(0, 20), 2, list, code(impl.EAgain), 0, 20},
		{"no room to note it, of three", livedWithTokens(2, 20), 2, made, code(impl.EAgain), 2, 20},
		{"ahead of EPerm, to tell notes", livedWithTokens(0, 5), 2, callAt(impl.CaReadaudit, ""), code(impl.EAgain), 0, 6},
		{"ahead of EInval, to tell notes", livedWithTokens(0, 5), 1, callAt(impl.CaReadaudit, "", -1), code(impl.EAgain), 0, 6},
		{"ahead of EPerm, to archive", livedWithTokens(2, 5), 3, callAt(impl.CaArchive, ""), code(impl.EAgain), 2, 6},
		{"to archive", livedWithTokens(2, 5), 1, callAt(impl.CaArchive, ""), code(impl.EAgain), 2, 6},
		{"to archive all", livedWithTokens(2, 20), 1, callAt(impl.CaArchive, ""), code(impl.EAgain), 2, 20},
		{"ahead of what the volume refuses", livedWithTokens(0, 5), 2, callAt(impl.CaReaddir, "/no"), code(impl.EAgain), 0, 6},
	})
	for kind := 1; kind <= 22; kind++ {
		for tokens := range 31 {
			got, res, _ := tenantDo(t, livedWithTokens(tokens, 3), turn{1, 5, callAt(kind, "/d/f"), 12})
			if left, enough := wantSpend(tokens, kind); got.Tokens != left || (res.Code == impl.EAgain) == enough {
				t.Errorf("kind %d for %d tokens: %d are left, %+v", kind, tokens, got.Tokens, res)
			}
		}
	}
}

// 3 and 4: notes are told to client 1 and put away by it alone; what is refused is noted.
func TestTenantStepNotes(t *testing.T) {
	tell := func(from int) impl.Call { return callAt(impl.CaReadaudit, "", from) }
	archive := callAt(impl.CaArchive, "")
	checkTenantSteps(t, []tenantStep{
		{"from 0", livedWithTokens(9, 2), 1, tell(0), impl.Result{Data: "1.1.1.1.0 1.2.6.2.11"}, 8, 2},
		{"from 1", livedWithTokens(9, 2), 1, tell(1), impl.Result{Data: "1.2.6.2.11"}, 8, 2},
		{"from behind the last one", livedWithTokens(9, 2), 1, tell(2), impl.Result{}, 8, 2},
		{"from the greatest number", livedWithTokens(9, 2), 1, tell(impl.MaxArg), impl.Result{}, 8, 2},
		{"of none", livedWithTokens(9, 0), 1, tell(0), impl.Result{}, 8, 0},
		{"of 20", livedWithTokens(9, 20), 1, tell(19), impl.Result{Data: impl.ShowAudit(audit(20), 19)}, 8, 20},
		{"six of 20", livedWithTokens(9, 20), 1, tell(3), impl.Result{Data: impl.ShowAudit(audit(20), 3)}, 8, 20},
		{"from below 0", livedWithTokens(9, 2), 1, tell(-1), code(impl.EInval), 8, 3},
		{"from far below 0", livedWithTokens(9, 2), 1, tell(-impl.MaxArg), code(impl.EInval), 8, 3},
		{"from below 0, no room", livedWithTokens(9, 20), 1, tell(-1), code(impl.EInval), 8, 20},
		{"by 2", livedWithTokens(9, 2), 2, tell(0), code(impl.EPerm), 8, 3},
		{"by 3", livedWithTokens(9, 2), 3, tell(0), code(impl.EPerm), 8, 3},
		{"by 2, from below 0", livedWithTokens(9, 2), 2, tell(-1), code(impl.EPerm), 8, 3},
		{"by 3, from behind", livedWithTokens(9, 2), 3, tell(9), code(impl.EPerm), 8, 3},
		{"by 2, no room", livedWithTokens(9, 20), 2, tell(0), code(impl.EPerm), 8, 20},
		{"by 2, the 20th", livedWithTokens(9, 19), 2, tell(0), code(impl.EPerm), 8, 20},
		{"what else it bears is not looked at", livedWithTokens(9, 2), 1, impl.Call{Kind: impl.CaReadaudit, Path: "no path", N: 1, M: -5}, impl.Result{Data: "1.2.6.2.11"}, 8, 2},
		{"archive", livedWithTokens(9, 2), 1, archive, impl.Result{}, 6, 0},
		{"archive none", livedWithTokens(9, 0), 1, archive, impl.Result{}, 6, 0},
		{"archive 19", livedWithTokens(9, 19), 1, archive, impl.Result{}, 6, 0},
		{"archive 20", livedWithTokens(9, 20), 1, archive, impl.Result{}, 6, 0},
		{"archive of the last tokens", livedWithTokens(3, 20), 1, archive, impl.Result{}, 0, 0},
		{"archive, whatever else it bears", livedWithTokens(9, 2), 1, impl.Call{Kind: impl.CaArchive, Path: "no path", N: -1, M: -5}, impl.Result{}, 6, 0},
		{"archive by 2", livedWithTokens(9, 2), 2, archive, code(impl.EPerm), 6, 3},
		{"archive by 3", livedWithTokens(9, 2), 3, archive, code(impl.EPerm), 6, 3},
		{"archive none by 2", livedWithTokens(9, 0), 2, archive, code(impl.EPerm), 6, 1},
		{"archive 20 by 2", livedWithTokens(9, 20), 2, archive, code(impl.EPerm), 6, 20},
	})
}

// 5: with MaxAudit notes nothing is done that would be one more; what only tells goes on.
func TestTenantStepRoom(t *testing.T) {
	for _, x := range callsOfEachKind() {
		_, free := wantVolDo(flawVol(), someone, x)
		res, notes := code(impl.ENoSpc), 20
		if wantCost(x.Kind) == 1 {
			res, notes = free, 19
		}
		checkTenantSteps(t, []tenantStep{
			{"20 notes", livedWithTokens(9, 20), 2, x, res, 9 - wantCost(x.Kind), 20},
			{"19 notes", livedWithTokens(9, 19), 2, x, free, 9 - wantCost(x.Kind), notes},
		})
		if got, _, _ := tenantDo(t, livedWithTokens(9, 20), turn{2, 1, x, 12}); !sameVol(got.Vol, flawVol()) {
			t.Errorf("%+v is done, with no room to note it", x)
		}
	}
	no := callAt(impl.CaReaddir, "/no")
	checkTenantSteps(t, []tenantStep{
		{"what tells and is refused, 20 notes", livedWithTokens(9, 20), 2, no, code(impl.ENoEnt), 8, 20},
		{"what tells and is refused, 19 notes", livedWithTokens(9, 19), 2, no, code(impl.ENoEnt), 8, 20},
		{"ahead of what the volume refuses", livedWithTokens(9, 20), 2, callAt(impl.CaMkdir, "/d"), code(impl.ENoSpc), 6, 20},
		{"what the volume refuses", livedWithTokens(9, 19), 2, callAt(impl.CaMkdir, "/d"), code(impl.EExist), 6, 20},
		{"quotas, 20 notes", livedWithTokens(9, 20), 1, callAt(impl.CaSetquota, "/d", 100, 9), code(impl.ENoSpc), 6, 20},
	})
}

// 6: each client calls with its own Cred.
func TestTenantStepVolume(t *testing.T) {
	who := livedWith(func(t *impl.Tenant) {
		t.Vol = volOf(owned(fileAt("/zero"), 0, 0, 0o600), owned(fileAt("/two"), 2, 9, 0o600), owned(fileAt("/three"), 3, 9, 0o600), owned(fileAt("/group2"), 9, 2, 0o060), owned(fileAt("/group5"), 9, 5, 0o060), owned(dirAt("/d"), 9, 9, 0o1777), owned(fileAt("/d/f"), 3, 3, 0o600))
	})
	quota := callAt(impl.CaSetquota, "/d", 100, 9)
	for _, c := range []struct {
		x     impl.Call
		codes [3]int
	}{
		{callAt(impl.CaRead, "/zero"), [3]int{impl.EOk, impl.EAcces, impl.EAcces}},
		{callAt(impl.CaRead, "/two"), [3]int{impl.EOk, impl.EOk, impl.EAcces}},
		{callAt(impl.CaRead, "/three"), [3]int{impl.EOk, impl.EAcces, impl.EOk}},
		{callAt(impl.CaRead, "/group2"), [3]int{impl.EOk, impl.EOk, impl.EOk}},
		{callAt(impl.CaRead, "/group5"), [3]int{impl.EOk, impl.EOk, impl.EAcces}},
		{callAt(impl.CaUnlink, "/d/f"), [3]int{impl.EOk, impl.EPerm, impl.EOk}},
		{callAt(impl.CaChown, "/two", 2, 5), [3]int{impl.EOk, impl.EOk, impl.EPerm}},
		{callAt(impl.CaChown, "/three", 3, 2), [3]int{impl.EOk, impl.EPerm, impl.EOk}},
		{callAt(impl.CaChown, "/three", 3, 5), [3]int{impl.EOk, impl.EPerm, impl.EPerm}},
		{quota, [3]int{impl.EOk, impl.EPerm, impl.EPerm}},
		{callAt(impl.CaMkdir, "/d/new", 2048), [3]int{impl.EInval, impl.EInval, impl.EInval}},
		{callAt(impl.CaRead, "/d"), [3]int{impl.EIsDir, impl.EIsDir, impl.EIsDir}},
		{callAt(impl.CaStat, "/no"), [3]int{impl.ENoEnt, impl.ENoEnt, impl.ENoEnt}},
	} {
		for i, want := range c.codes {
			notes := 6
			if want == impl.EOk && wantCost(c.x.Kind) == 1 {
				notes = 5
			}
			checkTenantSteps(t, []tenantStep{{impl.Dec(i + 1), who, i + 1, c.x, code(want), 20 - wantCost(c.x.Kind), notes}})
		}
	}
	got, _, _ := tenantDo(t, who, turn{1, 5, quota, 12})
	if dir := inodeOf(got.Vol, 7); dir.MaxB != 100 || dir.MaxI != 9 || inodeOf(got.Vol, 1).MaxB != 0 {
		t.Errorf("the quota is set in %+v", got.Vol)
	}
	// With its own quota client 1 is held, too.
	tight := livedWith(func(t *impl.Tenant) { t.Vol.Inodes[0].MaxB = 5 })
	checkTenantSteps(t, []tenantStep{{"over", tight, 1, writeAt("/d/f", 3, "x"), code(impl.EDQuot), 17, 6}})
}

// What was done stands in the notes; what tells is seen there only where it was refused.
func TestTenantNotesOfEachKind(t *testing.T) {
	for _, x := range callsOfEachKind() {
		notes := 6
		if wantCost(x.Kind) == 1 {
			notes = 5
		}
		_, res := wantVolDo(flawVol(), someone, x)
		lost := x
		lost.Path = "/no/way"
		checkTenantSteps(t, []tenantStep{{"done", livedTenant(), 2, x, res, 20 - wantCost(x.Kind), notes}})
		if x.Kind != impl.CaStatfs {
			checkTenantSteps(t, []tenantStep{{"refused", livedTenant(), 2, lost, code(impl.ENoEnt), 20 - wantCost(x.Kind), 6}})
		}
	}
}

// A call is its client's session: the others' stand as they were, in the order of clients.
func TestTenantSessions(t *testing.T) {
	who := impl.NewTenant()
	for i, client := range []int{3, 1, 2, 2, 3, 1, 1} {
		was := who.Sessions
		serial := wantSession(who, client).Serial + 1
		next, res, done := tenantDo(t, who, turn{client, serial, callAt(impl.CaCreate, "/f"+impl.Dec(i), 420), 5 + i})
		if !done || res != (impl.Result{}) {
			t.Fatalf("%d: %+v, %v", i, res, done)
		}
		for _, s := range next.Sessions {
			want := impl.Session{Client: client, Serial: serial, Index: 5 + i}
			if s.Client != client {
				want = was[slices.IndexFunc(was, func(other impl.Session) bool { return other.Client == s.Client })]
			}
			if s != want {
				t.Errorf("%d: the session %+v, want %+v", i, s, want)
			}
		}
		who = next
	}
	want := []impl.Session{{Client: 1, Serial: 3, Index: 11}, {Client: 2, Serial: 2, Index: 8}, {Client: 3, Serial: 2, Index: 9}}
	if !slices.Equal(who.Sessions, want) || who.Tokens != 9 || len(who.Audit) != 7 || len(who.Vol.Inodes) != 8 {
		t.Errorf("seven files: %+v", who)
	}
}

// A day of three clients, written out.
func TestTenantDay(t *testing.T) {
	who := impl.NewTenant()
	for i, c := range []struct {
		client int
		x      impl.Call
		res    impl.Result
		tokens int
	}{
		{2, callAt(impl.CaMkdir, "/home", 2048), code(impl.EInval), 27}, {2, callAt(impl.CaMkdir, "/home", 0o755), code(impl.EOk), 24}, {2, callAt(impl.CaCreate, "/home/f", 0o640), code(impl.EOk), 21},
		{2, writeAt("/home/f", 0, "some bytes"), code(impl.EOk), 18}, {3, callAt(impl.CaRead, "/home/f", 5, 9), impl.Result{Data: "bytes"}, 17}, {3, appendTo("/home/f", "x"), code(impl.EAcces), 14},
		{3, callAt(impl.CaUnlink, "/home/f"), code(impl.EAcces), 11}, {3, callTo(impl.CaRename, "/home", "/mine"), code(impl.EPerm), 8}, {1, callAt(impl.CaReadaudit, "", 4), impl.Result{Data: "6.3.2.6.13 7.3.3.8.13 8.3.4.12.1"}, 7},
		{1, callAt(impl.CaArchive, ""), code(impl.EOk), 4}, {1, callAt(impl.CaReadaudit, ""), code(impl.EOk), 3}, {1, callAt(impl.CaUnlink, "/home/f"), code(impl.EOk), 0}, {1, stats, code(impl.EAgain), 0},
	} {
		next, res, done := tenantDo(t, who, turn{c.client, wantSession(who, c.client).Serial + 1, c.x, 1 + i})
		if !done || res != c.res || next.Tokens != c.tokens {
			t.Errorf("%d: %+v, %v, %d tokens, want %+v, %d", i, res, done, next.Tokens, c.res, c.tokens)
		}
		who = next
	}
	if want := []impl.Note{{Index: 12, Client: 1, Serial: 4, Kind: 8}, {Index: 13, Client: 1, Serial: 5, Kind: 18, Code: 11}}; !slices.Equal(who.Audit, want) {
		t.Errorf("the notes are %+v", who.Audit)
	}
}
