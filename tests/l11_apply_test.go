package tests

import (
	"math"
	"slices"
	"strings"
	"testing"

	"loop.example/g00757/impl"
)

// wantApply goes through the slots of all in one row.
func wantApply(s []impl.Tenant, text string, index int) ([]impl.Tenant, []impl.Told) {
	if !wantStateOk(s) {
		return nil, nil
	}
	out := copiedState(s)
	l, ok := frameForm().want(text)
	if !ok {
		return out, nil
	}
	for i := range out {
		out[i].Tokens = wantRefill(out[i].Tokens)
	}
	var told []impl.Told
	for _, x := range l {
		next, _, done := wantTenantDo(out[x.Tenant], turn{x.Client, x.Serial, x.Call, index})
		out[x.Tenant] = next
		if last := wantSession(next, x.Client); done || last.Serial == x.Serial {
			told = append(told, impl.Told{Tenant: x.Tenant, Client: x.Client, Serial: x.Serial, Index: last.Index, Result: last.Result})
		}
	}
	return out, told
}

// apply asks for a frame with marks behind each list, and holds what it comes to against the test's own and the memory of both.
func apply(t *testing.T, s []impl.Tenant, text string, index int) ([]impl.Tenant, []impl.Told) {
	t.Helper()
	room, given := newRoomyState(s)
	was := strings.Clone(text)
	got, told := impl.ApplyFrame(given, text, index)
	want, tells := wantApply(s, text, index)
	if !sameState(got, want) || !slices.Equal(told, tells) {
		t.Fatalf("ApplyFrame of %q at %d to %+v = %+v, %+v, want %+v, %+v", text, index, s, got, told, want, tells)
	}
	if room.touched() || !sameState(given, s) || text != was {
		t.Fatalf("%q at %d: written into %+v", text, index, s)
	}
	if sharesState(got, given, text) {
		t.Fatalf("%q at %d: the answer shares memory: %+v", text, index, got)
	}
	texts := []string{text}
	for _, who := range slices.Concat(given, got) {
		texts = append(texts, textsOfTenant(who)...)
	}
	for _, x := range told {
		for _, other := range texts {
			if sharesBytes(x.Result.Data, other) {
				t.Fatalf("%q at %d tells %+v, bytes of %q", text, index, x, other)
			}
		}
	}
	if impl.StateOk(got) != impl.StateOk(s) {
		t.Fatalf("%q at %d makes of %+v %+v", text, index, s, got)
	}
	return got, told
}

func toldOf(tenant, client, serial, index int, r impl.Result) impl.Told {
	return impl.Told{Tenant: tenant, Client: client, Serial: serial, Index: index, Result: r}
}

// frameCase is a row of slots, what is told of them, and of tenant 1 the tokens and notes that are left.
type frameCase struct {
	what   string
	l      []impl.Slot
	index  int
	told   []impl.Told
	tokens int
	notes  int
}

// checkFrames applies each frame to the state; tenants without a slot are refilled and no more.
func checkFrames(t *testing.T, s []impl.Tenant, cases []frameCase) {
	t.Helper()
	for _, c := range cases {
		text := impl.ShowFrame(c.l)
		if text == "" {
			t.Fatalf("%s: no frame: %+v", c.what, c.l)
		}
		got, told := apply(t, s, text, c.index)
		if !slices.Equal(told, c.told) || got[1].Tokens != c.tokens || len(got[1].Audit) != c.notes {
			t.Errorf("%s: told %+v, %d tokens, %d notes, want %+v, %d, %d", c.what, told, got[1].Tokens, len(got[1].Audit), c.told, c.tokens, c.notes)
		}
		for tenant := range 3 {
			if !slices.ContainsFunc(c.l, func(x impl.Slot) bool { return x.Tenant == tenant }) && !sameTenant(got[tenant], impl.TenantTick(s[tenant])) {
				t.Errorf("%s: tenant %d, which has no slot, becomes %+v", c.what, tenant, got[tenant])
			}
		}
	}
}

// stateWithTokens is a state in which tenant 1 has so many tokens ahead of the frame, and 4 more in it.
func stateWithTokens(tokens int) []impl.Tenant {
	return stateWith(func(s []impl.Tenant) { s[1].Tokens = tokens })
}

// inTenant1 are slots of tenant 1, each a client's, a serial and a call.
func inTenant1(parts ...any) []impl.Slot {
	var out []impl.Slot
	for i := 0; i < len(parts); i += 3 {
		out = append(out, slotOf(1, parts[i].(int), parts[i+1].(int), parts[i+2].(impl.Call)))
	}
	return out
}

func TestApplyFrameOfNoSlot(t *testing.T) {
	for tokens, want := range map[int]int{0: 4, 1: 5, 25: 29, 26: 30, 27: 30, 29: 30, 30: 30} {
		s := stateWith(func(s []impl.Tenant) { s[0].Tokens, s[1].Tokens, s[2].Tokens = tokens, 30-tokens, tokens })
		for _, index := range []int{1, 12, impl.MaxIndex, 0, -1, impl.MaxIndex + 1, math.MinInt, math.MaxInt} {
			got, told := apply(t, s, "f", index)
			refilled := stateWith(func(s []impl.Tenant) {
				s[0].Tokens, s[1].Tokens, s[2].Tokens = want, min(34-tokens, 30), want
			})
			if told != nil || !sameState(got, refilled) {
				t.Errorf("%d tokens: the frame of no slot makes %+v and tells %+v", tokens, got, told)
			}
		}
	}
	s := impl.NewState()
	if got, told := apply(t, s, "f", 1); !sameState(got, s) || told != nil || got[0].Audit != nil || got[1].Sessions != nil {
		t.Errorf("the frame of no slot makes of a new state %+v", got)
	}
}

// A text that is no frame leaves all as it is: nobody is refilled, nobody is told.
func TestApplyFrameOfNoFrame(t *testing.T) {
	right := impl.ShowFrame([]impl.Slot{slotOf(0, 1, 5, stats), slotOf(1, 1, 1, stats), slotOf(2, 1, 2, stats)})
	no := []string{"", "\x00", "F", "g", "m", "ff", "f\x00", right + "\x00", right + right, right[1:], "g" + right[1:], " " + right, right[:len(right)-1], strings.Repeat("f", 1<<16), impl.ShowState(livedState()), everyByte(),
		joined(frameTokens(slotsOf(0, 0, 0))), joined(frameTokens(slotsOf(1, 0))), joined(frameTokens(slotsOf(3))), joined(frameTokens([]impl.Slot{slotOf(1, 4, 1, stats)})), joined(frameTokens([]impl.Slot{slotOf(1, 1, 0, stats)})), joined(frameTokens([]impl.Slot{slotOf(1, 1, 1, impl.Call{})})),
		joined(frameTokens(append([]impl.Slot{slotOf(0, 1, 5, stats)}, slotsOf(2, 2, 2)...)))}
	states := append(textStates(), stateWithTokens(0), slices.Repeat([]impl.Tenant{livedWithTokens(0, 20)}, 3))
	for _, s := range states {
		for _, text := range no {
			for _, index := range []int{12, 1, 0, -1, impl.MaxIndex + 1} {
				if got, told := apply(t, s, text, index); !sameState(got, s) || told != nil {
					t.Errorf("%q makes %+v and tells %+v", text, got, told)
				}
			}
		}
	}
	if _, told := apply(t, livedState(), right, 12); len(told) != 2 {
		t.Errorf("%q tells %+v", right, told)
	}
}

// The text of a frame that is cut off is that of a lesser frame, or of none.
func TestApplyFrameCutOff(t *testing.T) {
	l := []impl.Slot{slotOf(0, 1, 5, stats), slotOf(1, 1, 1, callAt(impl.CaMkdir, "/a", 511)), slotOf(1, 2, 1, stats), slotOf(2, 2, 3, stats)}
	text := impl.ShowFrame(l)
	ends := []int{1}
	for i := range l {
		ends = append(ends, len(joined(frameTokens(l[:i+1]))))
	}
	for at := range len(text) + 1 {
		got, told := apply(t, livedState(), text[:at], 50)
		if i := slices.Index(ends, at); len(told) != max(i, 0) || (i < 0) != sameState(got, livedState()) {
			t.Errorf("cut off at %d: told %+v", at, told)
		}
	}
}

func TestApplyFrameOfWrongStates(t *testing.T) {
	texts := []string{"", "f", "g", impl.ShowFrame(slotsOf(0, 1, 2)), impl.ShowFrame([]impl.Slot{slotOf(1, 1, 1, stats)})}
	wrong := [][]impl.Tenant{nil, {}, livedState()[:2], livedState()[1:], append(livedState(), impl.NewTenant()), make([]impl.Tenant, 3)}
	for at := range 3 {
		for _, who := range []impl.Tenant{{}, livedWith(func(t *impl.Tenant) { t.Tokens = 31 }), livedWith(func(t *impl.Tenant) { t.Tokens = -1 }), livedWith(func(t *impl.Tenant) { t.Audit = audit(21) }), livedWith(func(t *impl.Tenant) { t.Sessions = sessionsOf(2, 1) }), livedWith(func(t *impl.Tenant) { t.Vol = wideVol(25) })} {
			wrong = append(wrong, stateWith(func(s []impl.Tenant) { s[at] = who }))
		}
	}
	for _, s := range wrong {
		for _, text := range texts {
			for _, index := range []int{1, 12, 0, impl.MaxIndex + 1} {
				if got, told := apply(t, s, text, index); got != nil || told != nil {
					t.Errorf("%q makes of %+v %+v and tells %+v", text, s, got, told)
				}
			}
		}
	}
}

// indexState has in tenant 1 a session of client 1 at 40, one of client 3 at 30, and notes up to 20, or up to 60.
func indexState(note int) []impl.Tenant {
	return stateWith(func(s []impl.Tenant) {
		s[1].Tokens = 3
		s[1].Audit = []impl.Note{{Index: note, Client: 1, Serial: 3, Kind: 1}}
		s[1].Sessions = []impl.Session{{Client: 1, Serial: 4, Index: 40, Result: impl.Result{Data: "told at 40"}}, {Client: 3, Serial: 8, Index: 30, Result: impl.Result{Code: impl.EAcces}}}
	})
}

func TestApplyFrameOfIndexes(t *testing.T) {
	known := toldOf(1, 1, 4, 40, impl.Result{Data: "told at 40"})
	statsTold := func(index int) impl.Told { return toldOf(1, 2, 1, index, impl.Result{Data: "1 0"}) }
	l := inTenant1(2, 1, stats, 1, 4, stats)
	var cases, late []frameCase
	for _, index := range []int{40, 41, 60, 99999, 100000} {
		cases = append(cases, frameCase{"in turn", l, index, []impl.Told{statsTold(index), known}, 6, 1})
	}
	// The state is refilled all the same; and the last serial is told, as it was.
	for _, index := range []int{0, -1, -40, 1, 19, 20, 29, 30, 39, 100001, 1<<32 + 50, math.MinInt, math.MaxInt} {
		cases = append(cases, frameCase{"out of turn", l, index, []impl.Told{known}, 7, 1})
		late = append(late, frameCase{"out of turn", l, index, []impl.Told{known}, 7, 1})
	}
	for _, index := range []int{40, 41, 59} {
		late = append(late, frameCase{"less than a note's", l, index, []impl.Told{known}, 7, 1})
	}
	late = append(late, frameCase{"a note's", l, 60, []impl.Told{statsTold(60), known}, 6, 1})
	checkFrames(t, indexState(20), cases)
	checkFrames(t, indexState(60), late)
	fresh := stateWith(func(s []impl.Tenant) { s[1] = impl.NewTenant() })
	for _, index := range []int{1, 2, 100000} {
		checkFrames(t, fresh, []frameCase{{"a new tenant", inTenant1(2, 1, stats), index, []impl.Told{statsTold(index)}, 29, 0}})
	}
	for _, index := range []int{0, -1, 100001} {
		checkFrames(t, fresh, []frameCase{{"a new tenant", inTenant1(2, 1, stats), index, nil, 30, 0}})
	}
}

// What is less than another tenant's index is none of this one's.
func TestApplyFrameOfOthersIndexes(t *testing.T) {
	s := stateWith(func(s []impl.Tenant) { s[0].Sessions[0].Index, s[2].Audit[4].Index = 500, 700 })
	l := []impl.Slot{slotOf(0, 2, 1, stats), slotOf(1, 2, 1, stats), slotOf(2, 2, 3, stats)}
	for index, tenants := range map[int][]int{1: {1}, 499: {1}, 500: {0, 1}, 699: {0, 1}, 700: {0, 1, 2}, 100000: {0, 1, 2}, 0: nil, 100001: nil} {
		_, told := apply(t, s, impl.ShowFrame(l), index)
		var got []int
		for _, x := range told {
			got = append(got, x.Tenant)
			if x.Index != index || x.Client != 2 {
				t.Errorf("at %d is told %+v", index, x)
			}
		}
		if !slices.Equal(got, tenants) {
			t.Errorf("at %d the tenants %v are told", index, got)
		}
	}
}

// The second slot needs what the first one made, or what it took away.
func TestApplyFrameOfFiles(t *testing.T) {
	dir, file := callAt(impl.CaMkdir, "/a", 511), callAt(impl.CaCreate, "/a/f", 420)
	list := callAt(impl.CaReaddir, "/a")
	done := func(client, serial int) impl.Told { return toldOf(1, client, serial, 7, impl.Result{}) }
	fresh := stateWithTokens(30)
	checkFrames(t, fresh, []frameCase{
		{"made, then in it", inTenant1(1, 1, dir, 1, 2, file), 7, []impl.Told{done(1, 1), done(1, 2)}, 24, 2},
		{"made by another one", inTenant1(2, 1, dir, 3, 1, file), 7, []impl.Told{done(2, 1), done(3, 1)}, 24, 2},
		{"made by client 3, in it by client 1", inTenant1(3, 1, dir, 1, 1, file), 7, []impl.Told{done(3, 1), done(1, 1)}, 24, 2},
		{"in it, then made", inTenant1(1, 1, file, 1, 2, dir), 7, []impl.Told{toldOf(1, 1, 1, 7, code(impl.ENoEnt)), done(1, 2)}, 24, 2},
		{"made twice", inTenant1(1, 1, dir, 2, 1, dir), 7, []impl.Told{done(1, 1), toldOf(1, 2, 1, 7, code(impl.EExist))}, 24, 2},
		{"made, then told", inTenant1(1, 1, dir, 2, 1, list), 7, []impl.Told{done(1, 1), done(2, 1)}, 26, 1},
		{"made, then seen", inTenant1(3, 1, dir, 2, 1, callAt(impl.CaReaddir, "/")), 7, []impl.Told{done(3, 1), toldOf(1, 2, 1, 7, impl.Result{Data: "a"})}, 26, 1},
		{"seen, then made", inTenant1(2, 1, callAt(impl.CaReaddir, "/"), 3, 1, dir), 7, []impl.Told{done(2, 1), done(3, 1)}, 26, 1},
		{"made, then noted", inTenant1(2, 1, dir, 1, 1, callAt(impl.CaReadaudit, "")), 7, []impl.Told{done(2, 1), toldOf(1, 1, 1, 7, impl.Result{Data: "7.2.1.1.0"})}, 26, 1},
		{"noted, then made", inTenant1(1, 1, callAt(impl.CaReadaudit, ""), 2, 1, dir), 7, []impl.Told{done(1, 1), done(2, 1)}, 26, 1},
		{"made and put away", inTenant1(2, 1, dir, 1, 1, callAt(impl.CaArchive, "")), 7, []impl.Told{done(2, 1), done(1, 1)}, 24, 0},
		{"taken away", inTenant1(2, 1, dir, 2, 2, callAt(impl.CaRmdir, "/a")), 7, []impl.Told{done(2, 1), done(2, 2)}, 24, 2},
		{"taken away by another one", inTenant1(2, 1, dir, 3, 1, callAt(impl.CaRmdir, "/a")), 7, []impl.Told{done(2, 1), toldOf(1, 3, 1, 7, code(impl.EPerm))}, 24, 2},
	})
	got, _ := apply(t, fresh, impl.ShowFrame(inTenant1(2, 1, dir, 3, 1, file)), 7)
	if inodes := got[1].Vol.Inodes; len(inodes) != 3 || inodes[1].Uid != 2 || inodes[2].Uid != 3 || len(got[0].Vol.Inodes) != 9 {
		t.Errorf("they make %+v", inodes)
	}
}

// The first slot spends the tokens that the second one wants; those of the frame's refilling come ahead of both.
func TestApplyFrameOfTokens(t *testing.T) {
	dir, other := callAt(impl.CaMkdir, "/a", 511), callAt(impl.CaMkdir, "/b", 511)
	done := func(client, serial int) impl.Told { return toldOf(1, client, serial, 7, impl.Result{}) }
	none := func(client, serial int) impl.Told { return toldOf(1, client, serial, 7, code(impl.EAgain)) }
	shown := func(client, serial int, data string) impl.Told {
		return toldOf(1, client, serial, 7, impl.Result{Data: data})
	}
	for tokens, c := range map[int]frameCase{
		0:  {"4 tokens", inTenant1(1, 1, dir, 2, 1, other), 7, []impl.Told{done(1, 1), none(2, 1)}, 1, 2},
		1:  {"5 tokens", inTenant1(1, 1, dir, 1, 2, other), 7, []impl.Told{done(1, 1), none(1, 2)}, 2, 2},
		2:  {"6 tokens", inTenant1(1, 1, dir, 2, 1, other), 7, []impl.Told{done(1, 1), done(2, 1)}, 0, 2},
		3:  {"7 tokens", inTenant1(1, 1, dir, 2, 1, other), 7, []impl.Told{done(1, 1), done(2, 1)}, 1, 2},
		26: {"30 tokens", inTenant1(1, 1, dir, 2, 1, other), 7, []impl.Told{done(1, 1), done(2, 1)}, 24, 2},
		27: {"30 tokens, too", inTenant1(1, 1, dir, 2, 1, other), 7, []impl.Told{done(1, 1), done(2, 1)}, 24, 2},
		30: {"30 tokens, as well", inTenant1(1, 1, dir, 2, 1, other), 7, []impl.Told{done(1, 1), done(2, 1)}, 24, 2},
	} {
		checkFrames(t, stateWithTokens(tokens), []frameCase{c})
	}
	checkFrames(t, stateWithTokens(0), []frameCase{
		{"3 and 1", inTenant1(1, 1, dir, 2, 1, stats), 7, []impl.Told{done(1, 1), shown(2, 1, "2 0")}, 0, 1},
		{"1 and 3", inTenant1(1, 1, stats, 2, 1, dir), 7, []impl.Told{shown(1, 1, "1 0"), done(2, 1)}, 0, 1},
		{"1 and 1", inTenant1(1, 1, stats, 1, 2, stats), 7, []impl.Told{shown(1, 1, "1 0"), shown(1, 2, "1 0")}, 2, 0},
		{"3 alone", inTenant1(1, 1, dir), 7, []impl.Told{done(1, 1)}, 1, 1},
		{"what is not done costs nothing", inTenant1(1, 2, other, 1, 1, dir), 7, []impl.Told{done(1, 1)}, 1, 1},
		{"what comes again costs nothing", inTenant1(1, 1, dir, 1, 1, dir), 7, []impl.Told{done(1, 1), done(1, 1)}, 1, 1},
		{"what is refused for want of tokens is done, too", inTenant1(1, 1, dir, 1, 2, other), 7, []impl.Told{done(1, 1), none(1, 2)}, 1, 2},
	})
	// A frame later there are 4 more.
	s, _ := apply(t, stateWithTokens(0), impl.ShowFrame(inTenant1(1, 1, dir, 1, 2, other)), 7)
	s, told := apply(t, s, impl.ShowFrame(inTenant1(1, 2, other, 1, 3, other)), 8)
	if want := []impl.Told{none(1, 2), toldOf(1, 1, 3, 8, impl.Result{})}; !slices.Equal(told, want) || s[1].Tokens != 2 {
		t.Errorf("a frame later: %+v, %d tokens", told, s[1].Tokens)
	}
}

// The 20th note is the first slot's, so that the second one is not done; or the first one puts them all away.
func TestApplyFrameOfNotes(t *testing.T) {
	dir, other := callAt(impl.CaMkdir, "/a", 511), callAt(impl.CaMkdir, "/b", 511)
	s := stateWith(func(s []impl.Tenant) { s[1].Audit = audit(19) })
	full := stateWith(func(s []impl.Tenant) { s[1].Audit = audit(20) })
	done := func(client, serial int) impl.Told { return toldOf(1, client, serial, 12, impl.Result{}) }
	checkFrames(t, s, []frameCase{
		{"the 20th and one more", inTenant1(1, 1, dir, 2, 1, other), 12, []impl.Told{done(1, 1), toldOf(1, 2, 1, 12, code(impl.ENoSpc))}, 24, 20},
		{"the 20th, then none", inTenant1(1, 1, dir, 1, 2, callAt(impl.CaArchive, "")), 12, []impl.Told{done(1, 1), done(1, 2)}, 24, 0},
	})
	checkFrames(t, full, []frameCase{
		{"no room", inTenant1(2, 1, dir, 1, 1, callAt(impl.CaArchive, "")), 12, []impl.Told{toldOf(1, 2, 1, 12, code(impl.ENoSpc)), done(1, 1)}, 24, 0},
		{"room is made", inTenant1(1, 1, callAt(impl.CaArchive, ""), 2, 1, dir), 12, []impl.Told{done(1, 1), done(2, 1)}, 24, 1},
	})
}

// Two slots of one client: one serial behind the other, the same one twice, and out of their turn.
func TestApplyFrameOfSerials(t *testing.T) {
	s := stateWith(func(s []impl.Tenant) {
		s[1].Sessions = []impl.Session{{Client: 2, Serial: 4, Index: 5, Result: impl.Result{Code: 200, Data: "the 4th"}}}
	})
	dir, other := callAt(impl.CaMkdir, "/a", 511), callAt(impl.CaMkdir, "/b", 511)
	fourth := toldOf(1, 2, 4, 5, impl.Result{Code: 200, Data: "the 4th"})
	done := func(serial int) impl.Told { return toldOf(1, 2, serial, 7, impl.Result{}) }
	checkFrames(t, s, []frameCase{
		{"one behind the other", inTenant1(2, 5, dir, 2, 6, other), 7, []impl.Told{done(5), done(6)}, 24, 2},
		{"the same one twice", inTenant1(2, 5, dir, 2, 5, dir), 7, []impl.Told{done(5), done(5)}, 27, 1},
		{"the same one twice, with another call", inTenant1(2, 5, dir, 2, 5, other), 7, []impl.Told{done(5), done(5)}, 27, 1},
		{"the same one twice, told", inTenant1(2, 5, callAt(impl.CaReaddir, "/no"), 2, 5, dir), 7, []impl.Told{toldOf(1, 2, 5, 7, code(impl.ENoEnt)), toldOf(1, 2, 5, 7, code(impl.ENoEnt))}, 29, 1},
		{"the later one first", inTenant1(2, 6, dir, 2, 5, other), 7, []impl.Told{done(5)}, 27, 1},
		{"with one left out", inTenant1(2, 5, dir, 2, 7, other), 7, []impl.Told{done(5)}, 27, 1},
		{"the last one, then the next one", inTenant1(2, 4, dir, 2, 5, other), 7, []impl.Told{fourth, done(5)}, 27, 1},
		{"the next one, then the last one", inTenant1(2, 5, dir, 2, 4, other), 7, []impl.Told{done(5)}, 27, 1},
		{"the last one twice", inTenant1(2, 4, dir, 2, 4, other), 7, []impl.Told{fourth, fourth}, 30, 0},
		{"one ahead of the last one", inTenant1(2, 3, dir), 7, nil, 30, 0},
		{"two ahead of the last one", inTenant1(2, 2, dir, 2, 3, dir), 7, nil, 30, 0},
		{"one left out", inTenant1(2, 6, dir), 7, nil, 30, 0},
		{"two left out", inTenant1(2, 6, dir, 2, 7, dir), 7, nil, 30, 0},
		{"the greatest one", inTenant1(2, 1000000, dir), 7, nil, 30, 0},
		{"the first one", inTenant1(2, 1, dir), 7, nil, 30, 0},
		{"another one's serial", inTenant1(1, 5, dir, 3, 4, dir), 7, nil, 30, 0},
		{"another one's first", inTenant1(1, 1, dir, 2, 5, other), 7, []impl.Told{toldOf(1, 1, 1, 7, impl.Result{}), done(5)}, 24, 2},
		{"two that begin", inTenant1(1, 1, dir, 1, 2, other), 7, []impl.Told{toldOf(1, 1, 1, 7, impl.Result{}), toldOf(1, 1, 2, 7, impl.Result{})}, 24, 2},
		{"the second one first of two that begin", inTenant1(3, 2, dir, 3, 1, other), 7, []impl.Told{toldOf(1, 3, 1, 7, impl.Result{})}, 27, 1},
	})
	// Out of the log's turn nothing is done, but for telling again.
	checkFrames(t, s, []frameCase{
		{"the last one", inTenant1(2, 4, dir, 2, 5, other), 4, []impl.Told{fourth}, 30, 0},
		{"the last one, at none", inTenant1(2, 5, dir, 2, 4, other), 0, []impl.Told{fourth}, 30, 0},
	})
	late := stateWith(func(s []impl.Tenant) { s[1].Sessions = []impl.Session{{Client: 2, Serial: 999999, Index: 5}} })
	checkFrames(t, late, []frameCase{
		{"the greatest serial", inTenant1(2, 1000000, dir), 7, []impl.Told{done(1000000)}, 27, 1},
		{"the greatest serial twice", inTenant1(2, 1000000, dir, 2, 1000000, other), 7, []impl.Told{done(1000000), done(1000000)}, 27, 1},
	})
}

// The last serial that comes again in a later frame is told as it was: its own Index, its own Result.
func TestApplyFrameAgain(t *testing.T) {
	others := append(callsOfEachKind(), callAt(impl.CaArchive, ""), callAt(impl.CaReadaudit, "", -1), callAt(impl.CaReadaudit, ""), callAt(impl.CaStatfs, ""))
	for i, x := range others {
		first := impl.ShowFrame([]impl.Slot{slotOf(0, 2, 1, x)})
		s, told := apply(t, livedState(), first, 14)
		if len(told) != 1 || told[0].Index != 14 {
			t.Fatalf("%+v: told %+v", x, told)
		}
		for _, other := range []impl.Call{x, others[(i+7)%len(others)], others[(i+1)%len(others)]} {
			for _, index := range []int{14, 15, 100000, 13, 1, 0, 100001} {
				got, again := apply(t, s, impl.ShowFrame([]impl.Slot{slotOf(0, 2, 1, other)}), index)
				want := copiedState(s)
				for tenant := range want {
					want[tenant].Tokens = wantRefill(want[tenant].Tokens)
				}
				if !slices.Equal(again, told) || !sameState(got, want) {
					t.Errorf("%+v again at %d: told %+v, %+v", x, index, again, got)
				}
			}
		}
	}
}

// Tolds come in the order of the slots, whoever is told what; what is not done leaves none.
func TestApplyFrameOfAll(t *testing.T) {
	l := []impl.Slot{
		slotOf(0, 2, 1, callAt(impl.CaReaddir, "/d")), slotOf(0, 1, 4, stats),
		slotOf(1, 3, 1, callAt(impl.CaMkdir, "/a", 511)), slotOf(1, 1, 1, stats),
		slotOf(2, 3, 4, stats), slotOf(2, 1, 1, stats),
	}
	s := livedState()
	got, told := apply(t, s, impl.ShowFrame(l), 40)
	want := []impl.Told{
		toldOf(0, 2, 1, 40, impl.Result{Data: "e/f/l"}), toldOf(0, 1, 4, 9, impl.Result{Data: "what it was told"}),
		toldOf(1, 3, 1, 40, impl.Result{}), toldOf(1, 1, 1, 40, impl.Result{Data: "2 0"}),
		toldOf(2, 3, 4, 40, impl.Result{Data: "6 8"}), toldOf(2, 1, 1, 30, impl.Result{}),
	}
	if !slices.Equal(told, want) {
		t.Errorf("told %+v, want %+v", told, want)
	}
	if got[0].Tokens != 23 || got[1].Tokens != 26 || got[2].Tokens != 4 || len(got[1].Vol.Inodes) != 2 || len(got[0].Vol.Inodes) != 9 {
		t.Errorf("they make %+v", got)
	}
	// Each slot is left out, and put out of its turn: its own Told is not there then, or what it hangs on is another one.
	for i := range l {
		_, fewer := apply(t, s, impl.ShowFrame(slices.Delete(slices.Clone(l), i, i+1)), 40)
		late := slices.Clone(l)
		late[i].Serial = 1000
		_, none := apply(t, s, impl.ShowFrame(late), 40)
		left := slices.Delete(slices.Clone(want), i, i+1)
		if i == 2 {
			left[2].Result.Data = "1 0"
		}
		if !slices.Equal(fewer, left) || !slices.Equal(none, left) {
			t.Errorf("without slot %d: told %+v, %+v, want %+v", i, fewer, none, left)
		}
	}
}

// The fullest frame, on the fullest state: no call is done without tokens, none goes beyond what a state may be.
func TestApplyFullFrame(t *testing.T) {
	full := slices.Repeat([]impl.Tenant{fullTenant()}, 3)
	got, told := apply(t, full, impl.ShowFrame(fullFrame()), impl.MaxIndex)
	if len(told) != 6 || told[5] != toldOf(2, 3, 1000000, 100000, full[2].Sessions[2].Result) || !sameState(got, full) {
		t.Errorf("told %+v", told)
	}
	fresh := fullFrame()
	for i := range fresh {
		fresh[i].Serial = 1 + i%2
	}
	s, told := apply(t, impl.NewState(), impl.ShowFrame(fresh), 1)
	if len(told) != 6 || slices.ContainsFunc(told, func(x impl.Told) bool { return x.Result.Code != impl.EInval }) || s[0].Tokens != 24 {
		t.Errorf("told %+v", told)
	}
}
