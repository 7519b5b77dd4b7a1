package tests

import (
	"fmt"
	"math"
	"slices"
	"strings"
	"testing"

	"loop.example/g00757/impl"
)

// wantSlotOk gathers what is wrong.
func wantSlotOk(s impl.Slot) bool {
	wrong := s.Tenant < 0 || s.Tenant > 2
	wrong = wrong || s.Client < 1 || s.Client > 3
	wrong = wrong || s.Serial < 1 || s.Serial > 1000000
	return !wrong && wantCallOk(s.Call)
}

// wantFrameOk counts how often each tenant is there, and holds each slot against all that stand behind it.
func wantFrameOk(l []impl.Slot) bool {
	wrong, times := false, map[int]int{}
	for i, s := range l {
		times[s.Tenant]++
		wrong = wrong || !wantSlotOk(s) || times[s.Tenant] > 2
		for _, other := range l[i:] {
			wrong = wrong || other.Tenant < s.Tenant
		}
	}
	return !wrong
}

func slotTokens(s impl.Slot) []token {
	return slices.Concat([]token{num(s.Tenant), num(s.Client), num(s.Serial)}, pieceTokens(joined(callTokens(s.Call))))
}

func frameTokens(l []impl.Slot) []token {
	out := []token{{"f", -1}}
	for _, s := range l {
		out = append(out, slotTokens(s)...)
	}
	return out
}

func (e *eater) frame() []impl.Slot {
	rest, ok := strings.CutPrefix(e.left, "f")
	e.left, e.lacks = rest, e.lacks || !ok
	var out []impl.Slot
	for e.left != "" && !e.lacks {
		s := impl.Slot{}
		for _, field := range []*int{&s.Tenant, &s.Client, &s.Serial} {
			*field = e.number()
		}
		inner := eater{left: e.piece()}
		s.Call = inner.call()
		e.lacks = e.lacks || inner.lacks || inner.left != ""
		out = append(out, s)
	}
	return out
}

func frameForm() form[[]impl.Slot] {
	return form[[]impl.Slot]{impl.ShowFrame, impl.ReadFrame, frameTokens, (*eater).frame, wantFrameOk, slices.Equal[[]impl.Slot]}
}

// longestCall has as many bytes as any call.
func longestCall() impl.Call {
	return impl.Call{Kind: impl.CaWrite, Path: strings.Repeat("\xff", 60), N: impl.MaxArg, M: -impl.MaxArg, Data: everyByte()[192:]}
}

func slotOf(tenant, client, serial int, x impl.Call) impl.Slot {
	return impl.Slot{Tenant: tenant, Client: client, Serial: serial, Call: x}
}

func slotOfTenant(tenant int) impl.Slot { return slotOf(tenant, 2, 128, writeAt("/f", 3, "abc")) }

func slotsOf(tenants ...int) []impl.Slot {
	var out []impl.Slot
	for _, tenant := range tenants {
		out = append(out, slotOfTenant(tenant))
	}
	return out
}

// fullFrame has the most and the longest slots that there may be.
func fullFrame() []impl.Slot {
	var out []impl.Slot
	for _, tenant := range []int{0, 0, 1, 1, 2, 2} {
		out = append(out, slotOf(tenant, 3, impl.MaxSerial, longestCall()))
	}
	return out
}

func textFrames() [][]impl.Slot {
	out := [][]impl.Slot{nil, fullFrame()}
	for _, tenants := range [][]int{{0}, {1}, {2}, {0, 0}, {1, 1}, {2, 2}, {0, 1}, {0, 2}, {1, 2}, {0, 1, 2}, {0, 0, 2}, {0, 2, 2}, {1, 1, 2, 2}, {0, 1, 1, 2}, {0, 0, 1, 1, 2, 2}} {
		out = append(out, slotsOf(tenants...))
	}
	for i, x := range append(textCalls(), callsOfEachKind()...) {
		out = append(out, []impl.Slot{slotOf(i%3, 1+i%3, 1+i, x)})
	}
	return out
}

func TestFrameNumbers(t *testing.T) {
	if impl.MaxTenants != 3 || impl.MaxSlots != 2 {
		t.Error("MaxTenants, MaxSlots:", impl.MaxTenants, impl.MaxSlots)
	}
}

// checkSlot asks of a slot, alone and at each place of a frame, what it is.
func checkSlot(t *testing.T, what string, s impl.Slot, right bool) {
	t.Helper()
	if got := impl.SlotOk(s); got != right || got != wantSlotOk(s) {
		t.Errorf("%s: SlotOk(%+v) = %v", what, s, got)
	}
	if got := impl.FrameOk([]impl.Slot{s}); got != right {
		t.Errorf("%s: FrameOk of %+v alone = %v", what, s, got)
	}
	for at := range 6 {
		l := slotsOf(0, 0, 1, 1, 2, 2)
		if right {
			s.Tenant = l[at].Tenant
		}
		l[at] = s
		if got := impl.FrameOk(l); got != right {
			t.Errorf("%s: FrameOk with %+v at %d = %v", what, s, at, got)
		}
		if shown := impl.ShowFrame(l); (shown != "") != right {
			t.Errorf("%s: ShowFrame with %+v at %d = %q", what, s, at, shown)
		}
		frameForm().checkShow(t, l)
	}
}

func TestSlotOk(t *testing.T) {
	fields := []struct {
		name      string
		of        func(s *impl.Slot) *int
		low, high int
	}{
		{"Tenant", func(s *impl.Slot) *int { return &s.Tenant }, 0, 2},
		{"Client", func(s *impl.Slot) *int { return &s.Client }, 1, 3},
		{"Serial", func(s *impl.Slot) *int { return &s.Serial }, 1, 1000000},
	}
	for _, field := range fields {
		for _, to := range append(farNumbers(), 0, 1, 2, 3, 4, 257, 258, 259, 1<<32, 1<<32+1, 999999, 1000000, 1000001) {
			s := slotOfTenant(1)
			*field.of(&s) = to
			checkSlot(t, field.name+" "+impl.Dec(to), s, to >= field.low && to <= field.high)
		}
	}
	for i, x := range append(textCalls(), callsOfEachKind()...) {
		checkSlot(t, "a call", slotOf(i%3, 1+i%3, 1+i, x), true)
	}
	for i, x := range append(wrongCalls(), impl.Call{}) {
		checkSlot(t, "a call that is not CallOk", slotOf(i%3, 1+i%3, 1+i, x), false)
	}
	checkSlot(t, "nothing", impl.Slot{}, false)
}

// checkFrame asks if a list is a frame; if not, what would be its text is none.
func checkFrame(t *testing.T, l []impl.Slot) bool {
	t.Helper()
	right := wantFrameOk(l)
	if got := impl.FrameOk(l); got != right {
		t.Fatalf("FrameOk(%+v) = %v", l, got)
	}
	frameForm().checkShow(t, l)
	if s := joined(frameTokens(l)); !right {
		frameForm().checkRefused(t, "not FrameOk", s)
	} else {
		frameForm().checkRead(t, s)
	}
	return right
}

// Which tenants may stand in a frame: all rows of these, and which of them are right, counted by hand: of each tenant none, one or two.
func TestFrameOkOfTenants(t *testing.T) {
	right := 0
	for _, s := range shortTexts("\x00\x01\x02", 7) {
		var l []impl.Slot
		for _, tenant := range []byte(s) {
			l = append(l, slotOfTenant(int(tenant)))
		}
		if checkFrame(t, l) {
			right++
		}
	}
	if right != 27 {
		t.Error("so many rows of tenants are right:", right)
	}
	for _, c := range []struct {
		tenants []int
		right   bool
	}{
		{nil, true}, {[]int{0}, true}, {[]int{2}, true}, {[]int{0, 0, 1, 1, 2, 2}, true}, {[]int{0, 0, 2, 2}, true}, {[]int{1, 1}, true},
		{[]int{0, 0, 0}, false}, {[]int{1, 1, 1}, false}, {[]int{2, 2, 2}, false}, {[]int{0, 0, 0, 1, 1, 2, 2}, false}, {[]int{0, 0, 1, 1, 1, 2, 2}, false}, {[]int{0, 0, 1, 1, 2, 2, 2}, false},
		{[]int{1, 0}, false}, {[]int{2, 0}, false}, {[]int{2, 1}, false}, {[]int{0, 1, 0}, false}, {[]int{0, 1, 0, 1}, false}, {[]int{0, 2, 1}, false}, {[]int{0, 0, 1, 2, 1, 2}, false}, {[]int{2, 2, 1, 1, 0, 0}, false},
		{[]int{-1}, false}, {[]int{3}, false}, {[]int{-1, 0}, false}, {[]int{0, 0, 1, 1, 2, 2, 3}, false}, {[]int{-1, 0, 0, 1, 1, 2, 2}, false}, {[]int{math.MinInt, 0}, false}, {[]int{0, math.MaxInt}, false},
		{slices.Repeat([]int{0}, 3000), false}, {slices.Repeat([]int{0, 1, 2}, 1000), false},
	} {
		l := slotsOf(c.tenants...)
		if got := impl.FrameOk(l); got != c.right {
			t.Errorf("FrameOk of the tenants %v = %v", c.tenants, got)
		}
		if shown := impl.ShowFrame(l); (shown != "") != c.right {
			t.Errorf("ShowFrame of the tenants %v = %q", c.tenants, shown)
		}
	}
	if !impl.FrameOk([]impl.Slot{}) || impl.ShowFrame([]impl.Slot{}) != "f" {
		t.Error("an empty list is not nil")
	}
}

// Clients and serials stand in a frame as they come: it is their tenant that hears them, in its turn.
func TestFrameOkOfTurns(t *testing.T) {
	for _, first := range []impl.Slot{slotOf(1, 1, 1, stats), slotOf(1, 3, 1000000, stats), slotOf(1, 2, 7, callAt(impl.CaArchive, ""))} {
		for client := 1; client <= 3; client++ {
			for _, serial := range []int{1, 2, 6, 7, 8, 1000000} {
				if !checkFrame(t, []impl.Slot{first, slotOf(1, client, serial, stats)}) {
					t.Errorf("%+v and serial %d of client %d are no frame", first, serial, client)
				}
			}
		}
	}
}

func TestShowFrame(t *testing.T) {
	made := impl.Call{Kind: impl.CaMkdir, Path: "/d", N: 493}
	moved := impl.Call{Kind: impl.CaRename, Path: "/d", To: "/efg"}
	for _, c := range []struct {
		l    []impl.Slot
		want string
	}{
		{nil, "f"},
		{[]impl.Slot{slotOf(0, 1, 1, made)}, "f" + "\x00\x01\x01" + "\x09" + "\x01\x02/d\x00\xda\x07\x00\x00"},
		{[]impl.Slot{slotOf(2, 3, 1000000, stats)}, "f" + "\x02\x03\xc0\x84\x3d" + "\x06" + "\x12\x00\x00\x00\x00\x00"},
		{[]impl.Slot{slotOf(1, 2, 127, moved), slotOf(1, 2, 128, stats), slotOf(2, 1, 5, made)}, "f" + "\x01\x02\x7f" + "\x0c" + "\x0c\x02/d\x04/efg\x00\x00\x00" + "\x01\x02\x80\x01" + "\x06" + "\x12\x00\x00\x00\x00\x00" + "\x02\x01\x05" + "\x09" + "\x01\x02/d\x00\xda\x07\x00\x00"},
	} {
		frameForm().checkText(t, c.l, c.want)
	}
	for _, l := range textFrames() {
		if frameForm().checkShow(t, l) == "" {
			t.Errorf("no text of %+v", l)
		}
	}
	if l, ok := impl.ReadFrame("f"); !ok || l != nil {
		t.Errorf("the frame of no slot is read as %+v, %v", l, ok)
	}
}

// A letter, and of each slot 1 byte, 1 byte, 3 bytes, and a piece of 134 bytes behind 2.
func TestShowFullFrame(t *testing.T) {
	s := impl.ShowFrame(fullFrame())
	if len(impl.ShowCall(longestCall())) != 134 || len(s) != 1+6*(5+2+134) || len(s) > impl.MaxData {
		t.Errorf("the longest call has %d bytes, the fullest frame %d", len(impl.ShowCall(longestCall())), len(s))
	}
	for _, x := range textCalls() {
		if len(impl.ShowCall(x)) > 134 {
			t.Errorf("longer than the longest call: %+v", x)
		}
	}
}

// A frame that is cut off between two slots is a frame of the first ones; else it is none.
func TestReadFrameCutOff(t *testing.T) {
	for _, l := range textFrames() {
		s := impl.ShowFrame(l)
		ends := map[int]int{}
		for i := range l {
			ends[len(joined(frameTokens(l[:i])))] = i
		}
		for at := range len(s) {
			i, whole := ends[at]
			got, ok := impl.ReadFrame(s[:at])
			if ok != whole || ok && !slices.Equal(got, l[:i]) || !ok && got != nil {
				t.Errorf("%q, cut off %q: %+v, %v", s[:at], s[at:], got, ok)
			}
		}
	}
}

func TestReadFrameRefuses(t *testing.T) {
	for _, l := range textFrames() {
		s := impl.ShowFrame(l)
		for c := range 256 {
			frameForm().checkRefused(t, "a byte more", s+string([]byte{byte(c)}))
			if c != 'f' {
				frameForm().checkRefused(t, "another letter", string([]byte{byte(c)})+s[1:])
			}
		}
		frameForm().checkRefused(t, "twice", s+s)
		frameForm().checkRefused(t, "no letter", s[1:])
		frameForm().checkRefused(t, "a byte ahead", "\x00"+s)
		frameForm().checkNeeded(t, l)
	}
	for _, s := range append(texts(), "", "F", "m", "ff", "f\x00", "f\x00\x01\x01", "f\x00\x01\x01\x00", "\x00", strings.Repeat("f", 1000), "f"+strings.Repeat("\x00", 1000)) {
		if frameForm().checkRead(t, s) != (s == "f") {
			t.Errorf("%q is read", s)
		}
	}
}

func TestReadFrameOfOtherNumbers(t *testing.T) {
	for _, l := range textFrames() {
		frameForm().checkNumbers(t, l)
	}
	for _, c := range []struct {
		at, n int
		right bool
	}{
		{0, 0, true}, {0, 2, true}, {0, 3, false}, {0, 128, false}, {0, impl.MaxVar, false}, {1, 0, false}, {1, 1, true}, {1, 3, true}, {1, 4, false}, {1, 129, false}, {1, impl.MaxVar, false},
		{2, 0, false}, {2, 1, true}, {2, 1000000, true}, {2, 1000001, false}, {2, impl.MaxVar, false},
	} {
		tokens := slotTokens(slotOfTenant(1))
		tokens[c.at] = num(c.n)
		if frameForm().checkRead(t, "f"+joined(tokens)) != c.right {
			t.Errorf("number %d of a slot is %d", c.at, c.n)
		}
	}
}

func TestReadFrameOfOtherBytes(t *testing.T) {
	for _, l := range [][]impl.Slot{nil, {slotOf(0, 1, 1, stats)}, slotsOf(0, 1, 1), {slotOf(2, 3, 1000000, callTo(impl.CaRename, "/a", "b")), slotOf(2, 1, 1, callAt(impl.CaChown, "/a", 2, 3))}} {
		frameForm().checkBytes(t, l)
	}
}

// Slots out of their order, and too many of one tenant, each of them right alone, are none.
func TestReadFrameOutOfOrder(t *testing.T) {
	l := slotsOf(0, 0, 1, 1, 2, 2)
	for i := range l {
		for j := range i {
			bent := slices.Clone(l)
			bent[i], bent[j] = bent[j], bent[i]
			if frameForm().checkRead(t, joined(frameTokens(bent))) != (l[i].Tenant == l[j].Tenant) {
				t.Errorf("slots %d and %d are in each other's place", i, j)
			}
		}
		for tenant := range 3 {
			more := slices.Insert(slices.Clone(l), i, slotOfTenant(tenant))
			frameForm().checkRefused(t, "seven slots", joined(frameTokens(more)))
			few := slices.Insert(slotsOf(1, 1), i%3, slotOfTenant(1))
			frameForm().checkRefused(t, "three of one tenant", joined(frameTokens(few)))
		}
	}
	for _, size := range []int{7, 8, 100, 1 << 16} {
		frameForm().checkRefused(t, fmt.Sprint(size, " slots"), "f"+strings.Repeat(joined(slotTokens(slotOfTenant(0))), size))
		frameForm().checkRefused(t, fmt.Sprint(size, " slots behind six"), joined(frameTokens(l))+strings.Repeat(joined(slotTokens(slotOfTenant(2))), size))
	}
}

// The piece of a call is one's whole text: no byte lacks, none is behind, and a call that is not CallOk has none.
func TestReadFramePieces(t *testing.T) {
	of := func(text string) string {
		ahead, behind := joined(slotTokens(slotOfTenant(0))), joined(slotTokens(slotOfTenant(2)))
		return "f" + ahead + "\x01\x02\x03" + joined(pieceTokens(text)) + behind
	}
	for _, x := range append(textCalls(), callsOfEachKind()...) {
		s := impl.ShowCall(x)
		if !frameForm().checkRead(t, of(s)) {
			t.Errorf("the piece of %+v is not read", x)
		}
		for at := range len(s) {
			frameForm().checkRefused(t, "a call cut off", of(s[:at]))
		}
		for _, more := range []string{"\x00", "\x80", "f", s} {
			frameForm().checkRefused(t, "more behind a call", of(s+more))
		}
	}
	for _, x := range wrongCalls() {
		frameForm().checkRefused(t, "a call that is not CallOk", of(joined(callTokens(x))))
	}
	for _, s := range []string{"", "\x00", "\x04", "\x04\x00\x00\x00\x00", "\x04\x00\x00\x80\x00\x00\x00", "\x17\x00\x00\x00\x00\x00", "\x00\x00\x00\x00\x00\x00", strings.Repeat("\x00", 200)} {
		frameForm().checkRefused(t, "no call", of(s))
	}
	for _, n := range []int{0, 1, 5, 7, 8, 127, 128, 1 << 20, math.MaxInt32, math.MaxUint32, impl.MaxVar} {
		frameForm().checkRefused(t, "another count of bytes", "f\x01\x02\x03"+wantVar(n)+impl.ShowCall(stats))
		frameForm().checkRefused(t, "another count of bytes, bytes behind", "f\x01\x02\x03"+wantVar(n)+strings.Repeat("\x00", 1<<12))
	}
}

// Promise 8 with promise 11: a frame takes those pieces that ReadCall takes.
func TestFramesTakeCalls(t *testing.T) {
	taken := 0
	for _, s := range append(shortTexts("\x00\x01\x05\x0c\x80/", 7), texts()...) {
		x, ok := impl.ReadCall(s)
		l, read := impl.ReadFrame("f\x01\x02\x03" + impl.Var(len(s)) + s)
		if read != ok || ok && !slices.Equal(l, []impl.Slot{slotOf(1, 2, 3, x)}) || !ok && l != nil {
			t.Fatalf("%q is the call %+v, %v, and in a frame %+v, %v", s, x, ok, l, read)
		}
		if ok {
			taken++
		}
	}
	if taken < 300 {
		t.Error("so many are calls:", taken)
	}
}
