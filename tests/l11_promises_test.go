package tests

import (
	"math/rand"
	"slices"
	"strings"
	"testing"

	"loop.example/g00757/impl"
)

func someState(r *rand.Rand) []impl.Tenant {
	if r.Intn(6) == 0 {
		return impl.NewState()
	}
	return []impl.Tenant{someTenant(r), someTenant(r), someTenant(r)}
}

// bentState is wrong, mostly.
func bentState(r *rand.Rand, s []impl.Tenant) []impl.Tenant {
	at := r.Intn(len(s))
	switch r.Intn(5) {
	case 0:
		return slices.Delete(copiedState(s), at, at+1)
	case 1:
		return append(copiedState(s), impl.NewTenant())
	}
	s = copiedState(s)
	s[at] = bentTenant(r, s[at])
	return s
}

// someSlots are slots that fit a state, mostly in their turn, and an index for them.
func someSlots(r *rand.Rand, s []impl.Tenant) ([]impl.Slot, int) {
	var l []impl.Slot
	index := 0
	for tenant, who := range s {
		for range r.Intn(3) {
			a := someTurn(r, who)
			for !wantSlotOk(slotOf(tenant, a.client, a.serial, a.x)) {
				a = someTurn(r, who)
			}
			// One behind the other, or the same one again.
			if last := len(l) - 1; last >= 0 && l[last].Tenant == tenant && r.Intn(2) == 0 {
				a.client, a.serial = l[last].Client, min(l[last].Serial+r.Intn(2), impl.MaxSerial)
			}
			l = append(l, slotOf(tenant, a.client, a.serial, a.x))
			if index == 0 || r.Intn(4) > 0 {
				index = max(index, a.index)
			}
		}
	}
	if r.Intn(12) == 0 {
		return l, r.Intn(5) - 1
	}
	return l, index
}

// bentSlots are no frame, mostly.
func bentSlots(r *rand.Rand, l []impl.Slot) []impl.Slot {
	l = slices.Clone(l)
	if len(l) == 0 {
		return slotsOf(r.Intn(5) - 1)
	}
	s := &l[r.Intn(len(l))]
	switch r.Intn(6) {
	case 0:
		s.Tenant += r.Intn(3) - 1
	case 1:
		s.Client += r.Intn(5) - 2
	case 2:
		s.Serial *= r.Intn(3) * 500000
	case 3:
		s.Call.Path += "/" + strings.Repeat("a", r.Intn(70))
	case 4:
		l = append(l, *s)
	case 5:
		slices.Reverse(l)
	}
	return l
}

func TestSomeFrames(t *testing.T) {
	r := rand.New(rand.NewSource(111))
	wrong, refused, codes, tolds := 0, 0, map[int]int{}, map[int]int{}
	for range 2500 {
		s := someState(r)
		l, index := someSlots(r, s)
		text := impl.ShowFrame(l)
		if r.Intn(12) == 0 {
			s = bentState(r, s)
		}
		if r.Intn(8) == 0 {
			text = bentText(r, frameTokens(l))
		}
		if !wantStateOk(s) {
			wrong++
		}
		if _, ok := frameForm().want(text); !ok {
			refused++
		}
		_, told := apply(t, s, text, index)
		tolds[len(told)]++
		for _, x := range told {
			codes[x.Result.Code]++
		}
	}
	if wrong < 80 || refused < 80 || tolds[0] < 300 || tolds[3] < 200 || tolds[5] < 20 || codes[impl.EOk] < 600 || codes[impl.EAgain] < 50 || codes[impl.ENoSpc] < 50 || codes[impl.EPerm] < 50 {
		t.Error("so many are wrong, refused, told so often, told each code:", wrong, refused, tolds, codes)
	}
}

// toldTo are the Tolds of one tenant.
func toldTo(told []impl.Told, tenant int) []impl.Told {
	return slices.DeleteFunc(slices.Clone(told), func(x impl.Told) bool { return x.Tenant != tenant })
}

func slotsIn(l []impl.Slot, tenant int) []impl.Slot {
	return slices.DeleteFunc(slices.Clone(l), func(s impl.Slot) bool { return s.Tenant != tenant })
}

// Promise 11, asked of the program's answers alone: a tenant's part of a frame is what its own slots come to, among other tenants and other slots, or none.
func TestAlone(t *testing.T) {
	r := rand.New(rand.NewSource(112))
	tells := 0
	for range 1200 {
		s := someState(r)
		l, index := someSlots(r, s)
		all, told := impl.ApplyFrame(s, impl.ShowFrame(l), index)
		for tenant := range 3 {
			own := slotsIn(l, tenant)
			others := someState(r)
			more, _ := someSlots(r, others)
			others[tenant] = s[tenant]
			more = slices.Concat(more, own)
			more = slices.DeleteFunc(more, func(x impl.Slot) bool { return x.Tenant == tenant && !slices.Contains(own, x) })
			slices.SortStableFunc(more, func(a, b impl.Slot) int { return a.Tenant - b.Tenant })
			if len(slotsIn(more, tenant)) != len(own) {
				more = own
			}
			for _, row := range [][]impl.Slot{own, more} {
				for _, among := range [][]impl.Tenant{s, others} {
					got, heard := impl.ApplyFrame(among, impl.ShowFrame(row), index)
					if !sameTenant(got[tenant], all[tenant]) || !slices.Equal(toldTo(heard, tenant), toldTo(told, tenant)) {
						t.Fatalf("tenant %d, at %d: of %+v in %+v comes %+v, %+v, of %+v in %+v %+v, %+v", tenant, index, l, s, all[tenant], told, row, among, got[tenant], heard)
					}
				}
			}
			tells += len(toldTo(told, tenant))
		}
	}
	if tells < 1500 {
		t.Error("so many are told:", tells)
	}
}

// A frame is a tick of each tenant and a call for each slot.
func TestFramesAreTurns(t *testing.T) {
	r := rand.New(rand.NewSource(113))
	again := 0
	for range 1500 {
		s := someState(r)
		l, index := someSlots(r, s)
		got, told := impl.ApplyFrame(s, impl.ShowFrame(l), index)
		var want []impl.Tenant
		for _, who := range s {
			want = append(want, impl.TenantTick(who))
		}
		at := 0
		for _, x := range l {
			next, res, done := impl.TenantDo(want[x.Tenant], x.Client, x.Serial, x.Call, index)
			want[x.Tenant] = next
			last := wantSession(next, x.Client)
			if last.Serial != x.Serial {
				continue
			}
			if at == len(told) || told[at] != toldOf(x.Tenant, x.Client, x.Serial, last.Index, last.Result) || done && (told[at].Result != res || told[at].Index != index) {
				t.Fatalf("%+v at %d in %+v: told %+v", l, index, s, told)
			}
			if !done {
				again++
			}
			at++
		}
		if at != len(told) || !sameState(got, want) {
			t.Fatalf("%+v at %d in %+v: told %+v, %+v, want %+v", l, index, s, told, got, want)
		}
	}
	if again < 100 {
		t.Error("so many are told again:", again)
	}
}

// Rows of frames: a right state stays right, each serial is done once and told the same, and it goes on behind its text.
func TestRowsOfFrames(t *testing.T) {
	r := rand.New(rand.NewSource(114))
	type call struct{ tenant, client, serial int }
	done := 0
	for range 60 {
		s, known := impl.NewState(), map[call]impl.Told{}
		for index := 1; index < 40; index++ {
			l, _ := someSlots(r, s)
			text := impl.ShowFrame(l)
			got, told := impl.ApplyFrame(s, text, index)
			if !impl.StateOk(got) || len(told) > len(l) || len(impl.ShowState(got)) > impl.MaxSnap {
				t.Fatalf("%+v at %d makes of %+v %+v", l, index, s, got)
			}
			for _, x := range told {
				key := call{x.Tenant, x.Client, x.Serial}
				first, in := known[key]
				if in && first != x || !in && x.Index != index {
					t.Fatalf("told %+v, then %+v at %d", first, x, index)
				}
				known[key] = x
			}
			there, ok := impl.ReadState(impl.ShowState(s))
			next, heard := impl.ApplyFrame(there, text, index)
			if !ok || !sameState(next, got) || !slices.Equal(heard, told) || impl.ShowState(next) != impl.ShowState(got) {
				t.Fatalf("%+v at %d in %+v: %+v behind its text, else %+v", l, index, s, heard, told)
			}
			s = got
		}
		done += len(known)
	}
	if done < 2500 {
		t.Error("so many calls are done:", done)
	}
}

func TestSomeFrameTexts(t *testing.T) {
	r := rand.New(rand.NewSource(115))
	frames, states := map[bool]int{}, map[bool]int{}
	for range 2500 {
		s := someState(r)
		l, _ := someSlots(r, s)
		if r.Intn(3) == 0 {
			l, s = bentSlots(r, l), bentState(r, s)
		}
		frames[frameForm().checkShow(t, l) != ""]++
		states[stateForm().checkShow(t, s) != ""]++
		for range 4 {
			text, other := bentText(r, frameTokens(l)), bentText(r, stateTokens(s))
			frames[frameForm().checkRead(t, text)]++
			states[stateForm().checkRead(t, other)]++
			if _, ok := impl.ReadState(text); ok {
				t.Fatalf("%q is a frame's text and a state's", text)
			}
		}
	}
	if frames[true] < 2500 || frames[false] < 2500 || states[true] < 2500 || states[false] < 2500 {
		t.Error("so many are right and wrong:", frames, states)
	}
}

// No two frames, no two states that are not the same have the same text.
func TestFramesTellApart(t *testing.T) {
	r := rand.New(rand.NewSource(116))
	frames, states := map[string][]impl.Slot{}, map[string][]impl.Tenant{}
	for range 3000 {
		s := someState(r)
		l, _ := someSlots(r, s)
		if text := impl.ShowFrame(l); text != "" {
			if other, in := frames[text]; in && !slices.Equal(other, l) {
				t.Fatalf("%q is the text of %+v and of %+v", text, l, other)
			}
			frames[text] = l
		}
		if text := impl.ShowState(s); text != "" {
			if other, in := states[text]; in && !sameState(other, s) {
				t.Fatalf("%q is the text of %+v and of %+v", text, s, other)
			}
			states[text] = s
		}
	}
}

// No argument is written into, and what is shown and read has memory of its own.
func TestFrameTextMemory(t *testing.T) {
	r := rand.New(rand.NewSource(117))
	for i := range 700 {
		s := someState(r)
		l, _ := someSlots(r, s)
		if i%4 == 0 {
			l, s = bentSlots(r, l), bentState(r, s)
		}
		room, given := newRoomyState(s)
		slots, list := newRoomy(l, slotOf(2, 1, 1, stats))
		text, state := impl.ShowFrame(list), impl.ShowState(given)
		was, whole := strings.Clone(text), strings.Clone(state)
		for _, x := range list {
			impl.SlotOk(x)
		}
		impl.FrameOk(list)
		impl.StateOk(given)
		if room.touched() || slots.touched() || !sameState(given, s) || !slices.Equal(list, l) {
			t.Fatalf("written into %+v, %+v", l, s)
		}
		for _, x := range list {
			for _, part := range []string{x.Call.Path, x.Call.To, x.Call.Data} {
				if sharesBytes(text, part) {
					t.Fatalf("%q shares the bytes of %q", text, part)
				}
			}
		}
		for _, who := range given {
			for _, part := range textsOfTenant(who) {
				if sharesBytes(state, part) {
					t.Fatalf("%q shares the bytes of %q", state, part)
				}
			}
		}
		checkFrameMemory(t, text)
		checkStateMemory(t, state)
		if text != was || state != whole {
			t.Fatalf("%q, %q were %q, %q", text, state, was, whole)
		}
	}
}

func checkFrameMemory(t *testing.T, text string) {
	t.Helper()
	got, ok := impl.ReadFrame(text)
	again, _ := impl.ReadFrame(text)
	if overlap(got, again) {
		t.Fatalf("two readings of %q share memory", text)
	}
	for _, x := range got {
		for _, part := range []string{x.Call.Path, x.Call.To, x.Call.Data} {
			if sharesBytes(text, part) {
				t.Fatalf("%q is read with its own bytes: %q", text, part)
			}
		}
	}
	for i := range got {
		got[i].Tenant = -7
	}
	if third, still := impl.ReadFrame(text); still != ok || !slices.Equal(third, again) {
		t.Fatalf("%q is read as %+v, then as %+v", text, again, third)
	}
}

func checkStateMemory(t *testing.T, text string) {
	t.Helper()
	got, ok := impl.ReadState(text)
	again, _ := impl.ReadState(text)
	if sharesState(got, again, text) || sharesState(again, got, text) {
		t.Fatalf("two readings of %q share memory", text)
	}
	spoil(got)
	if third, still := impl.ReadState(text); still != ok || !sameState(third, again) {
		t.Fatalf("%q is read as %+v, then as %+v", text, again, third)
	}
}

// spoil writes into each list of an answer, and into the room behind it.
func spoil(s []impl.Tenant) {
	for i := range s {
		for j := range s[i].Vol.Inodes {
			n := &s[i].Vol.Inodes[j]
			n.Mode, n.Names = -7, append(n.Names, impl.Dirent{Name: "mark", Id: -7})
			for k := range n.Names {
				n.Names[k].Id = -7
			}
		}
		for j := range s[i].Audit {
			s[i].Audit[j].Client = -7
		}
		for j := range s[i].Sessions {
			s[i].Sessions[j].Client = -7
		}
		s[i].Audit, s[i].Sessions = append(s[i].Audit, impl.Note{Index: -7}), append(s[i].Sessions, impl.Session{Index: -7})
		s[i].Vol.Inodes = append(s[i].Vol.Inodes, impl.Inode{Id: -7})
		s[i].Tokens = -7
	}
}

// Tenants that were handed in as one list, in one memory, come back each in its own.
func TestTenantsOfOneMemory(t *testing.T) {
	r := rand.New(rand.NewSource(118))
	for range 300 {
		who := someTenant(r)
		s := []impl.Tenant{who, who, who}
		l, index := someSlots(r, s)
		for _, text := range []string{"", "no frame", "f", impl.ShowFrame(l)} {
			got, _ := apply(t, s, text, index)
			first := copiedState(got)
			for i := range got {
				spoil(got[i : i+1])
				for j := range first[i+1:] {
					if !sameTenant(got[i+1+j], first[i+1+j]) {
						t.Fatalf("%q: tenant %d is in the memory of tenant %d", text, i+1+j, i)
					}
				}
			}
			if !sameTenant(s[0], who) {
				t.Fatalf("%q: the answer is in the memory of %+v", text, who)
			}
		}
	}
}

// Nothing is kept from one call to another.
func TestFramesKeepNothing(t *testing.T) {
	r := rand.New(rand.NewSource(119))
	for i := range 600 {
		s := someState(r)
		l, index := someSlots(r, s)
		text := impl.ShowFrame(l)
		if i%5 == 0 {
			text = "none"
		}
		was := copiedState(s)
		got, told := impl.ApplyFrame(s, text, index)
		first, heard := copiedState(got), slices.Clone(told)
		spoil(got)
		for j := range told {
			told[j] = impl.Told{Tenant: -7}
		}
		again, tells := impl.ApplyFrame(s, text, index)
		if !sameState(s, was) || !sameState(again, first) || !slices.Equal(tells, heard) {
			t.Fatalf("%q at %d in %+v: once %+v, then %+v", text, index, was, first, again)
		}
	}
}
