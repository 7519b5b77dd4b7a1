package tests

import (
	"math/rand"
	"slices"
	"strings"
	"testing"

	"loop.example/g00757/impl"
)

// someMsg is right, mostly.
func someMsg(r *rand.Rand) impl.Msg {
	top := 1 + r.Intn(1<<r.Intn(10))
	m := impl.Msg{Kind: 1 + r.Intn(5), From: r.Intn(5), Term: top}
	m.To = (m.From + 1 + r.Intn(4)) % 5
	at := 1 + r.Intn(1<<r.Intn(17))
	switch m.Kind {
	case impl.MsVote, impl.MsApp:
		if r.Intn(4) > 0 {
			m.Index, m.IndexTerm = at, 1+r.Intn(top)
		}
	case impl.MsVoted, impl.MsApped:
		m.Yes = r.Intn(2) == 0
	case impl.MsSnap:
		b := make([]byte, r.Intn(20))
		r.Read(b)
		m.Index, m.IndexTerm, m.Data = at, 1+r.Intn(top), string(b)
	}
	if m.Kind == impl.MsApped {
		m.Index = at - 1
	}
	if m.Kind == impl.MsApp {
		m.Commit = r.Intn(1 + at)
		least := max(m.IndexTerm, 1)
		for range r.Intn(5) {
			least += r.Intn(m.Term - least + 1)
			m.Entries = append(m.Entries, impl.Entry{Term: least, Data: strings.Repeat("e", r.Intn(4))})
		}
	}
	if r.Intn(4) == 0 {
		bendMsg(r, &m)
	}
	return m
}

func bendMsg(r *rand.Rand, m *impl.Msg) {
	switch r.Intn(7) {
	case 0:
		m.Kind += r.Intn(3) - 1
	case 1:
		m.To = m.From + r.Intn(2)
	case 2:
		m.Term += r.Intn(5) - 2
	case 3:
		m.Index += r.Intn(3) - 1
	case 4:
		m.IndexTerm += r.Intn(3) - 1
	case 5:
		m.Entries = append(slices.Clone(m.Entries), impl.Entry{Term: m.Term + r.Intn(2)})
	case 6:
		m.Yes, m.Commit = !m.Yes, r.Intn(3)-1
	}
}

// Promise 12: what ShowMsg makes is taken, and nothing else.
func TestSomeMessages(t *testing.T) {
	checkSome(t, msgForm(), rand.New(rand.NewSource(121)), someMsg)
}

// All messages of small numbers, right and wrong ones.
func TestSmallMessages(t *testing.T) {
	lists := [][]impl.Entry{nil, entriesOf(0), entriesOf(1), entriesOf(2), entriesOf(3), entriesOf(1, 2), entriesOf(2, 1), entriesOf(2, 2, 2, 2), entriesOf(2, 2, 2, 2, 2)}
	right := map[int]int{}
	for i := range 7 * 4 * 4 * 5 * 3 * 4 {
		part := func(size int) int {
			n := i % size
			i /= size
			return n
		}
		m := impl.Msg{Kind: part(7), To: 1, Term: part(4), Index: part(4) - 1, IndexTerm: part(5) - 1, Commit: part(3) - 1}
		m.Yes, m.Data = i%2 == 1, strings.Repeat("d", i/2)
		for _, l := range lists {
			m.Entries = l
			checkMsg(t, "small", m, wantMsgOk(m))
			if impl.MsgOk(m) {
				right[m.Kind]++
			}
		}
	}
	// By hand. MsVote: Terms 1, 2 and 3 with both 0, or Index 1 or 2 and IndexTerm up to Term. MsVoted: three Terms, Yes or not. MsApped: these with Index 0, 1 or 2. MsSnap: Index 1 or 2, IndexTerm up to Term, Data or none.
	// MsApp: two Commits with MsVote's places: of IndexTerm 0 at Terms 1, 2, 3 fit 2, 5 and 6 lists, of 1 (each Index) as many, of 2 at Terms 2, 3 fit 3 and 4, of 3 at Term 3 2.
	want := map[int]int{1: 15, 2: 6, 3: 2 * (13 + 2*13 + 2*7 + 2*2), 4: 18, 5: 24}
	for kind := range 7 {
		if right[kind] != want[kind] {
			t.Errorf("so many of kind %d are right: %d, want %d", kind, right[kind], want[kind])
		}
	}
}

// What is read of any short text is what its text is made of.
func TestShortMessages(t *testing.T) {
	taken := 0
	for _, s := range shortTexts("\x00\x01\x03\x80", 6) {
		for _, head := range []string{"", "m", "m\x01\x00\x01\x01", "m\x03\x00\x01\x01", "m\x05\x00\x01\x01\x01\x01", "m\x02\x00\x01"} {
			if msgForm().checkRead(t, head+s) {
				taken++
			}
		}
	}
	if taken < 100 {
		t.Error("so many are taken:", taken)
	}
}

// No two messages that are not the same have the same text, nor has a message one of anything else that begins with a letter.
func TestMessagesTellApart(t *testing.T) {
	r := rand.New(rand.NewSource(122))
	known := map[string]impl.Msg{}
	for range 20000 {
		m := someMsg(r)
		s := impl.ShowMsg(m)
		if s == "" {
			continue
		}
		if other, in := known[s]; in && !sameMsg(other, m) {
			t.Fatalf("%q is the text of %+v and of %+v", s, m, other)
		}
		known[s] = m
		if l, ok := impl.ReadFrame(s); ok {
			t.Fatalf("%q is a message and the frame %+v", s, l)
		}
	}
	for _, l := range textFrames() {
		msgForm().checkRefused(t, "a frame", impl.ShowFrame(l))
		msgForm().checkRefused(t, "a frame with a message's letter", "m"+impl.ShowFrame(l)[1:])
	}
}

func textsOfMsg(m impl.Msg) []string {
	out := []string{m.Data}
	for _, e := range m.Entries {
		out = append(out, e.Data)
	}
	return out
}

// No argument is written into, nor the room behind its list, and no answer has its memory.
func TestMessageMemory(t *testing.T) {
	r := rand.New(rand.NewSource(123))
	given := textMsgs()
	for range 2000 {
		given = append(given, someMsg(r))
	}
	for _, was := range given {
		m := was
		room, list := newRoomy(was.Entries, impl.Entry{Term: -7, Data: "mark"})
		m.Entries = list
		ok, s := impl.MsgOk(m), impl.ShowMsg(m)
		if room.touched() || !sameMsg(m, was) || ok != (s != "") {
			t.Fatalf("%+v is %+v now", was, m)
		}
		for _, part := range textsOfMsg(m) {
			if sharesBytes(s, part) {
				t.Fatalf("%q shares the bytes of %q", s, part)
			}
		}
		checkMsgMemory(t, s)
	}
}

func checkMsgMemory(t *testing.T, s string) {
	t.Helper()
	was := strings.Clone(s)
	got, ok := impl.ReadMsg(s)
	again, _ := impl.ReadMsg(s)
	if overlap(got.Entries, again.Entries) {
		t.Fatalf("two readings of %q share memory", s)
	}
	for _, part := range textsOfMsg(got) {
		if sharesBytes(s, part) {
			t.Fatalf("%q is read with its own bytes: %q", s, part)
		}
	}
	for i := range got.Entries {
		got.Entries[i] = impl.Entry{Term: -7}
	}
	got.Entries = append(got.Entries, impl.Entry{Term: -7})
	if third, still := impl.ReadMsg(s); still != ok || !sameMsg(third, again) || s != was {
		t.Fatalf("%q is read as %+v, then as %+v", s, again, third)
	}
}
