package tests

import (
	"slices"
	"strings"
	"testing"

	"loop.example/g00757/impl"
)

// fieldsOf are those of Index, IndexTerm, Commit, Yes, Entries and Data that a message has, a letter each.
func fieldsOf(m impl.Msg) string {
	out := ""
	for _, field := range []struct {
		letter string
		has    bool
	}{{"i", m.Index != 0}, {"t", m.IndexTerm != 0}, {"c", m.Commit != 0}, {"y", m.Yes}, {"e", len(m.Entries) > 0}, {"d", m.Data != ""}} {
		if field.has {
			out += field.letter
		}
	}
	return out
}

// wantMsgOk gathers what is wrong, kind by kind as the chapter's table has it.
func wantMsgOk(m impl.Msg) bool {
	named, known := map[int]string{1: "it", 2: "y", 3: "itce", 4: "yi", 5: "itd"}[m.Kind]
	wrong := !known || m.From < 0 || m.From > 4 || m.To < 0 || m.To > 4 || m.From == m.To || m.Term < 1 || m.Term > 100000
	for _, field := range fieldsOf(m) {
		wrong = wrong || !strings.ContainsRune(named, field)
	}
	wrong = wrong || m.Index < 0 || m.Index > 100000 || m.IndexTerm < 0 || m.IndexTerm > m.Term || m.Commit < 0 || m.Commit > 100000
	if m.Kind == 1 || m.Kind == 3 {
		wrong = wrong || (m.Index == 0) != (m.IndexTerm == 0)
	}
	if m.Kind == 5 {
		wrong = wrong || m.Index == 0 || m.IndexTerm == 0 || len(m.Data) > 20000
	}
	terms := []int{max(m.IndexTerm, 1)}
	for _, e := range m.Entries {
		terms = append(terms, e.Term)
		wrong = wrong || len(e.Data) > 1600
	}
	terms = append(terms, m.Term)
	return !wrong && slices.IsSorted(terms) && len(m.Entries) <= 4 && m.Index+len(m.Entries) <= 100000
}

func msgTokens(m impl.Msg) []token {
	yes := 0
	if m.Yes {
		yes = 1
	}
	out := []token{{"m", -1}}
	for _, n := range []int{m.Kind, m.From, m.To, m.Term, m.Index, m.IndexTerm, m.Commit, yes, len(m.Entries)} {
		out = append(out, num(n))
	}
	for _, e := range m.Entries {
		out = append(append(out, num(e.Term)), pieceTokens(e.Data)...)
	}
	return append(out, token{m.Data, -1})
}

func (e *eater) msg() impl.Msg {
	rest, ok := strings.CutPrefix(e.left, "m")
	e.left, e.lacks = rest, e.lacks || !ok
	m := impl.Msg{}
	for _, field := range []*int{&m.Kind, &m.From, &m.To, &m.Term, &m.Index, &m.IndexTerm, &m.Commit} {
		*field = e.number()
	}
	yes := e.number()
	m.Yes, e.lacks = yes == 1, e.lacks || yes > 1
	for left := e.number(); left > 0 && !e.lacks; left-- {
		term := e.number()
		m.Entries = append(m.Entries, impl.Entry{Term: term, Data: e.piece()})
	}
	m.Data, e.left = e.left, ""
	return m
}

func sameMsg(a, b impl.Msg) bool {
	return slices.Equal(msgTokens(a), msgTokens(b))
}

func msgForm() form[impl.Msg] {
	return form[impl.Msg]{impl.ShowMsg, impl.ReadMsg, msgTokens, (*eater).msg, wantMsgOk, sameMsg}
}

// checkMsg asks of a message what it is; of one that is not right, what would be its text is none.
func checkMsg(t *testing.T, what string, m impl.Msg, right bool) {
	t.Helper()
	if wantMsgOk(m) != right {
		t.Fatalf("%s: the test's own answer for %+v is %v", what, m, !right)
	}
	if got := impl.MsgOk(m); got != right {
		t.Errorf("%s: MsgOk(%+v) = %v", what, m, got)
	}
	msgForm().checkShow(t, m)
	// A number that has no Var leaves the text of another one, right or not.
	msgForm().checkRead(t, joined(msgTokens(m)))
}

func msgWith(m impl.Msg, change func(m *impl.Msg)) impl.Msg {
	m.Entries = slices.Clone(m.Entries)
	change(&m)
	return m
}

// ofKind is a right message with each field that its kind names.
func ofKind(kind int) impl.Msg {
	m := impl.Msg{Kind: kind, From: 3, To: 1, Term: 9}
	switch kind {
	case impl.MsVote:
		m.Index, m.IndexTerm = 200, 8
	case impl.MsVoted:
		m.Yes = true
	case impl.MsApp:
		m.Index, m.IndexTerm, m.Commit, m.Entries = 200, 5, 130, entriesOf(5, 7, 7)
	case impl.MsApped:
		m.Yes, m.Index = true, 200
	case impl.MsSnap:
		m.Index, m.IndexTerm, m.Data = 200, 9, "data"
	}
	return m
}

func eachKind() []impl.Msg {
	var out []impl.Msg
	for kind := 1; kind <= 5; kind++ {
		out = append(out, ofKind(kind))
	}
	return out
}

// fullMsgs have the most and the greatest that their kind may have.
func fullMsgs() []impl.Msg {
	out := []impl.Msg{
		{Kind: impl.MsVote, Index: 100000, IndexTerm: 100000},
		{Kind: impl.MsVoted, Yes: true},
		{Kind: impl.MsApp, Index: 99996, IndexTerm: 100000, Commit: 100000, Entries: fullLog(100000, 1600)[:4]},
		{Kind: impl.MsApped, Index: 100000, Yes: true},
		{Kind: impl.MsSnap, Index: 100000, IndexTerm: 100000, Data: strings.Repeat("\xff", 20000)},
	}
	for i := range out {
		out[i].From, out[i].To, out[i].Term = 4, 3, 100000
	}
	return out
}

func textMsgs() []impl.Msg {
	out := append(eachKind(), fullMsgs()...)
	for _, m := range eachKind() {
		// With as little as its kind may have.
		least := impl.Msg{Kind: m.Kind, From: 0, To: 4, Term: 1}
		if m.Kind == impl.MsSnap {
			least.Index, least.IndexTerm = 1, 1
		}
		out = append(out, least)
	}
	return append(out,
		impl.Msg{Kind: impl.MsApp, To: 2, Term: 128, Index: 127, IndexTerm: 127, Entries: []impl.Entry{{Term: 127, Data: "m"}, {Term: 128}, {Term: 128, Data: everyByte()}, {Term: 128, Data: "\x00"}}},
		impl.Msg{Kind: impl.MsApp, From: 2, Term: 3, Entries: []impl.Entry{{Term: 1}}},
		impl.Msg{Kind: impl.MsApp, From: 2, Term: 3, Commit: 7},
		impl.Msg{Kind: impl.MsApped, From: 2, Term: 3, Index: 7},
		impl.Msg{Kind: impl.MsSnap, From: 2, Term: 300, Index: 7, IndexTerm: 299, Data: everyByte()},
		impl.Msg{Kind: impl.MsSnap, From: 1, Term: 2, Index: 7, IndexTerm: 1, Data: "\x01\x00\x01\x00"})
}

func TestMessageNumbers(t *testing.T) {
	kinds := []int{impl.MsVote, impl.MsVoted, impl.MsApp, impl.MsApped, impl.MsSnap}
	if impl.MaxBatch != 4 || !slices.Equal(kinds, []int{1, 2, 3, 4, 5}) {
		t.Error("MaxBatch, the kinds:", impl.MaxBatch, kinds)
	}
}

func TestMsgOk(t *testing.T) {
	for _, m := range textMsgs() {
		checkMsg(t, "right", m, true)
		checkMsg(t, "no Entries, but not nil", msgWith(m, func(m *impl.Msg) { m.Entries = append([]impl.Entry{}, m.Entries...) }), true)
	}
	checkMsg(t, "nothing", impl.Msg{}, false)
}

func TestMsgOkKind(t *testing.T) {
	for _, m := range eachKind() {
		for _, kind := range append(farNumbers(), 0, 6, 7, 8, 256+m.Kind, 1<<32+m.Kind, -m.Kind) {
			checkMsg(t, "a kind that there is not", msgWith(m, func(m *impl.Msg) { m.Kind = kind }), false)
		}
	}
	for _, kind := range []int{-1, 0, 6} {
		checkMsg(t, "a kind that there is not, with no more", impl.Msg{Kind: kind, From: 0, To: 1, Term: 1}, false)
	}
}

func TestMsgOkServers(t *testing.T) {
	numbers := append(farNumbers(), 0, 1, 2, 3, 4, 5, 6, 256, 257, 1<<32, 1<<32+3)
	for _, m := range eachKind() {
		for _, from := range numbers {
			for _, to := range numbers {
				right := from >= 0 && from <= 4 && to >= 0 && to <= 4 && from != to
				checkMsg(t, "servers", msgWith(m, func(m *impl.Msg) { m.From, m.To = from, to }), right)
			}
		}
	}
}

// checkField asks of each kind what it is with a number at each of some.
func checkField(t *testing.T, name string, m impl.Msg, field func(m *impl.Msg) *int, right func(n int) bool, more ...int) {
	t.Helper()
	for _, n := range append(farNumbers(), append(more, 0, 1, 99999, 100000, 100001, 1<<32, 1<<32+1)...) {
		checkMsg(t, name+" "+impl.Dec(n), msgWith(m, func(m *impl.Msg) { *field(m) = n }), right(n))
	}
}

func term(m *impl.Msg) *int      { return &m.Term }
func index(m *impl.Msg) *int     { return &m.Index }
func indexTerm(m *impl.Msg) *int { return &m.IndexTerm }
func commit(m *impl.Msg) *int    { return &m.Commit }

// from tells what numbers are from one to another.
func from(low, high int) func(n int) bool {
	return func(n int) bool { return n >= low && n <= high }
}

func TestMsgOkTerm(t *testing.T) {
	for _, m := range eachKind() {
		checkField(t, "Term, the least that there may be", m, term, from(map[int]int{1: 8, 2: 1, 3: 7, 4: 1, 5: 9}[m.Kind], 100000), 4, 5, 6, 7, 8, 9, 10)
	}
	for kind := 1; kind <= 5; kind++ {
		bare := impl.Msg{Kind: kind, To: 1}
		if kind == impl.MsSnap {
			bare.Index, bare.IndexTerm = 1, 1
		}
		checkField(t, "Term of a bare message", bare, term, from(1, 100000))
	}
}

func TestMsgOkPlace(t *testing.T) {
	for _, kind := range []int{impl.MsVote, impl.MsApp} {
		m := msgWith(ofKind(kind), func(m *impl.Msg) { m.Entries = nil })
		checkField(t, "Index of a place", m, index, from(1, 100000))
		checkField(t, "IndexTerm of a place", m, indexTerm, from(1, 9), 8, 9, 10)
		checkMsg(t, "both 0", msgWith(m, func(m *impl.Msg) { m.Index, m.IndexTerm = 0, 0 }), true)
		checkMsg(t, "both 1", msgWith(m, func(m *impl.Msg) { m.Index, m.IndexTerm = 1, 1 }), true)
		for _, pair := range [][2]int{{0, 1}, {1, 0}, {0, -1}, {-1, 0}, {-1, -1}, {-1, 1}, {1, -1}, {0, 9}, {100000, 0}, {0, 10}, {100001, 0}, {100001, 9}, {100000, 10}} {
			checkMsg(t, "no place", msgWith(m, func(m *impl.Msg) { m.Index, m.IndexTerm = pair[0], pair[1] }), false)
		}
		top := msgWith(m, func(m *impl.Msg) { m.Term, m.Index = 100000, 100000 })
		checkField(t, "IndexTerm at the greatest Term", top, indexTerm, from(1, 100000))
		low := msgWith(m, func(m *impl.Msg) { m.Term, m.Index, m.IndexTerm = 1, 0, 0 })
		checkField(t, "IndexTerm at Index 0", low, indexTerm, from(0, 0))
		checkField(t, "Index at IndexTerm 0", low, index, from(0, 0))
	}
}

func TestMsgOkCommit(t *testing.T) {
	for _, m := range []impl.Msg{ofKind(impl.MsApp), {Kind: impl.MsApp, From: 1, Term: 1}} {
		checkField(t, "Commit", m, commit, from(0, 100000), 199, 200, 203, 204)
	}
}

func TestMsgOkIndex(t *testing.T) {
	for _, yes := range []bool{true, false} {
		checkField(t, "Index of MsApped", impl.Msg{Kind: impl.MsApped, From: 2, To: 4, Term: 1, Yes: yes}, index, from(0, 100000))
	}
	m := ofKind(impl.MsSnap)
	checkField(t, "Index of MsSnap", m, index, from(1, 100000))
	checkField(t, "IndexTerm of MsSnap", m, indexTerm, from(1, 9), 8, 9, 10)
	checkMsg(t, "MsSnap at no place", msgWith(m, func(m *impl.Msg) { m.Index, m.IndexTerm = 0, 0 }), false)
	checkField(t, "IndexTerm of MsSnap at the greatest Term", msgWith(m, func(m *impl.Msg) { m.Term = 100000 }), indexTerm, from(1, 100000))
}

func TestMsgOkEntries(t *testing.T) {
	of := func(index, indexTerm, term int, l []impl.Entry) impl.Msg {
		return impl.Msg{Kind: impl.MsApp, From: 4, Term: term, Index: index, IndexTerm: indexTerm, Entries: l}
	}
	for _, c := range []struct {
		what  string
		m     impl.Msg
		right bool
	}{
		{"none", of(3, 2, 5, nil), true},
		{"as many as may be", of(3, 2, 5, entriesOf(2, 2, 3, 5)), true},
		{"one more", of(3, 2, 5, entriesOf(2, 2, 3, 5, 5)), false},
		{"many", of(3, 2, 5, slices.Repeat(entriesOf(3), 1000)), false},
		{"a term of 0", of(0, 0, 5, entriesOf(0)), false},
		{"a term of 0 ahead", of(0, 0, 5, entriesOf(0, 1)), false},
		{"a term of 1", of(0, 0, 5, entriesOf(1)), true},
		{"a term below 0", of(0, 0, 5, entriesOf(-1)), false},
		{"at IndexTerm", of(3, 3, 5, entriesOf(3)), true},
		{"below IndexTerm", of(3, 3, 5, entriesOf(2)), false},
		{"below IndexTerm, then above", of(3, 3, 5, entriesOf(2, 4)), false},
		{"falling", of(3, 2, 5, entriesOf(4, 3)), false},
		{"falling, none below IndexTerm", of(3, 2, 5, entriesOf(2, 3, 4, 3)), false},
		{"falling behind two alike", of(3, 2, 5, entriesOf(4, 4, 3, 4)), false},
		{"at Term", of(3, 2, 5, entriesOf(5, 5)), true},
		{"above Term", of(3, 2, 5, entriesOf(6)), false},
		{"the last one above Term", of(3, 2, 5, entriesOf(2, 3, 5, 6)), false},
		{"at the greatest Term", of(3, 100000, 100000, entriesOf(100000)), true},
		{"above the greatest Term", of(3, 100000, 100000, entriesOf(100001)), false},
		{"up to MaxIndex", of(99996, 1, 1, entriesOf(1, 1, 1, 1)), true},
		{"above MaxIndex", of(99997, 1, 1, entriesOf(1, 1, 1, 1)), false},
		{"one up to MaxIndex", of(99999, 1, 1, entriesOf(1)), true},
		{"one above MaxIndex", of(100000, 1, 1, entriesOf(1)), false},
		{"none at MaxIndex", of(100000, 1, 1, nil), true},
	} {
		checkMsg(t, c.what, c.m, c.right)
	}
}

func TestMsgOkData(t *testing.T) {
	for count := 1; count <= 4; count++ {
		for at := range count {
			for size, right := range map[int]bool{0: true, 1: true, 1599: true, 1600: true, 1601: false, 20000: false} {
				l := slices.Repeat(entriesOf(6), count)
				l[at].Data = strings.Repeat("d", size)
				checkMsg(t, "Data of an Entry", msgWith(ofKind(impl.MsApp), func(m *impl.Msg) { m.Entries = l }), right)
			}
		}
	}
	for size, right := range map[int]bool{0: true, 1: true, 1600: true, 1601: true, 19999: true, 20000: true, 20001: false, 100000: false} {
		checkMsg(t, "Data of MsSnap", msgWith(ofKind(impl.MsSnap), func(m *impl.Msg) { m.Data = strings.Repeat("d", size) }), right)
	}
}

// Each kind with each field that it does not name, not zero; and each field that it names, zero where it may be.
func TestMsgOkNames(t *testing.T) {
	named := map[int]string{1: "it", 2: "y", 3: "itce", 4: "yi", 5: "itd"}
	for _, m := range append(eachKind(), textMsgs()...) {
		for field, changes := range map[string][]func(m *impl.Msg){
			"i": {func(m *impl.Msg) { m.Index = 1 }, func(m *impl.Msg) { m.Index = 100000 }, func(m *impl.Msg) { m.Index = -1 }},
			"t": {func(m *impl.Msg) { m.IndexTerm = 1 }, func(m *impl.Msg) { m.IndexTerm = m.Term }, func(m *impl.Msg) { m.IndexTerm = -1 }},
			"c": {func(m *impl.Msg) { m.Commit = 1 }, func(m *impl.Msg) { m.Commit = 100000 }, func(m *impl.Msg) { m.Commit = -1 }},
			"y": {func(m *impl.Msg) { m.Yes = true }},
			"e": {func(m *impl.Msg) { m.Entries = []impl.Entry{{Term: m.Term}} }, func(m *impl.Msg) { m.Entries = []impl.Entry{{}} }},
			"d": {func(m *impl.Msg) { m.Data = "d" }, func(m *impl.Msg) { m.Data = "\x00" }},
		} {
			if strings.Contains(named[m.Kind], field) {
				continue
			}
			for _, change := range changes {
				checkMsg(t, "not named: "+field, msgWith(m, change), false)
			}
		}
		checkMsg(t, "not Yes", msgWith(m, func(m *impl.Msg) { m.Yes = false }), true)
		checkMsg(t, "no Entries", msgWith(m, func(m *impl.Msg) { m.Entries = nil }), true)
		checkMsg(t, "no Data", msgWith(m, func(m *impl.Msg) { m.Data = "" }), true)
		checkMsg(t, "no Commit", msgWith(m, func(m *impl.Msg) { m.Commit = 0 }), true)
	}
}

func TestShowMsg(t *testing.T) {
	for _, c := range []struct {
		m    impl.Msg
		want string
	}{
		{impl.Msg{Kind: impl.MsVote, From: 4, To: 0, Term: 300, Index: 128, IndexTerm: 299}, "m\x01\x04\x00\xac\x02\x80\x01\xab\x02\x00\x00\x00"},
		{impl.Msg{Kind: impl.MsVote, From: 0, To: 1, Term: 1}, "m\x01\x00\x01\x01\x00\x00\x00\x00\x00"},
		{impl.Msg{Kind: impl.MsVoted, From: 1, To: 4, Term: 127, Yes: true}, "m\x02\x01\x04\x7f\x00\x00\x00\x01\x00"},
		{impl.Msg{Kind: impl.MsVoted, From: 1, To: 4, Term: 128}, "m\x02\x01\x04\x80\x01\x00\x00\x00\x00\x00"},
		{impl.Msg{Kind: impl.MsApp, From: 0, To: 1, Term: 5, Index: 2, IndexTerm: 1, Commit: 6, Entries: []impl.Entry{{Term: 1, Data: "ab"}, {Term: 4}, {Term: 5, Data: "\x80"}}}, "m\x03\x00\x01\x05\x02\x01\x06\x00\x03" + "\x01\x02ab" + "\x04\x00" + "\x05\x01\x80"},
		{impl.Msg{Kind: impl.MsApp, From: 3, To: 2, Term: 1}, "m\x03\x03\x02\x01\x00\x00\x00\x00\x00"},
		{impl.Msg{Kind: impl.MsApped, From: 2, To: 3, Term: 2, Yes: true, Index: 100000}, "m\x04\x02\x03\x02\xa0\x8d\x06\x00\x00\x01\x00"},
		{impl.Msg{Kind: impl.MsApped, From: 2, To: 3, Term: 2}, "m\x04\x02\x03\x02\x00\x00\x00\x00\x00"},
		{impl.Msg{Kind: impl.MsSnap, From: 2, To: 3, Term: 9, Index: 200, IndexTerm: 8, Data: "all of it"}, "m\x05\x02\x03\x09\xc8\x01\x08\x00\x00\x00all of it"},
		{impl.Msg{Kind: impl.MsSnap, From: 2, To: 3, Term: 9, Index: 1, IndexTerm: 1}, "m\x05\x02\x03\x09\x01\x01\x00\x00\x00"},
	} {
		msgForm().checkText(t, c.m, c.want)
	}
	for _, m := range textMsgs() {
		if msgForm().checkShow(t, m) == "" {
			t.Errorf("no text of %+v", m)
		}
	}
	if size := len(impl.ShowMsg(fullMsgs()[2])); size != 1+3+3+3+3+3+2+4*(3+2+1600) {
		t.Errorf("the longest MsApp has %d bytes", size)
	}
	if size := len(impl.ShowMsg(fullMsgs()[4])); size != 1+3+3+3+3+3+20000 {
		t.Errorf("the longest MsSnap has %d bytes", size)
	}
}

func TestReadMsgRefuses(t *testing.T) {
	for _, m := range textMsgs() {
		s := msgForm().checkShow(t, m)
		for c := range 256 {
			if other := string([]byte{byte(c)}); c != 'm' {
				msgForm().checkRefused(t, "another letter", other+s[1:])
			}
		}
		msgForm().checkRefused(t, "no letter", s[1:])
		msgForm().checkRefused(t, "a letter more", "m"+s)
		msgForm().checkRefused(t, "a byte ahead", "\x00"+s)
		msgForm().checkNeeded(t, m)
		msgForm().checkNumbers(t, m)
	}
	for _, s := range append(texts(), "", "m", "M", "f", "mm", "m\x02", strings.Repeat("m", 1000), "m"+strings.Repeat("\x00", 1000), "m"+strings.Repeat("\x01", 1000), "m"+strings.Repeat("\xff", 1000)) {
		msgForm().checkRefused(t, "no message", s)
	}
}

// MsSnap ends with its Data: cut off there, and with bytes more, it is another one's text; all others end by themselves.
func TestReadMsgCutOff(t *testing.T) {
	for _, m := range append(eachKind(), textMsgs()...) {
		s := impl.ShowMsg(m)
		head := len(s)
		if m.Kind == impl.MsSnap {
			head -= len(m.Data)
		}
		for at := range len(s) {
			if len(s) > 300 && at > 40 && at%97 > 0 && at < len(s)-9 {
				continue
			}
			if msgForm().checkRead(t, s[:at]) != (at >= head) {
				t.Errorf("%+v, cut off at %d", m, at)
			}
		}
		for c := range 256 {
			more := s + string([]byte{byte(c)})
			if msgForm().checkRead(t, more) != (m.Kind == impl.MsSnap && len(m.Data) < 20000) {
				t.Errorf("%+v, and a byte more: %d", m, c)
			}
		}
		if m.Kind != impl.MsSnap {
			msgForm().checkRefused(t, "twice", s+s)
		}
	}
}

// msgTextWith has another number in the place of one: 8 is Yes, 9 how many Entries there are.
func msgTextWith(m impl.Msg, at int, n int) string {
	tokens := msgTokens(m)
	tokens[at] = num(n)
	return joined(tokens)
}

func TestReadMsgYes(t *testing.T) {
	for _, m := range textMsgs() {
		for _, n := range []int{2, 3, 127, 128, 129, 256, 257, 1 << 32, 1<<32 + 1, impl.MaxVar} {
			msgForm().checkRefused(t, "neither 0 nor 1 for Yes", msgTextWith(m, 8, n))
		}
		answers := m.Kind == impl.MsVoted || m.Kind == impl.MsApped
		if !msgForm().checkRead(t, msgTextWith(m, 8, 0)) || msgForm().checkRead(t, msgTextWith(m, 8, 1)) != answers {
			t.Errorf("Yes of %+v", m)
		}
	}
}

func TestReadMsgCounts(t *testing.T) {
	for _, m := range textMsgs() {
		for _, n := range []int{0, 1, 2, 3, 4, 5, 6, 100, 127, 128, 1 << 20, 1 << 31, 1<<32 + len(m.Entries), impl.MaxVar} {
			if n != len(m.Entries) {
				msgForm().checkRefused(t, "another count of Entries", msgTextWith(m, 9, n))
				msgForm().checkRefused(t, "another count of Entries, bytes behind", msgTextWith(m, 9, n)+strings.Repeat("\x01", 1000))
			}
		}
	}
	five := msgWith(ofKind(impl.MsApp), func(m *impl.Msg) { m.Entries = entriesOf(5, 5, 5, 5, 5) })
	msgForm().checkRefused(t, "five Entries", joined(msgTokens(five)))
	m := impl.Msg{Kind: impl.MsApp, To: 1, Term: 1, Entries: []impl.Entry{{Term: 1, Data: "abc"}}}
	head := "m\x03\x00\x01\x01\x00\x00\x00\x00\x01\x01"
	msgForm().checkText(t, m, head+"\x03abc")
	for _, n := range []int{0, 1, 2, 4, 127, 128, 1600, 1601, 1 << 31, impl.MaxVar} {
		msgForm().checkRefused(t, "another count of bytes", head+wantVar(n)+"abc")
	}
	long := strings.Repeat("d", 1601)
	if !msgForm().checkRead(t, head+wantVar(1600)+long[1:]) {
		t.Error("MaxData bytes are refused")
	}
	msgForm().checkRefused(t, "more bytes than MaxData", head+wantVar(1601)+long)
}

func TestReadMsgOfOtherBytes(t *testing.T) {
	for _, m := range eachKind() {
		msgForm().checkBytes(t, m)
	}
	msgForm().checkBytes(t, impl.Msg{Kind: impl.MsApp, From: 1, Term: 128, Index: 1, IndexTerm: 1, Entries: []impl.Entry{{Term: 128}}})
	msgForm().checkBytes(t, impl.Msg{Kind: impl.MsApped, From: 1, Term: 1, Index: 16384})
}
