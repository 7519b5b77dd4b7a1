package tests

import (
	"math"
	"math/rand"
	"slices"
	"strings"
	"testing"
	"unsafe"

	"loop.example/g00757/impl"
)

// span is what a number may be.
type span struct{ low, high int }

// recBounds are what Term, Index, Vote and the length of Data may be, by kind.
var recBounds = map[int][4]span{
	impl.RcHard:  {{0, impl.MaxTerm}, {0, 0}, {-1, impl.MaxPeers - 1}, {0, 0}},
	impl.RcEntry: {{1, impl.MaxTerm}, {1, impl.MaxIndex}, {0, 0}, {0, impl.MaxData}},
	impl.RcCut:   {{0, 0}, {1, impl.MaxIndex}, {0, 0}, {0, 0}},
	impl.RcSnap:  {{1, impl.MaxTerm}, {1, impl.MaxIndex}, {0, 0}, {0, impl.MaxSnap}},
}

func wantRecOk(r impl.Rec) bool {
	bounds, ok := recBounds[r.Kind]
	for i, n := range []int{r.Term, r.Index, r.Vote, len(r.Data)} {
		ok = ok && n >= bounds[i].low && n <= bounds[i].high
	}
	return ok
}

// wantKeptOk gathers what is wrong, in the document's words.
func wantKeptOk(k impl.Kept) bool {
	wrong := k.Term < 0 || k.Term > impl.MaxTerm || k.Vote < -1 || k.Vote > impl.MaxPeers-1
	if k.Snap.Index != 0 || k.Snap.Term != 0 || k.Snap.Data != "" {
		wrong = wrong || k.Snap.Index < 1 || k.Snap.Index > impl.MaxIndex || k.Snap.Term < 1 || k.Snap.Term > k.Term || len(k.Snap.Data) > impl.MaxSnap
	}
	wrong = wrong || len(k.Entries) > impl.MaxLog || k.Snap.Index > impl.MaxIndex-len(k.Entries)
	for i, e := range k.Entries {
		wrong = wrong || e.Term < 1 || e.Term < k.Snap.Term || e.Term > k.Term || len(e.Data) > impl.MaxData
		for _, ahead := range k.Entries[:i] {
			wrong = wrong || e.Term < ahead.Term
		}
	}
	return !wrong
}

// book is a Kept with its Entries by their numbers.
type book struct {
	kept impl.Kept
	at   map[int]impl.Entry
}

func bookOf(k impl.Kept) book {
	b := book{kept: k, at: map[int]impl.Entry{}}
	for i, e := range k.Entries {
		b.at[k.Snap.Index+1+i] = e
	}
	return b
}

func (b book) close() impl.Kept {
	k := b.kept
	k.Entries = nil
	for n := k.Snap.Index + 1; len(k.Entries) < len(b.at); n++ {
		k.Entries = append(k.Entries, b.at[n])
	}
	return k
}

func (b book) drop(goes func(n int) bool) {
	for n := range b.at {
		if goes(n) {
			delete(b.at, n)
		}
	}
}

func wantStep(k impl.Kept, r impl.Rec) (impl.Kept, bool) {
	if !wantKeptOk(k) {
		return impl.Kept{}, false
	}
	b := bookOf(k)
	entry, there := b.at[r.Index]
	last := k.Snap.Index + len(b.at)
	fits := false
	switch {
	case !wantRecOk(r):
	case r.Kind == impl.RcHard:
		fits = r.Term > k.Term || r.Term == k.Term && k.Vote == -1 || r.Term == k.Term && k.Vote == r.Vote
		if fits {
			b.kept.Term, b.kept.Vote = r.Term, r.Vote
		}
	case r.Kind == impl.RcEntry:
		least := k.Snap.Term
		if len(b.at) > 0 {
			least = b.at[last].Term
		}
		fits = r.Index == last+1 && len(b.at) < impl.MaxLog && r.Term >= least && r.Term <= k.Term
		if fits {
			b.at[r.Index] = impl.Entry{Term: r.Term, Data: r.Data}
		}
	case r.Kind == impl.RcCut:
		fits = there
		if fits {
			b.drop(func(n int) bool { return n >= r.Index })
		}
	case r.Kind == impl.RcSnap:
		fits = r.Index > k.Snap.Index && r.Term <= k.Term
		if fits {
			b.kept.Snap = impl.Snap{Index: r.Index, Term: r.Term, Data: r.Data}
			b.drop(func(n int) bool { return n <= r.Index || !there || entry.Term != r.Term })
		}
	}
	return b.close(), fits
}

// wantFold stops at the first record that does not fit, and tells how many did.
func wantFold(k impl.Kept, l []impl.Rec) (impl.Kept, int) {
	for i, r := range l {
		next, fits := wantStep(k, r)
		if !fits {
			return k, i
		}
		k = next
	}
	return k, len(l)
}

func wantStoreOk(s impl.Store) bool {
	if !wantKeptOk(s.Sure) || len(s.Loose) > impl.MaxLoose {
		return false
	}
	_, n := wantFold(s.Sure, s.Loose)
	return n == len(s.Loose)
}

// wantLead tells by the two Kepts alone whether records lead from one to the other.
func wantLead(a, b impl.Kept) bool {
	back := b.Term < a.Term || b.Term == a.Term && a.Vote != -1 && b.Vote != a.Vote
	stale := a.Snap != b.Snap && b.Snap.Index <= a.Snap.Index
	return wantKeptOk(a) && wantKeptOk(b) && !back && !stale
}

// wantChanges finds what both begin with from the end on.
func wantChanges(a, b impl.Kept) []impl.Rec {
	var out []impl.Rec
	if a.Term != b.Term || a.Vote != b.Vote {
		out = append(out, impl.Rec{Kind: impl.RcHard, Term: b.Term, Vote: b.Vote})
	}
	if a.Snap != b.Snap {
		out = append(out, snapRec(b.Snap))
	}
	mid, _ := wantFold(a, out)
	same := min(len(mid.Entries), len(b.Entries))
	for !slices.Equal(mid.Entries[:same], b.Entries[:same]) {
		same--
	}
	if len(mid.Entries) > same {
		out = append(out, impl.Rec{Kind: impl.RcCut, Index: b.Snap.Index + same + 1})
	}
	for i := same; i < len(b.Entries); i++ {
		out = append(out, impl.Rec{Kind: impl.RcEntry, Term: b.Entries[i].Term, Index: b.Snap.Index + i + 1, Data: b.Entries[i].Data})
	}
	return out
}

func snapRec(s impl.Snap) impl.Rec {
	return impl.Rec{Kind: impl.RcSnap, Term: s.Term, Index: s.Index, Data: s.Data}
}

func sameKept(a, b impl.Kept) bool {
	return a.Term == b.Term && a.Vote == b.Vote && a.Snap == b.Snap && slices.Equal(a.Entries, b.Entries)
}

func sameStore(a, b impl.Store) bool {
	return sameKept(a.Sure, b.Sure) && slices.Equal(a.Loose, b.Loose)
}

// first is how many of so many a call takes that is told n.
func first(n, of int) int {
	if n < 0 {
		return 0
	}
	if n > of {
		return of
	}
	return n
}

// entriesOf have these terms, and each its own Data.
func entriesOf(terms ...int) []impl.Entry {
	var out []impl.Entry
	for i, term := range terms {
		out = append(out, impl.Entry{Term: term, Data: string(rune('a' + i))})
	}
	return out
}

// fullLog is as long as a log may be, each entry as long as it may be where size is MaxData.
func fullLog(term, size int) []impl.Entry {
	out := make([]impl.Entry, impl.MaxLog)
	for i := range out {
		out[i] = impl.Entry{Term: term, Data: strings.Repeat("x", size)}
	}
	return out
}

// rightKept is one in the middle of all bounds: the numbers 5 to 7 are its Entries.
func rightKept() impl.Kept {
	return impl.Kept{Term: 6, Vote: 2, Snap: impl.Snap{Index: 4, Term: 2, Data: "S"}, Entries: entriesOf(2, 3, 5)}
}

// edgeKepts are right, each with a bound that it meets exactly.
func edgeKepts() []impl.Kept {
	top := impl.Snap{Index: impl.MaxIndex, Term: impl.MaxTerm, Data: strings.Repeat("s", impl.MaxSnap)}
	return []impl.Kept{
		{}, {Vote: -1}, {Vote: impl.MaxPeers - 1}, {Term: impl.MaxTerm}, {Term: impl.MaxTerm, Vote: -1},
		{Term: 1, Snap: impl.Snap{Index: 1, Term: 1}}, {Term: impl.MaxTerm, Snap: top},
		{Term: 1, Vote: -1, Entries: entriesOf(1)}, {Term: impl.MaxTerm, Entries: entriesOf(1, impl.MaxTerm)},
		{Term: 4, Snap: impl.Snap{Index: 9, Term: 4}, Entries: entriesOf(4, 4)},
		{Term: 3, Entries: fullLog(1, impl.MaxData)}, {Term: 3, Vote: -1, Entries: fullLog(3, 0)},
		{Term: 3, Snap: impl.Snap{Index: impl.MaxIndex - impl.MaxLog, Term: 1}, Entries: fullLog(2, 0)},
		{Term: 3, Snap: impl.Snap{Index: impl.MaxIndex - 3, Term: 1}, Entries: entriesOf(1, 2)},
		{Term: 3, Snap: impl.Snap{Index: impl.MaxIndex - 2, Term: 1}, Entries: entriesOf(1, 2)},
		{Term: 3, Entries: fullLog(2, 0)[:impl.MaxLog-1]},
		rightKept(),
	}
}

// wrongKepts pass one bound by one, or fall out of it altogether.
func wrongKepts() []impl.Kept {
	out := []impl.Kept{
		{Term: -1}, {Term: impl.MaxTerm + 1}, {Term: math.MinInt}, {Term: math.MaxInt},
		{Vote: -2}, {Vote: impl.MaxPeers}, {Vote: math.MinInt}, {Vote: math.MaxInt},
		{Term: 3, Snap: impl.Snap{Term: 1}}, {Term: 3, Snap: impl.Snap{Data: "S"}}, {Term: 3, Snap: impl.Snap{Index: 1}}, {Term: 3, Snap: impl.Snap{Index: 1, Data: "S"}},
		{Term: 3, Snap: impl.Snap{Index: 0, Term: 1, Data: "S"}}, {Term: 3, Snap: impl.Snap{Index: -1, Term: 1}}, {Term: 3, Snap: impl.Snap{Index: 1, Term: -1}},
		{Term: 3, Snap: impl.Snap{Index: 1, Term: 4}}, {Term: 0, Snap: impl.Snap{Index: 1, Term: 1}}, {Term: 3, Snap: impl.Snap{Index: impl.MaxIndex + 1, Term: 1}},
		{Term: 3, Snap: impl.Snap{Index: math.MaxInt, Term: 1}, Entries: entriesOf(1)}, {Term: 3, Snap: impl.Snap{Index: math.MinInt, Term: 1}, Entries: entriesOf(1)},
		{Term: 3, Snap: impl.Snap{Index: 1, Term: 1, Data: strings.Repeat("s", impl.MaxSnap+1)}},
		{Term: 3, Entries: append(fullLog(1, 0), impl.Entry{Term: 1})}, {Term: 3, Entries: make([]impl.Entry, impl.MaxLog+1)},
		{Term: 3, Entries: []impl.Entry{{Term: 1, Data: strings.Repeat("x", impl.MaxData+1)}}},
		{Term: 3, Entries: entriesOf(0)}, {Term: 3, Entries: entriesOf(-1)}, {Term: 3, Entries: entriesOf(4)}, {Term: 0, Entries: entriesOf(1)},
		{Term: 3, Entries: entriesOf(1, 2, 1)}, {Term: 3, Entries: entriesOf(2, 1)}, {Term: 3, Entries: entriesOf(1, 4)}, {Term: 3, Entries: entriesOf(1, 0)}, {Term: 3, Entries: entriesOf(3, 3, 2, 3)},
		{Term: 3, Snap: impl.Snap{Index: 1, Term: 2}, Entries: entriesOf(1)}, {Term: 3, Snap: impl.Snap{Index: 1, Term: 3}, Entries: entriesOf(2, 3)},
		{Term: 3, Snap: impl.Snap{Index: impl.MaxIndex, Term: 1}, Entries: entriesOf(1)},
		{Term: 3, Snap: impl.Snap{Index: impl.MaxIndex - 1, Term: 1}, Entries: entriesOf(1, 1)},
		{Term: 3, Snap: impl.Snap{Index: impl.MaxIndex - impl.MaxLog + 1, Term: 1}, Entries: fullLog(1, 0)},
	}
	return out
}

// smallKepts are all with terms up to 2, two Votes, Snaps of the numbers 1 to 3 and up to two Entries; some are not right.
func smallKepts() []impl.Kept {
	snaps := []impl.Snap{{}, {Index: 1, Term: 1}, {Index: 1, Term: 2}, {Index: 1, Term: 1, Data: "S"}, {Index: 2, Term: 1}, {Index: 2, Term: 2, Data: "S"}, {Index: 3, Term: 2}}
	logs := [][]impl.Entry{nil}
	for _, a := range []impl.Entry{{Term: 1}, {Term: 2}, {Term: 1, Data: "a"}} {
		logs = append(logs, []impl.Entry{a})
		for _, b := range []impl.Entry{{Term: 1}, {Term: 2}, {Term: 2, Data: "b"}} {
			logs = append(logs, []impl.Entry{a, b})
		}
	}
	var out []impl.Kept
	for term := range 3 {
		for _, vote := range []int{-1, 0, 1} {
			for _, snap := range snaps {
				for _, log := range logs {
					out = append(out, impl.Kept{Term: term, Vote: vote, Snap: snap, Entries: log})
				}
			}
		}
	}
	return out
}

// smallRecs are all that may or may not fit a small Kept, and some that fit none.
func smallRecs() []impl.Rec {
	var out []impl.Rec
	for kind := range 6 {
		for term := range 4 {
			for index := -1; index < 7; index++ {
				for vote := -2; vote < 3; vote++ {
					for _, data := range []string{"", "a"} {
						out = append(out, impl.Rec{Kind: kind, Term: term, Index: index, Vote: vote, Data: data})
					}
				}
			}
		}
	}
	return out
}

// someKept is right, of any size up to the bounds.
func someKept(r *rand.Rand) impl.Kept {
	k := impl.Kept{Term: r.Intn(6), Vote: r.Intn(impl.MaxPeers+1) - 1}
	least := 1
	if k.Term > 0 && r.Intn(3) > 0 {
		k.Snap = impl.Snap{Index: 1 + r.Intn(9), Term: 1 + r.Intn(k.Term), Data: strings.Repeat("s", r.Intn(3))}
		if r.Intn(9) == 0 {
			k.Snap.Index = impl.MaxIndex - r.Intn(impl.MaxLog+3)
		}
		least = k.Snap.Term
	}
	size := r.Intn(5)
	if r.Intn(5) == 0 {
		size = impl.MaxLog - r.Intn(4)
	}
	for range min(size, impl.MaxIndex-k.Snap.Index) {
		if k.Term == 0 {
			break
		}
		if r.Intn(3) == 0 {
			least += r.Intn(k.Term - least + 1)
		}
		k.Entries = append(k.Entries, impl.Entry{Term: least, Data: strings.Repeat("d", r.Intn(3))})
	}
	return k
}

// someRec is made to fit, more often than not.
func someRec(r *rand.Rand, k impl.Kept) impl.Rec {
	last := k.Snap.Index + len(k.Entries)
	out := impl.Rec{Kind: 1 + r.Intn(4)}
	term := max(k.Term-r.Intn(2), 1)
	switch out.Kind {
	case impl.RcHard:
		out.Term, out.Vote = k.Term+r.Intn(4)/3, r.Intn(impl.MaxPeers+1)-1
		if r.Intn(2) == 0 {
			out.Vote = k.Vote
		}
	case impl.RcEntry:
		out.Term, out.Index, out.Data = term, last+1, strings.Repeat("e", r.Intn(3))
	case impl.RcCut:
		out.Index = last - r.Intn(3)
	case impl.RcSnap:
		out.Term, out.Index, out.Data = term, k.Snap.Index+1+r.Intn(len(k.Entries)+2), strings.Repeat("t", r.Intn(3))
		if at := out.Index - k.Snap.Index - 1; at < len(k.Entries) && r.Intn(4) > 0 {
			out.Term = k.Entries[at].Term
		}
	}
	if r.Intn(12) == 0 {
		out.Term, out.Index = out.Term+r.Intn(3)-1, out.Index+r.Intn(3)-1
	}
	if r.Intn(20) == 0 {
		out.Vote, out.Kind = r.Intn(2), r.Intn(7)-1
	}
	return out
}

// someRecs each fit what is ahead of them, as far as one is found that does.
func someRecs(r *rand.Rand, k impl.Kept, most int) []impl.Rec {
	var out []impl.Rec
	for range 3 * most {
		x := someRec(r, k)
		next, fits := wantStep(k, x)
		if fits && len(out) < most {
			k, out = next, append(out, x)
		}
	}
	return out
}

func someStore(r *rand.Rand) impl.Store {
	k := someKept(r)
	most := r.Intn(8)
	if r.Intn(6) == 0 {
		most = impl.MaxLoose - r.Intn(3)
	}
	return impl.Store{Sure: k, Loose: someRecs(r, k, most)}
}

// wrongStores are so by Sure, by a record that does not fit, or by their number.
func wrongStores() []impl.Store {
	hard := impl.Rec{Kind: impl.RcHard, Term: 6, Vote: 2}
	entry := impl.Rec{Kind: impl.RcEntry, Term: 6, Index: 8}
	var out []impl.Store
	for _, k := range wrongKepts() {
		out = append(out, impl.Store{Sure: k}, impl.Store{Sure: k, Loose: []impl.Rec{hard}})
	}
	for _, l := range [][]impl.Rec{
		{{}}, {hard, {}}, {{}, hard}, {entry, entry}, {hard, entry, entry, hard}, {{Kind: impl.RcCut, Index: 8}}, {entry, {Kind: impl.RcCut, Index: 9}}, {{Kind: impl.RcSnap, Term: 2, Index: 4}},
		{{Kind: impl.RcHard, Term: 6, Vote: 1}}, {{Kind: impl.RcHard, Term: 5, Vote: 2}}, {{Kind: 5}}, {{Kind: impl.RcHard, Term: 7, Index: 1}},
		slices.Repeat([]impl.Rec{hard}, impl.MaxLoose+1), append(slices.Repeat([]impl.Rec{hard}, impl.MaxLoose-1), impl.Rec{}), slices.Repeat([]impl.Rec{hard}, 1000),
	} {
		out = append(out, impl.Store{Sure: rightKept(), Loose: l})
	}
	return out
}

// counts are asked of every call that takes the first ones of a list.
func counts(of int) []int {
	return []int{math.MinInt, -2, -1, 0, 1, 2, of / 2, of - 1, of, of + 1, of + 100, math.MaxInt}
}

func TestStoreLimits(t *testing.T) {
	got := []int{impl.MaxPeers, impl.MaxTerm, impl.MaxIndex, impl.MaxLog, impl.MaxData, impl.MaxSnap, impl.MaxLoose, impl.RcHard, impl.RcEntry, impl.RcCut, impl.RcSnap}
	if !slices.Equal(got, []int{5, 100000, 100000, 60, 1600, 20000, 80, 1, 2, 3, 4}) {
		t.Error("limits", got)
	}
}

func TestKeptOk(t *testing.T) {
	all := slices.Concat(smallKepts(), edgeKepts(), wrongKepts())
	r := rand.New(rand.NewSource(4))
	for range 3000 {
		k := someKept(r)
		all = append(all, k)
		k.Term += r.Intn(3) - 1
		k.Snap.Index += r.Intn(3) - 1
		k.Snap.Term += r.Intn(3) - 1
		k.Entries = slices.Clone(k.Entries)
		if len(k.Entries) > 0 {
			k.Entries[r.Intn(len(k.Entries))].Term += r.Intn(3) - 1
		}
		all = append(all, k)
	}
	for _, k := range all {
		if got, want := impl.KeptOk(k), wantKeptOk(k); got != want {
			t.Fatalf("KeptOk(%+v) = %v, want %v", k, got, want)
		}
	}
}

func TestKeptOkEdges(t *testing.T) {
	for i, k := range edgeKepts() {
		if !impl.KeptOk(k) {
			t.Errorf("edge %d is refused: %+v", i, k)
		}
	}
	for i, k := range wrongKepts() {
		if impl.KeptOk(k) {
			t.Errorf("wrong one %d is taken: %+v", i, k)
		}
	}
}

func TestRecOk(t *testing.T) {
	for _, r := range smallRecs() {
		if got, want := impl.RecOk(r), wantRecOk(r); got != want {
			t.Fatalf("RecOk(%+v) = %v, want %v", r, got, want)
		}
	}
}

// recWith has one of the four fields set.
func recWith(r impl.Rec, field, n int) impl.Rec {
	switch field {
	case 0:
		r.Term = n
	case 1:
		r.Index = n
	case 2:
		r.Vote = n
	default:
		r.Data = strings.Repeat("d", max(n, 0))
	}
	return r
}

func TestRecOkEdges(t *testing.T) {
	for kind, bounds := range recBounds {
		low, high := impl.Rec{Kind: kind}, impl.Rec{Kind: kind}
		for field, b := range bounds {
			low, high = recWith(low, field, b.low), recWith(high, field, b.high)
		}
		if !impl.RecOk(low) || !impl.RecOk(high) {
			t.Errorf("kind %d at its bounds is refused", kind)
		}
		for field, b := range bounds {
			wrong := []int{b.high + 1}
			if field < 3 {
				wrong = append(wrong, b.low-1, math.MinInt, math.MaxInt)
			}
			for _, n := range wrong {
				if impl.RecOk(recWith(low, field, n)) || impl.RecOk(recWith(high, field, n)) {
					t.Errorf("kind %d with %d in field %d is taken", kind, n, field)
				}
			}
		}
	}
	for _, kind := range []int{math.MinInt, -1, 0, 5, 6, math.MaxInt} {
		for _, r := range []impl.Rec{{}, {Term: 1, Index: 1}, {Term: 1, Index: 1, Vote: 1, Data: "d"}, {Term: 1, Vote: -1}, {Index: 1}} {
			r.Kind = kind
			if impl.RecOk(r) {
				t.Errorf("%+v of no kind is taken", r)
			}
		}
	}
}

func checkStep(t *testing.T, k impl.Kept, r impl.Rec) {
	t.Helper()
	got, fits := impl.KeptStep(k, r)
	want, wantFits := wantStep(k, r)
	if fits != wantFits || !sameKept(got, want) {
		t.Fatalf("KeptStep(%+v, %+v) = %+v, %v, want %+v, %v", k, r, got, fits, want, wantFits)
	}
	if impl.KeptOk(k) && !impl.KeptOk(got) {
		t.Fatalf("KeptStep(%+v, %+v) is not right: %+v", k, r, got)
	}
	if !fits && impl.KeptOk(k) && !sameKept(got, k) {
		t.Fatalf("KeptStep(%+v, %+v) does not fit, and is not as it was: %+v", k, r, got)
	}
}

func TestKeptStep(t *testing.T) {
	recs := smallRecs()
	for i, k := range smallKepts() {
		for j := i % 3; j < len(recs); j += 3 {
			checkStep(t, k, recs[j])
		}
	}
	r := rand.New(rand.NewSource(5))
	for range 20000 {
		k := someKept(r)
		checkStep(t, k, someRec(r, k))
	}
}

func TestKeptStepAtEdges(t *testing.T) {
	r := rand.New(rand.NewSource(6))
	for _, k := range edgeKepts() {
		for range 300 {
			checkStep(t, k, someRec(r, k))
		}
	}
	for _, k := range wrongKepts() {
		for _, x := range []impl.Rec{{}, {Kind: impl.RcHard, Term: 7}, {Kind: impl.RcHard, Term: impl.MaxTerm, Vote: -1}, {Kind: impl.RcEntry, Term: 1, Index: 1}, {Kind: impl.RcCut, Index: 1}, {Kind: impl.RcSnap, Term: 1, Index: 9}} {
			if got, fits := impl.KeptStep(k, x); fits || !sameKept(got, impl.Kept{}) {
				t.Errorf("KeptStep of a Kept that is not right: %+v, %v", got, fits)
			}
		}
	}
}

// stepCase is a record, whether it fits, and what it makes of the Kept.
type stepCase struct {
	rec  impl.Rec
	fits bool
	want impl.Kept
}

func checkSteps(t *testing.T, k impl.Kept, cases []stepCase) {
	t.Helper()
	for _, c := range cases {
		want := c.want
		if !c.fits {
			want = k
		}
		got, fits := impl.KeptStep(k, c.rec)
		if fits != c.fits || !sameKept(got, want) {
			t.Errorf("KeptStep(%+v, %+v) = %+v, %v, want %+v, %v", k, c.rec, got, fits, want, c.fits)
		}
	}
}

func TestStepHard(t *testing.T) {
	hard := func(term, vote int) impl.Rec { return impl.Rec{Kind: impl.RcHard, Term: term, Vote: vote} }
	voted, open := rightKept(), rightKept()
	open.Vote = -1
	with := func(term, vote int) impl.Kept {
		k := rightKept()
		k.Term, k.Vote = term, vote
		return k
	}
	checkSteps(t, voted, []stepCase{
		{hard(6, 2), true, with(6, 2)}, {hard(6, 1), false, impl.Kept{}}, {hard(6, -1), false, impl.Kept{}}, {hard(6, 4), false, impl.Kept{}},
		{hard(5, 2), false, impl.Kept{}}, {hard(0, 2), false, impl.Kept{}}, {hard(5, -1), false, impl.Kept{}},
		{hard(7, 2), true, with(7, 2)}, {hard(7, -1), true, with(7, -1)}, {hard(7, 0), true, with(7, 0)}, {hard(impl.MaxTerm, 4), true, with(impl.MaxTerm, 4)},
		{hard(impl.MaxTerm+1, 4), false, impl.Kept{}}, {hard(7, impl.MaxPeers), false, impl.Kept{}}, {hard(7, -2), false, impl.Kept{}},
		{impl.Rec{Kind: impl.RcHard, Term: 7, Index: 1}, false, impl.Kept{}}, {impl.Rec{Kind: impl.RcHard, Term: 7, Data: "d"}, false, impl.Kept{}},
	})
	checkSteps(t, open, []stepCase{
		{hard(6, -1), true, with(6, -1)}, {hard(6, 0), true, with(6, 0)}, {hard(6, 4), true, with(6, 4)}, {hard(5, 0), false, impl.Kept{}}, {hard(5, -1), false, impl.Kept{}}, {hard(7, 3), true, with(7, 3)},
	})
	checkSteps(t, impl.Kept{}, []stepCase{
		{hard(0, 0), true, impl.Kept{}}, {hard(0, 1), false, impl.Kept{}}, {hard(0, -1), false, impl.Kept{}}, {hard(1, 1), true, impl.Kept{Term: 1, Vote: 1}},
	})
}

func TestStepEntry(t *testing.T) {
	entry := func(term, index int) impl.Rec {
		return impl.Rec{Kind: impl.RcEntry, Term: term, Index: index, Data: "n"}
	}
	with := func(k impl.Kept, term int) impl.Kept {
		k.Entries = append(slices.Clone(k.Entries), impl.Entry{Term: term, Data: "n"})
		return k
	}
	k := rightKept()
	checkSteps(t, k, []stepCase{
		{entry(5, 8), true, with(k, 5)}, {entry(6, 8), true, with(k, 6)}, {entry(4, 8), false, impl.Kept{}}, {entry(7, 8), false, impl.Kept{}}, {entry(0, 8), false, impl.Kept{}},
		{entry(5, 7), false, impl.Kept{}}, {entry(5, 9), false, impl.Kept{}}, {entry(5, 5), false, impl.Kept{}}, {entry(5, 1), false, impl.Kept{}}, {entry(5, 0), false, impl.Kept{}}, {entry(5, 4), false, impl.Kept{}},
		{impl.Rec{Kind: impl.RcEntry, Term: 5, Index: 8, Vote: 1}, false, impl.Kept{}},
		{impl.Rec{Kind: impl.RcEntry, Term: 5, Index: 8, Data: strings.Repeat("d", impl.MaxData+1)}, false, impl.Kept{}},
	})
	k.Entries = nil
	checkSteps(t, k, []stepCase{
		{entry(2, 5), true, with(k, 2)}, {entry(6, 5), true, with(k, 6)}, {entry(1, 5), false, impl.Kept{}}, {entry(7, 5), false, impl.Kept{}}, {entry(2, 4), false, impl.Kept{}}, {entry(2, 6), false, impl.Kept{}}, {entry(2, 1), false, impl.Kept{}},
	})
	short := impl.Kept{Term: 3, Snap: impl.Snap{Index: 10, Term: 1}, Entries: fullLog(2, 0)[:impl.MaxLog-1]}
	checkSteps(t, short, []stepCase{{entry(2, 10+impl.MaxLog), true, with(short, 2)}, {entry(2, 9+impl.MaxLog), false, impl.Kept{}}, {entry(2, 11+impl.MaxLog), false, impl.Kept{}}})
	full := with(short, 2)
	checkSteps(t, full, []stepCase{{entry(2, 11+impl.MaxLog), false, impl.Kept{}}, {entry(2, 10+impl.MaxLog), false, impl.Kept{}}})
	top := impl.Kept{Term: 3, Snap: impl.Snap{Index: impl.MaxIndex - 1, Term: 1}}
	checkSteps(t, top, []stepCase{{entry(1, impl.MaxIndex), true, with(top, 1)}})
	checkSteps(t, with(top, 1), []stepCase{{entry(1, impl.MaxIndex+1), false, impl.Kept{}}, {entry(1, impl.MaxIndex), false, impl.Kept{}}})
	checkSteps(t, impl.Kept{}, []stepCase{{entry(1, 1), false, impl.Kept{}}, {entry(0, 1), false, impl.Kept{}}})
}

func TestStepCut(t *testing.T) {
	cut := func(index int) impl.Rec { return impl.Rec{Kind: impl.RcCut, Index: index} }
	with := func(n int) impl.Kept {
		k := rightKept()
		k.Entries = k.Entries[:n]
		return k
	}
	k := rightKept()
	checkSteps(t, k, []stepCase{
		{cut(5), true, with(0)}, {cut(6), true, with(1)}, {cut(7), true, with(2)},
		{cut(8), false, impl.Kept{}}, {cut(4), false, impl.Kept{}}, {cut(1), false, impl.Kept{}}, {cut(0), false, impl.Kept{}}, {cut(-1), false, impl.Kept{}}, {cut(impl.MaxIndex), false, impl.Kept{}}, {cut(math.MaxInt), false, impl.Kept{}},
		{impl.Rec{Kind: impl.RcCut, Index: 6, Term: 3}, false, impl.Kept{}}, {impl.Rec{Kind: impl.RcCut, Index: 6, Vote: -1}, false, impl.Kept{}}, {impl.Rec{Kind: impl.RcCut, Index: 6, Data: "b"}, false, impl.Kept{}},
	})
	checkSteps(t, with(0), []stepCase{{cut(4), false, impl.Kept{}}, {cut(5), false, impl.Kept{}}, {cut(1), false, impl.Kept{}}})
	log := impl.Kept{Term: 1, Entries: entriesOf(1)}
	checkSteps(t, log, []stepCase{{cut(1), true, impl.Kept{Term: 1}}, {cut(2), false, impl.Kept{}}})
}

func TestStepSnap(t *testing.T) {
	k := rightKept()
	with := func(term, index int, log []impl.Entry) stepCase {
		s := impl.Snap{Index: index, Term: term, Data: "T"}
		return stepCase{snapRec(s), true, impl.Kept{Term: 6, Vote: 2, Snap: s, Entries: log}}
	}
	not := func(term, index int) stepCase {
		return stepCase{rec: impl.Rec{Kind: impl.RcSnap, Term: term, Index: index, Data: "T"}}
	}
	checkSteps(t, k, []stepCase{
		with(2, 5, k.Entries[1:]), with(3, 6, k.Entries[2:]), with(5, 7, nil),
		with(1, 5, nil), with(3, 5, nil), with(6, 5, nil), with(2, 6, nil), with(4, 6, nil), with(5, 6, nil), with(3, 7, nil), with(6, 7, nil), with(1, 7, nil),
		with(5, 8, nil), with(6, 8, nil), with(1, 8, nil), with(2, 9, nil), with(6, impl.MaxIndex, nil),
		not(2, 4), not(3, 4), not(2, 3), not(1, 1), not(2, 0), not(7, 5), not(7, 8), not(0, 5), not(2, impl.MaxIndex+1), not(6, -1),
		{rec: impl.Rec{Kind: impl.RcSnap, Term: 2, Index: 5, Vote: 1}}, {rec: impl.Rec{Kind: impl.RcSnap, Term: 2, Index: 5, Data: strings.Repeat("s", impl.MaxSnap+1)}},
	})
	big := impl.Snap{Index: 5, Term: 2, Data: strings.Repeat("s", impl.MaxSnap)}
	checkSteps(t, k, []stepCase{{snapRec(big), true, impl.Kept{Term: 6, Vote: 2, Snap: big, Entries: k.Entries[1:]}}})
	top := impl.Kept{Term: 3, Snap: impl.Snap{Index: impl.MaxIndex - 2, Term: 1}, Entries: entriesOf(1, 2)}
	last := impl.Snap{Index: impl.MaxIndex, Term: 2}
	checkSteps(t, top, []stepCase{{snapRec(last), true, impl.Kept{Term: 3, Snap: last}}})
}

func TestStepOfNoKind(t *testing.T) {
	for _, k := range edgeKepts() {
		for _, kind := range []int{math.MinInt, -1, 0, 5, math.MaxInt} {
			checkSteps(t, k, []stepCase{{rec: impl.Rec{Kind: kind}}, {rec: impl.Rec{Kind: kind, Term: 1, Index: 1}}})
		}
	}
}

func checkChanges(t *testing.T, a, b impl.Kept) {
	t.Helper()
	l, ok := impl.Changes(a, b)
	if ok != wantLead(a, b) {
		t.Fatalf("Changes(%+v, %+v) says %v", a, b, ok)
	}
	if !ok {
		if len(l) != 0 {
			t.Fatalf("Changes(%+v, %+v) has %+v beside a false", a, b, l)
		}
		return
	}
	if want := wantChanges(a, b); !slices.Equal(l, want) {
		t.Fatalf("Changes(%+v, %+v) = %+v, want %+v", a, b, l, want)
	}
	at := a
	for _, r := range l {
		next, fits := impl.KeptStep(at, r)
		if !fits {
			t.Fatalf("Changes(%+v, %+v): %+v does not fit", a, b, r)
		}
		at = next
	}
	if !sameKept(at, b) || len(l) > impl.MaxLoose {
		t.Fatalf("Changes(%+v, %+v) lead to %+v", a, b, at)
	}
}

func TestChanges(t *testing.T) {
	small := smallKepts()
	for i, a := range small {
		for j := i % 2; j < len(small); j += 2 {
			checkChanges(t, a, small[j])
		}
	}
	r := rand.New(rand.NewSource(7))
	for range 3000 {
		a := someKept(r)
		b, _ := wantFold(a, someRecs(r, a, r.Intn(90)))
		checkChanges(t, a, b)
		checkChanges(t, b, a)
		checkChanges(t, a, someKept(r))
	}
}

func TestChangesAtEdges(t *testing.T) {
	edges := slices.Concat(edgeKepts(), wrongKepts())
	for _, a := range edges {
		for _, b := range edges {
			checkChanges(t, a, b)
		}
	}
}

func TestChangesOfEachPart(t *testing.T) {
	a := rightKept()
	hard := func(term, vote int) impl.Rec { return impl.Rec{Kind: impl.RcHard, Term: term, Vote: vote} }
	snap := func(term, index int, data string) impl.Rec {
		return impl.Rec{Kind: impl.RcSnap, Term: term, Index: index, Data: data}
	}
	entry := func(term, index int, data string) impl.Rec {
		return impl.Rec{Kind: impl.RcEntry, Term: term, Index: index, Data: data}
	}
	cut := func(index int) impl.Rec { return impl.Rec{Kind: impl.RcCut, Index: index} }
	s := impl.Snap{Index: 4, Term: 2, Data: "S"}
	for _, c := range []struct {
		b    impl.Kept
		ok   bool
		want []impl.Rec
	}{
		{a, true, nil},
		{impl.Kept{Term: 7, Vote: 2, Snap: s, Entries: a.Entries}, true, []impl.Rec{hard(7, 2)}},
		{impl.Kept{Term: 7, Vote: -1, Snap: s, Entries: a.Entries}, true, []impl.Rec{hard(7, -1)}},
		{impl.Kept{Term: 6, Vote: 1, Snap: s, Entries: a.Entries}, false, nil},
		{impl.Kept{Term: 5, Vote: 2, Snap: s, Entries: a.Entries}, false, nil},
		{impl.Kept{Term: 6, Vote: 2, Snap: s, Entries: a.Entries[:2]}, true, []impl.Rec{cut(7)}},
		{impl.Kept{Term: 6, Vote: 2, Snap: s}, true, []impl.Rec{cut(5)}},
		{impl.Kept{Term: 6, Vote: 2, Snap: s, Entries: append(slices.Clone(a.Entries), impl.Entry{Term: 6, Data: "n"})}, true, []impl.Rec{entry(6, 8, "n")}},
		{impl.Kept{Term: 6, Vote: 2, Snap: s, Entries: []impl.Entry{{Term: 2, Data: "a"}, {Term: 3, Data: "x"}, {Term: 5, Data: "c"}}}, true, []impl.Rec{cut(6), entry(3, 6, "x"), entry(5, 7, "c")}},
		{impl.Kept{Term: 6, Vote: 2, Snap: s, Entries: []impl.Entry{{Term: 3, Data: "a"}}}, true, []impl.Rec{cut(5), entry(3, 5, "a")}},
		{impl.Kept{Term: 6, Vote: 2, Snap: impl.Snap{Index: 6, Term: 3, Data: "T"}, Entries: a.Entries[2:]}, true, []impl.Rec{snap(3, 6, "T")}},
		{impl.Kept{Term: 6, Vote: 2, Snap: impl.Snap{Index: 6, Term: 4, Data: "T"}, Entries: a.Entries[2:]}, true, []impl.Rec{snap(4, 6, "T"), entry(5, 7, "c")}},
		{impl.Kept{Term: 6, Vote: 2, Snap: impl.Snap{Index: 5, Term: 2}}, true, []impl.Rec{snap(2, 5, ""), cut(6)}},
		{impl.Kept{Term: 6, Vote: 2, Snap: impl.Snap{Index: 5, Term: 1}}, true, []impl.Rec{snap(1, 5, "")}},
		{impl.Kept{Term: 6, Vote: 2, Snap: impl.Snap{Index: 9, Term: 6}, Entries: entriesOf(6)}, true, []impl.Rec{snap(6, 9, ""), entry(6, 10, "a")}},
		{impl.Kept{Term: 8, Vote: 0, Snap: impl.Snap{Index: 5, Term: 2, Data: "T"}, Entries: []impl.Entry{{Term: 8, Data: "n"}}}, true, []impl.Rec{hard(8, 0), snap(2, 5, "T"), cut(6), entry(8, 6, "n")}},
		{impl.Kept{Term: 8, Vote: 0, Snap: impl.Snap{Index: 7, Term: 7, Data: "T"}}, true, []impl.Rec{hard(8, 0), snap(7, 7, "T")}},
		{impl.Kept{Term: 6, Vote: 2, Snap: impl.Snap{Index: 4, Term: 2, Data: "T"}, Entries: a.Entries}, false, nil},
		{impl.Kept{Term: 6, Vote: 2, Snap: impl.Snap{Index: 4, Term: 1, Data: "S"}, Entries: a.Entries}, false, nil},
		{impl.Kept{Term: 6, Vote: 2, Snap: impl.Snap{Index: 3, Term: 2, Data: "S"}, Entries: a.Entries}, false, nil},
		{impl.Kept{Term: 6, Vote: 2, Entries: a.Entries}, false, nil},
		{impl.Kept{Term: 6, Vote: 5, Snap: s, Entries: a.Entries}, false, nil},
	} {
		got, ok := impl.Changes(a, c.b)
		if ok != c.ok || !slices.Equal(got, c.want) {
			t.Errorf("Changes to %+v = %+v, %v, want %+v, %v", c.b, got, ok, c.want, c.ok)
		}
	}
}

// No two Kepts want more than MaxLoose records as the limits stand; these two want the most.
func TestMostChanges(t *testing.T) {
	a := impl.Kept{Term: 1, Vote: -1, Entries: entriesOf(1, 1)}
	b := impl.Kept{Term: 3, Vote: 0, Snap: impl.Snap{Index: 1, Term: 1, Data: "S"}, Entries: fullLog(3, 1)}
	l, ok := impl.Changes(a, b)
	if !ok || len(l) != impl.MaxLog+3 || len(l) > impl.MaxLoose {
		t.Fatal(len(l), ok)
	}
	checkChanges(t, a, b)
	if s, n := impl.Write(impl.Store{Sure: a}, l, len(l)); n != len(l) || !sameKept(impl.Held(s), b) {
		t.Error("they are not all written", n)
	}
}

func TestNewStore(t *testing.T) {
	s := impl.NewStore()
	if !sameStore(s, impl.Store{Sure: impl.Kept{Vote: -1}}) || !impl.StoreOk(s) || !sameKept(impl.Held(s), s.Sure) {
		t.Errorf("%+v", s)
	}
}

func TestStoreOkAndHeld(t *testing.T) {
	r := rand.New(rand.NewSource(8))
	all := append(wrongStores(), impl.Store{}, impl.NewStore())
	for range 3000 {
		s := someStore(r)
		all = append(all, s)
		at := slices.Clone(s.Loose)
		for i := range at {
			if r.Intn(2*len(at)) == 0 {
				at[i] = someRec(r, s.Sure)
			}
		}
		all = append(all, impl.Store{Sure: s.Sure, Loose: at})
	}
	for _, s := range all {
		if got, want := impl.StoreOk(s), wantStoreOk(s); got != want {
			t.Fatalf("StoreOk(%+v) = %v, want %v", s, got, want)
		}
		want := impl.Kept{}
		if wantStoreOk(s) {
			want, _ = wantFold(s.Sure, s.Loose)
		}
		if got := impl.Held(s); !sameKept(got, want) {
			t.Fatalf("Held(%+v) = %+v, want %+v", s, got, want)
		}
	}
}

func TestWrongStores(t *testing.T) {
	hard := []impl.Rec{{Kind: impl.RcHard, Term: 9}}
	for i, s := range wrongStores() {
		if impl.StoreOk(s) || !sameKept(impl.Held(s), impl.Kept{}) || !sameStore(impl.Sync(s), impl.Store{}) {
			t.Errorf("wrong store %d is taken", i)
		}
		for _, n := range counts(1) {
			w, came := impl.Write(s, hard, n)
			if came != 0 || !sameStore(w, impl.Store{}) || !sameStore(impl.Lose(s, n), impl.Store{}) {
				t.Errorf("wrong store %d is written to or falls, with %d", i, n)
			}
		}
	}
}

func checkWrite(t *testing.T, s impl.Store, l []impl.Rec, n int) {
	t.Helper()
	k, _ := wantFold(s.Sure, s.Loose)
	_, want := wantFold(k, l[:min(first(n, len(l)), impl.MaxLoose-len(s.Loose))])
	got, came := impl.Write(s, l, n)
	if came != want || !sameStore(got, impl.Store{Sure: s.Sure, Loose: slices.Concat(s.Loose, l[:want])}) || !impl.StoreOk(got) {
		t.Fatalf("Write(%+v, %+v, %d) = %+v, %d, want %d", s, l, n, got, came, want)
	}
}

func TestWrite(t *testing.T) {
	r := rand.New(rand.NewSource(9))
	for range 1500 {
		s := someStore(r)
		k, _ := wantFold(s.Sure, s.Loose)
		l := someRecs(r, k, r.Intn(10))
		if len(l) > 0 && r.Intn(2) == 0 {
			l = slices.Insert(l, r.Intn(len(l)), someRec(r, k))
		}
		for _, n := range counts(len(l)) {
			checkWrite(t, s, l, n)
		}
	}
}

func TestWriteEdges(t *testing.T) {
	hard := impl.Rec{Kind: impl.RcHard, Term: 6, Vote: 2}
	s := impl.Store{Sure: rightKept(), Loose: []impl.Rec{hard}}
	entry := func(index int) impl.Rec { return impl.Rec{Kind: impl.RcEntry, Term: 6, Index: index} }
	l := []impl.Rec{entry(8), entry(9), entry(11), entry(10)}
	for _, c := range [][2]int{{math.MinInt, 0}, {-1, 0}, {0, 0}, {1, 1}, {2, 2}, {3, 2}, {4, 2}, {5, 2}, {math.MaxInt, 2}} {
		got, came := impl.Write(s, l, c[0])
		if came != c[1] || !slices.Equal(got.Loose, append([]impl.Rec{hard}, l[:c[1]]...)) || !sameKept(got.Sure, s.Sure) {
			t.Errorf("Write of %d: %d, %+v", c[0], came, got)
		}
	}
	for _, none := range [][]impl.Rec{nil, {}, {entry(9)}, {entry(9), entry(8)}, {{}, entry(8)}, {{Kind: 7}, entry(8)}} {
		if got, came := impl.Write(s, none, 5); came != 0 || !sameStore(got, s) {
			t.Errorf("Write of %+v: %d, %+v", none, came, got)
		}
	}
	for room := range 4 {
		s.Loose = slices.Repeat([]impl.Rec{hard}, impl.MaxLoose-room)
		got, came := impl.Write(s, []impl.Rec{entry(8), entry(9), hard, hard}, 4)
		if came != room || len(got.Loose) != impl.MaxLoose || !impl.StoreOk(got) {
			t.Errorf("Write with room for %d: %d", room, came)
		}
	}
}

func TestSyncAndLose(t *testing.T) {
	r := rand.New(rand.NewSource(10))
	for range 1500 {
		s := someStore(r)
		all, _ := wantFold(s.Sure, s.Loose)
		if got := impl.Sync(s); !sameStore(got, impl.Store{Sure: all}) || !impl.StoreOk(got) {
			t.Fatalf("Sync(%+v) = %+v", s, got)
		}
		for _, keep := range counts(len(s.Loose)) {
			want, _ := wantFold(s.Sure, s.Loose[:first(keep, len(s.Loose))])
			if got := impl.Lose(s, keep); !sameStore(got, impl.Store{Sure: want}) || !impl.StoreOk(got) {
				t.Fatalf("Lose(%+v, %d) = %+v, want %+v", s, keep, got, want)
			}
		}
	}
}

func TestLoseEdges(t *testing.T) {
	s := impl.Store{Sure: impl.Kept{Term: 1, Vote: -1}}
	for i := range impl.MaxLog {
		s.Loose = append(s.Loose, impl.Rec{Kind: impl.RcEntry, Term: 1, Index: i + 1})
	}
	for _, c := range [][2]int{{math.MinInt, 0}, {-1, 0}, {0, 0}, {1, 1}, {7, 7}, {impl.MaxLog - 1, impl.MaxLog - 1}, {impl.MaxLog, impl.MaxLog}, {impl.MaxLog + 1, impl.MaxLog}, {math.MaxInt, impl.MaxLog}} {
		if got := impl.Lose(s, c[0]); len(got.Sure.Entries) != c[1] || len(got.Loose) != 0 || got.Sure.Term != 1 || got.Sure.Vote != -1 {
			t.Errorf("Lose of %d: %+v", c[0], got)
		}
	}
	if got := impl.Lose(impl.NewStore(), 3); !sameStore(got, impl.NewStore()) {
		t.Errorf("Lose of a new one: %+v", got)
	}
	if got := impl.Sync(impl.NewStore()); !sameStore(got, impl.NewStore()) {
		t.Errorf("Sync of a new one: %+v", got)
	}
}

// A store is written to, synced and lost at will: it stays right, what was synced stays, and what was written behind it stays up to some record.
func TestStoreLives(t *testing.T) {
	for seed := range 60 {
		r := rand.New(rand.NewSource(int64(100 + seed)))
		s := impl.NewStore()
		safe := s.Sure
		var written []impl.Rec
		for range 80 {
			switch r.Intn(6) {
			case 0:
				s = impl.Sync(s)
				safe, _ = wantFold(safe, written)
				written = nil
			case 1:
				keep := r.Intn(len(written)+3) - 1
				s = impl.Lose(s, keep)
				safe, _ = wantFold(safe, written[:first(keep, len(written))])
				written = nil
			default:
				l := someRecs(r, impl.Held(s), r.Intn(6))
				next, came := impl.Write(s, l, r.Intn(8)-1)
				written = append(written, l[:came]...)
				s = next
			}
			if !impl.StoreOk(s) || !sameStore(s, impl.Store{Sure: safe, Loose: written}) {
				t.Fatalf("%+v, want %+v and %+v", s, safe, written)
			}
		}
	}
}

// roomy is a list with marks in the spare room behind it, and what all of it was.
type roomy[T comparable] struct{ all, was []T }

func newRoomy[T comparable](l []T, mark T) (roomy[T], []T) {
	all := append(slices.Clone(l), mark, mark, mark, mark)
	return roomy[T]{all, slices.Clone(all)}, all[:len(l)]
}

func (w roomy[T]) touched() bool { return !slices.Equal(w.all, w.was) }

// overlap tells if two lists share any memory, their spare room with them.
func overlap[T any](a, b []T) bool {
	if cap(a) == 0 || cap(b) == 0 {
		return false
	}
	var x T
	size := unsafe.Sizeof(x)
	from, other := uintptr(unsafe.Pointer(unsafe.SliceData(a))), uintptr(unsafe.Pointer(unsafe.SliceData(b)))
	return from < other+size*uintptr(cap(b)) && other < from+size*uintptr(cap(a))
}

func TestStoreMemory(t *testing.T) {
	r := rand.New(rand.NewSource(11))
	entryMark, recMark := impl.Entry{Term: -7, Data: "mark"}, impl.Rec{Kind: -7, Data: "mark"}
	for i := range 1500 {
		s := someStore(r)
		if i < len(wrongStores()) {
			s = wrongStores()[i]
		}
		rec, other := someRec(r, s.Sure), someKept(r)
		held, _ := wantFold(s.Sure, s.Loose)
		l := someRecs(r, held, 4)
		entries, of := newRoomy(s.Sure.Entries, entryMark)
		others, ofOther := newRoomy(other.Entries, entryMark)
		loose, ofLoose := newRoomy(s.Loose, recMark)
		list, ofList := newRoomy(l, recMark)
		s.Sure.Entries, s.Loose, other.Entries, l = of, ofLoose, ofOther, ofList

		step, _ := impl.KeptStep(s.Sure, rec)
		changes, _ := impl.Changes(s.Sure, other)
		back, _ := impl.Changes(other, s.Sure)
		wrote, _ := impl.Write(s, l, r.Intn(6)-1)
		same, _ := impl.Write(s, nil, 0)
		impl.KeptOk(s.Sure)
		impl.StoreOk(s)
		kepts := []impl.Kept{step, impl.Held(s), impl.Sync(s).Sure, impl.Lose(s, 0).Sure, impl.Lose(s, 2).Sure, wrote.Sure, same.Sure}
		if entries.touched() || others.touched() || loose.touched() || list.touched() {
			t.Fatalf("an argument is written into: %+v", s)
		}
		for j, k := range kepts {
			if overlap(k.Entries, entries.all) || overlap(k.Entries, others.all) {
				t.Fatalf("answer %d shares the Entries of %+v", j, s)
			}
			for _, next := range kepts[j+1:] {
				if overlap(k.Entries, next.Entries) {
					t.Fatalf("two answers share Entries: %+v", s)
				}
			}
		}
		for _, recs := range [][]impl.Rec{changes, back, wrote.Loose, same.Loose} {
			if overlap(recs, loose.all) || overlap(recs, list.all) {
				t.Fatalf("an answer shares the records of %+v", s)
			}
		}
		if overlap(wrote.Loose, same.Loose) || overlap(changes, back) {
			t.Fatalf("two answers share records: %+v", s)
		}
	}
}
