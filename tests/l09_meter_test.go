package tests

import (
	"cmp"
	"fmt"
	"math"
	"math/rand"
	"slices"
	"strings"
	"testing"

	"loop.example/g00757/impl"
)

// wantCosts are the costs of the kinds 0 to 23, written out; what costs 1 tells.
var wantCosts = [24]int{0, 3, 3, 3, 1, 3, 3, 3, 3, 3, 3, 1, 3, 1, 1, 3, 3, 1, 1, 3, 1, 1, 3, 0}

func wantCost(kind int) int {
	if kind < 0 || kind >= len(wantCosts) {
		return 0
	}
	return wantCosts[kind]
}

// wantRefill adds one token after the other.
func wantRefill(tokens int) int {
	if tokens < 0 {
		return 4
	}
	if tokens > 30 {
		return 30
	}
	for range 4 {
		if tokens < 30 {
			tokens++
		}
	}
	return tokens
}

func wantSpend(tokens, kind int) (int, bool) {
	if c := wantCost(kind); c > 0 && tokens >= c {
		return tokens - c, true
	}
	return tokens, false
}

// wantNoteOk gathers what is wrong with a note alone.
func wantNoteOk(n impl.Note) bool {
	wrong := n.Index < 1 || n.Index > 100000
	wrong = wrong || n.Client < 1 || n.Client > 3
	wrong = wrong || n.Serial < 1 || n.Serial > 1000000
	wrong = wrong || n.Kind < 1 || n.Kind > 22
	wrong = wrong || n.Code < 0 || n.Code > 200
	return !wrong
}

func wantAuditOk(l []impl.Note) bool {
	right := len(l) <= 20 && slices.IsSortedFunc(l, func(a, b impl.Note) int { return cmp.Compare(a.Index, b.Index) })
	for _, n := range l {
		right = right && wantNoteOk(n)
	}
	return right
}

func wantShowAudit(l []impl.Note, from int) string {
	if !wantAuditOk(l) || from < 0 {
		return ""
	}
	out, shown := "", 0
	for i, n := range l {
		if i < from || shown == 6 {
			continue
		}
		if shown > 0 {
			out += " "
		}
		out += fmt.Sprintf("%d.%d.%d.%d.%d", n.Index, n.Client, n.Serial, n.Kind, n.Code)
		shown++
	}
	return out
}

// farNumbers are the ends of all, and what is one of the kinds, or of a bucket's tokens, in their lowest bits alone.
func farNumbers() []int {
	return []int{math.MinInt, math.MinInt + 1, math.MinInt + 4, -1 << 32, -256 + 4, -22, -14, -4, -3, -2, -1, 24, 25, 31, 34, 35, 36, 100, 256 + 4, 1000, 1 << 16, 1<<32 + 4, 1<<32 + 22, math.MaxInt32, math.MaxInt - 30, math.MaxInt - 4, math.MaxInt - 3, math.MaxInt - 1, math.MaxInt}
}

func TestMeterNumbers(t *testing.T) {
	if impl.Burst != 30 || impl.Rate != 4 || impl.MaxAudit != 20 || impl.MaxNotes != 6 {
		t.Error("Burst, Rate, MaxAudit, MaxNotes:", impl.Burst, impl.Rate, impl.MaxAudit, impl.MaxNotes)
	}
}

func TestTells(t *testing.T) {
	telling := []int{impl.CaRead, impl.CaReadlink, impl.CaReaddir, impl.CaStat, impl.CaAccess, impl.CaStatfs, impl.CaGetquota, impl.CaReadaudit}
	for kind := range 24 {
		if got := impl.Tells(kind); got != slices.Contains(telling, kind) || got != (wantCosts[kind] == 1) {
			t.Errorf("Tells(%d) = %v", kind, got)
		}
	}
	for _, kind := range farNumbers() {
		if impl.Tells(kind) {
			t.Errorf("Tells(%d)", kind)
		}
	}
}

func TestCost(t *testing.T) {
	for kind, want := range wantCosts {
		if got := impl.Cost(kind); got != want {
			t.Errorf("Cost(%d) = %d, want %d", kind, got, want)
		}
	}
	for _, kind := range farNumbers() {
		if got := impl.Cost(kind); got != 0 {
			t.Errorf("Cost(%d) = %d", kind, got)
		}
	}
	for kind := -2000; kind <= 2000; kind++ {
		if got := impl.Cost(kind); got != wantCost(kind) || impl.Tells(kind) != (got == 1) {
			t.Errorf("Cost(%d) = %d, Tells %v", kind, got, impl.Tells(kind))
		}
	}
}

func TestRefill(t *testing.T) {
	for tokens, want := range map[int]int{
		math.MinInt: 4, math.MinInt + 1: 4, -1000: 4, -30: 4, -5: 4, -4: 4, -3: 4, -1: 4,
		0: 4, 1: 5, 4: 8, 24: 28, 25: 29, 26: 30, 27: 30, 28: 30, 29: 30, 30: 30,
		31: 30, 34: 30, 99: 30, math.MaxInt - 4: 30, math.MaxInt - 3: 30, math.MaxInt - 1: 30, math.MaxInt: 30,
	} {
		if got := impl.Refill(tokens); got != want {
			t.Errorf("Refill(%d) = %d, want %d", tokens, got, want)
		}
	}
	for tokens := -200; tokens <= 200; tokens++ {
		if got := impl.Refill(tokens); got != wantRefill(tokens) {
			t.Errorf("Refill(%d) = %d, want %d", tokens, got, wantRefill(tokens))
		}
	}
	for _, tokens := range farNumbers() {
		if got := impl.Refill(tokens); got != wantRefill(tokens) {
			t.Errorf("Refill(%d) = %d, want %d", tokens, got, wantRefill(tokens))
		}
	}
}

func TestSpend(t *testing.T) {
	for _, c := range []struct {
		tokens, kind, want int
		ok                 bool
	}{
		{3, impl.CaMkdir, 0, true}, {4, impl.CaMkdir, 1, true}, {2, impl.CaMkdir, 2, false}, {1, impl.CaMkdir, 1, false}, {0, impl.CaMkdir, 0, false},
		{-1, impl.CaMkdir, -1, false}, {-3, impl.CaMkdir, -3, false}, {30, impl.CaArchive, 27, true}, {2, impl.CaArchive, 2, false}, {3, impl.CaArchive, 0, true},
		{1, impl.CaStat, 0, true}, {2, impl.CaStat, 1, true}, {0, impl.CaStat, 0, false}, {-1, impl.CaStat, -1, false}, {30, impl.CaReadaudit, 29, true},
		{30, 0, 30, false}, {30, 23, 30, false}, {30, -1, 30, false}, {0, 0, 0, false}, {-1, 0, -1, false}, {-1, 23, -1, false}, {0, 23, 0, false},
		{31, impl.CaRead, 30, true}, {1000, impl.CaRename, 997, true}, {1000, 23, 1000, false},
		{math.MinInt, impl.CaRead, math.MinInt, false}, {math.MinInt, impl.CaMkdir, math.MinInt, false}, {math.MinInt + 2, impl.CaMkdir, math.MinInt + 2, false}, {math.MinInt, 0, math.MinInt, false}, {math.MinInt, math.MinInt, math.MinInt, false},
		{math.MaxInt, impl.CaRead, math.MaxInt - 1, true}, {math.MaxInt, impl.CaMkdir, math.MaxInt - 3, true}, {math.MaxInt, math.MaxInt, math.MaxInt, false},
	} {
		if got, ok := impl.Spend(c.tokens, c.kind); got != c.want || ok != c.ok {
			t.Errorf("Spend(%d, %d) = %d, %v, want %d, %v", c.tokens, c.kind, got, ok, c.want, c.ok)
		}
	}
}

func TestSpendOfEachKind(t *testing.T) {
	kinds := farNumbers()
	for kind := range 24 {
		kinds = append(kinds, kind)
	}
	tokens := farNumbers()
	for n := range 40 {
		tokens = append(tokens, n)
	}
	for _, kind := range kinds {
		for _, n := range tokens {
			left, ok := wantSpend(n, kind)
			if got, did := impl.Spend(n, kind); got != left || did != ok {
				t.Fatalf("Spend(%d, %d) = %d, %v, want %d, %v", n, kind, got, did, left, ok)
			}
		}
	}
}

// Promise 9: from each of 0 to Burst whatever is called or refilled leads to one of 0 to Burst.
func TestTokensStay(t *testing.T) {
	kinds := farNumbers()
	for kind := range 24 {
		kinds = append(kinds, kind)
	}
	for tokens := range impl.Burst + 1 {
		if got := impl.Refill(tokens); got < tokens || got > impl.Burst || got > tokens+impl.Rate {
			t.Errorf("Refill(%d) = %d", tokens, got)
		}
		for _, kind := range kinds {
			got, ok := impl.Spend(tokens, kind)
			if got < 0 || got > tokens || ok != (got < tokens) || ok && tokens-got != impl.Cost(kind) {
				t.Errorf("Spend(%d, %d) = %d, %v", tokens, kind, got, ok)
			}
		}
	}
}

// paid is a row of calls and refillings, as what each one spent (-1: a refilling).
type paid []int

// checkBound asks of each row within the whole: is at most Burst spent in it, and Rate for each refilling?
func checkBound(t *testing.T, row paid) {
	t.Helper()
	for from := range row {
		spent, most := 0, 30
		for to := from; to < len(row); to++ {
			if row[to] < 0 {
				most += 4
			} else {
				spent += row[to]
			}
			if spent > most {
				t.Fatalf("%d are spent, at most %d may be, in %v", spent, most, row[from:to+1])
			}
		}
	}
}

// doRow begins with Burst, refills at a step that is 0 and calls that kind at another one.
func doRow(t *testing.T, steps []int) (paid, int) {
	t.Helper()
	tokens := impl.Burst
	var row paid
	for _, kind := range steps {
		was := tokens
		if kind == 0 {
			tokens = impl.Refill(tokens)
			row = append(row, -1)
		} else {
			left, ok := impl.Spend(tokens, kind)
			if ok != (wantCost(kind) > 0 && wantCost(kind) <= was) {
				t.Fatalf("kind %d at %d tokens: %v", kind, was, ok)
			}
			tokens = left
			row = append(row, was-left)
		}
		if tokens < 0 || tokens > 30 {
			t.Fatalf("%d tokens behind kind %d at %d", tokens, kind, was)
		}
	}
	checkBound(t, row)
	return row, tokens
}

func (row paid) spent() int {
	sum := 0
	for _, n := range row {
		sum += max(n, 0)
	}
	return sum
}

// From Burst on as much as is promised can be spent, and not one token more.
func TestRowsThatSpendAll(t *testing.T) {
	for _, c := range []struct {
		what  string
		steps []int
		spent int
		left  int
	}{
		{"nothing", nil, 0, 30},
		{"refilled, full as it is", []int{0, 0, 0}, 0, 30},
		{"telling", slices.Repeat([]int{impl.CaRead}, 40), 30, 0},
		{"doing", slices.Repeat([]int{impl.CaMkdir}, 40), 30, 0},
		{"no kinds", slices.Repeat([]int{23, -1, 99}, 20), 0, 30},
		{"the last two tokens", append(slices.Repeat([]int{impl.CaStat}, 28), 1, 1, 22), 28, 2},
		{"the last two, by telling", append(slices.Repeat([]int{impl.CaStat}, 28), 1, 14, 1, 14, 14), 30, 0},
		{"the last three", append(slices.Repeat([]int{impl.CaStat}, 27), 1, 1, 14), 30, 0},
		{"behind one refilling", append(append(slices.Repeat([]int{impl.CaStat}, 30), 0), slices.Repeat([]int{impl.CaStat}, 30)...), 34, 0},
		{"behind two", append(append(slices.Repeat([]int{impl.CaStat}, 30), 0, 0), slices.Repeat([]int{impl.CaMkdir}, 30)...), 36, 2},
		{"refilled ahead, in vain", append([]int{0, 0}, slices.Repeat([]int{impl.CaMkdir}, 30)...), 30, 0},
		{"refilled at each call", slices.Repeat([]int{impl.CaMkdir, 0}, 50), 150, 30},
		{"refilled too seldom", append(slices.Repeat([]int{impl.CaMkdir}, 10), slices.Repeat([]int{0, 1, 1}, 50)...), 30 + 198, 2},
	} {
		row, left := doRow(t, c.steps)
		if row.spent() != c.spent || left != c.left {
			t.Errorf("%s: %d spent, %d left, want %d and %d", c.what, row.spent(), left, c.spent, c.left)
		}
	}
}

func TestSomeRows(t *testing.T) {
	r := rand.New(rand.NewSource(91))
	most := 0
	for range 4000 {
		seldom := 1 + r.Intn(12)
		var steps []int
		for range r.Intn(80) {
			kind := r.Intn(26) - 1
			if r.Intn(seldom) == 0 {
				kind = 0
			}
			steps = append(steps, kind)
		}
		row, _ := doRow(t, steps)
		most = max(most, row.spent())
	}
	if most < 60 {
		t.Error("the rows spend too little to tell anything:", most)
	}
}

// audit is so many notes, all right, each behind the one ahead.
func audit(n int) []impl.Note {
	var l []impl.Note
	for i := range n {
		l = append(l, impl.Note{Index: 1 + i/2, Client: 1 + i%3, Serial: 1 + 5*i, Kind: 1 + i%22, Code: 11 * (i % 3)})
	}
	return l
}

func audits() [][]impl.Note {
	return [][]impl.Note{nil, {}, audit(1), audit(2), audit(5), audit(6), audit(7), audit(12), audit(13), audit(19), audit(20), audit(21), audit(40),
		{{Index: 1, Client: 1, Serial: 1, Kind: 1}}, {{Index: 100000, Client: 3, Serial: 1000000, Kind: 22, Code: 200}}, {{}}, make([]impl.Note, 20)}
}

// noteField is a field of a note with its bounds.
type noteField struct {
	of        func(n *impl.Note) *int
	low, high int
}

func noteFields() map[string]noteField {
	return map[string]noteField{
		"Index":  {func(n *impl.Note) *int { return &n.Index }, 1, 100000},
		"Client": {func(n *impl.Note) *int { return &n.Client }, 1, 3},
		"Serial": {func(n *impl.Note) *int { return &n.Serial }, 1, 1000000},
		"Kind":   {func(n *impl.Note) *int { return &n.Kind }, 1, 22},
		"Code":   {func(n *impl.Note) *int { return &n.Code }, 0, 200},
	}
}

func TestAuditOkOfEachField(t *testing.T) {
	for name, field := range noteFields() {
		for _, to := range append(farNumbers(), 0, 1, 2, 3, 4, 5, 21, 22, 23, 199, 200, 201, 256, 99999, 100000, 100001, 999999, 1000000, 1000001) {
			n := impl.Note{Index: 7, Client: 2, Serial: 9, Kind: 5, Code: 13}
			*field.of(&n) = to
			right := to >= field.low && to <= field.high
			if got := impl.AuditOk([]impl.Note{n}); got != right {
				t.Errorf("%s %d: AuditOk is %v", name, to, got)
			}
			if got := impl.ShowAudit([]impl.Note{n}, 0); got != wantShowAudit([]impl.Note{n}, 0) || (got != "") != right {
				t.Errorf("%s %d: ShowAudit is %q", name, to, got)
			}
		}
	}
}

// Each note counts, wherever it stands.
func TestAuditOkOfEachPlace(t *testing.T) {
	for _, size := range []int{1, 2, 6, 7, 20} {
		for at := range size {
			for name, field := range noteFields() {
				for _, to := range []int{field.low - 1, field.high + 1, math.MinInt, math.MaxInt} {
					l := audit(size)
					*field.of(&l[at]) = to
					if impl.AuditOk(l) {
						t.Errorf("%s %d at %d of %d notes", name, to, at, size)
					}
					if got := impl.ShowAudit(l, 0) + impl.ShowAudit(l, size-1) + impl.ShowAudit(l, size); got != "" {
						t.Errorf("%s %d at %d of %d notes: shown as %q", name, to, at, size, got)
					}
				}
			}
		}
	}
}

func TestAuditOkOfManyNotes(t *testing.T) {
	for size := range 45 {
		if got := impl.AuditOk(audit(size)); got != (size <= 20) {
			t.Errorf("AuditOk of %d notes is %v", size, got)
		}
	}
	alike := slices.Repeat(audit(1), 20)
	if !impl.AuditOk(alike) || impl.AuditOk(append(alike, alike[0])) || impl.AuditOk(slices.Repeat(alike, 5000)) {
		t.Error("the same note over and over")
	}
}

func TestAuditOkOfOrder(t *testing.T) {
	for _, c := range []struct {
		indexes []int
		want    bool
	}{
		{nil, true}, {[]int{1}, true}, {[]int{100000}, true}, {[]int{0}, false}, {[]int{100001}, false},
		{[]int{3, 3}, true}, {[]int{3, 4}, true}, {[]int{3, 2}, false}, {[]int{1, 1, 1}, true}, {[]int{1, 100000, 100000}, true},
		{[]int{1, 0}, false}, {[]int{100000, 100001}, false}, {[]int{2, 3, 2}, false}, {[]int{2, 1, 3}, false}, {[]int{5, 5, 6, 6, 5}, false},
		{[]int{1, 100000, 99999}, false}, {[]int{100000, 1}, false}, {[]int{-2, -1, 1}, false}, {[]int{1, math.MinInt}, false}, {[]int{1, math.MaxInt}, false},
	} {
		var l []impl.Note
		for i, index := range c.indexes {
			l = append(l, impl.Note{Index: index, Client: 3 - i%3, Serial: 1000 - i, Kind: 22 - i, Code: 100 - i})
		}
		if got := impl.AuditOk(l); got != c.want || got != wantAuditOk(l) {
			t.Errorf("AuditOk of Indexes %v is %v", c.indexes, got)
		}
	}
}

func TestShowAudit(t *testing.T) {
	two := []impl.Note{{Index: 3, Client: 1, Serial: 2, Kind: 1, Code: 0}, {Index: 3, Client: 2, Serial: 1, Kind: 8, Code: 13}}
	last := "100000.3.1000000.22.200"
	eight := slices.Concat(audit(7), []impl.Note{{Index: 100000, Client: 3, Serial: 1000000, Kind: 22, Code: 200}})
	for _, c := range []struct {
		l    []impl.Note
		from int
		want string
	}{
		{two, 0, "3.1.2.1.0 3.2.1.8.13"}, {two, 1, "3.2.1.8.13"}, {two, 2, ""}, {two, 3, ""}, {two, -1, ""}, {two, math.MinInt, ""}, {two, math.MaxInt, ""}, {two, math.MaxInt - 5, ""},
		{nil, 0, ""}, {nil, 1, ""}, {nil, -1, ""}, {nil, math.MaxInt, ""}, {nil, math.MinInt, ""},
		{eight, 0, "1.1.1.1.0 1.2.6.2.11 2.3.11.3.22 2.1.16.4.0 3.2.21.5.11 3.3.26.6.22"},
		{eight, 1, "1.2.6.2.11 2.3.11.3.22 2.1.16.4.0 3.2.21.5.11 3.3.26.6.22 4.1.31.7.0"},
		{eight, 2, "2.3.11.3.22 2.1.16.4.0 3.2.21.5.11 3.3.26.6.22 4.1.31.7.0 " + last},
		{eight, 3, "2.1.16.4.0 3.2.21.5.11 3.3.26.6.22 4.1.31.7.0 " + last},
		{eight, 6, "4.1.31.7.0 " + last}, {eight, 7, last}, {eight, 8, ""}, {eight, 9, ""}, {eight, 1000, ""},
		{eight[:6], 0, "1.1.1.1.0 1.2.6.2.11 2.3.11.3.22 2.1.16.4.0 3.2.21.5.11 3.3.26.6.22"},
		{eight[:5], 0, "1.1.1.1.0 1.2.6.2.11 2.3.11.3.22 2.1.16.4.0 3.2.21.5.11"},
		{[]impl.Note{two[1], two[0]}, 0, "3.2.1.8.13 3.1.2.1.0"}, {[]impl.Note{two[0], eight[0]}, 0, ""}, {[]impl.Note{two[0], eight[0]}, 1, ""}, {make([]impl.Note, 1), 0, ""},
	} {
		if got := impl.ShowAudit(c.l, c.from); got != c.want || got != wantShowAudit(c.l, c.from) {
			t.Errorf("ShowAudit(%v, %d) = %q, want %q", c.l, c.from, got, c.want)
		}
	}
}

func TestShowAuditFromEachNote(t *testing.T) {
	for _, l := range audits() {
		froms := farNumbers()
		for from := range 50 {
			froms = append(froms, from, len(l)-from)
		}
		for _, from := range froms {
			got := impl.ShowAudit(l, from)
			if got != wantShowAudit(l, from) {
				t.Fatalf("ShowAudit of %d notes from %d = %q, want %q", len(l), from, got, wantShowAudit(l, from))
			}
			shown := 0
			if got != "" {
				shown = 1 + strings.Count(got, " ")
			}
			if want := max(0, min(6, len(l)-max(from, 0))); wantAuditOk(l) && from >= 0 && shown != want {
				t.Fatalf("of %d notes from %d so many are shown: %d, want %d", len(l), from, shown, want)
			}
		}
	}
}

// someAudit is right, or wrong in one thing.
func someAudit(r *rand.Rand) []impl.Note {
	l := make([]impl.Note, r.Intn(21))
	index := 1 + r.Intn(4)
	for i := range l {
		l[i] = impl.Note{Index: index, Client: 1 + r.Intn(3), Serial: 1 + r.Intn(1000000), Kind: 1 + r.Intn(22), Code: r.Intn(201)}
		index += r.Intn(3) * r.Intn(2000)
	}
	if len(l) == 0 || r.Intn(2) == 0 {
		return l
	}
	n := &l[r.Intn(len(l))]
	switch r.Intn(7) {
	case 0:
		n.Index += r.Intn(9) - 4
	case 1:
		n.Client = r.Intn(6) - 1
	case 2:
		n.Serial = r.Intn(3) * 500001
	case 3:
		n.Kind = r.Intn(30) - 3
	case 4:
		n.Code = r.Intn(300) - 50
	case 5:
		l = append(l, *n)
	case 6:
		slices.Reverse(l)
	}
	return l
}

func TestSomeAudits(t *testing.T) {
	r := rand.New(rand.NewSource(92))
	right := 0
	for range 20000 {
		l, from := someAudit(r), r.Intn(26)-3
		got := impl.AuditOk(l)
		if got != wantAuditOk(l) {
			t.Fatalf("AuditOk(%v) = %v", l, got)
		}
		if s := impl.ShowAudit(l, from); s != wantShowAudit(l, from) {
			t.Fatalf("ShowAudit(%v, %d) = %q, want %q", l, from, s, wantShowAudit(l, from))
		}
		if got {
			right++
		}
	}
	if right < 5000 || right > 19000 {
		t.Error("so many are right:", right)
	}
}

// No list is written into, nor the room behind it, and what stands there counts for nothing.
func TestMeterMemory(t *testing.T) {
	r := rand.New(rand.NewSource(93))
	marks := []impl.Note{{Index: -7}, {Index: 100000, Client: 1, Serial: 1, Kind: 1}}
	for i := range 5000 {
		was := someAudit(r)
		room, l := newRoomy(was, marks[i%2])
		from := r.Intn(26) - 3
		first := impl.ShowAudit(l, from)
		if impl.AuditOk(l) != wantAuditOk(was) || first != wantShowAudit(was, from) {
			t.Fatalf("%v from %d, with spare room: %v, %q", was, from, impl.AuditOk(l), first)
		}
		kept := strings.Clone(first)
		for at := range l {
			l[at].Serial = 1
			impl.ShowAudit(l, from)
			l[at] = was[at]
		}
		if room.touched() || first != kept || impl.ShowAudit(l, from) != kept {
			t.Fatalf("written into %v, or into what was shown: %q, then %q", was, kept, first)
		}
		if again := impl.ShowAudit(l, from); again != "" && sharesBytes(again, first) {
			t.Fatalf("%q is shown twice in the same bytes", again)
		}
	}
}
