package tests

import (
	"math"
	"slices"
	"strings"
	"testing"

	"loop.example/g00757/impl"
)

// bareKept is a core's Kept, as the chapter says it.
func bareKept(c impl.Core, data string) impl.Kept {
	k := impl.Kept{Term: c.Term, Vote: c.Vote, Entries: c.Log}
	if c.Base != 0 {
		k.Snap = impl.Snap{Index: c.Base, Term: c.BaseTerm, Data: data}
	}
	return k
}

// wantCoreOk gathers what is wrong, in the document's words.
func wantCoreOk(c impl.Core) bool {
	wrong := c.Peers < 1 || c.Peers > 5 || c.Id < 0 || c.Id >= c.Peers
	wrong = wrong || !wantKeptOk(bareKept(c, "")) || c.Base == 0 && c.BaseTerm != 0 || c.Vote >= c.Peers
	wrong = wrong || c.Commit < c.Base || c.Commit-c.Base > len(c.Log)
	last := c.Base + len(c.Log)
	switch c.Role {
	case 1:
		wrong = wrong || c.Lead < -1 || c.Lead >= c.Peers || c.Lead == c.Id || len(c.Yes)+len(c.Next)+len(c.Match) > 0
	case 2:
		said := map[int]int{}
		for _, n := range c.Yes {
			wrong = wrong || n < 0 || n >= c.Peers
			said[n]++
		}
		wrong = wrong || c.Term < 1 || c.Vote != c.Id || c.Lead != -1 || said[c.Id] != 1 || len(said) != len(c.Yes) || !slices.IsSorted(c.Yes)
		wrong = wrong || len(c.Yes) > c.Peers/2 || len(c.Next)+len(c.Match) > 0
	case 3:
		wrong = wrong || c.Term < 1 || c.Vote != c.Id || c.Lead != c.Id || len(c.Yes) > 0 || len(c.Next) != c.Peers || len(c.Match) != c.Peers
		for i := range min(len(c.Next), len(c.Match)) {
			wrong = wrong || c.Match[i] < 0 || c.Next[i] <= c.Match[i] || c.Next[i] > last+1 || i == c.Id && c.Match[i] != last
		}
	default:
		wrong = true
	}
	return !wrong
}

func coreNumbers(c impl.Core) [][]int {
	fields := []int{c.Id, c.Peers, c.Term, c.Vote, c.Role, c.Lead, c.Base, c.BaseTerm, c.Commit}
	return [][]int{fields, c.Yes, c.Next, c.Match}
}

func sameCore(a, b impl.Core) bool {
	return slices.EqualFunc(coreNumbers(a), coreNumbers(b), slices.Equal) && slices.Equal(a.Log, b.Log)
}

func copiedCore(c impl.Core) impl.Core {
	c.Log, c.Yes, c.Next, c.Match = slices.Clone(c.Log), slices.Clone(c.Yes), slices.Clone(c.Next), slices.Clone(c.Match)
	return c
}

func coreWith(c impl.Core, change func(c *impl.Core)) impl.Core {
	c = copiedCore(c)
	change(&c)
	return c
}

// checkCoreOk asks of a core what it is; one that is not right has no Kept, and nothing comes of it.
func checkCoreOk(t *testing.T, what string, c impl.Core, right bool) {
	t.Helper()
	if wantCoreOk(c) != right {
		t.Fatalf("%s: the test's own answer for %+v is %v", what, c, !right)
	}
	if got := impl.CoreOk(c); got != right {
		t.Errorf("%s: CoreOk(%+v) = %v", what, c, got)
	}
	want := impl.Kept{}
	if right {
		want = bareKept(c, "data")
	}
	if got := impl.CoreKept(c, "data"); !sameKept(got, want) {
		t.Errorf("%s: the Kept of %+v is %+v", what, c, got)
	}
	if !right {
		checkNothing(t, what, c)
	}
}

// checkNothing: what is asked of a core that is not right is answered by the zero core and no messages.
func checkNothing(t *testing.T, what string, c impl.Core) {
	t.Helper()
	check := func(act string, next impl.Core, said []impl.Msg) {
		t.Helper()
		if !sameCore(next, impl.Core{}) || len(said) > 0 {
			t.Errorf("%s: %s of %+v: %+v, %+v", what, act, c, next, said)
		}
	}
	next, said := impl.Elect(c)
	check("Elect", next, said)
	next, said = impl.Beat(c)
	check("Beat", next, said)
	next, said, number := impl.Propose(c, "x")
	check("Propose", next, said)
	for _, index := range []int{c.Base + 1, c.Commit, 0} {
		short, ok := impl.Compact(c, index)
		check("Compact", short, nil)
		if ok || number != 0 {
			t.Errorf("%s: %v, %d of %+v", what, ok, number, c)
		}
	}
	for _, m := range eachKind() {
		for _, to := range []int{c.Id, m.To} {
			m.To = to
			next, said = impl.Hear(c, m)
			check("Hear", next, said)
		}
	}
}

// followCore has the numbers 5, 6 and 7; of these 5 is agreed on.
func followCore() impl.Core {
	return impl.Core{Id: 1, Peers: 3, Term: 6, Vote: 2, Role: 1, Lead: 2, Base: 4, BaseTerm: 2, Log: entriesOf(2, 3, 5), Commit: 5}
}

// seekCore lacks one Yes.
func seekCore() impl.Core {
	return impl.Core{Id: 1, Peers: 5, Term: 6, Vote: 1, Role: 2, Lead: -1, Base: 4, BaseTerm: 2, Log: entriesOf(2, 3, 5), Commit: 5, Yes: []int{1, 3}}
}

// leadCore has the numbers 5 to 9; server 0 lacks the last two of them, server 2 all.
func leadCore() impl.Core {
	return impl.Core{Id: 1, Peers: 3, Term: 6, Vote: 1, Role: 3, Lead: 1, Base: 4, BaseTerm: 2, Log: entriesOf(2, 3, 5, 6, 6), Commit: 6, Next: []int{8, 10, 3}, Match: []int{7, 9, 0}}
}

func newCore(id, peers int) impl.Core {
	return impl.Core{Id: id, Peers: peers, Vote: -1, Role: 1, Lead: -1}
}

// rightCores meet bounds exactly, or are in the middle of them.
func rightCores() []impl.Core {
	top := impl.Core{Id: 4, Peers: 5, Term: 100000, Vote: 4, Role: 3, Lead: 4, Base: 99940, BaseTerm: 100000, Log: fullLog(100000, 1600), Commit: 100000, Next: slices.Repeat([]int{100001}, 5), Match: slices.Repeat([]int{100000}, 5)}
	out := []impl.Core{followCore(), seekCore(), leadCore(), top, newCore(0, 1), newCore(4, 5)}
	for _, k := range edgeKepts() {
		for id := range 5 {
			c := impl.Core{Id: id, Peers: 5, Term: k.Term, Vote: k.Vote, Role: 1, Lead: 4 - id, Base: k.Snap.Index, BaseTerm: k.Snap.Term, Log: k.Entries, Commit: k.Snap.Index}
			if c.Lead == id {
				c.Lead = -1
			}
			out = append(out, c, coreWith(c, func(c *impl.Core) { c.Commit += len(c.Log) }))
			if k.Term > 0 {
				c.Vote = id
				out = append(out,
					coreWith(c, func(c *impl.Core) { c.Role, c.Lead, c.Yes = 2, -1, []int{id} }),
					coreWith(c, func(c *impl.Core) { c.Role, c.Lead, c.Yes = 2, -1, []int{id - id%2, id - id%2 + 1} }),
					leading(c))
			}
		}
	}
	return slices.DeleteFunc(out, func(c impl.Core) bool { return slices.Contains(c.Yes, 5) })
}

// leading makes of a core one that leads, and knows nothing of others.
func leading(c impl.Core) impl.Core {
	return coreWith(c, func(c *impl.Core) {
		last := c.Base + len(c.Log)
		c.Role, c.Lead, c.Vote, c.Yes = 3, c.Id, c.Id, nil
		c.Next, c.Match = slices.Repeat([]int{last + 1}, c.Peers), make([]int, c.Peers)
		c.Match[c.Id] = last
	})
}

func TestCoreNumbers(t *testing.T) {
	if impl.RlFollow != 1 || impl.RlSeek != 2 || impl.RlLead != 3 {
		t.Error("the roles:", impl.RlFollow, impl.RlSeek, impl.RlLead)
	}
}

func TestCoreOk(t *testing.T) {
	if len(rightCores()) < 200 {
		t.Error("so many right cores:", len(rightCores()))
	}
	for _, c := range rightCores() {
		checkCoreOk(t, "right", c, true)
		checkCoreOk(t, "empty lists that are not nil", coreWith(c, func(c *impl.Core) {
			c.Log, c.Yes, c.Next, c.Match = append([]impl.Entry{}, c.Log...), append([]int{}, c.Yes...), append([]int{}, c.Next...), append([]int{}, c.Match...)
		}), true)
		for _, role := range append(farNumbers(), 0, 4, 5, 256+c.Role, 1<<32+c.Role, -c.Role) {
			checkCoreOk(t, "no role", coreWith(c, func(c *impl.Core) { c.Role = role }), false)
		}
	}
	checkCoreOk(t, "nothing", impl.Core{}, false)
}

// checkCoreField asks of a core what it is with a number at each of some.
func checkCoreField(t *testing.T, name string, c impl.Core, field func(c *impl.Core) *int, right func(n int) bool, more ...int) {
	t.Helper()
	for _, n := range append(farNumbers(), append(more, 0, 1, 2, 3, 4, 5, 6, 7, 8, 9, 10, 99999, 100000, 100001, 1<<32, 1<<32+1)...) {
		checkCoreOk(t, name+" "+impl.Dec(n), coreWith(c, func(c *impl.Core) { *field(c) = n }), right(n))
	}
}

func coreId(c *impl.Core) *int       { return &c.Id }
func corePeers(c *impl.Core) *int    { return &c.Peers }
func coreTerm(c *impl.Core) *int     { return &c.Term }
func coreVote(c *impl.Core) *int     { return &c.Vote }
func coreLead(c *impl.Core) *int     { return &c.Lead }
func coreBase(c *impl.Core) *int     { return &c.Base }
func coreBaseTerm(c *impl.Core) *int { return &c.BaseTerm }
func coreCommit(c *impl.Core) *int   { return &c.Commit }

func TestCoreOkServers(t *testing.T) {
	for peers := 1; peers <= 5; peers++ {
		c := newCore(0, peers)
		checkCoreField(t, "Id", c, coreId, from(0, peers-1))
		checkCoreField(t, "Vote", c, coreVote, from(-1, peers-1))
		checkCoreField(t, "Peers", newCore(peers-1, peers), corePeers, from(peers, 5))
		for id := range peers {
			checkCoreField(t, "Lead", newCore(id, peers), coreLead, func(n int) bool { return n >= -1 && n < peers && n != id })
		}
	}
	checkCoreField(t, "Peers with a Vote", followCore(), corePeers, from(3, 5))
	checkCoreField(t, "Peers with a Vote of the last one", coreWith(followCore(), func(c *impl.Core) { c.Lead = -1 }), corePeers, from(3, 5))
	checkCoreField(t, "Peers with a Lead", coreWith(followCore(), func(c *impl.Core) { c.Vote = -1 }), corePeers, from(3, 5))
	checkCoreField(t, "Peers of one that seeks", seekCore(), corePeers, from(4, 5))
	checkCoreField(t, "Peers of one that leads", leadCore(), corePeers, from(3, 3))
}

func TestCoreOkLog(t *testing.T) {
	c := followCore()
	checkCoreField(t, "Term", c, coreTerm, from(5, 100000))
	checkCoreField(t, "Term without Entries", newCore(1, 3), coreTerm, from(0, 100000))
	checkCoreField(t, "Base", coreWith(c, func(c *impl.Core) { c.Commit = 6 }), coreBase, from(3, 6))
	checkCoreField(t, "BaseTerm", c, coreBaseTerm, from(1, 2))
	checkCoreField(t, "BaseTerm at Base 0", newCore(1, 3), coreBaseTerm, from(0, 0))
	checkCoreField(t, "BaseTerm at Base 0, with a Term", coreWith(newCore(1, 3), func(c *impl.Core) { c.Term = 9 }), coreBaseTerm, from(0, 0))
	checkCoreField(t, "Base at BaseTerm 0", newCore(1, 3), coreBase, from(0, 0))
	for _, c := range []impl.Core{followCore(), seekCore()} {
		checkCoreField(t, "Commit", c, coreCommit, from(4, 7))
	}
	checkCoreField(t, "Commit of one that leads", leadCore(), coreCommit, from(4, 9))
	checkCoreField(t, "Commit of nothing", newCore(1, 3), coreCommit, from(0, 0))
	checkCoreField(t, "Commit behind Base", impl.Core{Id: 2, Peers: 3, Term: 1, Role: 1, Lead: -1, Base: 7, BaseTerm: 1}, coreCommit, from(7, 7))
	top := impl.Core{Id: 2, Peers: 3, Term: 1, Role: 1, Lead: -1, Base: 99999, BaseTerm: 1, Log: entriesOf(1), Commit: 99999}
	checkCoreOk(t, "the last at MaxIndex", top, true)
	checkCoreOk(t, "the last above MaxIndex", coreWith(top, func(c *impl.Core) { c.Log = entriesOf(1, 1) }), false)
	for _, k := range wrongKepts() {
		c := impl.Core{Peers: 5, Term: k.Term, Vote: k.Vote, Role: 1, Lead: -1, Base: k.Snap.Index, BaseTerm: k.Snap.Term, Log: k.Entries, Commit: k.Snap.Index}
		// Snap's Data are none of the core's.
		checkCoreOk(t, "of a wrong Kept", c, k.Snap.Data != "" && (k.Snap.Index == 0 && k.Snap.Term == 0 || len(k.Snap.Data) > 20000))
	}
}

func TestCoreOkFollow(t *testing.T) {
	c := followCore()
	for what, change := range map[string]func(c *impl.Core){
		"a Yes":           func(c *impl.Core) { c.Yes = []int{1} },
		"a Yes of none":   func(c *impl.Core) { c.Yes = []int{-1} },
		"Next":            func(c *impl.Core) { c.Next = []int{8, 8, 8} },
		"Match":           func(c *impl.Core) { c.Match = []int{0, 7, 0} },
		"Next and Match":  func(c *impl.Core) { c.Next, c.Match = []int{8, 8, 8}, []int{0, 7, 0} },
		"one Next":        func(c *impl.Core) { c.Next = []int{0} },
		"one Match":       func(c *impl.Core) { c.Match = []int{0} },
		"itself as Lead":  func(c *impl.Core) { c.Lead = 1 },
		"itself, voted":   func(c *impl.Core) { c.Vote, c.Lead = 1, 1 },
		"Lead at Peers":   func(c *impl.Core) { c.Lead = 3 },
		"Lead below none": func(c *impl.Core) { c.Lead = -2 },
		"a Term below its Entries'": func(c *impl.Core) {
			c.Term = 4
		},
	} {
		checkCoreOk(t, what, coreWith(c, change), false)
	}
	for _, vote := range []int{-1, 0, 1, 2} {
		for _, lead := range []int{-1, 0, 2} {
			checkCoreOk(t, "any Vote, any Lead", coreWith(c, func(c *impl.Core) { c.Vote, c.Lead = vote, lead }), true)
		}
	}
}

func TestCoreOkSeek(t *testing.T) {
	c := seekCore()
	for what, change := range map[string]func(c *impl.Core){
		"no Yes":                 func(c *impl.Core) { c.Yes = nil },
		"not its own Yes":        func(c *impl.Core) { c.Yes = []int{3} },
		"not its own, two":       func(c *impl.Core) { c.Yes = []int{0, 3} },
		"a majority":             func(c *impl.Core) { c.Yes = []int{0, 1, 3} },
		"all":                    func(c *impl.Core) { c.Yes = []int{0, 1, 2, 3, 4} },
		"falling":                func(c *impl.Core) { c.Yes = []int{3, 1} },
		"twice":                  func(c *impl.Core) { c.Yes = []int{1, 1} },
		"below 0":                func(c *impl.Core) { c.Yes = []int{-1, 1} },
		"at Peers":               func(c *impl.Core) { c.Yes = []int{1, 5} },
		"far":                    func(c *impl.Core) { c.Yes = []int{1, math.MaxInt} },
		"far, falling":           func(c *impl.Core) { c.Yes = []int{math.MaxInt, 1} },
		"Next":                   func(c *impl.Core) { c.Next = []int{8, 8, 8, 8, 8} },
		"Match":                  func(c *impl.Core) { c.Match = []int{0, 7, 0, 0, 0} },
		"Next and Match":         func(c *impl.Core) { c.Next, c.Match = []int{8, 8, 8, 8, 8}, []int{0, 7, 0, 0, 0} },
		"another Vote":           func(c *impl.Core) { c.Vote = 3 },
		"no Vote":                func(c *impl.Core) { c.Vote = -1 },
		"a Lead":                 func(c *impl.Core) { c.Lead = 3 },
		"itself as Lead":         func(c *impl.Core) { c.Lead = 1 },
		"Term 0":                 func(c *impl.Core) { c.Term, c.Base, c.BaseTerm, c.Log, c.Commit = 0, 0, 0, nil, 0 },
		"half of four, and more": func(c *impl.Core) { c.Peers, c.Yes = 4, []int{0, 1, 3} },
		"two of three":           func(c *impl.Core) { c.Peers, c.Yes = 3, []int{1, 2} },
		"two of two":             func(c *impl.Core) { c.Peers, c.Yes = 2, []int{0, 1} },
		"one of one":             func(c *impl.Core) { c.Id, c.Vote, c.Peers, c.Yes = 0, 0, 1, []int{0} },
	} {
		checkCoreOk(t, what, coreWith(c, change), false)
	}
	for peers, yes := range map[int][][]int{2: {{1}}, 3: {{1}}, 4: {{1}, {0, 1}, {1, 2}, {1, 3}}, 5: {{1}, {0, 1}, {1, 2}, {1, 3}, {1, 4}}} {
		for _, l := range yes {
			checkCoreOk(t, "no majority", coreWith(c, func(c *impl.Core) { c.Peers, c.Yes = peers, l }), true)
		}
	}
	checkCoreOk(t, "Term 1", coreWith(c, func(c *impl.Core) { c.Term, c.Base, c.BaseTerm, c.Log, c.Commit = 1, 0, 0, nil, 0 }), true)
}

func TestCoreOkLead(t *testing.T) {
	c := leadCore()
	for what, change := range map[string]func(c *impl.Core){
		"a Yes":                  func(c *impl.Core) { c.Yes = []int{1} },
		"no Next":                func(c *impl.Core) { c.Next = nil },
		"no Match":               func(c *impl.Core) { c.Match = nil },
		"neither":                func(c *impl.Core) { c.Next, c.Match = nil, nil },
		"two Nexts":              func(c *impl.Core) { c.Next = c.Next[:2] },
		"two Matches":            func(c *impl.Core) { c.Match = c.Match[:2] },
		"four Nexts":             func(c *impl.Core) { c.Next = []int{8, 10, 3, 3} },
		"four Matches":           func(c *impl.Core) { c.Match = []int{7, 9, 0, 0} },
		"four of both":           func(c *impl.Core) { c.Next, c.Match = []int{8, 10, 3, 3}, []int{7, 9, 0, 0} },
		"Match below 0":          func(c *impl.Core) { c.Match[2] = -1 },
		"Match at Next":          func(c *impl.Core) { c.Match[0] = 8 },
		"Match above Next":       func(c *impl.Core) { c.Match[0] = 9 },
		"Match above the last":   func(c *impl.Core) { c.Match[0] = 10 },
		"Match far":              func(c *impl.Core) { c.Match[0] = math.MaxInt },
		"Match far, Next low":    func(c *impl.Core) { c.Match[0], c.Next[0] = math.MaxInt, math.MinInt },
		"Next behind the last":   func(c *impl.Core) { c.Next[0] = 11 },
		"own Next behind it":     func(c *impl.Core) { c.Next[1] = 11 },
		"own Next at the last":   func(c *impl.Core) { c.Next[1] = 9 },
		"Next 0":                 func(c *impl.Core) { c.Next[2] = 0 },
		"Next below 0":           func(c *impl.Core) { c.Next[2] = -3 },
		"Next far":               func(c *impl.Core) { c.Next[2] = math.MaxInt },
		"own Match one less":     func(c *impl.Core) { c.Match[1] = 8 },
		"own Match and Next":     func(c *impl.Core) { c.Match[1], c.Next[1] = 8, 9 },
		"own Match one more":     func(c *impl.Core) { c.Match[1] = 10 },
		"another Vote":           func(c *impl.Core) { c.Vote = 2 },
		"no Vote":                func(c *impl.Core) { c.Vote = -1 },
		"another Lead":           func(c *impl.Core) { c.Lead = 2 },
		"no Lead":                func(c *impl.Core) { c.Lead = -1 },
		"Term 0":                 func(c *impl.Core) { *c = coreWith(leading(newCore(1, 3)), func(c *impl.Core) {}) },
		"another Id":             func(c *impl.Core) { c.Id = 0 },
		"the last is another":    func(c *impl.Core) { c.Log = c.Log[:4] },
		"the last is one more":   func(c *impl.Core) { c.Log = append(c.Log, impl.Entry{Term: 6}) },
		"Next of the first at 0": func(c *impl.Core) { c.Match[0], c.Next[0] = 0, 0 },
	} {
		checkCoreOk(t, what, coreWith(c, change), false)
	}
	for next := 1; next <= 10; next++ {
		for match := range next {
			checkCoreOk(t, "Next above Match", coreWith(c, func(c *impl.Core) { c.Next[0], c.Match[0] = next, match }), true)
		}
	}
	alone := coreWith(leading(newCore(0, 1)), func(c *impl.Core) { c.Term = 1 })
	checkCoreOk(t, "Term 1", alone, true)
	checkCoreOk(t, "another one's Match, one server alone", coreWith(alone, func(c *impl.Core) { c.Match, c.Next = []int{0, 0}, []int{1, 1} }), false)
}

func TestCoreKept(t *testing.T) {
	full := strings.Repeat("s", 20000)
	for _, c := range rightCores() {
		for _, data := range []string{"", "x", everyByte(), full, full + "s"} {
			want := bareKept(c, data)
			if len(data) > 20000 && c.Base > 0 {
				want = impl.Kept{}
			}
			if got := impl.CoreKept(c, data); !sameKept(got, want) || got.Term+got.Vote != 0 && !impl.KeptOk(got) {
				t.Errorf("CoreKept of %+v and %d bytes is %+v", c, len(data), got)
			}
		}
	}
	want := impl.Kept{Term: 6, Vote: 2, Snap: impl.Snap{Index: 4, Term: 2, Data: "S"}, Entries: entriesOf(2, 3, 5)}
	if got := impl.CoreKept(followCore(), "S"); !sameKept(got, want) {
		t.Errorf("%+v", got)
	}
	if got := impl.CoreKept(newCore(1, 3), "S"); !sameKept(got, impl.Kept{Vote: -1}) {
		t.Errorf("%+v", got)
	}
}

// checkCoreOf holds CoreOf against a core that is written out.
func checkCoreOf(t *testing.T, id, peers int, k impl.Kept) bool {
	t.Helper()
	want := impl.Core{Id: id, Peers: peers, Term: k.Term, Vote: k.Vote, Role: 1, Lead: -1, Base: k.Snap.Index, BaseTerm: k.Snap.Term, Log: k.Entries, Commit: k.Snap.Index}
	right := wantKeptOk(k) && wantCoreOk(want)
	if !right {
		want = impl.Core{}
	}
	c, ok := impl.CoreOf(id, peers, k)
	if ok != right || !sameCore(c, want) {
		t.Errorf("CoreOf(%d, %d, %+v) = %+v, %v", id, peers, k, c, ok)
	}
	if ok && !sameKept(impl.CoreKept(c, k.Snap.Data), k) {
		t.Errorf("%+v is not of %+v", c, k)
	}
	return ok
}

func TestCoreOf(t *testing.T) {
	right := 0
	for _, k := range append(append(edgeKepts(), wrongKepts()...), smallKepts()...) {
		for id := -1; id <= 6; id++ {
			for peers := -1; peers <= 6; peers++ {
				if checkCoreOf(t, id, peers, k) {
					right++
				}
			}
		}
		for _, far := range farNumbers() {
			checkCoreOf(t, far, 3, k)
			checkCoreOf(t, 0, far, k)
			checkCoreOf(t, far, far, k)
		}
	}
	if right < 2000 {
		t.Error("so many are right:", right)
	}
	got, ok := impl.CoreOf(2, 3, rightKept())
	want := impl.Core{Id: 2, Peers: 3, Term: 6, Vote: 2, Role: impl.RlFollow, Lead: -1, Base: 4, BaseTerm: 2, Log: entriesOf(2, 3, 5), Commit: 4}
	if !ok || !sameCore(got, want) {
		t.Errorf("%+v, %v", got, ok)
	}
	for _, vote := range []int{3, 4} {
		k := rightKept()
		k.Vote = vote
		if got, ok := impl.CoreOf(2, 3, k); ok || !sameCore(got, impl.Core{}) {
			t.Errorf("a Vote for server %d of three: %+v, %v", vote, got, ok)
		}
	}
}
