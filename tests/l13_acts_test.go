package tests

import (
	"slices"
	"strings"
	"testing"

	"loop.example/g00757/impl"
)

// wantCore holds what came of a core against what is written out: what is another than before, and what is said.
func wantCore(t *testing.T, what string, was, got impl.Core, said []impl.Msg, change func(c *impl.Core), wantSaid ...impl.Msg) {
	t.Helper()
	if want := coreWith(was, change); !sameCore(got, want) {
		t.Errorf("%s: %+v\ncame to %+v\nwant    %+v", what, was, got, want)
	}
	if !slices.EqualFunc(said, wantSaid, sameMsg) {
		t.Errorf("%s: %+v\nsaid %+v\nwant %+v", what, was, said, wantSaid)
	}
}

func asItIs(c *impl.Core) {}

func voteAsked(from, to, term, index, indexTerm int) impl.Msg {
	return impl.Msg{Kind: impl.MsVote, From: from, To: to, Term: term, Index: index, IndexTerm: indexTerm}
}

func app(from, to, term, index, indexTerm, commit int, l ...impl.Entry) impl.Msg {
	return impl.Msg{Kind: impl.MsApp, From: from, To: to, Term: term, Index: index, IndexTerm: indexTerm, Commit: commit, Entries: l}
}

func apped(from, to, term int, yes bool, index int) impl.Msg {
	return impl.Msg{Kind: impl.MsApped, From: from, To: to, Term: term, Yes: yes, Index: index}
}

func snapped(from, to, term, index, indexTerm int) impl.Msg {
	return impl.Msg{Kind: impl.MsSnap, From: from, To: to, Term: term, Index: index, IndexTerm: indexTerm}
}

func voted(from, to, term int, yes bool) impl.Msg {
	return impl.Msg{Kind: impl.MsVoted, From: from, To: to, Term: term, Yes: yes}
}

// longLead leads with a log of so many Entries of its Term, of which it knows that all have them.
func longLead(entries int) impl.Core {
	c := impl.Core{Id: 0, Peers: 3, Term: 6, Vote: 0, Role: impl.RlLead, Log: fullLog(6, 1)[:entries], Commit: entries}
	c.Next, c.Match = slices.Repeat([]int{entries + 1}, 3), slices.Repeat([]int{entries}, 3)
	return c
}

func TestElect(t *testing.T) {
	c := followCore()
	got, said := checkElect(t, "a follower", c)
	wantCore(t, "a follower", c, got, said, func(c *impl.Core) {
		c.Term, c.Vote, c.Role, c.Lead, c.Yes = 7, 1, impl.RlSeek, -1, []int{1}
	}, voteAsked(1, 0, 7, 7, 5), voteAsked(1, 2, 7, 7, 5))

	c = seekCore()
	got, said = checkElect(t, "one that seeks", c)
	wantCore(t, "one that seeks", c, got, said, func(c *impl.Core) { c.Term, c.Yes = 7, []int{1} },
		voteAsked(1, 0, 7, 7, 5), voteAsked(1, 2, 7, 7, 5), voteAsked(1, 3, 7, 7, 5), voteAsked(1, 4, 7, 7, 5))

	c = leadCore()
	got, said = checkElect(t, "a leader", c)
	wantCore(t, "a leader", c, got, said, asItIs)

	c = coreWith(followCore(), func(c *impl.Core) { c.Log, c.Commit = nil, 4 })
	_, said = checkElect(t, "no Log", c)
	wantCore(t, "no Log", c, c, said, asItIs, voteAsked(1, 0, 7, 4, 2), voteAsked(1, 2, 7, 4, 2))

	c = newCore(0, 2)
	got, said = checkElect(t, "nothing known", c)
	wantCore(t, "nothing known", c, got, said, func(c *impl.Core) {
		c.Term, c.Vote, c.Role, c.Yes = 1, 0, impl.RlSeek, []int{0}
	}, voteAsked(0, 1, 1, 0, 0))
}

func TestElectAtMaxTerm(t *testing.T) {
	for _, role := range []impl.Core{followCore(), seekCore(), leadCore()} {
		c := coreWith(role, func(c *impl.Core) { c.Term = 100000 })
		got, said := checkElect(t, "at MaxTerm", c)
		wantCore(t, "at MaxTerm", c, got, said, asItIs)
	}
	c := coreWith(followCore(), func(c *impl.Core) { c.Term = 99999 })
	got, said := checkElect(t, "ahead of MaxTerm", c)
	if got.Term != 100000 || got.Role != impl.RlSeek || len(said) != 2 || said[0].Term != 100000 {
		t.Errorf("ahead of MaxTerm: %+v, %+v", got, said)
	}
	got, said = checkElect(t, "at MaxTerm, sought", got)
	if got.Term != 100000 || len(said) > 0 {
		t.Errorf("at MaxTerm, sought: %+v, %+v", got, said)
	}
	alone := coreWith(newCore(0, 1), func(c *impl.Core) { c.Term = 100000 })
	got, said = checkElect(t, "alone at MaxTerm", alone)
	wantCore(t, "alone at MaxTerm", alone, got, said, asItIs)
}

func TestElectAlone(t *testing.T) {
	c := newCore(0, 1)
	got, said := checkElect(t, "alone", c)
	wantCore(t, "alone", c, got, said, func(c *impl.Core) {
		*c = impl.Core{Peers: 1, Term: 1, Role: impl.RlLead, Log: []impl.Entry{{Term: 1}}, Commit: 1, Next: []int{2}, Match: []int{1}}
	})

	// The Entry of its own Term takes those ahead of it along.
	c = impl.Core{Peers: 1, Term: 6, Vote: -1, Role: impl.RlFollow, Lead: -1, Base: 4, BaseTerm: 2, Log: entriesOf(2, 3, 5), Commit: 5}
	got, said = checkElect(t, "alone, with a log", c)
	wantCore(t, "alone, with a log", c, got, said, func(c *impl.Core) {
		c.Term, c.Vote, c.Role, c.Lead, c.Commit, c.Next, c.Match = 7, 0, impl.RlLead, 0, 8, []int{9}, []int{8}
		c.Log = append(c.Log, impl.Entry{Term: 7})
	})

	// Without room for it, nothing more is agreed on.
	c = coreWith(c, func(c *impl.Core) { c.Log, c.Commit = fullLog(3, 1), 10 })
	got, said = checkElect(t, "alone, with a full log", c)
	wantCore(t, "alone, with a full log", c, got, said, func(c *impl.Core) {
		c.Term, c.Vote, c.Role, c.Lead, c.Next, c.Match = 7, 0, impl.RlLead, 0, []int{65}, []int{64}
	})
	c = coreWith(c, func(c *impl.Core) { c.Log = c.Log[:59] })
	got, _ = checkElect(t, "alone, with room for one", c)
	if len(got.Log) != 60 || got.Commit != 64 {
		t.Errorf("alone, with room for one: %+v", got)
	}
	c = impl.Core{Peers: 1, Term: 6, Vote: -1, Role: impl.RlFollow, Lead: -1, Base: 99998, BaseTerm: 2, Log: entriesOf(2, 3), Commit: 99998}
	got, said = checkElect(t, "alone, at MaxIndex", c)
	wantCore(t, "alone, at MaxIndex", c, got, said, func(c *impl.Core) {
		c.Term, c.Vote, c.Role, c.Lead, c.Next, c.Match = 7, 0, impl.RlLead, 0, []int{100001}, []int{100000}
	})
	c = coreWith(c, func(c *impl.Core) { c.Log = c.Log[:1] })
	got, _ = checkElect(t, "alone, ahead of MaxIndex", c)
	if len(got.Log) != 2 || got.Commit != 100000 {
		t.Errorf("alone, ahead of MaxIndex: %+v", got)
	}
}

// So many of so many have to say Yes, itself among them.
func TestElectMajority(t *testing.T) {
	for peers, need := range map[int]int{1: 1, 2: 2, 3: 2, 4: 3, 5: 3} {
		for id := range peers {
			c, said := checkElect(t, "a majority", newCore(id, peers))
			if len(said) != peers-1 && peers > 1 {
				t.Errorf("%d of %d asks %+v", id, peers, said)
			}
			yes := 1
			for _, m := range said {
				if (c.Role == impl.RlLead) != (yes >= need) {
					t.Fatalf("with %d Yes of %d: %+v", yes, peers, c)
				}
				c, _ = checkHear(t, "a majority", c, voted(m.To, id, 1, true))
				yes++
			}
			if c.Role != impl.RlLead {
				t.Errorf("with all %d: %+v", peers, c)
			}
		}
	}
}

func TestBeat(t *testing.T) {
	for _, c := range []impl.Core{followCore(), seekCore(), newCore(0, 1), newCore(1, 3)} {
		got, said := checkBeat(t, "not leading", c)
		wantCore(t, "not leading", c, got, said, asItIs)
	}
	l := leadCore().Log
	for _, c := range []struct {
		what string
		next int
		want impl.Msg
	}{
		{"at 1", 1, snapped(1, 0, 6, 4, 2)},
		{"one below Base", 3, snapped(1, 0, 6, 4, 2)},
		{"at Base", 4, snapped(1, 0, 6, 4, 2)},
		{"one above Base, more than MaxBatch", 5, app(1, 0, 6, 4, 2, 6, l[:4]...)},
		{"as many as MaxBatch", 6, app(1, 0, 6, 5, 2, 6, l[1:]...)},
		{"less than MaxBatch", 7, app(1, 0, 6, 6, 3, 6, l[2:]...)},
		{"two", 8, app(1, 0, 6, 7, 5, 6, l[3:]...)},
		{"at the last", 9, app(1, 0, 6, 8, 6, 6, l[4])},
		{"one behind the last", 10, app(1, 0, 6, 9, 6, 6)},
	} {
		core := coreWith(leadCore(), func(x *impl.Core) { x.Match[0], x.Next[0] = 0, c.next })
		got, said := checkBeat(t, c.what, core)
		wantCore(t, c.what, core, got, said, asItIs, c.want, snapped(1, 2, 6, 4, 2))
	}
	alone := coreWith(leading(newCore(0, 1)), func(c *impl.Core) { c.Term = 1 })
	got, said := checkBeat(t, "alone", alone)
	wantCore(t, "alone", alone, got, said, asItIs)
	// At Base 0 there is no Snap to send.
	bare := coreWith(leading(newCore(1, 3)), func(c *impl.Core) { c.Term = 4 })
	got, said = checkBeat(t, "nothing yet", bare)
	wantCore(t, "nothing yet", bare, got, said, asItIs, app(1, 0, 4, 0, 0, 0), app(1, 2, 4, 0, 0, 0))
	five := coreWith(longLead(9), func(c *impl.Core) {
		c.Id, c.Vote, c.Lead, c.Peers = 2, 2, 2, 5
		c.Next, c.Match = []int{1, 6, 10, 7, 9}, []int{0, 5, 9, 0, 8}
	})
	got, said = checkBeat(t, "five", five)
	e := five.Log
	wantCore(t, "five", five, got, said, asItIs, app(2, 0, 6, 0, 0, 9, e[:4]...), app(2, 1, 6, 5, 6, 9, e[5:9]...), app(2, 3, 6, 6, 6, 9, e[6:9]...), app(2, 4, 6, 8, 6, 9, e[8]))
}

func TestPropose(t *testing.T) {
	for _, c := range []impl.Core{followCore(), seekCore(), newCore(0, 1), newCore(1, 3)} {
		got, said, n := checkPropose(t, "not leading", c, "x")
		wantCore(t, "not leading", c, got, said, asItIs)
		if n != 0 {
			t.Error("not leading:", n)
		}
	}
	c := leadCore()
	got, said, n := checkPropose(t, "a leader", c, "x")
	e := impl.Entry{Term: 6, Data: "x"}
	wantCore(t, "a leader", c, got, said, func(c *impl.Core) {
		c.Log = append(c.Log, e)
		c.Match[1], c.Next[1] = 10, 11
	}, app(1, 0, 6, 7, 5, 6, c.Log[3], c.Log[4], e), snapped(1, 2, 6, 4, 2))
	if n != 10 {
		t.Error("a leader:", n)
	}
	// Numbers that others have already are counted then.
	c = coreWith(leadCore(), func(c *impl.Core) { c.Match[0], c.Next[0] = 8, 9 })
	got, said, _ = checkPropose(t, "with what others have", c, "x")
	wantCore(t, "with what others have", c, got, said, func(c *impl.Core) {
		c.Log = append(c.Log, e)
		c.Match[1], c.Next[1], c.Commit = 10, 11, 8
	}, app(1, 0, 6, 8, 6, 8, c.Log[4], e), snapped(1, 2, 6, 4, 2))
}

func TestProposeData(t *testing.T) {
	for size, fits := range map[int]bool{0: true, 1: true, 1599: true, 1600: true, 1601: false, 20000: false} {
		got, said, n := checkPropose(t, "Data", leadCore(), strings.Repeat("x", size))
		if (n == 10) != fits || (n == 0) == fits || (len(got.Log) == 6) != fits || (len(said) == 2) != fits {
			t.Errorf("%d bytes: %d, %+v", size, n, said)
		}
	}
	got, said, n := checkPropose(t, "each byte", leadCore(), everyByte())
	if n != 10 || got.Log[5].Data != everyByte() || said[0].Entries[2].Data != everyByte() {
		t.Errorf("each byte: %d, %+v, %+v", n, got, said)
	}
}

func TestProposeRoom(t *testing.T) {
	for entries, number := range map[int]int{0: 1, 1: 2, 58: 59, 59: 60, 60: 0} {
		c := longLead(entries)
		got, said, n := checkPropose(t, "room", c, "x")
		if n != number || number == 0 && (!sameCore(got, c) || len(said) > 0) || number > 0 && len(said) != 2 {
			t.Errorf("with %d Entries: %d, %+v, %+v", entries, n, got, said)
		}
	}
	for base, number := range map[int]int{99997: 99999, 99998: 100000, 99999: 0} {
		c := leading(impl.Core{Id: 2, Peers: 3, Term: 6, Base: base, BaseTerm: 5, Log: entriesOf(6), Commit: base})
		got, said, n := checkPropose(t, "MaxIndex", c, "x")
		if n != number || number == 0 && (!sameCore(got, c) || len(said) > 0) || number > 0 && len(said) != 2 {
			t.Errorf("at Base %d: %d, %+v, %+v", base, n, got, said)
		}
	}
	// A Base that goes on makes room.
	c, _ := checkCompact(t, "room again", longLead(60), 1)
	if _, _, n := checkPropose(t, "room again", c, "x"); n != 61 {
		t.Error("room again:", n)
	}
}

func TestProposeAlone(t *testing.T) {
	c, _ := checkElect(t, "alone", newCore(0, 1))
	for number := 2; number <= 60; number++ {
		next, said, n := checkPropose(t, "alone", c, "x")
		if n != number || len(said) > 0 || next.Commit != n {
			t.Fatalf("alone: %d, %+v, %+v", n, next, said)
		}
		c = next
	}
	if next, _, n := checkPropose(t, "alone", c, "x"); n != 0 || !sameCore(next, c) {
		t.Errorf("alone, at MaxLog: %d, %+v", n, next)
	}
}

func TestCompact(t *testing.T) {
	for _, c := range []impl.Core{
		coreWith(followCore(), func(c *impl.Core) { c.Commit = 6 }),
		coreWith(seekCore(), func(c *impl.Core) { c.Commit = 6 }),
		leadCore(),
	} {
		for index, want := range map[int]impl.Core{
			5: coreWith(c, func(c *impl.Core) { c.Base, c.BaseTerm, c.Log = 5, 2, c.Log[1:] }),
			6: coreWith(c, func(c *impl.Core) { c.Base, c.BaseTerm, c.Log = 6, 3, c.Log[2:] }),
		} {
			if got, ok := checkCompact(t, "up to Commit", c, index); !ok || !sameCore(got, want) {
				t.Errorf("%+v at %d: %+v, %v", c, index, got, ok)
			}
		}
		for _, index := range append(farNumbers(), 0, 1, 3, 4, 7, 8, 9, 10) {
			if index == 5 || index == 6 {
				continue
			}
			if got, ok := checkCompact(t, "out of range", c, index); ok || !sameCore(got, c) {
				t.Errorf("%+v at %d: %+v, %v", c, index, got, ok)
			}
		}
	}
	all := coreWith(followCore(), func(c *impl.Core) { c.Commit = 7 })
	if got, ok := checkCompact(t, "all", all, 7); !ok || got.Base != 7 || got.BaseTerm != 5 || len(got.Log) > 0 {
		t.Errorf("all: %+v, %v", got, ok)
	}
	if got, ok := checkCompact(t, "nothing", newCore(1, 3), 0); ok || !sameCore(got, newCore(1, 3)) {
		t.Errorf("nothing: %+v, %v", got, ok)
	}
	for _, index := range []int{1, 30, 60} {
		if got, ok := checkCompact(t, "from 0 on", longLead(60), index); !ok || got.Base != index || got.BaseTerm != 6 || len(got.Log) != 60-index {
			t.Errorf("from 0 on to %d: %+v, %v", index, got, ok)
		}
	}
}

// Each right core of the edges, at each thing that is done.
func TestActsAtEdges(t *testing.T) {
	for _, c := range rightCores() {
		checkElect(t, "edge", c)
		checkBeat(t, "edge", c)
		for _, data := range []string{"", "x", strings.Repeat("x", 1600), strings.Repeat("x", 1601)} {
			checkPropose(t, "edge", c, data)
		}
		for _, index := range []int{-1, 0, c.Base - 1, c.Base, c.Base + 1, c.Commit - 1, c.Commit, c.Commit + 1, c.Base + len(c.Log), c.Base + len(c.Log) + 1} {
			checkCompact(t, "edge", c, index)
		}
	}
}
