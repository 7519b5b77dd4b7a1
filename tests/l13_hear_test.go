package tests

import (
	"slices"
	"testing"

	"loop.example/g00757/impl"
)

// heard is a message, and what comes of it.
type heard struct {
	what   string
	m      impl.Msg
	change func(c *impl.Core)
	said   []impl.Msg
}

func checkHeard(t *testing.T, c impl.Core, cases ...heard) {
	t.Helper()
	for _, h := range cases {
		got, said := checkHear(t, h.what, c, h.m)
		wantCore(t, h.what, c, got, said, h.change, h.said...)
	}
}

func says(l ...impl.Msg) []impl.Msg { return l }

// down steps a core down to a term.
func down(c *impl.Core, term int) {
	if c.Term != term {
		c.Vote = -1
	}
	c.Term, c.Role, c.Lead, c.Yes, c.Next, c.Match = term, impl.RlFollow, -1, nil, nil, nil
}

// follows steps it down, and has a leader.
func follows(c *impl.Core, term, leader int) {
	down(c, term)
	c.Lead = leader
}

func eachRole() []impl.Core { return []impl.Core{followCore(), seekCore(), leadCore()} }

// msgsTo are one of each kind, of server 0 to server 1.
func msgsTo(term int) []impl.Msg {
	return []impl.Msg{
		voteAsked(0, 1, term, 9, term), voted(0, 1, term, true), app(0, 1, term, 4, 2, 5, impl.Entry{Term: 2}, impl.Entry{Term: 3}),
		apped(0, 1, term, true, 8), snapped(0, 1, term, 7, 5),
	}
}

func TestHearNothing(t *testing.T) {
	for _, c := range eachRole() {
		for _, term := range []int{5, 6, 7} {
			for _, m := range msgsTo(term) {
				for what, change := range map[string]func(m *impl.Msg){
					"To another":            func(m *impl.Msg) { m.To = 2 },
					"To another, From 4":    func(m *impl.Msg) { m.From, m.To = 4, 3 },
					"From itself":           func(m *impl.Msg) { m.From = 1 },
					"From itself to others": func(m *impl.Msg) { m.From, m.To = 1, 0 },
					"From at MaxPeers":      func(m *impl.Msg) { m.From = 5 },
					"From below 0":          func(m *impl.Msg) { m.From = -1 },
					"Term 0":                func(m *impl.Msg) { m.Term = 0 },
					"Term above MaxTerm":    func(m *impl.Msg) { m.Term = 100001 },
					"no kind":               func(m *impl.Msg) { m.Kind = 0 },
					"a kind more":           func(m *impl.Msg) { m.Kind = 6 },
					"Index below 0":         func(m *impl.Msg) { m.Index = -1 },
					"more than it names":    func(m *impl.Msg) { m.Commit, m.Data = m.Commit+1, m.Data+"x" },
					"nothing":               func(m *impl.Msg) { *m = impl.Msg{} },
				} {
					checkHeard(t, c, heard{what, msgWith(m, change), asItIs, nil})
				}
			}
		}
	}
}

func TestHearFromPeers(t *testing.T) {
	for peers := 1; peers <= 5; peers++ {
		c := coreWith(newCore(0, peers), func(c *impl.Core) { c.Term = 3 })
		for from := 1; from < 5; from++ {
			for _, term := range []int{2, 3, 4} {
				for _, m := range msgsTo(term) {
					switch m.Kind {
					case impl.MsApp:
						m = app(0, 1, term, 0, 0, 0)
					case impl.MsSnap:
						m.IndexTerm = 1
					}
					m.From, m.To = from, 0
					got, said := checkHear(t, "From", c, m)
					if from >= peers && (!sameCore(got, c) || len(said) > 0) {
						t.Errorf("From %d of %d: %+v came to %+v, %+v", from, peers, m, got, said)
					}
					if from < peers && m.Kind%2 == 1 && len(said) != 1 {
						t.Errorf("From %d of %d: %+v came to %+v, %+v", from, peers, m, got, said)
					}
				}
			}
		}
	}
}

// An older term: nothing is done, and who asks is told the Term.
func TestHearTermBelow(t *testing.T) {
	for _, c := range eachRole() {
		for _, term := range []int{1, 5} {
			checkHeard(t, c,
				heard{"MsVote below", voteAsked(0, 1, term, 99, term), asItIs, says(voted(1, 0, 6, false))},
				heard{"MsVoted below", voted(0, 1, term, true), asItIs, nil},
				heard{"MsVoted below, no", voted(0, 1, term, false), asItIs, nil},
				heard{"MsApp below", app(0, 1, term, 0, 0, 9, impl.Entry{Term: 1}), asItIs, says(apped(1, 0, 6, false, 0))},
				heard{"MsApp below, above the last", app(2, 1, term, 99, 1, 0), asItIs, says(apped(1, 2, 6, false, 0))},
				heard{"MsApped below", apped(0, 1, term, true, 9), asItIs, nil},
				heard{"MsApped below, no", apped(0, 1, term, false, 0), asItIs, nil},
				heard{"MsSnap below", snapped(2, 1, term, 99, 1), asItIs, says(apped(1, 2, 6, false, 0))},
				heard{"MsSnap below, at Base", snapped(2, 1, term, 4, 1), asItIs, says(apped(1, 2, 6, false, 0))})
		}
	}
}

func TestHearTermAbove(t *testing.T) {
	for _, c := range eachRole() {
		last, lastTerm := c.Base+len(c.Log), c.Log[len(c.Log)-1].Term
		for _, term := range []int{7, 9, 100000} {
			to := func(c *impl.Core) { down(c, term) }
			checkHeard(t, c,
				heard{"MsVote above", voteAsked(0, 1, term, last, lastTerm), func(c *impl.Core) { down(c, term); c.Vote = 0 }, says(voted(1, 0, term, true))},
				heard{"MsVote above, of less", voteAsked(0, 1, term, last-1, lastTerm), to, says(voted(1, 0, term, false))},
				heard{"MsVoted above", voted(0, 1, term, true), to, nil},
				heard{"MsVoted above, no", voted(0, 1, term, false), to, nil},
				heard{"MsApp above", app(0, 1, term, last, lastTerm, 0), func(c *impl.Core) { follows(c, term, 0) }, says(apped(1, 0, term, true, last))},
				heard{"MsApped above", apped(0, 1, term, true, last), to, nil},
				heard{"MsApped above, no", apped(0, 1, term, false, last), to, nil},
				heard{"MsSnap above", snapped(2, 1, term, 99, term), func(c *impl.Core) {
					follows(c, term, 2)
					c.Base, c.BaseTerm, c.Log, c.Commit = 99, term, nil, 99
				}, says(apped(1, 2, term, true, 99))})
		}
	}
}

func TestHearVote(t *testing.T) {
	no := says(voted(1, 0, 6, false))
	yes := says(voted(1, 0, 6, true))
	votes := func(c *impl.Core) { c.Vote = 0 }
	for _, lead := range []int{-1, 0, 2} {
		c := coreWith(followCore(), func(c *impl.Core) { c.Vote, c.Lead = -1, lead })
		checkHeard(t, c,
			heard{"a log alike", voteAsked(0, 1, 6, 7, 5), votes, yes},
			heard{"a longer log", voteAsked(0, 1, 6, 8, 5), votes, yes},
			heard{"a shorter log", voteAsked(0, 1, 6, 6, 5), asItIs, no},
			heard{"a shorter log of a later term", voteAsked(0, 1, 6, 1, 6), votes, yes},
			heard{"a longer log of an older term", voteAsked(0, 1, 6, 100000, 4), asItIs, no},
			heard{"no log", voteAsked(0, 1, 6, 0, 0), asItIs, no})
		for vote := range 3 {
			c := coreWith(c, func(c *impl.Core) { c.Vote = vote })
			want := no
			if vote == 0 {
				want = yes
			}
			checkHeard(t, c,
				heard{"another Vote, or the same", voteAsked(0, 1, 6, 7, 5), asItIs, want},
				heard{"another Vote, or the same, with less", voteAsked(0, 1, 6, 6, 5), asItIs, no})
		}
	}
	// What Base stands for is the end of the log where there is no Entry.
	c := coreWith(followCore(), func(c *impl.Core) { c.Vote, c.Log, c.Commit = -1, nil, 4 })
	checkHeard(t, c,
		heard{"at Base", voteAsked(0, 1, 6, 4, 2), votes, yes},
		heard{"below Base", voteAsked(0, 1, 6, 3, 2), asItIs, no},
		heard{"behind Base, of an older term", voteAsked(0, 1, 6, 9, 1), asItIs, no},
		heard{"below Base, of a later term", voteAsked(0, 1, 6, 1, 3), votes, yes})
	fresh := newCore(1, 3)
	checkHeard(t, fresh, heard{"none of nothing", voteAsked(0, 1, 1, 0, 0), func(c *impl.Core) { c.Term, c.Vote = 1, 0 }, says(voted(1, 0, 1, true))})
	for _, c := range []impl.Core{seekCore(), leadCore()} {
		checkHeard(t, c, heard{"of one that seeks or leads", voteAsked(0, 1, 6, 99, 6), asItIs, no})
	}
	// A later term frees the vote, once.
	c = followCore()
	next, _ := checkHear(t, "a later term", c, voteAsked(0, 1, 7, 7, 5))
	checkHeard(t, next,
		heard{"once more", voteAsked(0, 1, 7, 7, 5), asItIs, says(voted(1, 0, 7, true))},
		heard{"of another one", voteAsked(2, 1, 7, 99, 7), asItIs, says(voted(1, 2, 7, false))})
}

func TestHearVoted(t *testing.T) {
	c := seekCore()
	sent := says()
	for _, to := range []int{0, 2, 3, 4} {
		sent = append(sent, app(1, to, 6, 7, 5, 5, impl.Entry{Term: 6}))
	}
	leads := func(c *impl.Core) {
		c.Role, c.Lead, c.Yes = impl.RlLead, 1, nil
		c.Log = append(c.Log, impl.Entry{Term: 6})
		c.Next, c.Match = []int{8, 9, 8, 8, 8}, []int{0, 8, 0, 0, 0}
	}
	for _, from := range []int{0, 2, 4} {
		checkHeard(t, c, heard{"a majority", voted(from, 1, 6, true), leads, sent}, heard{"no", voted(from, 1, 6, false), asItIs, nil})
	}
	checkHeard(t, c, heard{"the same again", voted(3, 1, 6, true), asItIs, nil}, heard{"no, behind its Yes", voted(3, 1, 6, false), asItIs, nil})
	first := coreWith(c, func(c *impl.Core) { c.Yes = []int{1} })
	for from, yes := range map[int][]int{0: {0, 1}, 2: {1, 2}, 3: {1, 3}, 4: {1, 4}} {
		checkHeard(t, first, heard{"no majority yet", voted(from, 1, 6, true), func(c *impl.Core) { c.Yes = yes }, nil})
	}
	for _, c := range []impl.Core{followCore(), leadCore()} {
		for _, yes := range []bool{true, false} {
			checkHeard(t, c, heard{"not seeking", voted(0, 1, 6, yes), asItIs, nil})
		}
	}
}

// checkTakesLead: one of three that seeks hears its second Yes, and leads with the log it has, and these more.
func checkTakesLead(t *testing.T, c impl.Core, more ...impl.Entry) {
	t.Helper()
	ahead := c.Base + len(c.Log)
	checkHeard(t, c, heard{"it leads", voted(2, 1, 7, true), func(c *impl.Core) {
		c.Role, c.Lead, c.Yes = impl.RlLead, 1, nil
		c.Log = append(c.Log, more...)
		last := ahead + len(more)
		c.Next, c.Match = []int{ahead + 1, last + 1, ahead + 1}, []int{0, last, 0}
	}, says(app(1, 0, 7, ahead, 6, c.Commit, more...), app(1, 2, 7, ahead, 6, c.Commit, more...))})
}

func TestHearVotedRoom(t *testing.T) {
	c := impl.Core{Id: 1, Peers: 3, Term: 7, Vote: 1, Role: impl.RlSeek, Lead: -1, Log: fullLog(6, 1), Commit: 9, Yes: []int{1}}
	own := impl.Entry{Term: 7}
	checkTakesLead(t, coreWith(c, func(c *impl.Core) { c.Log = c.Log[:58] }), own)
	checkTakesLead(t, coreWith(c, func(c *impl.Core) { c.Log = c.Log[:59] }), own)
	checkTakesLead(t, c)
	for base := 99997; base <= 99998; base++ {
		top := coreWith(c, func(c *impl.Core) { c.Base, c.BaseTerm, c.Log, c.Commit = base, 5, entriesOf(5, 6), base })
		if base == 99997 {
			checkTakesLead(t, top, own)
		} else {
			checkTakesLead(t, top)
		}
	}
}

func TestHearAppRoles(t *testing.T) {
	m := app(0, 1, 6, 7, 5, 0)
	for _, vote := range []int{-1, 0, 1, 2} {
		for _, lead := range []int{-1, 0, 2} {
			c := coreWith(followCore(), func(c *impl.Core) { c.Vote, c.Lead = vote, lead })
			checkHeard(t, c, heard{"a follower", m, func(c *impl.Core) { c.Lead = 0 }, says(apped(1, 0, 6, true, 7))})
		}
	}
	checkHeard(t, seekCore(), heard{"one that seeks", m, func(c *impl.Core) { follows(c, 6, 0) }, says(apped(1, 0, 6, true, 7))})
	for _, m := range []impl.Msg{m, app(0, 1, 6, 0, 0, 9, impl.Entry{Term: 1}), app(0, 1, 6, 99, 6, 99), app(2, 1, 6, 4, 2, 9, impl.Entry{Term: 6})} {
		checkHeard(t, leadCore(), heard{"a leader", m, asItIs, nil})
	}
}

func TestHearAppIndex(t *testing.T) {
	c := followCore()
	led := func(c *impl.Core) { c.Lead = 0 }
	yes := func(n int) []impl.Msg { return says(apped(1, 0, 6, true, n)) }
	no := func(n int) []impl.Msg { return says(apped(1, 0, 6, false, n)) }
	checkHeard(t, c,
		heard{"at the last", app(0, 1, 6, 7, 5, 0), led, yes(7)},
		heard{"at the last, another term", app(0, 1, 6, 7, 4, 0), led, no(6)},
		heard{"at the last, a later term", app(0, 1, 6, 7, 6, 0), led, no(6)},
		heard{"one above the last", app(0, 1, 6, 8, 5, 9, impl.Entry{Term: 5}), led, no(7)},
		heard{"far above the last", app(0, 1, 6, 100000, 6, 0), led, no(7)},
		heard{"within", app(0, 1, 6, 6, 3, 0), led, yes(6)},
		heard{"within, another term", app(0, 1, 6, 6, 2, 0), led, no(5)},
		heard{"behind Base", app(0, 1, 6, 5, 2, 0), led, yes(5)},
		heard{"behind Base, another term", app(0, 1, 6, 5, 1, 0), led, no(4)},
		heard{"at Base", app(0, 1, 6, 4, 2, 0), led, yes(4)},
		heard{"at Base, another term", app(0, 1, 6, 4, 1, 0), led, yes(4)},
		heard{"at Base, a later term", app(0, 1, 6, 4, 6, 0), led, yes(4)},
		heard{"below Base", app(0, 1, 6, 3, 2, 0), led, yes(4)},
		heard{"below Base, another term", app(0, 1, 6, 1, 6, 0), led, yes(4)},
		heard{"at nothing", app(0, 1, 6, 0, 0, 0), led, yes(4)})
	empty := coreWith(c, func(c *impl.Core) { c.Log, c.Commit = nil, 4 })
	checkHeard(t, empty,
		heard{"at Base, no Log", app(0, 1, 6, 4, 2, 0), led, yes(4)},
		heard{"above Base, no Log", app(0, 1, 6, 5, 2, 0), led, no(4)},
		heard{"below Base, no Log", app(0, 1, 6, 3, 2, 0), led, yes(4)})
	fresh := coreWith(newCore(1, 3), func(c *impl.Core) { c.Term = 6 })
	checkHeard(t, fresh, heard{"nothing", app(0, 1, 6, 0, 0, 0), led, yes(0)}, heard{"above nothing", app(0, 1, 6, 1, 1, 0), led, no(0)})
}

// Those of another term that stand side by side up to Index are passed at once, but not what Base stands for.
func TestHearAppOtherTerm(t *testing.T) {
	led := func(c *impl.Core) { c.Lead = 0 }
	c := impl.Core{Id: 1, Peers: 3, Term: 9, Vote: -1, Role: impl.RlFollow, Lead: -1, Base: 4, BaseTerm: 2, Log: entriesOf(2, 2, 3, 5, 5, 5, 7), Commit: 4}
	for index, want := range map[int]int{5: 4, 6: 4, 7: 6, 8: 7, 9: 7, 10: 7, 11: 10} {
		for _, term := range []int{1, 4, 6, 8} {
			checkHeard(t, c, heard{"another term", app(0, 1, 9, index, term, 0, impl.Entry{Term: 9}), led, says(apped(1, 0, 9, false, want))})
		}
	}
	all := coreWith(c, func(c *impl.Core) { c.Base, c.BaseTerm, c.Commit, c.Log = 0, 0, 0, entriesOf(2, 2, 2) })
	for index := 1; index <= 3; index++ {
		checkHeard(t, all, heard{"another term, from 1 on", app(0, 1, 9, index, 1, 0), led, says(apped(1, 0, 9, false, 0))})
	}
	// Commit does not stop it.
	agreed := coreWith(all, func(c *impl.Core) { c.Commit = 3 })
	checkHeard(t, agreed, heard{"another term, agreed on", app(0, 1, 9, 3, 1, 9), led, says(apped(1, 0, 9, false, 0))})
}

// Numbers 4 (Base, of term 2), 5, 6 and 7 (of 2, 3 and 5) are there, 5 is agreed on.
func TestHearAppEntries(t *testing.T) {
	c := followCore()
	led := func(c *impl.Core) { c.Lead = 0 }
	e := func(term int) impl.Entry { return impl.Entry{Term: term, Data: "new"} }
	log := func(l ...impl.Entry) func(c *impl.Core) {
		return func(c *impl.Core) { c.Lead, c.Log = 0, l }
	}
	was := c.Log
	yes := func(n int) []impl.Msg { return says(apped(1, 0, 6, true, n)) }
	checkHeard(t, c,
		heard{"at the end", app(0, 1, 6, 7, 5, 0, e(5), e(6)), log(was[0], was[1], was[2], e(5), e(6)), yes(9)},
		heard{"four at the end", app(0, 1, 6, 7, 5, 0, e(5), e(5), e(6), e(6)), log(was[0], was[1], was[2], e(5), e(5), e(6), e(6)), yes(11)},
		heard{"one that is there", app(0, 1, 6, 5, 2, 0, e(3)), led, yes(6)},
		heard{"all that are there", app(0, 1, 6, 4, 2, 0, e(2), e(3), e(5)), led, yes(7)},
		heard{"one that is there, the last", app(0, 1, 6, 6, 3, 0, e(5)), led, yes(7)},
		heard{"there, and one more", app(0, 1, 6, 6, 3, 0, e(5), e(6)), log(was[0], was[1], was[2], e(6)), yes(8)},
		heard{"the last one is another", app(0, 1, 6, 6, 3, 0, e(6)), log(was[0], was[1], e(6)), yes(7)},
		heard{"the last one is an older", app(0, 1, 6, 6, 3, 0, e(3)), log(was[0], was[1], e(3)), yes(7)},
		heard{"another one within", app(0, 1, 6, 5, 2, 0, e(2)), log(was[0], e(2)), yes(6)},
		heard{"there, then another one", app(0, 1, 6, 4, 2, 0, e(2), e(4), e(5)), log(was[0], e(4), e(5)), yes(7)},
		heard{"another one above Commit, more behind it", app(0, 1, 6, 5, 2, 0, e(6), e(6), e(6)), log(was[0], e(6), e(6), e(6)), yes(8)},
		heard{"another one at Commit", app(0, 1, 6, 4, 2, 9, e(3), e(3)), led, nil},
		heard{"another one at Commit, alone", app(0, 1, 6, 4, 2, 9, e(6)), led, nil})
	low := coreWith(c, func(c *impl.Core) { c.Commit = 7 })
	checkHeard(t, low,
		heard{"another one below Commit", app(0, 1, 6, 5, 2, 9, e(5), e(5)), led, nil},
		heard{"another one at Commit, behind what is there", app(0, 1, 6, 5, 2, 9, e(3), e(6)), led, nil},
		heard{"one more above Commit", app(0, 1, 6, 6, 3, 0, e(5), e(6)), log(was[0], was[1], was[2], e(6)), yes(8)})
	none := coreWith(c, func(c *impl.Core) { c.Commit = 4 })
	checkHeard(t, none, heard{"all are others", app(0, 1, 6, 4, 2, 0, e(6)), log(e(6)), yes(5)})
	empty := coreWith(c, func(c *impl.Core) { c.Log, c.Commit = nil, 4 })
	checkHeard(t, empty, heard{"into no Log", app(0, 1, 6, 4, 2, 0, e(2), e(6)), log(e(2), e(6)), yes(6)})
	fresh := coreWith(newCore(1, 3), func(c *impl.Core) { c.Term = 6 })
	checkHeard(t, fresh, heard{"the first one", app(0, 1, 6, 0, 0, 0, e(1)), log(e(1)), yes(1)})
}

// Entries of numbers up to Base are left out.
func TestHearAppBase(t *testing.T) {
	c := coreWith(followCore(), func(c *impl.Core) { c.Commit = 4 })
	led := func(c *impl.Core) { c.Lead = 0 }
	e := func(term int) impl.Entry { return impl.Entry{Term: term, Data: "new"} }
	log := func(l ...impl.Entry) func(c *impl.Core) {
		return func(c *impl.Core) { c.Lead, c.Log = 0, l }
	}
	yes := func(n int) []impl.Msg { return says(apped(1, 0, 6, true, n)) }
	checkHeard(t, c,
		heard{"all below Base", app(0, 1, 6, 1, 1, 9, e(1), e(1)), led, yes(4)},
		heard{"up to Base", app(0, 1, 6, 2, 1, 9, e(1), e(2)), led, yes(4)},
		heard{"up to Base, of terms that Base does not have", app(0, 1, 6, 2, 1, 9, e(1), e(1)), led, yes(4)},
		heard{"one behind Base, that is there", app(0, 1, 6, 3, 2, 0, e(2), e(2)), led, yes(5)},
		heard{"all that are there", app(0, 1, 6, 3, 1, 0, e(2), e(2), e(3), e(5)), led, yes(7)},
		heard{"from nothing on", app(0, 1, 6, 0, 0, 0, e(1), e(1), e(1), e(1)), led, yes(4)},
		heard{"another one behind Base", app(0, 1, 6, 3, 2, 0, e(2), e(4), e(6)), log(e(4), e(6)), yes(6)},
		heard{"an older term behind Base", app(0, 1, 6, 3, 1, 9, e(1), e(1)), led, nil},
		heard{"an older term behind Base, then more", app(0, 1, 6, 2, 1, 9, e(1), e(1), e(1), e(6)), led, nil},
		heard{"an older term at Base", app(0, 1, 6, 4, 1, 9, e(1)), led, nil},
		heard{"an older term at Base, then a later one", app(0, 1, 6, 4, 1, 9, e(1), e(6)), led, nil},
		heard{"the term of Base behind it", app(0, 1, 6, 4, 1, 5, e(2)), func(c *impl.Core) { c.Lead, c.Commit = 0, 5 }, yes(5)})
	seek := coreWith(seekCore(), func(c *impl.Core) { c.Commit = 4 })
	checkHeard(t, seek, heard{"an older term, one that seeks", app(0, 1, 6, 4, 1, 9, e(1)), func(c *impl.Core) { follows(c, 6, 0) }, nil},
		heard{"an older term, one that seeks, of a later term", app(0, 1, 8, 4, 1, 9, e(1)), func(c *impl.Core) { follows(c, 8, 0) }, nil})
}

func TestHearAppCommit(t *testing.T) {
	e := func(term int) impl.Entry { return impl.Entry{Term: term, Data: "new"} }
	for _, h := range []struct {
		what          string
		m             impl.Msg
		there, commit int
	}{
		{"as much as is there", app(0, 1, 6, 7, 5, 7), 7, 7},
		{"more than is there", app(0, 1, 6, 7, 5, 8), 7, 7},
		{"the most", app(0, 1, 6, 7, 5, 100000), 7, 7},
		{"less than is there", app(0, 1, 6, 7, 5, 6), 7, 6},
		{"as before", app(0, 1, 6, 7, 5, 5), 7, 5},
		{"less than before", app(0, 1, 6, 7, 5, 4), 7, 5},
		{"none", app(0, 1, 6, 7, 5, 0), 7, 5},
		{"no more than Index tells", app(0, 1, 6, 6, 3, 9), 6, 6},
		{"no more than Index tells, below Commit", app(0, 1, 6, 4, 2, 9), 4, 5},
		{"no more than the Entries tell", app(0, 1, 6, 5, 2, 9, e(3)), 6, 6},
		{"no more than the Entries tell, below Commit", app(0, 1, 6, 4, 2, 9, e(2)), 5, 5},
		{"with a new one", app(0, 1, 6, 7, 5, 8, e(6)), 8, 8},
		{"with a new one, and more", app(0, 1, 6, 7, 5, 9, e(6)), 8, 8},
		{"with a new one, less", app(0, 1, 6, 7, 5, 6, e(6)), 8, 6},
		{"below Base", app(0, 1, 6, 1, 1, 9), 4, 5},
		{"from below Base on", app(0, 1, 6, 3, 2, 9, e(2), e(2), e(3)), 6, 6},
	} {
		got, said := checkHear(t, h.what, followCore(), h.m)
		if got.Commit != h.commit || len(said) != 1 || !said[0].Yes || said[0].Index != h.there {
			t.Errorf("%s: %+v, %+v", h.what, got, said)
		}
	}
	for _, m := range []impl.Msg{app(0, 1, 6, 8, 5, 9), app(0, 1, 6, 7, 4, 9), app(0, 1, 6, 4, 2, 9, e(3))} {
		if got, _ := checkHear(t, "refused", followCore(), m); got.Commit != 5 {
			t.Errorf("%+v: %+v", m, got)
		}
	}
}

// A log gets full: what there is no room for is not there.
func TestHearAppFull(t *testing.T) {
	for entries := 55; entries <= 60; entries++ {
		for come := range 5 {
			c := impl.Core{Id: 1, Peers: 3, Term: 6, Vote: -1, Role: impl.RlFollow, Lead: -1, Base: 7, BaseTerm: 1, Log: fullLog(3, 1)[:entries], Commit: 9}
			l := entriesOf(5, 5, 6, 6)[:come]
			fit := min(come, 60-entries)
			checkHeard(t, c, heard{"a log gets full", app(0, 1, 6, 7+entries, 3, 99, l...), func(c *impl.Core) {
				c.Lead, c.Log, c.Commit = 0, append(c.Log, l[:fit]...), 7+entries+fit
			}, says(apped(1, 0, 6, true, 7+entries+fit))})
		}
	}
	full := impl.Core{Id: 1, Peers: 3, Term: 6, Vote: -1, Role: impl.RlFollow, Lead: -1, Base: 7, BaseTerm: 1, Log: fullLog(3, 1), Commit: 9}
	l := entriesOf(5, 5, 6, 6)
	three := slices.Repeat([]impl.Entry{{Term: 3}}, 4)
	checkHeard(t, full,
		heard{"others for the last two", app(0, 1, 6, 65, 3, 0, l...), func(c *impl.Core) { c.Lead, c.Log = 0, append(c.Log[:58], l[0], l[1]) }, says(apped(1, 0, 6, true, 67))},
		heard{"two that are there, two too many", app(0, 1, 6, 65, 3, 0, three...), func(c *impl.Core) { c.Lead = 0 }, says(apped(1, 0, 6, true, 67))},
		heard{"one that is there, three too many", app(0, 1, 6, 66, 3, 99, three...), func(c *impl.Core) { c.Lead, c.Commit = 0, 67 }, says(apped(1, 0, 6, true, 67))})
	all := coreWith(full, func(c *impl.Core) { c.Commit = 67 })
	checkHeard(t, all, heard{"no room, all agreed on", app(0, 1, 6, 67, 3, 99, l...), func(c *impl.Core) { c.Lead = 0 }, says(apped(1, 0, 6, true, 67))})
	top := impl.Core{Id: 1, Peers: 3, Term: 6, Vote: -1, Role: impl.RlFollow, Lead: -1, Base: 99995, BaseTerm: 1, Log: entriesOf(3), Commit: 99995}
	checkHeard(t, top, heard{"up to MaxIndex", app(0, 1, 6, 99996, 3, 100000, l...), func(c *impl.Core) { c.Lead, c.Log, c.Commit = 0, append(c.Log, l...), 100000 }, says(apped(1, 0, 6, true, 100000))})
}

func TestHearApped(t *testing.T) {
	for _, c := range []impl.Core{followCore(), seekCore()} {
		for _, yes := range []bool{true, false} {
			checkHeard(t, c, heard{"not leading", apped(0, 1, 6, yes, 7), asItIs, nil})
		}
	}
	c := leadCore()
	e := c.Log
	at := func(server, match, commit int) func(c *impl.Core) {
		return func(c *impl.Core) { c.Match[server], c.Next[server], c.Commit = match, match+1, commit }
	}
	checkHeard(t, c,
		heard{"more", apped(0, 1, 6, true, 8), at(0, 8, 8), says(app(1, 0, 6, 8, 6, 8, e[4]))},
		heard{"all", apped(0, 1, 6, true, 9), at(0, 9, 9), nil},
		heard{"more than there is", apped(0, 1, 6, true, 10), at(0, 9, 9), nil},
		heard{"the most", apped(0, 1, 6, true, 100000), at(0, 9, 9), nil},
		heard{"as before", apped(0, 1, 6, true, 7), asItIs, nil},
		heard{"less than before", apped(0, 1, 6, true, 6), asItIs, nil},
		heard{"nothing", apped(0, 1, 6, true, 0), asItIs, nil},
		heard{"of one that lacks all, a little", apped(2, 1, 6, true, 1), at(2, 1, 6), says(snapped(1, 2, 6, 4, 2))},
		heard{"of one that lacks all, below Base", apped(2, 1, 6, true, 3), at(2, 3, 6), says(snapped(1, 2, 6, 4, 2))},
		heard{"of one that lacks all, up to Base", apped(2, 1, 6, true, 4), at(2, 4, 6), says(app(1, 2, 6, 4, 2, 6, e[:4]...))},
		heard{"of one that lacks all, more", apped(2, 1, 6, true, 7), at(2, 7, 6), says(app(1, 2, 6, 7, 5, 6, e[3:]...))})
	next := func(server, n int) func(c *impl.Core) {
		return func(c *impl.Core) { c.Next[server] = n }
	}
	wide := coreWith(c, func(c *impl.Core) { c.Match[0], c.Next[0] = 4, 9 })
	checkHeard(t, wide,
		heard{"no, one less", apped(0, 1, 6, false, 8), next(0, 8), says(app(1, 0, 6, 7, 5, 6, e[3:]...))},
		heard{"no, at Next", apped(0, 1, 6, false, 9), next(0, 8), says(app(1, 0, 6, 7, 5, 6, e[3:]...))},
		heard{"no, far", apped(0, 1, 6, false, 100000), next(0, 8), says(app(1, 0, 6, 7, 5, 6, e[3:]...))},
		heard{"no, two less", apped(0, 1, 6, false, 7), next(0, 8), says(app(1, 0, 6, 7, 5, 6, e[3:]...))},
		heard{"no, three less", apped(0, 1, 6, false, 6), next(0, 7), says(app(1, 0, 6, 6, 3, 6, e[2:]...))},
		heard{"no, at Match", apped(0, 1, 6, false, 4), next(0, 5), says(app(1, 0, 6, 4, 2, 6, e[:4]...))},
		heard{"no, below Match", apped(0, 1, 6, false, 3), next(0, 5), says(app(1, 0, 6, 4, 2, 6, e[:4]...))},
		heard{"no, nothing", apped(0, 1, 6, false, 0), next(0, 5), says(app(1, 0, 6, 4, 2, 6, e[:4]...))})
	checkHeard(t, c,
		heard{"no, Next behind Match already", apped(0, 1, 6, false, 0), asItIs, nil},
		heard{"no, Next behind Match already, at it", apped(0, 1, 6, false, 7), asItIs, nil},
		heard{"no, of one that lacks all", apped(2, 1, 6, false, 0), next(2, 1), says(snapped(1, 2, 6, 4, 2))},
		heard{"no, of one that lacks all, one less", apped(2, 1, 6, false, 9), next(2, 2), says(snapped(1, 2, 6, 4, 2))})
	first := coreWith(c, func(c *impl.Core) { c.Next[2] = 1 })
	checkHeard(t, first, heard{"no, Next is 1", apped(2, 1, 6, false, 0), asItIs, nil})
	short := coreWith(c, func(c *impl.Core) { c.Match[0], c.Next[0] = 7, 9 })
	checkHeard(t, short, heard{"no, one to go back", apped(0, 1, 6, false, 0), next(0, 8), says(app(1, 0, 6, 7, 5, 6, e[3:]...))})
}

func TestHearSnap(t *testing.T) {
	c := followCore()
	stand := func(index, term int, l ...impl.Entry) func(c *impl.Core) {
		return func(c *impl.Core) {
			c.Lead, c.Base, c.BaseTerm, c.Log, c.Commit = 0, index, term, l, index
		}
	}
	led := func(c *impl.Core) { c.Lead = 0 }
	yes := func(n int) []impl.Msg { return says(apped(1, 0, 6, true, n)) }
	e := c.Log
	checkHeard(t, c,
		heard{"at Commit", snapped(0, 1, 6, 5, 2), led, yes(5)},
		heard{"at Commit, another term", snapped(0, 1, 6, 5, 6), led, yes(5)},
		heard{"at Base", snapped(0, 1, 6, 4, 2), led, yes(5)},
		heard{"below Base", snapped(0, 1, 6, 1, 1), led, yes(5)},
		heard{"above Commit", snapped(0, 1, 6, 6, 3), stand(6, 3, e[2]), yes(6)},
		heard{"above Commit, another term", snapped(0, 1, 6, 6, 2), stand(6, 2), yes(6)},
		heard{"above Commit, a later term", snapped(0, 1, 6, 6, 6), stand(6, 6), yes(6)},
		heard{"at the last", snapped(0, 1, 6, 7, 5), stand(7, 5), yes(7)},
		heard{"at the last, another term", snapped(0, 1, 6, 7, 6), stand(7, 6), yes(7)},
		heard{"one above the last", snapped(0, 1, 6, 8, 5), stand(8, 5), yes(8)},
		heard{"far above", snapped(0, 1, 6, 100000, 6), stand(100000, 6), yes(100000)},
		heard{"a term below Base's", snapped(0, 1, 6, 8, 1), stand(8, 1), yes(8)},
		heard{"with Data", msgWith(snapped(0, 1, 6, 8, 5), func(m *impl.Msg) { m.Data = everyByte() }), stand(8, 5), yes(8)})
	none := coreWith(c, func(c *impl.Core) { c.Commit = 4 })
	checkHeard(t, none, heard{"behind Base", snapped(0, 1, 6, 5, 2), stand(5, 2, e[1:]...), yes(5)}, heard{"at Base and Commit", snapped(0, 1, 6, 4, 6), led, yes(4)})
	checkHeard(t, newCore(1, 3), heard{"the first", snapped(0, 1, 6, 3, 2), func(c *impl.Core) { follows(c, 6, 0); stand(3, 2)(c) }, yes(3)})
	checkHeard(t, seekCore(),
		heard{"one that seeks", snapped(0, 1, 6, 6, 3), func(c *impl.Core) { follows(c, 6, 0); stand(6, 3, e[2])(c) }, yes(6)},
		heard{"one that seeks, at Commit", snapped(4, 1, 6, 5, 3), func(c *impl.Core) { follows(c, 6, 4) }, says(apped(1, 4, 6, true, 5))})
	for index := 1; index < 12; index++ {
		checkHeard(t, leadCore(), heard{"a leader", snapped(0, 1, 6, index, 6), asItIs, nil})
	}
}

// Numbers of older terms are agreed on only with one of the leader's own behind them.
func TestHearCountsOwnTerm(t *testing.T) {
	c := coreWith(leadCore(), func(c *impl.Core) {
		c.Log, c.Commit = entriesOf(2, 3, 5, 5, 6), 4
		c.Match, c.Next = []int{0, 9, 0}, []int{5, 10, 5}
	})
	for index, want := range map[int]int{1: 4, 4: 4, 5: 4, 6: 4, 7: 4, 8: 4, 9: 9, 10: 9} {
		if got, _ := checkHear(t, "an older term", c, apped(0, 1, 6, true, index)); got.Commit != want {
			t.Errorf("all up to %d: %+v", index, got)
		}
	}
	old := coreWith(c, func(c *impl.Core) { c.Term = 7 })
	for index := 1; index <= 10; index++ {
		got, _ := checkHear(t, "an older term alone", old, apped(0, 1, 7, true, index))
		both, _ := checkHear(t, "an older term alone", got, apped(2, 1, 7, true, 9))
		if got.Commit != 4 || both.Commit != 4 {
			t.Errorf("up to %d, none of its own: %+v, %+v", index, got, both)
		}
	}
	next, _, n := checkPropose(t, "an older term alone", old, "x")
	if got, _ := checkHear(t, "with its own behind", next, apped(0, 1, 7, true, n)); got.Commit != 10 {
		t.Errorf("with its own behind: %+v", got)
	}
}

// More than half of all have to have it.
func TestHearCountsMajority(t *testing.T) {
	for peers, need := range map[int]int{1: 1, 2: 2, 3: 2, 4: 3, 5: 3} {
		for id := range peers {
			c := leading(impl.Core{Id: id, Peers: peers, Term: 6, Log: entriesOf(6, 6, 6)})
			have := 1
			for from := range peers {
				if from == id {
					continue
				}
				c, _ = checkHear(t, "some have it", c, apped(from, id, 6, true, 2))
				have++
				if want := 2 * (have / need); c.Commit != min(want, 2) {
					t.Fatalf("%d of %d have it: %+v", have, peers, c)
				}
			}
		}
	}
	five := leading(impl.Core{Id: 0, Peers: 5, Term: 6, Log: entriesOf(6, 6, 6, 6, 6)})
	for _, step := range []struct{ from, index, commit int }{{1, 4, 0}, {2, 1, 1}, {3, 2, 2}, {4, 5, 4}, {3, 3, 4}, {2, 5, 5}} {
		five, _ = checkHear(t, "five", five, apped(step.from, 0, 6, true, step.index))
		if five.Commit != step.commit {
			t.Fatalf("%+v: %+v", step, five)
		}
	}
}
