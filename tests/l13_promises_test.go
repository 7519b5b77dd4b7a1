package tests

import (
	"math/rand"
	"slices"
	"strings"
	"testing"

	"loop.example/g00757/impl"
)

// near is mostly a number from low to high, of these often the last ones.
func near(r *rand.Rand, low, high int) int {
	if high <= low {
		return low
	}
	if r.Intn(2) == 0 {
		return high - r.Intn(min(3, high-low+1))
	}
	return low + r.Intn(high-low+1)
}

// someCore is right, of each role.
func someCore(r *rand.Rand) impl.Core {
	k := someKept(r)
	c := impl.Core{Peers: 1 + r.Intn(5), Term: k.Term, Role: impl.RlFollow, Base: k.Snap.Index, BaseTerm: k.Snap.Term, Log: k.Entries}
	c.Id, c.Vote, c.Lead = r.Intn(c.Peers), r.Intn(c.Peers+1)-1, r.Intn(c.Peers+1)-1
	last := c.Base + len(c.Log)
	c.Commit = near(r, c.Base, last)
	if c.Lead == c.Id {
		c.Lead = -1
	}
	role := 1 + r.Intn(3)
	if c.Term == 0 || c.Peers == 1 && role == impl.RlSeek || role == impl.RlFollow {
		return c
	}
	c.Role, c.Vote, c.Lead = role, c.Id, -1
	if role == impl.RlSeek {
		c.Yes = []int{c.Id}
		for _, n := range r.Perm(c.Peers) {
			if n != c.Id && 2*(len(c.Yes)+1) <= c.Peers && r.Intn(3) > 0 {
				c.Yes = append(c.Yes, n)
			}
		}
		slices.Sort(c.Yes)
		return c
	}
	c.Lead = c.Id
	for n := range c.Peers {
		match := near(r, 0, last)
		if r.Intn(3) == 0 {
			match = 0
		}
		if n == c.Id {
			match = last
		}
		c.Match, c.Next = append(c.Match, match), append(c.Next, near(r, match+1, last+1))
	}
	return c
}

func bendCore(r *rand.Rand, c impl.Core) impl.Core {
	return coreWith(c, func(c *impl.Core) {
		fields := []*int{&c.Id, &c.Peers, &c.Term, &c.Vote, &c.Role, &c.Lead, &c.Base, &c.BaseTerm, &c.Commit}
		for _, list := range [][]int{c.Yes, c.Next, c.Match} {
			for i := range list {
				fields = append(fields, &list[i])
			}
		}
		switch r.Intn(8) {
		case 0:
			c.Yes = append(c.Yes, r.Intn(6))
		case 1:
			c.Next, c.Match = append(c.Next, 1), append(c.Match, 0)
		case 2:
			c.Log = append(c.Log, impl.Entry{Term: c.Term + r.Intn(3) - 1})
		default:
			*fields[r.Intn(len(fields))] += r.Intn(5) - 2
		}
	})
}

// msgTo is one that a core may hear from another one, or nearly.
func msgTo(r *rand.Rand, c impl.Core) impl.Msg {
	last := c.Base + len(c.Log)
	m := impl.Msg{Kind: 1 + r.Intn(5), From: r.Intn(max(c.Peers, 2)), To: c.Id, Term: max(1, c.Term+[]int{0, 0, 0, 0, 1, -1}[r.Intn(6)])}
	if m.From == m.To {
		m.From = (m.From + 1) % max(c.Peers, 2)
	}
	place := near(r, max(0, c.Base-3), last+1)
	termAt := func(n int) int {
		if n > c.Base && n <= last && r.Intn(4) > 0 {
			return c.Log[n-c.Base-1].Term
		}
		return 1 + r.Intn(m.Term)
	}
	switch m.Kind {
	case impl.MsVote:
		m.Index, m.IndexTerm = place, termAt(place)
	case impl.MsVoted:
		m.Yes = r.Intn(3) > 0
	case impl.MsApped:
		m.Yes, m.Index = r.Intn(2) == 0, near(r, 0, last+1)
	case impl.MsSnap:
		m.Index, m.IndexTerm, m.Data = max(place, 1), termAt(place), strings.Repeat("s", r.Intn(3))
	case impl.MsApp:
		m.Index, m.IndexTerm, m.Commit = place, termAt(place), near(r, 0, last+2)
		least := max(m.IndexTerm, 1)
		for n := range r.Intn(5) {
			least = max(least, min(termAt(place+1+n), m.Term))
			m.Entries = append(m.Entries, impl.Entry{Term: least, Data: strings.Repeat("e", r.Intn(4))})
		}
	}
	if m.Index == 0 {
		m.IndexTerm = 0
	}
	if r.Intn(12) == 0 {
		bendMsg(r, &m)
	}
	return m
}

// Promise 13, of any right core at anything that it may do or hear.
func TestSomeCores(t *testing.T) {
	r := rand.New(rand.NewSource(131))
	roles, kinds, deeds := map[int]int{}, map[int]int{}, map[string]int{}
	for range 12000 {
		c := someCore(r)
		checkCoreOk(t, "some", c, true)
		roles[c.Role]++
		checkElect(t, "some", c)
		checkBeat(t, "some", c)
		if _, _, n := checkPropose(t, "some", c, strings.Repeat("p", r.Intn(3))); n > 0 {
			deeds["proposed"]++
		}
		if _, ok := checkCompact(t, "some", c, near(r, c.Base-1, c.Commit+1)); ok {
			deeds["compacted"]++
		}
		for range 12 {
			m := msgTo(r, c)
			got, said := checkHear(t, "some", c, m)
			for _, x := range said {
				kinds[x.Kind]++
			}
			if got.Commit > c.Commit {
				deeds["agreed"]++
			}
			if got.Role == impl.RlLead && c.Role != impl.RlLead {
				deeds["leads"]++
			}
			if len(got.Log) < len(c.Log) {
				deeds["shorter"]++
			}
		}
	}
	for _, n := range []int{roles[1], roles[2], roles[3], kinds[2], kinds[3], kinds[4], kinds[5], deeds["proposed"], deeds["compacted"], deeds["agreed"], deeds["leads"], deeds["shorter"]} {
		if n < 500 {
			t.Error("too few:", roles, kinds, deeds)
		}
	}
}

func TestSomeWrongCores(t *testing.T) {
	r := rand.New(rand.NewSource(132))
	wrong := 0
	for range 20000 {
		c := bendCore(r, someCore(r))
		right := wantCoreOk(c)
		checkCoreOk(t, "bent", c, right)
		if !right {
			wrong++
		}
		checkCoreOf(t, c.Id, c.Peers, bareKept(c, "x"))
	}
	if wrong < 8000 {
		t.Error("so many are wrong:", wrong)
	}
}

// smallCores are all right ones of server 1 of up to three, with terms up to 2 and up to two Entries.
func smallCores() []impl.Core {
	var out []impl.Core
	for _, k := range smallKepts() {
		if k.Snap.Data != "" || k.Vote == 0 {
			continue
		}
		last := k.Snap.Index + len(k.Entries)
		for peers := 2; peers <= 3; peers++ {
			for commit := k.Snap.Index; commit <= last; commit++ {
				c := impl.Core{Id: 1, Peers: peers, Term: k.Term, Vote: k.Vote, Role: 1, Lead: -1, Base: k.Snap.Index, BaseTerm: k.Snap.Term, Log: k.Entries, Commit: commit}
				out = append(out, c, coreWith(c, func(c *impl.Core) { c.Role, c.Yes = 2, []int{1} }))
				for match := range last + 1 {
					for next := match + 1; next <= last+1; next++ {
						lead := leading(c)
						lead.Match[0], lead.Next[0] = match, next
						out = append(out, lead)
					}
				}
			}
		}
	}
	return slices.DeleteFunc(out, func(c impl.Core) bool { return !wantCoreOk(c) })
}

// smallMsgs are all right ones from server 0 to server 1 with small numbers.
func smallMsgs() []impl.Msg {
	var out []impl.Msg
	lists := [][]impl.Entry{nil, entriesOf(1), entriesOf(2), entriesOf(1, 1), entriesOf(1, 2), entriesOf(2, 2), entriesOf(1, 2, 2), entriesOf(1, 1, 1, 2)}
	for term := 1; term <= 3; term++ {
		for index := range 6 {
			for _, yes := range []bool{false, true} {
				out = append(out, apped(0, 1, term, yes, index), voted(0, 1, term, yes))
			}
			for indexTerm := range 3 {
				out = append(out, voteAsked(0, 1, term, index, indexTerm), snapped(0, 1, term, index, indexTerm))
				for _, commit := range []int{0, 1, 2, 4} {
					for _, l := range lists {
						out = append(out, app(0, 1, term, index, indexTerm, commit, l...))
					}
				}
			}
		}
	}
	return slices.DeleteFunc(out, func(m impl.Msg) bool { return !wantMsgOk(m) })
}

func TestSmallCores(t *testing.T) {
	cores, msgs := smallCores(), smallMsgs()
	if len(cores) < 1500 || len(msgs) < 400 {
		t.Error("so many:", len(cores), len(msgs))
	}
	for i, c := range cores {
		checkElect(t, "small", c)
		checkBeat(t, "small", c)
		checkPropose(t, "small", c, "x")
		for index := -1; index < 7; index++ {
			checkCompact(t, "small", c, index)
		}
		// Each message meets each role of each log some time.
		for j := i % 3; j < len(msgs); j += 3 {
			checkHear(t, "small", c, msgs[j])
		}
	}
}

// club are cores that hear one another's messages, and what promise 13 says of them from the beginning on.
type club struct {
	t      *testing.T
	r      *rand.Rand
	cores  []impl.Core
	net    []impl.Msg
	votes  []map[int]int
	leads  map[int]int
	agreed map[int]impl.Entry
	named  int
}

func newClub(t *testing.T, r *rand.Rand, peers int) *club {
	u := &club{t: t, r: r, leads: map[int]int{}, agreed: map[int]impl.Entry{}}
	for id := range peers {
		c, ok := impl.CoreOf(id, peers, impl.NewStore().Sure)
		if !ok || !sameCore(c, newCore(id, peers)) {
			t.Fatalf("%+v, %v", c, ok)
		}
		u.cores, u.votes = append(u.cores, c), append(u.votes, map[int]int{})
	}
	return u
}

// becomes is what a core is behind anything that it does.
func (u *club) becomes(c impl.Core, said []impl.Msg) {
	u.t.Helper()
	u.cores[c.Id] = c
	u.net = append(u.net, said...)
	if vote, in := u.votes[c.Id][c.Term]; in && vote != c.Vote {
		u.t.Fatalf("in term %d server %d voted for %d, then for %d", c.Term, c.Id, vote, c.Vote)
	}
	if c.Vote != -1 {
		u.votes[c.Id][c.Term] = c.Vote
	}
	if lead, in := u.leads[c.Term]; in && c.Role == impl.RlLead && lead != c.Id {
		u.t.Fatalf("%d and %d lead in term %d", lead, c.Id, c.Term)
	}
	if c.Role == impl.RlLead {
		u.leads[c.Term] = c.Id
	}
	for n := c.Base + 1; n <= c.Commit; n++ {
		e := c.Log[n-c.Base-1]
		if was, in := u.agreed[n]; in && was != e {
			u.t.Fatalf("server %d agreed on %+v at %d, where there is %+v", c.Id, e, n, was)
		}
		u.agreed[n] = e
	}
}

func (u *club) hear(m impl.Msg) {
	u.t.Helper()
	u.becomes(checkHear(u.t, "in a club", u.cores[m.To], m))
}

// rise is what a server does behind a fall: it has its Kept alone.
func (u *club) rise(id int) {
	k := impl.CoreKept(u.cores[id], "data")
	c, ok := impl.CoreOf(id, len(u.cores), k)
	if !ok || !impl.CoreOk(c) || !sameKept(impl.CoreKept(c, "data"), k) {
		u.t.Fatalf("of %+v rises %+v", u.cores[id], c)
	}
	u.becomes(c, nil)
}

func (u *club) act() {
	u.t.Helper()
	id := u.r.Intn(len(u.cores))
	c := u.cores[id]
	switch u.r.Intn(30) {
	case 0:
		u.becomes(checkElect(u.t, "in a club", c))
	case 1, 2, 3:
		u.becomes(checkBeat(u.t, "in a club", c))
	case 4, 5, 6:
		u.named++
		next, said, _ := checkPropose(u.t, "in a club", c, impl.Dec(u.named))
		u.becomes(next, said)
	case 7:
		next, _ := checkCompact(u.t, "in a club", c, near(u.r, c.Base, c.Commit))
		u.becomes(next, nil)
	case 8:
		if u.r.Intn(3) == 0 {
			u.rise(id)
		}
	default:
		u.deliver()
	}
}

// deliver takes any message: it is heard, or heard and kept, or lost.
func (u *club) deliver() {
	u.t.Helper()
	if len(u.net) == 0 {
		return
	}
	at := u.r.Intn(min(len(u.net), 30))
	m := u.net[at]
	fate := u.r.Intn(8)
	if fate > 0 {
		u.net = slices.Delete(u.net, at, at+1)
	}
	if fate != 1 {
		u.hear(m)
	}
}

// settle lets one lead, and all hear all, until nothing is under way.
func (u *club) settle() int {
	u.t.Helper()
	u.net = nil
	for round := range 20 * len(u.cores) {
		id := round % len(u.cores)
		if !slices.ContainsFunc(u.cores, func(c impl.Core) bool { return c.Role == impl.RlLead }) || round < len(u.cores) {
			u.becomes(checkElect(u.t, "calm", u.cores[id]))
		}
		if c := u.cores[id]; c.Role == impl.RlLead {
			c, _ = checkCompact(u.t, "calm", c, c.Commit)
			u.becomes(c, nil)
			u.becomes(checkBeat(u.t, "calm", c))
		}
		for len(u.net) > 0 {
			m := u.net[0]
			u.net = u.net[1:]
			u.hear(m)
		}
	}
	least := u.cores[0].Commit
	for _, c := range u.cores {
		least = min(least, c.Commit)
	}
	return least
}

// Promise 13 at each step, of cores that hear one another's messages in any order, twice, some lost; and in the end they agree.
func TestClubs(t *testing.T) {
	all, terms := 0, 0
	for seed := range 150 {
		u := newClub(t, rand.New(rand.NewSource(int64(1300+seed))), 1+seed%5)
		for range 500 {
			u.act()
		}
		agreed := len(u.agreed)
		if least := u.settle(); least < agreed {
			t.Fatalf("club %d agreed on %d, in the end on %d: %+v", seed, agreed, least, u.cores)
		}
		all += agreed
		terms += len(u.leads)
	}
	if all < 2000 || terms < 500 {
		t.Error("so many numbers, so many terms with a leader:", all, terms)
	}
}

// A log that nothing is taken out of gets full at each server, and goes on behind a Compact.
func TestClubWithFullLogs(t *testing.T) {
	u := newClub(t, rand.New(rand.NewSource(1399)), 3)
	u.becomes(checkElect(t, "full", u.cores[0]))
	calm := func() {
		for len(u.net) > 0 {
			m := u.net[0]
			u.net = u.net[1:]
			u.hear(m)
		}
	}
	calm()
	for n := 2; n <= 61; n++ {
		next, said, got := checkPropose(t, "full", u.cores[0], impl.Dec(n))
		if (got == n) != (n <= 60) {
			t.Fatalf("number %d of %d", got, n)
		}
		u.becomes(next, said)
		calm()
	}
	u.becomes(checkBeat(t, "full", u.cores[0]))
	calm()
	for id, c := range u.cores {
		if c.Commit != 60 || len(c.Log) != 60 {
			t.Errorf("server %d: %+v", id, c)
		}
	}
	lead, _ := checkCompact(t, "full", u.cores[0], 60)
	u.becomes(lead, nil)
	next, said, n := checkPropose(t, "full", lead, "61")
	u.becomes(next, said)
	calm()
	for id, c := range u.cores[1:] {
		// It has no room for it.
		if n != 61 || c.Commit != 60 || len(c.Log) != 60 || u.cores[0].Commit != 60 {
			t.Errorf("server %d: %+v", id+1, c)
		}
		short, ok := checkCompact(t, "full", c, 60)
		if !ok {
			t.Errorf("server %d: %+v", id+1, short)
		}
		u.becomes(short, nil)
	}
	u.becomes(checkBeat(t, "full", u.cores[0]))
	calm()
	u.becomes(checkBeat(t, "full", u.cores[0]))
	calm()
	for id, c := range u.cores {
		if c.Commit != 61 {
			t.Errorf("server %d: %+v", id, c)
		}
	}
}
