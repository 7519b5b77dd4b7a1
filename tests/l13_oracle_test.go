package tests

import (
	"slices"
	"testing"

	"loop.example/g00757/impl"
)

// mind is a core with its Entries by their numbers, Base's term among them, and what it says; its acts are the chapter's words.
type mind struct {
	impl.Core
	at   map[int]impl.Entry
	said []impl.Msg
}

func mindOf(c impl.Core) *mind {
	m := &mind{Core: copiedCore(c), at: map[int]impl.Entry{c.Base: {Term: c.BaseTerm}}}
	for i, e := range c.Log {
		m.at[c.Base+1+i] = e
	}
	return m
}

func (m *mind) end() int { return m.Base + len(m.at) - 1 }

func (m *mind) full() bool { return len(m.at) > 60 || m.end() == 100000 }

func (m *mind) has(n, term int) bool {
	e, in := m.at[n]
	return in && e.Term == term
}

// core forgets what Base stands for.
func (m *mind) core() impl.Core {
	c := copiedCore(m.Core)
	c.Log = nil
	for n := m.Base + 1; n <= m.end(); n++ {
		c.Log = append(c.Log, m.at[n])
	}
	return c
}

func (m *mind) stand(n, term int) {
	for other := range m.at {
		if other <= n {
			delete(m.at, other)
		}
	}
	m.at[n] = impl.Entry{Term: term}
	m.Base, m.BaseTerm = n, term
}

func (m *mind) tell(x impl.Msg) {
	x.From, x.Term = m.Id, m.Term
	m.said = append(m.said, x)
}

func (m *mind) all(tell func(to int)) {
	for to := range m.Peers {
		if to != m.Id {
			tell(to)
		}
	}
}

func (m *mind) sends(to int) {
	x := impl.Msg{To: to, Kind: impl.MsSnap, Index: m.Base, IndexTerm: m.BaseTerm}
	if next := m.Next[to]; next > m.Base {
		x = impl.Msg{To: to, Kind: impl.MsApp, Index: next - 1, IndexTerm: m.at[next-1].Term, Commit: m.Commit}
		for n := next; n <= m.end() && n < next+4; n++ {
			x.Entries = append(x.Entries, m.at[n])
		}
	}
	m.tell(x)
}

func (m *mind) counts() {
	matches := slices.Sorted(slices.Values(m.Match))
	// So many and those behind them are more than half.
	agreed := matches[(m.Peers-1)/2]
	for n := m.Commit + 1; n <= agreed; n++ {
		if m.has(n, m.Term) {
			m.Commit = n
		}
	}
}

func (m *mind) puts(data string) {
	if !m.full() {
		m.at[m.end()+1] = impl.Entry{Term: m.Term, Data: data}
	}
	m.Match[m.Id] = m.end()
	m.Next[m.Id] = m.end() + 1
	m.counts()
	m.all(m.sends)
}

func (m *mind) leads() {
	m.Role, m.Lead, m.Yes = impl.RlLead, m.Id, nil
	m.Next, m.Match = nil, nil
	for range m.Peers {
		m.Next = append(m.Next, m.end()+1)
		m.Match = append(m.Match, 0)
	}
	m.puts("")
}

func (m *mind) stepsDown(term int) {
	if m.Term != term {
		m.Vote = -1
	}
	m.Term, m.Role, m.Lead, m.Yes, m.Next, m.Match = term, impl.RlFollow, -1, nil, nil, nil
}

func (m *mind) elects() {
	if m.Role == impl.RlLead || m.Term == 100000 {
		return
	}
	m.Term, m.Vote, m.Role, m.Lead, m.Yes = m.Term+1, m.Id, impl.RlSeek, -1, []int{m.Id}
	if m.Peers == 1 {
		m.leads()
		return
	}
	m.all(func(to int) {
		m.tell(impl.Msg{Kind: impl.MsVote, To: to, Index: m.end(), IndexTerm: m.at[m.end()].Term})
	})
}

func (m *mind) proposes(data string) int {
	if m.Role != impl.RlLead || len(data) > 1600 || m.full() {
		return 0
	}
	m.puts(data)
	return m.end()
}

func (m *mind) compacts(n int) bool {
	if n <= m.Base || n > m.Commit {
		return false
	}
	m.stand(n, m.at[n].Term)
	return true
}

func (m *mind) hears(x impl.Msg) {
	if !wantMsgOk(x) || x.To != m.Id || x.From >= m.Peers {
		return
	}
	if x.Term < m.Term {
		kind := map[int]int{impl.MsVote: impl.MsVoted, impl.MsApp: impl.MsApped, impl.MsSnap: impl.MsApped}[x.Kind]
		if kind > 0 {
			m.tell(impl.Msg{Kind: kind, To: x.From})
		}
		return
	}
	if x.Term > m.Term {
		m.stepsDown(x.Term)
	}
	switch {
	case x.Kind == impl.MsVote:
		m.hearsVote(x)
	case x.Kind == impl.MsVoted && x.Yes && m.Role == impl.RlSeek:
		m.Yes = slices.Compact(slices.Sorted(slices.Values(append(m.Yes, x.From))))
		if len(m.Yes) > m.Peers/2 {
			m.leads()
		}
	case x.Kind == impl.MsApped && m.Role == impl.RlLead:
		m.hearsApped(x)
	case x.Kind == impl.MsApp && m.Role != impl.RlLead:
		m.stepsDown(m.Term)
		m.Lead = x.From
		m.hearsApp(x)
	case x.Kind == impl.MsSnap && m.Role != impl.RlLead:
		m.stepsDown(m.Term)
		m.Lead = x.From
		m.hearsSnap(x)
	}
}

func (m *mind) hearsVote(x impl.Msg) {
	ends := m.at[m.end()].Term
	good := x.IndexTerm > ends
	if x.IndexTerm == ends {
		good = x.Index >= m.end()
	}
	good = good && m.Role == impl.RlFollow && (m.Vote == -1 || m.Vote == x.From)
	if good {
		m.Vote = x.From
	}
	m.tell(impl.Msg{Kind: impl.MsVoted, To: x.From, Yes: good})
}

func (m *mind) hearsApped(x impl.Msg) {
	match, next := &m.Match[x.From], &m.Next[x.From]
	if x.Yes {
		if has := min(x.Index, m.end()); has > *match {
			*match, *next = has, has+1
			m.counts()
			if *next <= m.end() {
				m.sends(x.From)
			}
		}
		return
	}
	lower := min(*next-1, x.Index+1)
	if lower <= *match {
		lower = *match + 1
	}
	if lower < *next {
		*next = lower
		m.sends(x.From)
	}
}

func (m *mind) apped(to int, yes bool, n int) {
	m.tell(impl.Msg{Kind: impl.MsApped, To: to, Yes: yes, Index: n})
}

// hearsApp has the Entries by their numbers, too.
func (m *mind) hearsApp(x impl.Msg) {
	come := map[int]impl.Entry{}
	for i, e := range x.Entries {
		if n := x.Index + 1 + i; n > m.Base {
			come[n] = e
		}
	}
	index := max(x.Index, m.Base)
	if first, in := come[m.Base+1]; in && index == m.Base && first.Term < m.BaseTerm {
		return
	}
	if index > m.end() {
		m.apped(x.From, false, m.end())
		return
	}
	if index > m.Base && !m.has(index, x.IndexTerm) {
		n, term := index, m.at[index].Term
		for n > m.Base && m.has(n, term) {
			n--
		}
		m.apped(x.From, false, n)
		return
	}
	n := index + 1
	for ; len(come) > 0 && m.has(n, come[n].Term); n++ {
		delete(come, n)
	}
	if len(come) > 0 {
		if n <= m.Commit {
			return
		}
		for old := n; old <= n+60; old++ {
			delete(m.at, old)
		}
		for ; len(come) > 0 && len(m.at) <= 60; n++ {
			m.at[n] = come[n]
			delete(come, n)
		}
	}
	m.Commit = max(m.Commit, min(x.Commit, n-1))
	m.apped(x.From, true, n-1)
}

func (m *mind) hearsSnap(x impl.Msg) {
	if x.Index <= m.Commit {
		m.apped(x.From, true, m.Commit)
		return
	}
	if !m.has(x.Index, x.IndexTerm) {
		m.at = map[int]impl.Entry{}
	}
	m.stand(x.Index, x.IndexTerm)
	m.Commit = x.Index
	m.apped(x.From, true, x.Index)
}

// checkStepOf holds what came of a right core against what is wanted, and against promise 13.
func checkStepOf(t *testing.T, what string, was, got impl.Core, said []impl.Msg, want impl.Core, wantSaid []impl.Msg) {
	t.Helper()
	if !sameCore(got, want) || !slices.EqualFunc(said, wantSaid, sameMsg) {
		t.Fatalf("%s: %+v\ncame to %+v, %+v\nwant    %+v, %+v", what, was, got, said, want, wantSaid)
	}
	for _, m := range said {
		if !impl.MsgOk(m) || m.Term != got.Term || m.From != got.Id || m.To >= got.Peers {
			t.Fatalf("%s: %+v said %+v", what, was, m)
		}
	}
	stays := impl.CoreOk(got) && got.Id == was.Id && got.Peers == was.Peers && got.Term >= was.Term && got.Commit >= was.Commit && got.Base >= was.Base
	if got.Term == was.Term && was.Vote != -1 {
		stays = stays && got.Vote == was.Vote
	}
	for n := got.Base + 1; n <= was.Commit; n++ {
		stays = stays && got.Log[n-got.Base-1] == was.Log[n-was.Base-1]
	}
	if got.Base > was.Base && got.Base <= was.Commit {
		stays = stays && got.BaseTerm == was.Log[got.Base-was.Base-1].Term
	}
	if !stays {
		t.Fatalf("%s: of %+v promise 13 does not leave %+v", what, was, got)
	}
}

func checkElect(t *testing.T, what string, c impl.Core) (impl.Core, []impl.Msg) {
	t.Helper()
	m := mindOf(c)
	m.elects()
	got, said := impl.Elect(c)
	checkStepOf(t, what+", Elect", c, got, said, m.core(), m.said)
	return got, said
}

func checkBeat(t *testing.T, what string, c impl.Core) (impl.Core, []impl.Msg) {
	t.Helper()
	m := mindOf(c)
	if m.Role == impl.RlLead {
		m.all(m.sends)
	}
	got, said := impl.Beat(c)
	checkStepOf(t, what+", Beat", c, got, said, m.core(), m.said)
	return got, said
}

func checkPropose(t *testing.T, what string, c impl.Core, data string) (impl.Core, []impl.Msg, int) {
	t.Helper()
	m := mindOf(c)
	number := m.proposes(data)
	got, said, n := impl.Propose(c, data)
	checkStepOf(t, what+", Propose", c, got, said, m.core(), m.said)
	if n != number {
		t.Fatalf("%s: of %+v the number %d, want %d", what, c, n, number)
	}
	return got, said, n
}

func checkCompact(t *testing.T, what string, c impl.Core, index int) (impl.Core, bool) {
	t.Helper()
	m := mindOf(c)
	done := m.compacts(index)
	got, ok := impl.Compact(c, index)
	checkStepOf(t, what+", Compact at "+impl.Dec(index), c, got, nil, m.core(), nil)
	if ok != done {
		t.Fatalf("%s: %+v at %d: %v", what, c, index, ok)
	}
	return got, ok
}

func checkHear(t *testing.T, what string, c impl.Core, x impl.Msg) (impl.Core, []impl.Msg) {
	t.Helper()
	m := mindOf(c)
	m.hears(x)
	got, said := impl.Hear(c, x)
	checkStepOf(t, what+", Hear", c, got, said, m.core(), m.said)
	return got, said
}
