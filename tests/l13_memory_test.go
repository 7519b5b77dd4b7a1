package tests

import (
	"math/rand"
	"slices"
	"strings"
	"testing"

	"loop.example/g00757/impl"
)

// roomyCore is a core whose lists have marks in the spare room behind them.
type roomyCore struct {
	entries roomy[impl.Entry]
	lists   []roomy[int]
}

func newRoomyCore(c impl.Core) (roomyCore, impl.Core) {
	room := roomyCore{}
	room.entries, c.Log = newRoomy(c.Log, impl.Entry{Term: -7, Data: "mark"})
	for _, list := range []*[]int{&c.Yes, &c.Next, &c.Match} {
		one, l := newRoomy(*list, -7)
		*list, room.lists = l, append(room.lists, one)
	}
	return room, c
}

func (w roomyCore) touched() bool {
	return w.entries.touched() || slices.ContainsFunc(w.lists, roomy[int].touched)
}

// memoryOf are the lists of what was answered or handed in.
type memoryOf struct {
	numbers [][]int
	entries [][]impl.Entry
}

func memoryOfCore(c impl.Core) memoryOf {
	return memoryOf{[][]int{c.Yes, c.Next, c.Match}, [][]impl.Entry{c.Log}}
}

func memoryOfAnswer(c impl.Core, said []impl.Msg) memoryOf {
	out := memoryOfCore(c)
	for _, m := range said {
		out.entries = append(out.entries, m.Entries)
	}
	return out
}

// apart tells if no two of all lists share memory.
func (a memoryOf) apart() bool {
	for i, l := range a.numbers {
		for _, other := range a.numbers[i+1:] {
			if overlap(l, other) {
				return false
			}
		}
	}
	for i, l := range a.entries {
		for _, other := range a.entries[i+1:] {
			if overlap(l, other) {
				return false
			}
		}
	}
	return true
}

func (a memoryOf) with(b memoryOf) memoryOf {
	return memoryOf{slices.Concat(a.numbers, b.numbers), slices.Concat(a.entries, b.entries)}
}

// sharesTexts tells if an Entry's Data is in the bytes of one of some texts.
func (a memoryOf) sharesTexts(texts []string) bool {
	for _, l := range a.entries {
		for _, e := range l {
			if slices.ContainsFunc(texts, func(s string) bool { return sharesBytes(s, e.Data) }) {
				return true
			}
		}
	}
	return false
}

// textsApart tells if no two lists have Entries with the same bytes.
func (a memoryOf) textsApart() bool {
	for i, l := range a.entries {
		var texts []string
		for _, e := range l {
			texts = append(texts, e.Data)
		}
		if (memoryOf{entries: a.entries[i+1:]}).sharesTexts(texts) {
			return false
		}
	}
	return true
}

// ownTexts lets no two Entries have the same bytes, so that whose they are is to be seen.
func ownTexts(l []impl.Entry) ([]impl.Entry, []string) {
	own, texts := slices.Clone(l), []string(nil)
	for i := range own {
		own[i].Data = strings.Clone(own[i].Data)
		texts = append(texts, own[i].Data)
	}
	return own, texts
}

// spoilAnswer writes into all lists of an answer, and into the room behind them.
func spoilAnswer(c impl.Core, said []impl.Msg) {
	for _, l := range [][]int{c.Yes, c.Next, c.Match} {
		for i := range l {
			l[i] = -9
		}
		_ = append(l, -9)
	}
	lists := [][]impl.Entry{c.Log}
	for _, m := range said {
		lists = append(lists, m.Entries)
	}
	for _, l := range lists {
		for i := range l {
			l[i] = impl.Entry{Term: -9}
		}
		_ = append(l, impl.Entry{Term: -9})
	}
	for i := range said {
		said[i] = impl.Msg{Kind: -9}
	}
}

// No argument is written into, nor the room behind its lists; no answer shares memory with an argument, nor have two lists of one answer the same; and nothing is kept.
func TestCoreMemory(t *testing.T) {
	r := rand.New(rand.NewSource(135))
	for i := range 6000 {
		c := someCore(r)
		m := msgTo(r, c)
		index := near(r, c.Base-1, c.Commit+1)
		if i%5 == 0 {
			c = bendCore(r, c)
		}
		log, texts := ownTexts(c.Log)
		c.Log = log
		l, more := ownTexts(m.Entries)
		data := strings.Repeat("p", 1+r.Intn(4))
		texts = append(append(texts, more...), data)
		room, given := newRoomyCore(c)
		come, list := newRoomy(l, impl.Entry{Term: -7, Data: "mark"})
		m.Entries = list
		args := memoryOfCore(given)
		args.entries = append(args.entries, list)
		for what, act := range map[string]func() (impl.Core, []impl.Msg){
			"Elect": func() (impl.Core, []impl.Msg) { return impl.Elect(given) },
			"Beat":  func() (impl.Core, []impl.Msg) { return impl.Beat(given) },
			"Hear":  func() (impl.Core, []impl.Msg) { return impl.Hear(given, m) },
			"Propose": func() (impl.Core, []impl.Msg) {
				next, said, _ := impl.Propose(given, data)
				return next, said
			},
			"Compact": func() (impl.Core, []impl.Msg) {
				next, _ := impl.Compact(given, index)
				return next, nil
			},
			"CoreOf": func() (impl.Core, []impl.Msg) {
				next, _ := impl.CoreOf(given.Id, given.Peers, bareKept(given, data))
				return next, nil
			},
			"CoreKept": func() (impl.Core, []impl.Msg) {
				k := impl.CoreKept(given, data)
				if sharesBytes(k.Snap.Data, data) {
					t.Fatalf("CoreKept of %+v shares its data", given)
				}
				return impl.Core{Log: k.Entries}, nil
			},
			"CoreOk": func() (impl.Core, []impl.Msg) {
				impl.CoreOk(given)
				return impl.Core{}, nil
			},
		} {
			got, said := act()
			if room.touched() || come.touched() || !sameCore(given, c) {
				t.Fatalf("%s has written into %+v", what, c)
			}
			answer := memoryOfAnswer(got, said)
			if !answer.with(args).apart() {
				t.Fatalf("%s of %+v, %+v: %+v, %+v share memory", what, c, m, got, said)
			}
			if answer.sharesTexts(texts) || !answer.textsApart() {
				t.Fatalf("%s of %+v, %+v: %+v, %+v share bytes", what, c, m, got, said)
			}
			first, heard := copiedCore(got), slices.Clone(said)
			for j := range heard {
				heard[j].Entries = slices.Clone(heard[j].Entries)
			}
			spoilAnswer(got, said)
			again, told := act()
			if !sameCore(again, first) || !slices.EqualFunc(told, heard, sameMsg) || !sameCore(given, c) {
				t.Fatalf("%s of %+v, %+v: once %+v, %+v, then %+v, %+v", what, c, m, first, heard, again, told)
			}
		}
	}
}

// A list that stands in two fields of what is handed in comes back as two.
func TestCoreListsOfOneMemory(t *testing.T) {
	both := slices.Repeat([]int{10}, 3)
	c := coreWith(leadCore(), func(c *impl.Core) { c.Match = []int{9, 9, 9} })
	c.Next = both
	l := slices.Clone(c.Log)
	c.Log = l
	m := app(0, 1, 7, 8, 6, 0)
	m.Entries = l[4:]
	for what, act := range map[string]func() (impl.Core, []impl.Msg){
		"Beat":  func() (impl.Core, []impl.Msg) { return impl.Beat(c) },
		"Hear":  func() (impl.Core, []impl.Msg) { return impl.Hear(c, m) },
		"Elect": func() (impl.Core, []impl.Msg) { return impl.Elect(c) },
	} {
		got, said := act()
		if !memoryOfAnswer(got, said).apart() || overlap(got.Log, l) || overlap(got.Next, both) {
			t.Errorf("%s: %+v, %+v", what, got, said)
		}
	}
}
