package tests

import (
	"fmt"
	"math"
	"math/rand"
	"slices"
	"testing"

	"loop.example/g00757/impl"
)

// wantIn tells who is in a group by all numbers that a right Cred has.
func wantIn(c impl.Cred, gid int) bool {
	return wantCredOk(c) && slices.Contains(append([]int{c.Gid}, c.Groups...), gid)
}

func wantCredOk(c impl.Cred) bool {
	numbers := append([]int{c.Uid, c.Gid}, c.Groups...)
	return len(numbers) <= 6 && slices.Min(numbers) >= 0 && slices.Max(numbers) <= 1000
}

// wantMay writes the bits out, as rwxrwxrwx are written, and holds them against those of want one by one.
func wantMay(c impl.Cred, n impl.Inode, want int) bool {
	if !wantCredOk(c) || want < 0 || want > 7 {
		return false
	}
	all := fmt.Sprintf("%09b", uint64(n.Mode)%512)
	have := all[6:]
	switch {
	case c.Uid == 0 && n.Kind == impl.KdFile && all[2] == '0' && all[5] == '0' && all[8] == '0':
		have = "110"
	case c.Uid == 0:
		have = "111"
	case c.Uid == n.Uid:
		have = all[:3]
	case wantIn(c, n.Gid):
		have = all[3:6]
	}
	for i, bit := range fmt.Sprintf("%03b", want) {
		if bit == '1' && have[i] == '0' {
			return false
		}
	}
	return true
}

func wantMayTake(c impl.Cred, dir, n impl.Inode) bool {
	loose := uint64(dir.Mode)/512%2 == 0
	return wantCredOk(c) && (loose || slices.Contains([]int{0, dir.Uid, n.Uid}, c.Uid))
}

// wants are all that may be asked, one below, one above, and some far away.
var wants = []int{0, 1, 2, 3, 4, 5, 6, 7, -1, 8, -8, 9, 12, 15, 64, 511, math.MinInt, math.MaxInt}

// outOfUids are numbers that no user and no group may have.
var outOfUids = []int{-1, 1001, -1000, 1 << 32, -1 << 32, math.MinInt, math.MaxInt}

// rightCreds are one of each kind: user 0, some with no group, one, four, and those at their bounds.
func rightCreds() []impl.Cred {
	return []impl.Cred{
		{}, {Gid: 5}, {Groups: []int{5, 6}}, {Uid: 1}, {Uid: 2, Gid: 2}, {Uid: 2, Gid: 3, Groups: []int{5}}, {Uid: 5, Gid: 5},
		{Uid: 2, Gid: 3, Groups: []int{4, 5, 6, 7}}, {Uid: 2, Gid: 3, Groups: []int{0, 0, 0, 0}}, {Uid: 7, Gid: 3, Groups: []int{3, 3}},
		{Uid: 1000, Gid: 1000, Groups: []int{1000, 1000, 1000, 1000}}, {Uid: 1000, Groups: []int{}},
	}
}

// wrongCreds are not right by one field each, and by all of them; but for it they might do all, or are owners and of the group.
func wrongCreds() []impl.Cred {
	out := []impl.Cred{
		{Uid: 2, Gid: 3, Groups: []int{3, 3, 3, 3, 3}}, {Groups: []int{0, 0, 0, 0, 0}}, {Groups: make([]int, 100000)},
		{Uid: -1, Gid: -1, Groups: []int{-1, -1, -1, -1, -1}},
	}
	for _, off := range outOfUids {
		out = append(out, impl.Cred{Uid: off, Gid: 3}, impl.Cred{Uid: 2, Gid: off}, impl.Cred{Gid: off})
		for at := range 4 {
			groups := []int{3, 3, 3, 3}
			groups[at] = off
			out = append(out, impl.Cred{Uid: 2, Gid: 3, Groups: groups}, impl.Cred{Groups: groups[:at+1]})
		}
	}
	return out
}

func TestCredOk(t *testing.T) {
	for _, c := range rightCreds() {
		if !impl.CredOk(c) {
			t.Errorf("CredOk(%+v) is false", c)
		}
	}
	for _, c := range wrongCreds() {
		if impl.CredOk(c) {
			t.Errorf("CredOk of Uid %d, Gid %d, %d Groups is true", c.Uid, c.Gid, len(c.Groups))
		}
	}
}

// Each bound is met exactly and passed by one, alone and beside each other number that is right.
func TestCredOkEdges(t *testing.T) {
	for _, n := range []int{math.MinInt, -1001, -1, 0, 1, 999, 1000, 1001, math.MaxInt} {
		right := n >= 0 && n <= 1000
		cases := []impl.Cred{{Uid: n}, {Gid: n}, {Uid: n, Gid: 1000, Groups: []int{0, 1000}}, {Uid: 1000, Gid: n, Groups: []int{0, 1000}}}
		for size := 1; size <= 4; size++ {
			for at := range size {
				groups := make([]int, size)
				groups[at] = n
				cases = append(cases, impl.Cred{Uid: 1, Gid: 1, Groups: groups})
			}
		}
		for _, c := range cases {
			if impl.CredOk(c) != right {
				t.Errorf("CredOk(%+v) is not %v", c, right)
			}
		}
	}
	for size := range 10 {
		c := impl.Cred{Uid: 1, Gid: 1, Groups: make([]int, size)}
		if right := size <= 4; impl.CredOk(c) != right {
			t.Errorf("CredOk with %d Groups is not %v", size, right)
		}
	}
}

func TestIn(t *testing.T) {
	c := impl.Cred{Uid: 9, Gid: 3, Groups: []int{8, 5, 0, 1000}}
	for gid, want := range map[int]bool{
		3: true, 8: true, 5: true, 0: true, 1000: true,
		9: false, 1: false, 2: false, 4: false, 6: false, 7: false, 999: false, 1001: false, -1: false, -3: false, math.MinInt: false, math.MaxInt: false,
	} {
		if impl.In(c, gid) != want {
			t.Errorf("In(%+v, %d) is not %v", c, gid, want)
		}
	}
	if !impl.In(impl.Cred{}, 0) || impl.In(impl.Cred{}, 1) {
		t.Error("the zero Cred is in the group 0 alone")
	}
	if impl.In(impl.Cred{Uid: 4, Gid: 3}, 0) || impl.In(impl.Cred{Uid: 4, Gid: 3}, 4) || !impl.In(impl.Cred{Uid: 4, Gid: 3}, 3) {
		t.Error("without Groups it is in its Gid alone")
	}
	for _, c := range rightCreds() {
		for gid := -2; gid <= 1002; gid++ {
			if got, want := impl.In(c, gid), wantIn(c, gid); got != want {
				t.Errorf("In(%+v, %d) = %v", c, gid, got)
			}
		}
	}
}

func TestInOfWrongCreds(t *testing.T) {
	for _, c := range wrongCreds() {
		for _, gid := range append([]int{c.Uid, c.Gid, 0, 2, 3}, c.Groups[:min(len(c.Groups), 6)]...) {
			if impl.In(c, gid) {
				t.Errorf("In is true of %d, Uid %d, Gid %d, %d Groups", gid, c.Uid, c.Gid, len(c.Groups))
			}
		}
	}
}

// side is one who asks, and from which bit on those stand that count for it at an inode of Uid 2 and Gid 5.
type side struct {
	who  string
	c    impl.Cred
	from int
}

func sides() []side {
	return []side{
		{"the owner", impl.Cred{Uid: 2, Gid: 3}, 64},
		{"the owner, of the group by Gid", impl.Cred{Uid: 2, Gid: 5}, 64},
		{"the owner, of the group by Groups", impl.Cred{Uid: 2, Gid: 3, Groups: []int{4, 5}}, 64},
		{"one of the group by Gid", impl.Cred{Uid: 3, Gid: 5}, 8},
		{"one of the group by its one Group", impl.Cred{Uid: 3, Gid: 3, Groups: []int{5}}, 8},
		{"one of the group by the first of Groups", impl.Cred{Uid: 3, Gid: 3, Groups: []int{5, 6, 7, 8}}, 8},
		{"one of the group by the last of Groups", impl.Cred{Uid: 3, Gid: 3, Groups: []int{6, 7, 8, 5}}, 8},
		{"one of the group by Gid and Groups", impl.Cred{Uid: 5, Gid: 5, Groups: []int{5}}, 8},
		{"another one", impl.Cred{Uid: 3, Gid: 3}, 1},
		{"another one with Groups", impl.Cred{Uid: 3, Gid: 3, Groups: []int{1, 4, 6, 7}}, 1},
		{"one whose Gid is the owner's Uid", impl.Cred{Uid: 3, Gid: 2, Groups: []int{2}}, 1},
		{"one whose Uid is the group's number", impl.Cred{Uid: 5, Gid: 2}, 1},
		{"one of the group 0", impl.Cred{Uid: 3, Gid: 0, Groups: []int{0}}, 1},
	}
}

var kinds = []int{impl.KdFile, impl.KdDir, impl.KdLink}

// Each of the nine bits alone gives one thing to those whose bit it is, and nothing else to anyone.
func TestMayOfOneBit(t *testing.T) {
	for _, s := range sides() {
		for bit := range 9 {
			for _, kind := range kinds {
				n := impl.Inode{Kind: kind, Mode: 1 << bit, Uid: 2, Gid: 5}
				for _, want := range wants {
					right := want == 0 || want >= 1 && want <= 7 && want*s.from == n.Mode
					if impl.May(s.c, n, want) != right {
						t.Errorf("%s at %+v: May of %d is not %v", s.who, n, want, right)
					}
				}
			}
		}
	}
}

func TestMayOfEachMode(t *testing.T) {
	for _, s := range sides() {
		for mode := range impl.MaxMode + 1 {
			n := impl.Inode{Kind: kinds[mode%3], Mode: mode, Uid: 2, Gid: 5}
			for _, want := range wants {
				right := want >= 0 && want <= 7
				for bit := 1; right && bit <= 4; bit *= 2 {
					right = want/bit%2 == 0 || mode/(bit*s.from)%2 == 1
				}
				if impl.May(s.c, n, want) != right {
					t.Fatalf("%s at %+v: May of %d is not %v", s.who, n, want, right)
				}
			}
		}
	}
}

// What is less for one is less, though all others have more.
func TestMayLessThanOthers(t *testing.T) {
	own, group, all := impl.Cred{Uid: 2, Gid: 5, Groups: []int{5}}, impl.Cred{Uid: 3, Gid: 4, Groups: []int{5}}, impl.Cred{Uid: 3, Gid: 4}
	for _, c := range []struct {
		mode              int
		own, group, other string
	}{
		{0o077, "0", "01234567", "01234567"},
		{0o007, "0", "0", "01234567"},
		{0o070, "0", "01234567", "0"},
		{0o700, "01234567", "0", "0"},
		{0o407, "04", "0", "01234567"},
		{0o246, "02", "04", "0246"},
		{0o654, "0246", "0145", "04"},
		{0o000, "0", "0", "0"},
		{0o777, "01234567", "01234567", "01234567"},
		{0o7000 & impl.MaxMode, "0", "0", "0"},
	} {
		n := impl.Inode{Kind: impl.KdDir, Mode: c.mode, Uid: 2, Gid: 5}
		for i, who := range []impl.Cred{own, group, all} {
			got := ""
			for want := range 8 {
				if impl.May(who, n, want) {
					got += fmt.Sprint(want)
				}
			}
			if want := []string{c.own, c.group, c.other}[i]; got != want {
				t.Errorf("mode %o: %+v may %q, not %q", c.mode, who, got, want)
			}
		}
	}
}

func zeroUsers() []impl.Cred {
	return []impl.Cred{{}, {Gid: 5}, {Gid: 7, Groups: []int{5, 6}}, {Gid: 1000, Groups: []int{0, 0, 0, 0}}}
}

func TestMayOfUserZero(t *testing.T) {
	for mode, runs := range map[int]bool{
		1: true, 8: true, 64: true, 1 | 8 | 64: true, 0o777: true, 0o754: true,
		0: false, 2: false, 4: false, 16: false, 32: false, 128: false, 256: false, 0o666: false, 0o600: false,
		impl.MdSticky: false, impl.MdGroup: false, impl.MdSticky | impl.MdGroup | 0o666: false, impl.MaxMode: true, impl.MdSticky | 1: true,
	} {
		for _, c := range zeroUsers() {
			for _, owner := range []int{0, 2, 5} {
				for _, want := range wants {
					in := want >= 0 && want <= 7
					n := impl.Inode{Kind: impl.KdFile, Mode: mode, Uid: owner, Gid: 5}
					if right := in && (runs || want%2 == 0); impl.May(c, n, want) != right {
						t.Errorf("%+v at the file %+v: May of %d is not %v", c, n, want, right)
					}
					for _, kind := range []int{impl.KdDir, impl.KdLink} {
						n.Kind = kind
						if impl.May(c, n, want) != in {
							t.Errorf("%+v at %+v: May of %d is not %v", c, n, want, in)
						}
					}
				}
			}
		}
	}
}

// Nothing but Kind, Mode, Uid and Gid is looked at, and these whatever they are.
func TestMayOfInodesOutOfBounds(t *testing.T) {
	c := impl.Cred{Uid: 2, Gid: 5}
	for _, x := range []struct {
		what  string
		c     impl.Cred
		n     impl.Inode
		want  int
		right bool
	}{
		{"a Mode too great", c, impl.Inode{Kind: impl.KdFile, Mode: 2048 + 0o700, Uid: 2, Gid: 5}, 7, true},
		{"a Mode too great without the bit", c, impl.Inode{Kind: impl.KdFile, Mode: 2048 + 0o477, Uid: 2, Gid: 5}, 2, false},
		{"a Mode far too great", c, impl.Inode{Kind: impl.KdDir, Mode: math.MaxInt, Uid: 3, Gid: 3}, 7, true},
		{"a Mode far too great, user 0", impl.Cred{}, impl.Inode{Kind: impl.KdFile, Mode: math.MaxInt - 0o777}, 1, false},
		{"a Mode with all bits", c, impl.Inode{Kind: impl.KdFile, Mode: -1, Uid: 2}, 7, true},
		{"a Mode below 0 without bits", c, impl.Inode{Kind: impl.KdFile, Mode: math.MinInt, Uid: 2}, 1, false},
		{"a Mode below 0 without bits, user 0", impl.Cred{}, impl.Inode{Kind: impl.KdFile, Mode: math.MinInt}, 5, false},
		{"a Mode below 0 with one bit", c, impl.Inode{Kind: impl.KdFile, Mode: -2048 + 0o010, Uid: 3, Gid: 5}, 1, true},
		{"a Mode below 0 without that bit", c, impl.Inode{Kind: impl.KdFile, Mode: -2048 + 0o767, Uid: 3, Gid: 5}, 1, false},
		{"a Uid below 0", c, impl.Inode{Kind: impl.KdFile, Mode: 0o702, Uid: -1, Gid: 3}, 2, true},
		{"a Uid below 0 as much as the asker's above", c, impl.Inode{Kind: impl.KdFile, Mode: 0o700, Uid: -2, Gid: -5}, 4, false},
		{"a Uid too great", impl.Cred{Uid: 1000}, impl.Inode{Kind: impl.KdFile, Mode: 0o704, Uid: 1001, Gid: 1001}, 4, true},
		{"a Gid below 0", c, impl.Inode{Kind: impl.KdFile, Mode: 0o074, Uid: 3, Gid: -1}, 7, false},
		{"a Gid too great", impl.Cred{Uid: 2, Gid: 1000}, impl.Inode{Kind: impl.KdFile, Mode: 0o070, Uid: 3, Gid: 1001}, 4, false},
		{"kind 0, user 0", impl.Cred{}, impl.Inode{}, 7, true},
		{"kind 4, user 0", impl.Cred{}, impl.Inode{Kind: 4}, 1, true},
		{"a kind below 0, user 0", impl.Cred{}, impl.Inode{Kind: -1}, 7, true},
		{"kind 0, the owner", c, impl.Inode{Mode: 0o500, Uid: 2}, 5, true},
		{"a link with other bits than a link has", c, impl.Inode{Kind: impl.KdLink, Mode: 0o100, Uid: 2}, 4, false},
		{"a file with all that directories have", c, impl.Inode{Id: -9, Kind: impl.KdFile, Mode: 0o400, Uid: 2, Names: dirents("", 0), MaxB: -1, MaxI: 99}, 4, true},
		{"the zero inode, another one", c, impl.Inode{}, 1, false},
		{"the zero inode, nothing wanted", c, impl.Inode{}, 0, true},
	} {
		if impl.May(x.c, x.n, x.want) != x.right || wantMay(x.c, x.n, x.want) != x.right {
			t.Errorf("%s: May(%+v, %+v, %d) is not %v", x.what, x.c, x.n, x.want, x.right)
		}
	}
}

func TestWrongCredsMayNothing(t *testing.T) {
	for _, c := range wrongCreds() {
		for _, kind := range kinds {
			n := impl.Inode{Kind: kind, Mode: 511, Uid: c.Uid, Gid: c.Gid}
			for _, want := range wants {
				if impl.May(c, n, want) {
					t.Errorf("May of %d: Uid %d, Gid %d, %d Groups", want, c.Uid, c.Gid, len(c.Groups))
				}
			}
			for _, dir := range []impl.Inode{{}, {Kind: impl.KdDir, Mode: 511}, {Kind: impl.KdDir, Mode: 1023, Uid: c.Uid}, {Mode: impl.MdSticky, Uid: 3}} {
				if impl.MayTake(c, dir, n) {
					t.Errorf("MayTake from %+v: Uid %d, Gid %d, %d Groups", dir, c.Uid, c.Gid, len(c.Groups))
				}
			}
		}
	}
}

func TestMayTake(t *testing.T) {
	dir := func(mode int) impl.Inode { return impl.Inode{Id: 1, Kind: impl.KdDir, Mode: mode, Uid: 3, Gid: 5} }
	n := impl.Inode{Id: 2, Kind: impl.KdFile, Mode: 511, Uid: 2, Gid: 5}
	takers := []struct {
		who   string
		c     impl.Cred
		taken bool
	}{
		{"user 0", impl.Cred{}, true},
		{"user 0 of some groups", impl.Cred{Gid: 9, Groups: []int{8, 7}}, true},
		{"the owner of the directory", impl.Cred{Uid: 3, Gid: 9}, true},
		{"the owner of the inode", impl.Cred{Uid: 2, Gid: 9}, true},
		{"another one", impl.Cred{Uid: 4, Gid: 9}, false},
		{"one of the group", impl.Cred{Uid: 4, Gid: 5, Groups: []int{5}}, false},
		{"one whose groups have the owners' numbers", impl.Cred{Uid: 4, Gid: 3, Groups: []int{2, 3}}, false},
		{"one whose Uid is the group's number", impl.Cred{Uid: 5, Gid: 9}, false},
		{"one of the group 0", impl.Cred{Uid: 4}, false},
	}
	for _, x := range takers {
		for _, mode := range []int{impl.MdSticky, impl.MdSticky | 0o777, impl.MdSticky | 1, impl.MaxMode, -1, 4096 | impl.MdSticky, -4096 | impl.MdSticky} {
			if impl.MayTake(x.c, dir(mode), n) != x.taken {
				t.Errorf("%s, MdSticky set in %d: not %v", x.who, mode, x.taken)
			}
		}
		for _, mode := range []int{0, 0o777, 1, 256, impl.MdGroup, impl.MdGroup | 0o777, impl.MaxMode - impl.MdSticky, 2048, math.MinInt, -1 - impl.MdSticky} {
			if !impl.MayTake(x.c, dir(mode), n) {
				t.Errorf("%s, MdSticky not set in %d", x.who, mode)
			}
		}
	}
}

// Of the inode its owner alone counts, of the directory its owner and that one bit.
func TestMayTakeLooksAtNoMore(t *testing.T) {
	c := impl.Cred{Uid: 4, Gid: 5}
	sticky := impl.Inode{Id: 1, Kind: impl.KdDir, Mode: 1023, Uid: 3, Gid: 5}
	for _, kind := range []int{0, impl.KdFile, impl.KdDir, impl.KdLink, 4} {
		for _, mode := range []int{0, 511, 512, 2047, -1} {
			n := impl.Inode{Id: 2, Kind: kind, Mode: mode, Uid: 2, Gid: 5}
			if impl.MayTake(c, sticky, n) || !impl.MayTake(c, impl.Inode{Mode: 511}, n) {
				t.Errorf("neither's owner: %+v", n)
			}
			n.Uid = 4
			if !impl.MayTake(c, sticky, n) {
				t.Errorf("the inode's owner: %+v", n)
			}
			from := impl.Inode{Kind: kind, Mode: impl.MdSticky, Uid: 3}
			if impl.MayTake(c, from, impl.Inode{}) || !impl.MayTake(impl.Cred{Uid: 3}, from, impl.Inode{}) {
				t.Errorf("from kind %d", kind)
			}
		}
	}
	for _, off := range outOfUids {
		if impl.MayTake(c, impl.Inode{Mode: impl.MdSticky, Uid: off}, impl.Inode{Uid: off, Gid: 5}) {
			t.Errorf("Uids of %d", off)
		}
	}
}

// someCred is right but now and then, with numbers that meet those of someInode.
func someCred(r *rand.Rand) impl.Cred {
	c := impl.Cred{Uid: r.Intn(4), Gid: r.Intn(6)}
	for range r.Intn(5) {
		c.Groups = append(c.Groups, r.Intn(8))
	}
	switch r.Intn(12) {
	case 0:
		c.Uid = []int{-1, 1000, 1001}[r.Intn(3)]
	case 1:
		c.Gid = []int{-1, 1000, 1001}[r.Intn(3)]
	case 2:
		c.Groups = append(c.Groups, []int{-1, 1000, 1001}[r.Intn(3)])
	}
	return c
}

func someInode(r *rand.Rand) impl.Inode {
	n := impl.Inode{Id: 1 + r.Intn(9), Kind: 1 + r.Intn(3), Mode: r.Intn(impl.MaxMode + 1), Uid: r.Intn(4), Gid: r.Intn(8)}
	if r.Intn(8) == 0 {
		n.Kind, n.Mode, n.Uid, n.Gid = r.Intn(6)-1, int(r.Uint64()), r.Intn(1003)-1, r.Intn(1003)-1
	}
	return n
}

func TestSomePerms(t *testing.T) {
	r := rand.New(rand.NewSource(51))
	var told [4]int
	for range 200000 {
		c, dir, n := someCred(r), someInode(r), someInode(r)
		want := wants[r.Intn(len(wants))]
		if r.Intn(4) > 0 {
			want = r.Intn(8)
		}
		got := [4]bool{impl.CredOk(c), impl.In(c, n.Gid), impl.May(c, n, want), impl.MayTake(c, dir, n)}
		if right := [4]bool{wantCredOk(c), wantIn(c, n.Gid), wantMay(c, n, want), wantMayTake(c, dir, n)}; got != right {
			t.Fatalf("CredOk, In, May of %d, MayTake of %+v, %+v, %+v = %v, want %v", want, c, dir, n, got, right)
		}
		for i, yes := range got {
			if yes {
				told[i]++
			}
		}
	}
	for i, yes := range told {
		if yes < 20000 || yes > 190000 {
			t.Errorf("of all these so many are true of question %d: %d", i, yes)
		}
	}
}

// Promise 5: May of all bits is May of each.
func TestMayOfAllIsMayOfEach(t *testing.T) {
	for _, c := range append(rightCreds(), wrongCreds()[0], impl.Cred{Uid: 2, Gid: -1}) {
		for mode := range impl.MaxMode + 1 {
			for _, n := range []impl.Inode{{Uid: 2, Gid: 5}, {Uid: 0, Gid: 0}, {Uid: 1000, Gid: 3}} {
				n.Mode, n.Kind = mode, 1+mode%3
				for a := range 8 {
					for b := range 8 {
						if both := impl.May(c, n, a|b); both != (impl.May(c, n, a) && impl.May(c, n, b)) {
							t.Fatalf("%+v at %+v: May of %d is %v, not as that of %d and %d", c, n, a|b, both, a, b)
						}
					}
				}
			}
		}
	}
}

// Promise 5: no bit but one's own changes what one may; the owner's count for the owner alone.
func TestWhoseBitsCount(t *testing.T) {
	for _, s := range sides() {
		for mode := range 512 {
			for bit := 1; bit <= impl.MaxMode; bit *= 2 {
				n := impl.Inode{Kind: impl.KdFile, Mode: mode, Uid: 2, Gid: 5}
				other := n
				other.Mode ^= bit
				own := bit >= s.from && bit < 8*s.from
				changed := false
				for want := range 8 {
					changed = changed || impl.May(s.c, n, want) != impl.May(s.c, other, want)
				}
				if changed != own {
					t.Fatalf("%s at mode %o: the bit %o changes something: %v", s.who, mode, bit, changed)
				}
			}
		}
	}
}

// Promise 5: user 0 may read and write all, and look into each directory.
func TestUserZeroMayAll(t *testing.T) {
	r := rand.New(rand.NewSource(52))
	for range 20000 {
		n := someInode(r)
		for _, c := range zeroUsers() {
			if !impl.May(c, n, 0) || !impl.May(c, n, 2) || !impl.May(c, n, 4) || !impl.May(c, n, 6) {
				t.Fatalf("%+v may not read and write %+v", c, n)
			}
			if n.Kind == impl.KdDir && !(impl.May(c, n, 1) && impl.May(c, n, 7)) {
				t.Fatalf("%+v may not look into %+v", c, n)
			}
			if !impl.MayTake(c, n, someInode(r)) {
				t.Fatalf("%+v may not take from %+v", c, n)
			}
		}
	}
}

func TestPermMemory(t *testing.T) {
	r := rand.New(rand.NewSource(53))
	for range 5000 {
		c, dir, n := someCred(r), someInode(r), someInode(r)
		was := c
		groups, names, others := roomy[int]{}, roomy[impl.Dirent]{}, roomy[impl.Dirent]{}
		groups, c.Groups = newRoomy(c.Groups, n.Gid)
		names, dir.Names = newRoomy(dirents("a", 2, "b", 3), impl.Dirent{Name: "mark", Id: -7})
		others, n.Names = newRoomy(dirents("c", 4), impl.Dirent{Name: "mark", Id: -7})
		want := r.Intn(10) - 1
		got := [4]bool{impl.CredOk(c), impl.In(c, n.Gid), impl.May(c, n, want), impl.MayTake(c, dir, n)}
		// The spare room behind Groups has the inode's Gid: it counts for nothing.
		right := [4]bool{wantCredOk(was), wantIn(was, n.Gid), wantMay(was, n, want), wantMayTake(was, dir, n)}
		if got != right {
			t.Fatalf("%+v at %+v: %v, want %v", c, n, got, right)
		}
		if groups.touched() || names.touched() || others.touched() {
			t.Fatalf("written into: %+v, %+v, %+v", c, dir, n)
		}
	}
}
