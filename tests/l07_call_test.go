package tests

import (
	"fmt"
	"math"
	"slices"
	"strconv"
	"strings"
	"testing"

	"loop.example/g00757/impl"
)

// wantCallOk gathers what is wrong with a call.
func wantCallOk(x impl.Call) bool {
	wrong := x.Kind < 1 || x.Kind > 22 || len(x.Path) > 60 || len(x.To) > 60 || len(x.Data) > 64
	for _, n := range []int{x.N, x.M} {
		wrong = wrong || n < -1000000 || n > 1000000
	}
	wrong = wrong || x.To != "" && !slices.Contains([]int{9, 10, 12}, x.Kind)
	wrong = wrong || x.Data != "" && !slices.Contains([]int{5, 6}, x.Kind)
	return !wrong
}

// judge does a call in the document's words, one step behind the other, up to the first that has a code.
type judge struct {
	v        impl.Vol
	c        impl.Cred
	x        impl.Call
	from, to impl.Spot
	data     string
}

type step func() int

// done ends a call that is EOk with nothing done.
const done = -1

func wantVolDo(v impl.Vol, c impl.Cred, x impl.Call) (impl.Vol, impl.Result) {
	if !wantVolOk(v) {
		return impl.Vol{}, impl.Result{Code: 22}
	}
	if !wantCredOk(c) || !wantCallOk(x) || x.Kind > 20 {
		return copiedVol(v), impl.Result{Code: 22}
	}
	j := &judge{v: copiedVol(v), c: c, x: x}
	for _, s := range j.steps() {
		switch code := s(); {
		case code == done:
			return copiedVol(v), impl.Result{}
		case code != 0:
			return copiedVol(v), impl.Result{Code: code}
		}
	}
	return j.v, impl.Result{Data: j.data}
}

func (j *judge) at(id int) *impl.Inode {
	return &j.v.Inodes[slices.IndexFunc(j.v.Inodes, func(n impl.Inode) bool { return n.Id == id })]
}

// it is what is there, other what To leads to.
func (j *judge) it() *impl.Inode    { return j.at(j.from.Id) }
func (j *judge) other() *impl.Inode { return j.at(j.to.Id) }

func (j *judge) isDir(id int) bool { return j.at(id).Kind == 2 }

func when(code int, holds func() bool) step {
	return func() int {
		if holds() {
			return code
		}
		return 0
	}
}

func does(change func()) step {
	return when(0, func() bool { change(); return true })
}

func (j *judge) goes(spot *impl.Spot, path string, follow bool) step {
	return func() int {
		*spot = impl.Spot{Code: 22}
		if wantPathOk(path) {
			*spot = wantWay(j.v, j.c, 1, path, follow, 8)
		}
		return spot.Code
	}
}

func (j *judge) isNew(spot *impl.Spot, path string) step {
	return func() int {
		code := j.goes(spot, path, false)()
		if code == 0 {
			return 17
		}
		if code == 2 && spot.Name != "" {
			return 0
		}
		return code
	}
}

func (j *judge) cannotChange(spot *impl.Spot) step {
	return when(13, func() bool { return !wantMay(j.c, *j.at(spot.Dir), 3) })
}

func (j *judge) cannotTake(spot *impl.Spot) step {
	return when(1, func() bool { return !wantMayTake(j.c, *j.at(spot.Dir), *j.at(spot.Id)) })
}

func (j *judge) may(want int) step {
	return when(13, func() bool { return !wantMay(j.c, *j.it(), want) })
}

func (j *judge) outside(n, most int) step {
	return when(22, func() bool { return n < 0 || n > most })
}

func (j *judge) over() step {
	return func() int {
		all := 0
		for _, n := range j.v.Inodes {
			all += len(n.Data)
		}
		if all > 400 {
			return 28
		}
		for _, n := range j.v.Inodes {
			bytes, inodes := wantUsed(j.v, n.Id)
			if n.MaxB > 0 && bytes > n.MaxB || n.MaxI > 0 && inodes > n.MaxI {
				return 122
			}
		}
		return 0
	}
}

func (j *judge) goesAway(spot *impl.Spot) step {
	return does(func() {
		dir := j.at(spot.Dir)
		dir.Names = slices.DeleteFunc(dir.Names, func(e impl.Dirent) bool { return e.Name == spot.Name })
		if wantNames(j.v, spot.Id) == 0 {
			j.v.Inodes = slices.DeleteFunc(j.v.Inodes, func(n impl.Inode) bool { return n.Id == spot.Id })
		}
	})
}

func (j *judge) steps() []step {
	x := j.x
	there, followed := j.goes(&j.from, x.Path, false), j.goes(&j.from, x.Path, true)
	dir := func() bool { return j.it().Kind == 2 }
	noDir := func() bool { return j.it().Kind != 2 }
	switch x.Kind {
	case 1, 3, 10:
		return j.making()
	case 2:
		return []step{there, when(16, func() bool { return j.from.Name == "" }), when(20, noDir), j.cannotChange(&j.from), j.cannotTake(&j.from),
			when(39, func() bool { return len(j.it().Names) > 0 }), j.goesAway(&j.from)}
	case 8:
		return []step{there, when(21, dir), j.cannotChange(&j.from), j.cannotTake(&j.from), j.goesAway(&j.from)}
	case 9:
		return []step{there, when(1, dir), j.isNew(&j.to, x.To), j.cannotChange(&j.to), when(28, func() bool { return len(j.at(j.to.Dir).Names) > 11 }),
			does(func() { putName(j.at(j.to.Dir), j.to.Name, j.from.Id) }), j.over()}
	case 12:
		return j.moving()
	case 4, 5, 6, 7:
		return append([]step{followed, when(21, dir)}, j.bytes()...)
	case 11:
		return []step{there, when(22, func() bool { return j.it().Kind != 3 }), does(func() { j.data = j.it().Data })}
	case 13:
		return []step{followed, when(20, noDir), j.may(4), does(j.names)}
	case 14:
		return []step{j.outside(x.N, 1), j.goes(&j.from, x.Path, x.N == 0), does(j.stat)}
	case 17:
		return []step{j.outside(x.N, 7), followed, j.may(x.N)}
	case 18:
		return []step{does(func() { bytes, inodes := wantUsed(j.v, 1); j.data = fmt.Sprint(inodes+1, bytes) })}
	case 20:
		return []step{followed, when(20, noDir), j.may(4),
			does(func() {
				bytes, inodes := wantUsed(j.v, j.from.Id)
				j.data = fmt.Sprint(j.it().MaxB, j.it().MaxI, bytes, inodes)
			})}
	}
	return j.owning()
}

func (j *judge) making() []step {
	x := j.x
	out := []step{j.outside(x.N, 2047)}
	if x.Kind == 10 {
		out = []step{when(22, func() bool { return !wantTarget(x.To) })}
	}
	return append(out, j.isNew(&j.to, x.Path), j.cannotChange(&j.to),
		when(28, func() bool { return len(j.at(j.to.Dir).Names) > 11 || len(j.v.Inodes) > 23 || j.v.Next == 100000 }),
		does(func() {
			n := impl.Inode{Id: j.v.Next, Kind: map[int]int{1: 2, 3: 1, 10: 3}[x.Kind], Mode: x.N, Uid: j.c.Uid, Gid: j.c.Gid, Data: x.To}
			if n.Kind == 3 {
				n.Mode = 511
			}
			if dir := j.at(j.to.Dir); dir.Mode/1024 == 1 {
				n.Gid = dir.Gid
				if n.Kind == 2 {
					n.Mode = n.Mode%1024 + 1024
				}
			}
			putName(j.at(j.to.Dir), j.to.Name, n.Id)
			j.v.Inodes = append(j.v.Inodes, n)
			j.v.Next++
		}), j.over())
}

func (j *judge) moving() []step {
	leads := func() bool { return j.to.Id != 0 }
	to := func() int {
		if code := j.isNew(&j.to, j.x.To)(); code != 17 {
			return code
		}
		return 0
	}
	inside := func() bool {
		_, below := wantVolBelow(j.v, j.from.Id)[j.to.Dir]
		return j.isDir(j.from.Id) && (j.to.Dir == j.from.Id || below)
	}
	full := func() bool { return !leads() && j.from.Dir != j.to.Dir && len(j.at(j.to.Dir).Names) > 11 }
	return []step{
		j.goes(&j.from, j.x.Path, false), to,
		when(16, func() bool { return j.from.Name == "" || j.to.Name == "" }),
		j.cannotChange(&j.from), j.cannotChange(&j.to), j.cannotTake(&j.from), when(22, inside),
		when(done, func() bool { return j.from.Id == j.to.Id }),
		func() int {
			if !leads() {
				return 0
			}
			return j.cannotTake(&j.to)()
		},
		when(20, func() bool { return leads() && j.isDir(j.from.Id) && !j.isDir(j.to.Id) }),
		when(39, func() bool { return leads() && j.isDir(j.from.Id) && len(j.other().Names) > 0 }),
		when(21, func() bool { return leads() && !j.isDir(j.from.Id) && j.isDir(j.to.Id) }),
		when(28, full),
		func() int {
			if !leads() {
				return 0
			}
			return j.goesAway(&j.to)()
		},
		// The new name comes ahead of where the old one goes, so that the inode stays.
		does(func() { putName(j.at(j.to.Dir), j.to.Name, j.from.Id) }), j.goesAway(&j.from), j.over(),
	}
}

func (j *judge) bytes() []step {
	x := j.x
	from := func() int {
		if x.Kind == 6 {
			return len(j.it().Data)
		}
		return x.N
	}
	below := when(22, func() bool { return from() < 0 })
	if x.Kind == 4 {
		return []step{j.may(4), below, when(22, func() bool { return x.M < 0 }), does(func() {
			for i, b := range []byte(j.it().Data) {
				if i >= x.N && i < x.N+x.M {
					j.data += string([]byte{b})
				}
			}
		})}
	}
	size := func() int { return from() + len(x.Data) }
	return []step{j.may(2), below, when(done, func() bool { return x.Kind != 7 && x.Data == "" }), when(27, func() bool { return size() > 64 }), does(func() {
		file := append([]byte(j.it().Data), make([]byte, 64)...)
		most := max(size(), len(j.it().Data))
		if x.Kind == 7 {
			most = x.N
		}
		copy(file[from():], x.Data)
		j.it().Data = string(file[:most])
	}), j.over()}
}

func (j *judge) names() {
	for i, e := range j.it().Names {
		if i > 0 {
			j.data += "/"
		}
		j.data += e.Name
	}
}

func (j *judge) stat() {
	n := j.it()
	j.data = fmt.Sprint(n.Kind, n.Mode, n.Uid, n.Gid, wantOfInode(j.v, true, n.Id)[2], len(n.Data))
}

func (j *judge) owning() []step {
	x, uid := j.x, j.c.Uid
	followed := j.goes(&j.from, x.Path, true)
	own := func() bool { return uid == j.it().Uid }
	switch x.Kind {
	case 15:
		return []step{j.outside(x.N, 2047), followed, when(1, func() bool { return uid != 0 && !own() }), does(func() {
			j.it().Mode = x.N
			if uid != 0 && !wantIn(j.c, j.it().Gid) {
				j.it().Mode = x.N % 1024
			}
		})}
	case 16:
		return []step{j.outside(x.N, 1000), j.outside(x.M, 1000), followed,
			when(1, func() bool { return uid != 0 && !(own() && x.N == uid && wantIn(j.c, x.M)) }),
			does(func() { j.it().Uid, j.it().Gid = x.N, x.M })}
	}
	return []step{j.outside(x.N, 400), j.outside(x.M, 24), when(1, func() bool { return uid != 0 }), followed,
		when(20, func() bool { return j.it().Kind != 2 }), does(func() { j.it().MaxB, j.it().MaxI = x.N, x.M }), j.over()}
}

// The kinds that only tell.
var telling = []int{impl.CaRead, impl.CaReadlink, impl.CaReaddir, impl.CaStat, impl.CaAccess, impl.CaStatfs, impl.CaGetquota}

// do asks for a call with marks behind each list, and holds what it answers against the test's own, the promises and the memory of both.
func do(t *testing.T, v impl.Vol, c impl.Cred, x impl.Call) (impl.Vol, impl.Result) {
	t.Helper()
	room, given := newRoomyVol(v)
	who := c
	groups, list := newRoomy(c.Groups, 1)
	who.Groups = list
	got, res := impl.VolDo(given, who, x)
	want, told := wantVolDo(v, c, x)
	if res != told || !sameVol(got, want) {
		t.Fatalf("VolDo of %+v by %+v in %+v = %+v, %+v, want %+v, %+v", x, c, v, got, res, want, told)
	}
	if room.touched() || groups.touched() || !sameVol(given, v) {
		t.Fatalf("%+v by %+v: written into %+v", x, c, v)
	}
	if sharesVol(got, given) {
		t.Fatalf("%+v by %+v: the answer shares memory: %+v", x, c, v)
	}
	right := impl.VolOk(v)
	if right != impl.VolOk(got) || !right && !sameVol(got, impl.Vol{}) {
		t.Fatalf("%+v by %+v: of %+v it makes %+v", x, c, v, got)
	}
	if right && (res.Code != impl.EOk || slices.Contains(telling, x.Kind)) && !sameVol(got, v) {
		t.Fatalf("%+v by %+v, which is told %+v, changes %+v to %+v", x, c, res, v, got)
	}
	if res.Code != impl.EOk && res.Data != "" {
		t.Fatalf("%+v by %+v is refused with Data: %+v", x, c, res)
	}
	return got, res
}

// sharesVol tells if a list of the answer is one of the argument's, or if two of the answer are one.
func sharesVol(got, given impl.Vol) bool {
	shares := overlap(got.Inodes, given.Inodes)
	others := slices.Clone(given.Inodes)
	for _, n := range got.Inodes {
		for _, other := range others {
			shares = shares || overlap(n.Names, other.Names)
		}
		others = append(others, n)
	}
	return shares
}

func callAt(kind int, path string, numbers ...int) impl.Call {
	numbers = append(numbers, 0, 0)
	return impl.Call{Kind: kind, Path: path, N: numbers[0], M: numbers[1]}
}

func callTo(kind int, path, to string) impl.Call { return impl.Call{Kind: kind, Path: path, To: to} }

func writeAt(path string, n int, data string) impl.Call {
	return impl.Call{Kind: impl.CaWrite, Path: path, N: n, Data: data}
}

func appendTo(path string, data string) impl.Call {
	return impl.Call{Kind: impl.CaAppend, Path: path, Data: data}
}

func owned(m made, uid, gid, mode int) made {
	m.n.Uid, m.n.Gid, m.n.Mode = uid, gid, mode
	return m
}

func holding(m made, data string) made {
	m.n.Data = data
	return m
}

func bounded(m made, bytes, inodes int) made {
	m.n.MaxB, m.n.MaxI = bytes, inodes
	return m
}

// doCase is a call, who calls, and what it is told.
type doCase struct {
	c    impl.Cred
	x    impl.Call
	code int
	data string
}

// checkEach asks for each call in the same volume.
func checkEach(t *testing.T, v impl.Vol, cases []doCase) {
	t.Helper()
	if !impl.VolOk(v) {
		t.Fatalf("not right: %+v", v)
	}
	for _, x := range cases {
		if _, res := do(t, v, x.c, x.x); res != (impl.Result{Code: x.code, Data: x.data}) {
			t.Errorf("%+v by %+v is told %+v, want %d %q", x.x, x.c, res, x.code, x.data)
		}
	}
}

// checkRow asks for one call behind the other, and gives what they leave.
func checkRow(t *testing.T, v impl.Vol, cases []doCase) impl.Vol {
	t.Helper()
	for i, x := range cases {
		next, res := do(t, v, x.c, x.x)
		if res != (impl.Result{Code: x.code, Data: x.data}) {
			t.Errorf("%d: %+v by %+v is told %+v, want %d %q", i, x.x, x.c, res, x.code, x.data)
		}
		v = next
	}
	return v
}

func ok(c impl.Cred, x impl.Call) doCase { return doCase{c: c, x: x} }

func tells(c impl.Cred, x impl.Call, data string) doCase { return doCase{c: c, x: x, data: data} }

func refuses(c impl.Cred, x impl.Call, code int) doCase { return doCase{c: c, x: x, code: code} }

func TestCallNumbers(t *testing.T) {
	got := []int{impl.MaxArg, impl.CaMkdir, impl.CaRmdir, impl.CaCreate, impl.CaRead, impl.CaWrite, impl.CaAppend, impl.CaTrunc, impl.CaUnlink, impl.CaLink, impl.CaSymlink, impl.CaReadlink,
		impl.CaRename, impl.CaReaddir, impl.CaStat, impl.CaChmod, impl.CaChown, impl.CaAccess, impl.CaStatfs, impl.CaSetquota, impl.CaGetquota, impl.CaReadaudit, impl.CaArchive}
	want := []int{1000000}
	for kind := range 22 {
		want = append(want, kind+1)
	}
	if !slices.Equal(got, want) {
		t.Error("the limit and the kinds", got)
	}
}

// Each field alone at its bounds and one beyond, and far beyond, of every kind and of some that are none.
func TestCallOk(t *testing.T) {
	check := func(x impl.Call, right bool) {
		t.Helper()
		if impl.CallOk(x) != right || wantCallOk(x) != right {
			t.Errorf("CallOk of Kind %d, %d, %d, %d bytes, N %d, M %d is not %v", x.Kind, len(x.Path), len(x.To), len(x.Data), x.N, x.M, right)
		}
	}
	for _, kind := range []int{math.MinInt, -22, -1, 0, 23, 24, 100, math.MaxInt} {
		check(impl.Call{Kind: kind}, false)
		check(impl.Call{Kind: kind, Path: "/a"}, false)
	}
	for kind := 1; kind <= 22; kind++ {
		check(impl.Call{Kind: kind}, true)
		to, data := kind == 9 || kind == 10 || kind == 12, kind == 5 || kind == 6
		for size, right := range map[int]bool{1: true, 59: true, 60: true, 61: false, 64: false, 100000: false} {
			check(impl.Call{Kind: kind, Path: strings.Repeat("\xff", size)}, right)
			check(impl.Call{Kind: kind, To: strings.Repeat("\x00", size)}, right && to)
		}
		for size, right := range map[int]bool{1: true, 60: true, 61: true, 63: true, 64: true, 65: false, 100000: false} {
			check(impl.Call{Kind: kind, Data: strings.Repeat("x", size)}, right && data)
		}
		for n, right := range map[int]bool{0: true, 1: true, -1: true, 999999: true, 1000000: true, 1000001: false, -999999: true, -1000000: true, -1000001: false, math.MaxInt: false, math.MinInt: false} {
			check(impl.Call{Kind: kind, N: n}, right)
			check(impl.Call{Kind: kind, M: n}, right)
			check(impl.Call{Kind: kind, N: -n, M: n}, right)
		}
		whole := impl.Call{Kind: kind, Path: strings.Repeat("/", 60), N: 1000000, M: -1000000}
		if to {
			whole.To = strings.Repeat("?", 60)
		}
		if data {
			whole.Data = strings.Repeat("\n", 64)
		}
		check(whole, true)
		// To and Data together are no kind's.
		check(impl.Call{Kind: kind, To: "a", Data: "b"}, false)
	}
}

// callsOfEachKind are done in flawVol for someone; user 0's alone and those that are no volume's are left out.
func callsOfEachKind() []impl.Call {
	return []impl.Call{
		callAt(impl.CaMkdir, "/d/new"), callAt(impl.CaRmdir, "/d/e"), callAt(impl.CaCreate, "/d/new"), callAt(impl.CaRead, "/d/f", 1, 2), writeAt("/d/f", 0, "x"), appendTo("/d/f", "x"), callAt(impl.CaTrunc, "/d/f"),
		callAt(impl.CaUnlink, "/d/f"), callTo(impl.CaLink, "/d/f", "/d/new"), callTo(impl.CaSymlink, "/d/new", "f"), callAt(impl.CaReadlink, "/d/l"), callTo(impl.CaRename, "/d/f", "/t/f"), callAt(impl.CaReaddir, "/d"),
		callAt(impl.CaStat, "/d/f"), callAt(impl.CaChmod, "/d/f"), callAt(impl.CaChown, "/d/f", 2, 2), callAt(impl.CaAccess, "/d/f"), callAt(impl.CaStatfs, ""), callAt(impl.CaGetquota, "/d"),
	}
}

func TestCallsOfEachKind(t *testing.T) {
	told := map[int]string{impl.CaRead: "bc", impl.CaReadlink: "f", impl.CaReaddir: "e/f/l", impl.CaStat: "1 438 2 2 1 3", impl.CaStatfs: "9 5", impl.CaGetquota: "0 0 4 3"}
	var cases []doCase
	for _, x := range callsOfEachKind() {
		cases = append(cases, tells(someone, x, told[x.Kind]))
	}
	checkEach(t, flawVol(), append(cases, ok(userZero, callAt(impl.CaSetquota, "/d", 400, 24)),
		refuses(someone, callAt(impl.CaReadaudit, "/d"), impl.EInval), refuses(userZero, callAt(impl.CaReadaudit, ""), impl.EInval),
		refuses(someone, callAt(impl.CaArchive, "/d"), impl.EInval), refuses(userZero, callAt(impl.CaArchive, ""), impl.EInval)))
}

// A volume that is not right is refused ahead of all else, and nothing of it is handed back.
func TestCallsInWrongVolumes(t *testing.T) {
	wrong := []impl.Vol{{}, {Next: 2}, {Next: 1, Inodes: impl.NewVol().Inodes}, wideVol(25), bytesVol(401), {Next: 2, Inodes: make([]impl.Inode, 1000)}}
	for _, change := range []func(v *impl.Vol){
		func(v *impl.Vol) { v.Next = 8 },
		func(v *impl.Vol) { v.Next = impl.MaxId + 1 },
		func(v *impl.Vol) { v.Inodes[1].Names[0].Id = 1 },
		func(v *impl.Vol) { v.Inodes[1].MaxI = 1 },
		func(v *impl.Vol) { v.Inodes[1].MaxB = 1 },
		func(v *impl.Vol) { v.Inodes[1].Names = v.Inodes[1].Names[1:] },
		func(v *impl.Vol) { v.Inodes[2].Uid = impl.MaxUid + 1 },
		func(v *impl.Vol) { v.Inodes[5].Mode = impl.MaxMode + 1 },
	} {
		v := flawVol()
		change(&v)
		wrong = append(wrong, v)
	}
	calls := append(callsOfEachKind(), callAt(impl.CaReadaudit, ""), callAt(impl.CaArchive, ""), impl.Call{}, impl.Call{Kind: 23}, callAt(impl.CaMkdir, "/d/new", 1000001))
	for _, v := range wrong {
		for _, x := range calls {
			for _, c := range []impl.Cred{userZero, someone, {Uid: -1}, {Gid: 1001}, {Groups: make([]int, 5)}} {
				got, res := impl.VolDo(v, c, x)
				if res != (impl.Result{Code: impl.EInval}) || got.Next != 0 || len(got.Inodes) != 0 {
					t.Errorf("%+v by %+v in %d inodes: %+v, %+v", x, c, len(v.Inodes), got, res)
				}
			}
		}
	}
}

// A Cred or a call that is not right is refused ahead of all that the call would be told.
func TestWrongCalls(t *testing.T) {
	for _, c := range wrongCreds() {
		for _, x := range append(callsOfEachKind(), callAt(impl.CaSetquota, "/d"), callAt(impl.CaMkdir, "/no/x"), callAt(impl.CaRmdir, "/"), callAt(impl.CaReadaudit, "")) {
			if got, res := impl.VolDo(flawVol(), c, x); res != (impl.Result{Code: impl.EInval}) || !sameVol(got, flawVol()) {
				t.Errorf("%+v by Uid %d, Gid %d, %d Groups: %+v", x, c.Uid, c.Gid, len(c.Groups), res)
			}
		}
	}
	for _, x := range append(callsOfEachKind(), callAt(impl.CaSetquota, "/d"), callTo(impl.CaRename, "/d/f", "/no/x"), callAt(impl.CaRmdir, "/"), callAt(impl.CaCreate, "/d/f")) {
		for _, change := range []func(x *impl.Call){
			func(x *impl.Call) { x.Kind += 22 },
			func(x *impl.Call) { x.Kind -= 22 },
			func(x *impl.Call) { x.N = 1000001 },
			func(x *impl.Call) { x.N = -1000001 },
			func(x *impl.Call) { x.M = 1000001 },
			func(x *impl.Call) { x.M = math.MinInt },
			func(x *impl.Call) { x.Path = "/" + strings.Repeat("/", 60-len(x.Path)) + x.Path },
			func(x *impl.Call) { x.To = strings.Repeat("/", 61) },
			func(x *impl.Call) { x.Data = strings.Repeat("x", 65) },
			func(x *impl.Call) { x.To, x.Data = "/d/new", "x" },
		} {
			wrong := x
			change(&wrong)
			if impl.CallOk(wrong) {
				t.Errorf("%+v is CallOk", wrong)
			}
			checkEach(t, flawVol(), []doCase{refuses(someone, wrong, impl.EInval), refuses(userZero, wrong, impl.EInval)})
		}
	}
}

// A call does not look at what it does not name: with it, it is told and does the same.
func TestWhatACallDoesNotName(t *testing.T) {
	unnamed := map[int]string{1: "M", 2: "NM", 3: "M", 5: "M", 6: "NM", 7: "M", 8: "NM", 9: "NM", 10: "NM", 11: "NM", 12: "NM", 13: "NM", 14: "M", 15: "M", 17: "M", 18: "NMP", 20: "NM"}
	for _, x := range callsOfEachKind() {
		want, told := do(t, flawVol(), someone, x)
		for _, n := range []int{-1000000, -1, 1, 65, 2048, 1000000} {
			other := x
			for _, field := range unnamed[x.Kind] {
				switch field {
				case 'N':
					other.N = n
				case 'M':
					other.M = n
				case 'P':
					other.Path = "no path" + strconv.Itoa(n)
				}
			}
			if got, res := do(t, flawVol(), someone, other); res != told || !sameVol(got, want) {
				t.Errorf("%+v is told %+v, but %+v %+v", other, res, x, told)
			}
		}
	}
}

// The root as what is there, and as what is to be moved or taken away; by points, too.
func TestCallsAtTheRoot(t *testing.T) {
	v := flawVol()
	v.Inodes[0].Mode = 0o777
	for _, root := range []string{"/", "//", "/.", "/..", "/d/..", "/d/e/../../.."} {
		checkEach(t, v, []doCase{
			refuses(someone, callAt(impl.CaMkdir, root), impl.EExist),
			refuses(someone, callAt(impl.CaCreate, root), impl.EExist),
			refuses(someone, callTo(impl.CaSymlink, root, "d"), impl.EExist),
			refuses(someone, callAt(impl.CaRmdir, root), impl.EBusy),
			refuses(userZero, callAt(impl.CaRmdir, root), impl.EBusy),
			refuses(someone, callAt(impl.CaUnlink, root), impl.EIsDir),
			refuses(userZero, callAt(impl.CaUnlink, root), impl.EIsDir),
			refuses(someone, callTo(impl.CaLink, root, "/new"), impl.EPerm),
			refuses(someone, callTo(impl.CaLink, "/d/f", root), impl.EExist),
			refuses(userZero, callTo(impl.CaRename, root, "/new"), impl.EBusy),
			refuses(userZero, callTo(impl.CaRename, root, "/d/new"), impl.EBusy),
			refuses(userZero, callTo(impl.CaRename, root, root), impl.EBusy),
			refuses(userZero, callTo(impl.CaRename, "/d/f", root), impl.EBusy),
			refuses(userZero, callTo(impl.CaRename, "/d/e", root), impl.EBusy),
			refuses(someone, callAt(impl.CaRead, root, 0, 1), impl.EIsDir),
			refuses(someone, writeAt(root, 0, "x"), impl.EIsDir),
			refuses(someone, appendTo(root, "x"), impl.EIsDir),
			refuses(someone, callAt(impl.CaTrunc, root), impl.EIsDir),
			refuses(someone, callAt(impl.CaReadlink, root), impl.EInval),
			tells(someone, callAt(impl.CaReaddir, root), "d/q/t"),
			tells(someone, callAt(impl.CaStat, root), "2 511 0 0 4 0"),
			tells(someone, callAt(impl.CaStat, root, 1), "2 511 0 0 4 0"),
			refuses(someone, callAt(impl.CaChmod, root, 0o700), impl.EPerm),
			ok(userZero, callAt(impl.CaChmod, root, 0o700)),
			refuses(someone, callAt(impl.CaChown, root, 2, 2), impl.EPerm),
			ok(userZero, callAt(impl.CaChown, root, 2, 2)),
			ok(someone, callAt(impl.CaAccess, root, 7)),
			refuses(someone, callAt(impl.CaSetquota, root, 5, 8), impl.EPerm),
			ok(userZero, callAt(impl.CaSetquota, root, 5, 8)),
			refuses(userZero, callAt(impl.CaSetquota, root, 4, 8), impl.EDQuot),
			refuses(userZero, callAt(impl.CaSetquota, root, 5, 7), impl.EDQuot),
			tells(someone, callAt(impl.CaGetquota, root), "0 0 5 8"),
		})
	}
}

func TestMakeAndTakeAway(t *testing.T) {
	v := impl.NewVol()
	v.Inodes[0].Mode = 0o777
	other := impl.Cred{Uid: 3, Gid: 7, Groups: []int{2}}
	left := checkRow(t, v, []doCase{
		ok(someone, callAt(impl.CaMkdir, "/d", 0o750)),
		tells(someone, callAt(impl.CaStat, "/d"), "2 488 2 2 2 0"),
		ok(someone, callAt(impl.CaCreate, "/d/f", 0o640)),
		tells(someone, callAt(impl.CaStat, "/d/f"), "1 416 2 2 1 0"),
		ok(other, callAt(impl.CaCreate, "/g/", 2047)),
		tells(someone, callAt(impl.CaStat, "/g"), "1 2047 3 7 1 0"),
		ok(other, callAt(impl.CaCreate, "/h", 0)),
		tells(someone, callAt(impl.CaStat, "/h"), "1 0 3 7 1 0"),
		ok(other, callTo(impl.CaSymlink, "/l", "d/./f//x")),
		tells(someone, callAt(impl.CaStat, "/l", 1), "3 511 3 7 1 8"),
		tells(someone, callAt(impl.CaReadlink, "/l"), "d/./f//x"),
		refuses(other, callAt(impl.CaMkdir, "/d/e", 0o755), impl.EAcces),
		ok(someone, callAt(impl.CaMkdir, "/d/e", 0o755)),
		tells(someone, callAt(impl.CaStat, "/d"), "2 488 2 2 3 0"),
		tells(someone, callAt(impl.CaReaddir, "/d/"), "e/f"),
		tells(someone, callAt(impl.CaReaddir, "/d/e"), ""),
		tells(someone, callAt(impl.CaReaddir, "/"), "d/g/h/l"),
		tells(someone, callAt(impl.CaStatfs, ""), "7 8"),
		ok(someone, callAt(impl.CaRmdir, "/d/e")),
		refuses(someone, callAt(impl.CaRmdir, "/d/e"), impl.ENoEnt),
		refuses(someone, callAt(impl.CaRmdir, "/d"), impl.ENotEmpty),
		ok(someone, callAt(impl.CaUnlink, "/d/f")),
		refuses(someone, callAt(impl.CaStat, "/d/f"), impl.ENoEnt),
		ok(someone, callAt(impl.CaRmdir, "/d")),
		// Of files in a directory that all may change, any one may take away.
		ok(someone, callAt(impl.CaUnlink, "/g")),
		ok(someone, callAt(impl.CaUnlink, "/l")),
		ok(someone, callAt(impl.CaUnlink, "/h")),
		tells(someone, callAt(impl.CaStatfs, ""), "1 0"),
		ok(someone, callAt(impl.CaMkdir, "/again", 0)),
	})
	// The numbers of what is gone don't come again.
	want := impl.Vol{Next: 9, Inodes: []impl.Inode{{Id: 1, Kind: impl.KdDir, Mode: 0o777, Names: dirents("again", 8)}, {Id: 8, Kind: impl.KdDir, Uid: 2, Gid: 2}}}
	if !sameVol(left, want) {
		t.Errorf("left: %+v", left)
	}
}

// A link is made, taken away, moved and named itself, not what it leads to; a new name behind it comes where it leads.
func TestCallsAtLinks(t *testing.T) {
	v := volOf(dirAt("/d"), holding(fileAt("/d/f"), "abc"), linkAt("/tod", "d"), linkAt("/tof", "tod/f"), linkAt("/tonew", "d/new"), dirAt("/e"))
	checkEach(t, v, []doCase{
		refuses(userZero, callAt(impl.CaCreate, "/tonew"), impl.EExist),
		refuses(userZero, callAt(impl.CaMkdir, "/tonew"), impl.EExist),
		refuses(userZero, callTo(impl.CaLink, "/d/f", "/tonew"), impl.EExist),
		refuses(userZero, callAt(impl.CaRmdir, "/tod"), impl.ENotDir),
		refuses(userZero, callTo(impl.CaRename, "/e", "/tod"), impl.ENotDir),
		refuses(userZero, callTo(impl.CaRename, "/tod", "/e"), impl.EIsDir),
		refuses(userZero, callAt(impl.CaRead, "/tonew"), impl.ENoEnt),
		refuses(userZero, writeAt("/tonew", 0, "x"), impl.ENoEnt),
		refuses(userZero, callAt(impl.CaStat, "/tonew"), impl.ENoEnt),
		tells(userZero, callAt(impl.CaStat, "/tonew", 1), "3 511 0 0 1 5"),
		tells(userZero, callAt(impl.CaStat, "/tof"), "1 420 0 0 1 3"),
		tells(userZero, callAt(impl.CaStat, "/tof", 1), "3 511 0 0 1 5"),
		tells(userZero, callAt(impl.CaStat, "/tod/f", 1), "1 420 0 0 1 3"),
		tells(userZero, callAt(impl.CaStat, "/tod"), "2 493 0 0 2 0"),
		tells(userZero, callAt(impl.CaReaddir, "/tod"), "f"),
		tells(userZero, callAt(impl.CaRead, "/tof", 0, 3), "abc"),
		tells(userZero, callAt(impl.CaReadlink, "/tof"), "tod/f"),
		refuses(userZero, callAt(impl.CaReadlink, "/tod/f"), impl.EInval),
		tells(userZero, callAt(impl.CaGetquota, "/tod"), "0 0 3 1"),
		refuses(userZero, callAt(impl.CaGetquota, "/tof"), impl.ENotDir),
	})
	left := checkRow(t, v, []doCase{
		ok(userZero, callAt(impl.CaCreate, "/tod/g", 0o600)),
		tells(userZero, callAt(impl.CaReaddir, "/d"), "f/g"),
		ok(userZero, writeAt("/tof", 3, "d")),
		tells(userZero, callAt(impl.CaRead, "/d/f", 0, 9), "abcd"),
		ok(userZero, callAt(impl.CaChmod, "/tof", 0)),
		ok(userZero, callAt(impl.CaChown, "/tof", 5, 6)),
		ok(userZero, callAt(impl.CaSetquota, "/tod", 9, 9)),
		tells(userZero, callAt(impl.CaStat, "/d/f"), "1 0 5 6 1 4"),
		tells(userZero, callAt(impl.CaGetquota, "/d"), "9 9 4 2"),
		ok(userZero, callTo(impl.CaLink, "/tof", "/e/tof")),
		tells(userZero, callAt(impl.CaStat, "/e/tof", 1), "3 511 0 0 2 5"),
		ok(userZero, callTo(impl.CaRename, "/tof", "/tonew")),
		tells(userZero, callAt(impl.CaReadlink, "/tonew"), "tod/f"),
		ok(userZero, callAt(impl.CaUnlink, "/tod")),
		tells(userZero, callAt(impl.CaReaddir, "/d"), "f/g"),
		refuses(userZero, callAt(impl.CaStat, "/tonew"), impl.ENoEnt),
		tells(userZero, callAt(impl.CaReaddir, "/"), "d/e/tonew"),
	})
	if len(left.Inodes) != 6 {
		t.Errorf("left: %+v", left)
	}
}

func TestNamesInAFullDirectory(t *testing.T) {
	v := flawVol()
	v.Inodes[1].Names = dirents("e", 5, "f", 3, "l", 4, "m1", 3, "m2", 3, "m3", 3, "m4", 3, "m5", 3, "m6", 3, "m7", 3, "m8", 3)
	for _, x := range []impl.Call{callAt(impl.CaMkdir, "/d/new"), callAt(impl.CaCreate, "/d/new"), callTo(impl.CaSymlink, "/d/new", "f"), callTo(impl.CaLink, "/t/f", "/d/new"), callTo(impl.CaRename, "/t/f", "/d/new")} {
		again := x
		if x.Kind == impl.CaLink || x.Kind == impl.CaRename {
			again.Path, again.To = "/q", "/d/newer"
		} else {
			again.Path = "/d/newer"
		}
		v.Inodes[0].Mode = 0o777
		left := checkRow(t, v, []doCase{ok(someone, x), refuses(someone, again, impl.ENoSpc)})
		if len(left.Inodes[1].Names) != impl.MaxEntries {
			t.Errorf("left: %+v", left)
		}
		// Where no name is added in all, there is room: within the directory, onto one in it, and out of it.
		checkEach(t, left, []doCase{
			ok(someone, callTo(impl.CaRename, "/d/m1", "/d/other")),
			ok(someone, callTo(impl.CaRename, "/q", "/d/m1")),
			ok(someone, callTo(impl.CaRename, "/d/m1", "/other")),
			ok(someone, callTo(impl.CaRename, "/t/e", "/d/e")),
			ok(someone, callTo(impl.CaRename, "/d/m1", "/d/m2")),
			refuses(someone, callTo(impl.CaRename, "/t/e", "/d/other"), impl.ENoSpc),
		})
	}
}

func TestInodesInAFullVolume(t *testing.T) {
	v := wideVol(23)
	v.Inodes[1].Names = v.Inodes[1].Names[:10]
	makes := []impl.Call{callAt(impl.CaMkdir, "/a/new"), callAt(impl.CaCreate, "/a/new"), callTo(impl.CaSymlink, "/a/new", "f")}
	for _, x := range makes {
		left := checkRow(t, v, []doCase{ok(userZero, x)})
		if len(left.Inodes) != impl.MaxInodes {
			t.Fatalf("left: %+v", left)
		}
		for _, y := range makes {
			y.Path = "/a/newer"
			// Another name is no inode; and where one goes there is room again.
			checkRow(t, left, []doCase{refuses(userZero, y, impl.ENoSpc), ok(userZero, callTo(impl.CaLink, "/bd", "/a/newer")), ok(userZero, callAt(impl.CaUnlink, "/a/newer")),
				refuses(userZero, y, impl.ENoSpc), ok(userZero, callAt(impl.CaUnlink, "/bd")), ok(userZero, y)})
		}
	}
	last := flawVol()
	last.Next = impl.MaxId - 1
	for _, x := range makes {
		x.Path = "/d/new"
		left := checkRow(t, last, []doCase{ok(userZero, x)})
		if left.Next != impl.MaxId || left.Inodes[9].Id != impl.MaxId-1 {
			t.Errorf("left: %+v", left)
		}
		for _, y := range makes {
			y.Path = "/d/newer"
			checkRow(t, left, []doCase{refuses(userZero, y, impl.ENoSpc), ok(userZero, callAt(impl.CaUnlink, "/d/f")), refuses(userZero, y, impl.ENoSpc), ok(userZero, callTo(impl.CaLink, "/t/f", "/d/newer"))})
		}
	}
}

// What a file has may be just MaxFile bytes, by each call that makes it longer.
func TestAsLongAsAFileMayBe(t *testing.T) {
	v := volOf(holding(fileAt("/f"), strings.Repeat("f", 60)), fileAt("/g"))
	full := strings.Repeat("f", 60)
	cases := []struct {
		x     impl.Call
		whole string
	}{
		{writeAt("/f", 60, "1234"), full + "1234"},
		{writeAt("/f", 61, "123"), full + "\x00123"},
		{writeAt("/f", 63, "1"), full + "\x00\x00\x001"},
		{writeAt("/f", 0, strings.Repeat("x", 64)), strings.Repeat("x", 64)},
		{writeAt("/g", 0, strings.Repeat("x", 64)), strings.Repeat("x", 64)},
		{writeAt("/g", 63, "x"), strings.Repeat("\x00", 63) + "x"},
		{appendTo("/f", "1234"), full + "1234"},
		{appendTo("/g", strings.Repeat("x", 64)), strings.Repeat("x", 64)},
		{callAt(impl.CaTrunc, "/f", 64), full + "\x00\x00\x00\x00"},
		{callAt(impl.CaTrunc, "/g", 64), strings.Repeat("\x00", 64)},
	}
	for _, c := range cases {
		left := checkRow(t, v, []doCase{ok(userZero, c.x), tells(userZero, callAt(impl.CaRead, c.x.Path, 0, 64), c.whole), tells(userZero, callAt(impl.CaRead, c.x.Path, 0, 65), c.whole)})
		checkEach(t, left, []doCase{refuses(userZero, appendTo(c.x.Path, "x"), impl.EFBig), refuses(userZero, writeAt(c.x.Path, 64, "x"), impl.EFBig), ok(userZero, appendTo(c.x.Path, "")), ok(userZero, writeAt(c.x.Path, 64, "")), ok(userZero, writeAt(c.x.Path, 63, "x"))})
	}
	checkEach(t, v, []doCase{
		refuses(userZero, writeAt("/f", 60, "12345"), impl.EFBig),
		refuses(userZero, writeAt("/f", 1, strings.Repeat("x", 64)), impl.EFBig),
		refuses(userZero, writeAt("/g", 64, "x"), impl.EFBig),
		refuses(userZero, writeAt("/g", 1000000, "x"), impl.EFBig),
		refuses(userZero, appendTo("/f", "12345"), impl.EFBig),
		refuses(userZero, callAt(impl.CaTrunc, "/f", 65), impl.EFBig),
		refuses(userZero, callAt(impl.CaTrunc, "/g", 1000000), impl.EFBig),
	})
}

// What all files and links have may be just MaxBytes.
func TestAsManyBytesAsThereMayBe(t *testing.T) {
	v := bytesVol(395)
	named(&v, "x", impl.Inode{Id: v.Next, Kind: impl.KdFile, Data: "x"})
	for _, c := range []struct{ fits, more impl.Call }{
		{writeAt("/x", 1, "1234"), writeAt("/x", 1, "12345")},
		{writeAt("/x", 0, "12345"), writeAt("/x", 0, "123456")},
		{writeAt("/x", 4, "1"), writeAt("/x", 5, "1")},
		{appendTo("/x", "1234"), appendTo("/x", "12345")},
		{callAt(impl.CaTrunc, "/x", 5), callAt(impl.CaTrunc, "/x", 6)},
		{callTo(impl.CaSymlink, "/l", "abcd"), callTo(impl.CaSymlink, "/l", "abcde")},
	} {
		checkEach(t, v, []doCase{refuses(userZero, c.more, impl.ENoSpc)})
		checkRow(t, v, []doCase{ok(userZero, c.fits), refuses(userZero, appendTo("/x", "1"), impl.ENoSpc), refuses(userZero, callTo(impl.CaSymlink, "/k", "a"), impl.ENoSpc),
			ok(userZero, callAt(impl.CaCreate, "/k")), ok(userZero, callTo(impl.CaLink, "/x", "/y")), ok(userZero, callAt(impl.CaTrunc, "/x", 0)), ok(userZero, callTo(impl.CaSymlink, "/j", "a"))})
	}
}

// quotaVol has 2 /up with 3 /up/d, 4 /up/d/f, 5 /up/g; 6 /o with 7 /o/f, 8 /o/e, 9 /o/e/h.
func quotaVol(upB, upI, dirB, dirI int) impl.Vol {
	return volOf(bounded(dirAt("/up"), upB, upI), bounded(dirAt("/up/d"), dirB, dirI), holding(fileAt("/up/d/f"), "abc"), holding(fileAt("/up/g"), "de"),
		dirAt("/o"), holding(fileAt("/o/f"), "fghi"), dirAt("/o/e"), holding(fileAt("/o/e/h"), "jk"))
}

// Of each directory it counts what is below it, at it and above it, met exactly and passed by one.
func TestQuotas(t *testing.T) {
	for _, c := range []struct {
		what          string
		x             impl.Call
		bytes, inodes int
	}{
		{"a directory", callAt(impl.CaMkdir, "/up/d/n"), 0, 1},
		{"a file", callAt(impl.CaCreate, "/up/d/n"), 0, 1},
		{"a link", callTo(impl.CaSymlink, "/up/d/n", "abcde"), 5, 1},
		{"another name", callTo(impl.CaLink, "/o/f", "/up/d/n"), 4, 1},
		{"a file moved", callTo(impl.CaRename, "/o/f", "/up/d/n"), 4, 1},
		{"a directory moved", callTo(impl.CaRename, "/o/e", "/up/d/n"), 2, 2},
		{"bytes written", writeAt("/up/d/f", 2, "1234"), 3, 0},
		{"bytes added", appendTo("/up/d/f", "12"), 2, 0},
		{"a file made longer", callAt(impl.CaTrunc, "/up/d/f", 10), 7, 0},
		{"a file moved onto one", callTo(impl.CaRename, "/o/f", "/up/d/f"), 1, 0},
	} {
		for _, by := range []int{-1, 0, 1} {
			// The lower one has 3 bytes in 1 inode, the upper one 5 in 3.
			for _, at := range []struct{ upB, upI, dirB, dirI, more int }{
				{5 + c.bytes + by, 0, 0, 0, c.bytes}, {0, 3 + c.inodes + by, 0, 0, c.inodes}, {0, 0, 3 + c.bytes + by, 0, c.bytes}, {0, 0, 0, 1 + c.inodes + by, c.inodes},
				{5 + c.bytes + by, 3 + c.inodes, 3 + c.bytes, 1 + c.inodes, c.bytes}, {5 + c.bytes, 3 + c.inodes, 3 + c.bytes, 1 + c.inodes + by, c.inodes},
			} {
				// Where nothing is added, one less would be over from the beginning on.
				if at.more == 0 && by < 0 {
					continue
				}
				want := doCase{c: userZero, x: c.x}
				if by < 0 {
					want.code = impl.EDQuot
				}
				checkEach(t, quotaVol(at.upB, at.upI, at.dirB, at.dirI), []doCase{want})
			}
		}
	}
}

// A file with two names counts once, below each directory that it is below.
func TestQuotasOfTwoNames(t *testing.T) {
	// The file f is in both directories, so what is above counts it once.
	tight := checkRow(t, quotaVol(5, 3, 3, 1), []doCase{
		ok(userZero, callTo(impl.CaLink, "/up/d/f", "/up/f")),
		ok(userZero, callTo(impl.CaLink, "/up/f", "/up/d/more")),
		tells(userZero, callAt(impl.CaGetquota, "/up"), "5 3 5 3"),
		tells(userZero, callAt(impl.CaGetquota, "/up/d"), "3 1 3 1"),
		tells(userZero, callAt(impl.CaGetquota, "/"), "0 0 11 8"),
		refuses(userZero, callTo(impl.CaLink, "/up/g", "/up/d/g"), impl.EDQuot),
		refuses(userZero, callTo(impl.CaLink, "/o/f", "/up/o"), impl.EDQuot),
		ok(userZero, callTo(impl.CaLink, "/up/d/f", "/o/f2")),
		// By a name that stands elsewhere, it grows here.
		refuses(userZero, appendTo("/o/f2", "!"), impl.EDQuot),
		refuses(userZero, writeAt("/o/f2", 3, "!"), impl.EDQuot),
		refuses(userZero, callAt(impl.CaTrunc, "/o/f2", 4), impl.EDQuot),
		ok(userZero, writeAt("/o/f2", 0, "xyz")),
		tells(userZero, callAt(impl.CaRead, "/up/d/f", 0, 9), "xyz"),
		ok(userZero, callAt(impl.CaUnlink, "/up/d/f")),
		refuses(userZero, callAt(impl.CaCreate, "/up/d/new"), impl.EDQuot),
		ok(userZero, callAt(impl.CaUnlink, "/up/d/more")),
		tells(userZero, callAt(impl.CaGetquota, "/up/d"), "3 1 0 0"),
		tells(userZero, callAt(impl.CaGetquota, "/up"), "5 3 5 3"),
		refuses(userZero, callAt(impl.CaCreate, "/up/d/new"), impl.EDQuot),
		ok(userZero, callAt(impl.CaUnlink, "/up/f")),
		tells(userZero, callAt(impl.CaGetquota, "/up"), "5 3 2 2"),
		tells(userZero, callAt(impl.CaStat, "/o/f2"), "1 420 0 0 1 3"),
		ok(userZero, callAt(impl.CaCreate, "/up/d/new")),
	})
	checkEach(t, tight, []doCase{ok(userZero, appendTo("/o/f2", "!")), ok(userZero, appendTo("/up/d/new", "123")), refuses(userZero, appendTo("/up/d/new", "1234"), impl.EDQuot)})
	// A move within what has the quota adds nothing to it.
	checkEach(t, quotaVol(5, 3, 3, 1), []doCase{
		ok(userZero, callTo(impl.CaRename, "/up/d/f", "/up/f")),
		ok(userZero, callTo(impl.CaRename, "/up/g", "/up/d/f")),
		refuses(userZero, callTo(impl.CaRename, "/up/g", "/up/d/g"), impl.EDQuot),
		ok(userZero, callTo(impl.CaRename, "/up/d", "/up/e")),
		ok(userZero, callTo(impl.CaRename, "/up/d", "/o/d")),
		refuses(userZero, callTo(impl.CaRename, "/o/e", "/up/d/e"), impl.EDQuot),
		refuses(userZero, callTo(impl.CaRename, "/o/f", "/up/g"), impl.EDQuot),
	})
}

func TestSetAndGetQuota(t *testing.T) {
	v := quotaVol(0, 0, 0, 0)
	checkEach(t, v, []doCase{
		ok(userZero, callAt(impl.CaSetquota, "/up", 5, 3)),
		ok(userZero, callAt(impl.CaSetquota, "/up", 0, 0)),
		ok(userZero, callAt(impl.CaSetquota, "/up", 5, 0)),
		ok(userZero, callAt(impl.CaSetquota, "/up", 0, 3)),
		ok(userZero, callAt(impl.CaSetquota, "/up", 400, 24)),
		refuses(userZero, callAt(impl.CaSetquota, "/up", 4, 0), impl.EDQuot),
		refuses(userZero, callAt(impl.CaSetquota, "/up", 0, 2), impl.EDQuot),
		refuses(userZero, callAt(impl.CaSetquota, "/up", 4, 24), impl.EDQuot),
		refuses(userZero, callAt(impl.CaSetquota, "/up", 400, 2), impl.EDQuot),
		refuses(userZero, callAt(impl.CaSetquota, "/up", 401, 24), impl.EInval),
		refuses(userZero, callAt(impl.CaSetquota, "/up", 400, 25), impl.EInval),
		refuses(userZero, callAt(impl.CaSetquota, "/up", -1, 24), impl.EInval),
		refuses(userZero, callAt(impl.CaSetquota, "/up", 400, -1), impl.EInval),
		refuses(someone, callAt(impl.CaSetquota, "/up", 401, 0), impl.EInval),
		refuses(someone, callAt(impl.CaSetquota, "/none", 0, 0), impl.EPerm),
		refuses(impl.Cred{Uid: 1}, callAt(impl.CaSetquota, "/up", 0, 0), impl.EPerm),
		ok(impl.Cred{Gid: 9, Groups: []int{8}}, callAt(impl.CaSetquota, "/up", 9, 9)),
		tells(someone, callAt(impl.CaGetquota, "/"), "0 0 11 8"),
	})
	// Of a directory that has nothing yet, any bound holds.
	checkRow(t, impl.NewVol(), []doCase{
		ok(userZero, callAt(impl.CaSetquota, "/", 1, 1)),
		tells(someone, callAt(impl.CaGetquota, "/"), "1 1 0 0"),
		ok(userZero, callAt(impl.CaCreate, "/f")),
		refuses(userZero, callAt(impl.CaCreate, "/g"), impl.EDQuot),
		ok(userZero, appendTo("/f", "x")),
		refuses(userZero, appendTo("/f", "x"), impl.EDQuot),
		refuses(userZero, callAt(impl.CaSetquota, "/f", 1, 1), impl.ENotDir),
		ok(userZero, callAt(impl.CaSetquota, "/", 0, 0)),
		ok(userZero, callAt(impl.CaCreate, "/g")),
		tells(someone, callAt(impl.CaGetquota, "/"), "0 0 1 2"),
		refuses(userZero, callAt(impl.CaSetquota, "/", 0, 1), impl.EDQuot),
		ok(userZero, callAt(impl.CaSetquota, "/", 0, 2)),
		ok(userZero, callAt(impl.CaSetquota, "/", 1, 2)),
		tells(someone, callAt(impl.CaGetquota, "/"), "1 2 1 2"),
	})
}

func TestGroupOfADirectory(t *testing.T) {
	for _, mode := range []int{0o777, impl.MdGroup | 0o777, impl.MdGroup | impl.MdSticky | 0o777, impl.MdSticky | 0o777} {
		v := volOf(owned(dirAt("/d"), 9, 7, mode))
		group, bit := 2, 0
		if mode&impl.MdGroup > 0 {
			group, bit = 7, impl.MdGroup
		}
		for _, c := range []impl.Cred{someone, {Uid: 2, Gid: 2, Groups: []int{7}}} {
			for _, n := range []int{0, 0o755, impl.MdSticky, impl.MdGroup, impl.MaxMode} {
				stat := func(kind, mode, links, bytes int) string { return fmt.Sprint(kind, mode, 2, group, links, bytes) }
				checkRow(t, v, []doCase{
					ok(c, callAt(impl.CaMkdir, "/d/d", n)), tells(c, callAt(impl.CaStat, "/d/d"), stat(2, n|bit, 2, 0)),
					ok(c, callAt(impl.CaCreate, "/d/f", n)), tells(c, callAt(impl.CaStat, "/d/f"), stat(1, n, 1, 0)),
					ok(c, callTo(impl.CaSymlink, "/d/l", "ff")), tells(c, callAt(impl.CaStat, "/d/l", 1), stat(3, 511, 1, 2)),
					// What is only named or moved there keeps its group.
					ok(userZero, callAt(impl.CaMkdir, "/o", 0o777)), ok(c, callAt(impl.CaCreate, "/o/f", n)), ok(c, callTo(impl.CaRename, "/o/f", "/d/o")),
					tells(c, callAt(impl.CaStat, "/d/o"), fmt.Sprint(1, n, 2, 2, 1, 0)),
				})
			}
		}
	}
	// It goes on from directory to directory.
	checkRow(t, volOf(owned(dirAt("/d"), 9, 7, impl.MdGroup|0o777)), []doCase{
		ok(someone, callAt(impl.CaMkdir, "/d/e", 0o700)), ok(someone, callAt(impl.CaMkdir, "/d/e/g", 0o700)), ok(someone, callAt(impl.CaCreate, "/d/e/g/f", 0o600)),
		tells(someone, callAt(impl.CaStat, "/d/e/g/f"), "1 384 2 7 1 0"), tells(someone, callAt(impl.CaStat, "/d/e/g"), "2 1472 2 7 2 0"),
	})
}

func TestChmod(t *testing.T) {
	in, out, byGroups := impl.Cred{Uid: 2, Gid: 7}, impl.Cred{Uid: 2, Gid: 2, Groups: []int{6, 8}}, impl.Cred{Uid: 2, Gid: 2, Groups: []int{6, 7}}
	for _, path := range []string{"/d", "/f"} {
		v := volOf(owned(dirAt("/d"), 2, 7, 0o777), owned(fileAt("/f"), 2, 7, impl.MaxMode))
		for _, n := range []int{0, 1, 0o755, impl.MdSticky, impl.MdSticky | 0o777, impl.MdGroup, impl.MdGroup | 0o777, impl.MaxMode} {
			for _, c := range []impl.Cred{in, byGroups, userZero, out} {
				want := n
				if slices.Equal(c.Groups, out.Groups) {
					want = n &^ impl.MdGroup
				}
				left := checkRow(t, v, []doCase{ok(c, callAt(impl.CaChmod, path, n))})
				if path == "/d" {
					left.Inodes[1].Mode, left.Inodes[2].Mode = left.Inodes[2].Mode, left.Inodes[1].Mode
				}
				if left.Inodes[2].Mode != want || left.Inodes[2].Uid != 2 || left.Inodes[2].Gid != 7 {
					t.Errorf("%s by %+v to %d: %+v", path, c, n, left)
				}
			}
			checkEach(t, v, []doCase{refuses(impl.Cred{Uid: 7, Gid: 7}, callAt(impl.CaChmod, path, n), impl.EPerm), refuses(impl.Cred{Uid: 1, Groups: []int{7}}, callAt(impl.CaChmod, path, n), impl.EPerm)})
		}
	}
}

func TestChown(t *testing.T) {
	own := impl.Cred{Uid: 2, Gid: 3, Groups: []int{5, 6}}
	v := volOf(owned(dirAt("/d"), 2, 7, 0o777), owned(fileAt("/f"), 2, 7, 0o600), linkAt("/l", "f"))
	for _, path := range []string{"/d", "/f", "/l"} {
		checkEach(t, v, []doCase{
			ok(own, callAt(impl.CaChown, path, 2, 3)),
			ok(own, callAt(impl.CaChown, path, 2, 5)),
			ok(own, callAt(impl.CaChown, path, 2, 6)),
			refuses(own, callAt(impl.CaChown, path, 2, 7), impl.EPerm),
			refuses(own, callAt(impl.CaChown, path, 2, 2), impl.EPerm),
			refuses(own, callAt(impl.CaChown, path, 3, 3), impl.EPerm),
			refuses(own, callAt(impl.CaChown, path, 0, 3), impl.EPerm),
			refuses(impl.Cred{Uid: 3, Gid: 7}, callAt(impl.CaChown, path, 2, 7), impl.EPerm),
			refuses(impl.Cred{Uid: 3, Gid: 7}, callAt(impl.CaChown, path, 3, 7), impl.EPerm),
			ok(userZero, callAt(impl.CaChown, path, 0, 0)),
			ok(userZero, callAt(impl.CaChown, path, 1000, 1000)),
			refuses(userZero, callAt(impl.CaChown, path, 1001, 1000), impl.EInval),
			refuses(userZero, callAt(impl.CaChown, path, 1000, 1001), impl.EInval),
		})
	}
	checkRow(t, v, []doCase{
		ok(own, callAt(impl.CaChown, "/f", 2, 5)), tells(own, callAt(impl.CaStat, "/f"), "1 384 2 5 1 0"),
		ok(userZero, callAt(impl.CaChown, "/f", 9, 8)), tells(own, callAt(impl.CaStat, "/f"), "1 384 9 8 1 0"),
		refuses(own, callAt(impl.CaChown, "/f", 2, 5), impl.EPerm), refuses(own, callAt(impl.CaChmod, "/f", 0o777), impl.EPerm),
		ok(impl.Cred{Uid: 9, Gid: 1}, callAt(impl.CaChown, "/f", 9, 1)), tells(own, callAt(impl.CaStat, "/f"), "1 384 9 1 1 0"),
		ok(userZero, callAt(impl.CaChown, "/l", 2, 2)), tells(own, callAt(impl.CaStat, "/f"), "1 384 2 2 1 0"), tells(own, callAt(impl.CaStat, "/l", 1), "3 511 0 0 1 1"),
	})
}

func TestAccess(t *testing.T) {
	for _, s := range sides() {
		for bit := range 9 {
			for _, kind := range kinds[:2] {
				v := volOf(made{"/n", impl.Inode{Kind: kind, Mode: 1 << bit, Uid: 2, Gid: 5}})
				for n := range 8 {
					want := refuses(s.c, callAt(impl.CaAccess, "/n", n), impl.EAcces)
					if n == 0 || n*s.from == 1<<bit {
						want.code = impl.EOk
					}
					checkEach(t, v, []doCase{want})
				}
			}
		}
	}
	checkEach(t, volOf(owned(fileAt("/f"), 2, 2, 0), dirAt("/d")), []doCase{
		ok(userZero, callAt(impl.CaAccess, "/f", 6)), refuses(userZero, callAt(impl.CaAccess, "/f", 1), impl.EAcces), refuses(userZero, callAt(impl.CaAccess, "/f", 7), impl.EAcces),
		ok(userZero, callAt(impl.CaAccess, "/d", 7)), refuses(userZero, callAt(impl.CaAccess, "/d", 8), impl.EInval), refuses(userZero, callAt(impl.CaAccess, "/none", 0), impl.ENoEnt),
	})
}

func TestRename(t *testing.T) {
	v := volOf(dirAt("/a"), dirAt("/a/b"), dirAt("/a/b/c"), holding(fileAt("/f"), "f"), holding(fileAt("/g"), "g"), dirAt("/e"), linkAt("/l", "a/b"))
	v.Inodes[0].Names = dirents("a", 2, "e", 7, "f", 5, "f2", 5, "g", 6, "l", 8)
	at := func(from, to string) impl.Call { return callTo(impl.CaRename, from, to) }
	checkEach(t, v, []doCase{
		// To itself, and to below itself.
		ok(userZero, at("/a", "/a")), ok(userZero, at("/f", "/f")), ok(userZero, at("/l", "/l")), ok(userZero, at("/a/b", "/a/../a/b/")), ok(userZero, at("/a/b", "/l/../b")),
		refuses(userZero, at("/a", "/a/new"), impl.EInval), refuses(userZero, at("/a", "/a/b"), impl.EInval), refuses(userZero, at("/a", "/a/b/c"), impl.EInval),
		refuses(userZero, at("/a", "/a/b/c/new"), impl.EInval), refuses(userZero, at("/a", "/l/new"), impl.EInval), refuses(userZero, at("/a/b", "/l/c/new"), impl.EInval), refuses(userZero, at("/a/b", "/a/b/c"), impl.EInval),
		refuses(userZero, at("/a", "/a/."), impl.EBusy), refuses(userZero, at("/a/..", "/new"), impl.EBusy),
		// Onto what it is in.
		refuses(userZero, at("/a/b", "/a"), impl.ENotEmpty), refuses(userZero, at("/a/b/c", "/a"), impl.ENotEmpty), refuses(userZero, at("/a/b/c", "/a/b"), impl.ENotEmpty),
		// Onto another name of the same inode, a file, an empty directory, and one with names.
		ok(userZero, at("/f", "/f2")), ok(userZero, at("/f", "/g")), ok(userZero, at("/f", "/l")), ok(userZero, at("/l", "/f")),
		refuses(userZero, at("/f", "/e"), impl.EIsDir), refuses(userZero, at("/f", "/a"), impl.EIsDir), refuses(userZero, at("/a", "/f"), impl.ENotDir), refuses(userZero, at("/a", "/l"), impl.ENotDir),
		ok(userZero, at("/a", "/e")), ok(userZero, at("/e", "/a/b/c")), refuses(userZero, at("/e", "/a"), impl.ENotEmpty), refuses(userZero, at("/e", "/a/b"), impl.ENotEmpty),
		// To's path that has no more than its last part to be made, and one that has.
		refuses(userZero, at("/f", "/none/x"), impl.ENoEnt), refuses(userZero, at("/f", "/new/."), impl.ENoEnt), refuses(userZero, at("/f", "/g/x"), impl.ENotDir), refuses(userZero, at("/f", ""), impl.EInval),
		refuses(userZero, at("/f", "f"), impl.EInval), refuses(userZero, at("/f", "/123456789"), impl.ENameTooLong), refuses(userZero, at("/none", "/new"), impl.ENoEnt), refuses(userZero, at("/none", ""), impl.ENoEnt),
	})
	same := func(x impl.Call) {
		t.Helper()
		if got, _ := do(t, v, userZero, x); !sameVol(got, v) {
			t.Errorf("%+v leaves %+v", x, got)
		}
	}
	same(at("/f", "/f2"))
	same(at("/f2", "/f"))
	same(at("/a", "/a"))
	names := func(x impl.Call, inodes int, path, want string) {
		t.Helper()
		got, _ := do(t, v, userZero, x)
		if _, res := do(t, got, userZero, callAt(impl.CaReaddir, path)); res.Data != want || len(got.Inodes) != inodes || got.Next != v.Next {
			t.Errorf("%+v leaves %d inodes and %q in %s", x, len(got.Inodes), res.Data, path)
		}
	}
	names(at("/f", "/g"), 7, "/", "a/e/f2/g/l")
	names(at("/g", "/f"), 8, "/", "a/e/f/f2/l")
	names(at("/g", "/f2"), 8, "/", "a/e/f/f2/l")
	names(at("/f", "/0"), 8, "/", "0/a/e/f2/g/l")
	names(at("/f", "/zz"), 8, "/", "a/e/f2/g/l/zz")
	names(at("/f", "/a/b/0"), 8, "/l", "0/c")
	names(at("/a", "/e"), 7, "/", "e/f/f2/g/l")
	names(at("/a", "/e"), 7, "/e", "b")
	names(at("/a/b", "/new"), 8, "/new", "c")
	names(at("/e", "/a/b/c"), 7, "/a/b", "c")
}

// Whose names may be moved, and onto whose: the bits of both directories, and whose things are taken.
func TestRenameBySomeone(t *testing.T) {
	v := volOf(lockedAt("/s", impl.MdSticky|0o777), owned(fileAt("/s/mine"), 2, 2, 0), owned(fileAt("/s/its"), 9, 9, 0), lockedAt("/o", 0o777), owned(fileAt("/o/its"), 9, 9, 0), owned(fileAt("/o/mine"), 2, 2, 0),
		lockedAt("/r", 0o775), fileAt("/r/f"), owned(dirAt("/s/dir"), 9, 9, 0o777), owned(dirAt("/o/dir"), 2, 2, 0o777), owned(lockedAt("/m", 0), 2, 2, impl.MdSticky|0o700), owned(fileAt("/m/its"), 9, 9, 0))
	at := func(from, to string) impl.Call { return callTo(impl.CaRename, from, to) }
	checkEach(t, v, []doCase{
		ok(someone, at("/s/mine", "/s/new")), refuses(someone, at("/s/its", "/s/new"), impl.EPerm), ok(someone, at("/o/its", "/o/new")), ok(someone, at("/o/its", "/s/mine")),
		refuses(someone, at("/o/mine", "/s/its"), impl.EPerm), ok(someone, at("/s/mine", "/o/its")), refuses(someone, at("/s/its", "/o/its"), impl.EPerm), refuses(someone, at("/s/its", "/s/its"), impl.EPerm),
		refuses(someone, at("/r/f", "/o/new"), impl.EAcces), refuses(someone, at("/o/its", "/r/new"), impl.EAcces), refuses(someone, at("/o/its", "/r/f"), impl.EAcces), refuses(someone, at("/r/f", "/r/f"), impl.EAcces),
		refuses(someone, at("/o/dir", "/s/dir"), impl.EPerm), refuses(someone, at("/o/dir", "/s/its"), impl.EPerm), refuses(someone, at("/o/mine", "/s/dir"), impl.EPerm), ok(userZero, at("/o/dir", "/s/dir")),
		ok(someone, at("/m/its", "/o/its")), ok(someone, at("/o/mine", "/m/its")), ok(userZero, at("/s/its", "/m/its")), refuses(impl.Cred{Uid: 9}, at("/m/its", "/o/its"), impl.EAcces),
		ok(impl.Cred{Uid: 9}, at("/s/its", "/o/its")), refuses(impl.Cred{Uid: 9}, at("/s/mine", "/o/its"), impl.EPerm),
		refuses(someone, callAt(impl.CaUnlink, "/s/its"), impl.EPerm), ok(someone, callAt(impl.CaUnlink, "/s/mine")), ok(someone, callAt(impl.CaUnlink, "/o/its")), refuses(someone, callAt(impl.CaUnlink, "/r/f"), impl.EAcces),
		refuses(someone, callAt(impl.CaRmdir, "/s/dir"), impl.EPerm), ok(someone, callAt(impl.CaRmdir, "/o/dir")), ok(someone, callAt(impl.CaUnlink, "/m/its")), ok(userZero, callAt(impl.CaUnlink, "/s/its")),
		// A name is given by who may change the directory, whatever the file's own bits are.
		ok(someone, callTo(impl.CaLink, "/s/its", "/o/new")), refuses(someone, callTo(impl.CaLink, "/s/its", "/r/new"), impl.EAcces), ok(someone, callTo(impl.CaLink, "/r/f", "/s/new")),
	})
}

// To change a directory is to write it and to look into it, both.
func TestBothBitsToChange(t *testing.T) {
	for mode := range 8 {
		v := volOf(owned(dirAt("/d"), 2, 2, mode<<6), owned(fileAt("/d/f"), 2, 2, 0), owned(dirAt("/d/e"), 2, 2, 0), owned(dirAt("/t"), 2, 2, 0o700), owned(fileAt("/t/f"), 2, 2, 0))
		for _, x := range []impl.Call{callAt(impl.CaMkdir, "/d/new"), callAt(impl.CaCreate, "/d/new"), callTo(impl.CaSymlink, "/d/new", "f"), callAt(impl.CaUnlink, "/d/f"), callAt(impl.CaRmdir, "/d/e"),
			callTo(impl.CaLink, "/t/f", "/d/new"), callTo(impl.CaRename, "/t/f", "/d/new"), callTo(impl.CaRename, "/d/f", "/t/new")} {
			want := refuses(someone, x, impl.EAcces)
			if mode&3 == 3 {
				want.code = impl.EOk
			}
			checkEach(t, v, []doCase{want})
		}
	}
}

// One bit alone gives each call on a file and a directory.
func TestOneBitToReadAndWrite(t *testing.T) {
	for mode := range 8 {
		v := volOf(owned(fileAt("/f"), 2, 2, mode<<6), owned(lockedAt("/d", 0), 2, 2, mode<<6))
		for _, x := range []struct {
			x    impl.Call
			want int
		}{{callAt(impl.CaRead, "/f"), 4}, {writeAt("/f", 0, "x"), 2}, {writeAt("/f", 0, ""), 2}, {appendTo("/f", "x"), 2}, {callAt(impl.CaTrunc, "/f"), 2}, {callAt(impl.CaReaddir, "/d"), 4}} {
			want := refuses(someone, x.x, impl.EAcces)
			if mode&x.want > 0 {
				want.code = impl.EOk
			}
			checkEach(t, v, []doCase{want})
		}
		want := doCase{c: someone, x: callAt(impl.CaGetquota, "/d"), data: "0 0 0 0"}
		if mode&4 == 0 {
			want.code, want.data = impl.EAcces, ""
		}
		checkEach(t, v, []doCase{want, tells(someone, callAt(impl.CaStat, "/f"), fmt.Sprint(1, mode<<6, 2, 2, 1, 0))})
	}
}

func TestTwoNames(t *testing.T) {
	v := volOf(owned(dirAt("/d"), 2, 2, 0o755), owned(holding(fileAt("/d/f"), "abc"), 2, 2, 0o600))
	left := checkRow(t, v, []doCase{
		ok(someone, callTo(impl.CaLink, "/d/f", "/d/g")),
		tells(someone, callAt(impl.CaStat, "/d/f"), "1 384 2 2 2 3"),
		tells(someone, callAt(impl.CaStat, "/d/g"), "1 384 2 2 2 3"),
		refuses(someone, callTo(impl.CaLink, "/d/f", "/d/g"), impl.EExist),
		refuses(someone, callTo(impl.CaLink, "/d/f", "/d/f"), impl.EExist),
		ok(someone, writeAt("/d/g", 1, "XY")),
		tells(someone, callAt(impl.CaRead, "/d/f", 0, 9), "aXY"),
		ok(someone, appendTo("/d/f", "!")),
		tells(someone, callAt(impl.CaRead, "/d/g", 0, 9), "aXY!"),
		ok(someone, callAt(impl.CaChmod, "/d/g", 0o640)),
		tells(someone, callAt(impl.CaStat, "/d/f"), "1 416 2 2 2 4"),
		tells(someone, callAt(impl.CaStatfs, "/"), "3 4"),
		ok(someone, callAt(impl.CaUnlink, "/d/f")),
		refuses(someone, callAt(impl.CaRead, "/d/f"), impl.ENoEnt),
		tells(someone, callAt(impl.CaStat, "/d/g"), "1 416 2 2 1 4"),
		tells(someone, callAt(impl.CaRead, "/d/g", 0, 9), "aXY!"),
		tells(someone, callAt(impl.CaStatfs, "/"), "3 4"),
		ok(someone, callAt(impl.CaUnlink, "/d/g")),
		refuses(someone, callAt(impl.CaRead, "/d/g"), impl.ENoEnt),
		tells(someone, callAt(impl.CaStatfs, "/"), "2 0"),
	})
	if len(left.Inodes) != 2 || len(left.Inodes[1].Names) != 0 {
		t.Errorf("left: %+v", left)
	}
	// A name that another one is moved onto takes its inode along only if it was the last.
	two := volOf(fileAt("/f"), fileAt("/g"))
	two.Inodes[0].Names = dirents("f", 2, "f2", 2, "g", 3)
	checkRow(t, two, []doCase{
		ok(userZero, callTo(impl.CaRename, "/g", "/f")), tells(userZero, callAt(impl.CaStatfs, ""), "3 0"), tells(userZero, callAt(impl.CaStat, "/f2"), "1 420 0 0 1 0"),
		ok(userZero, callTo(impl.CaRename, "/f2", "/f")), tells(userZero, callAt(impl.CaStatfs, ""), "2 0"), tells(userZero, callAt(impl.CaReaddir, "/"), "f"),
	})
}

func TestReadAndWrite(t *testing.T) {
	v := volOf(holding(fileAt("/f"), "abcdef"), fileAt("/none"))
	var cases []doCase
	for n, rest := range map[int]string{0: "abcdef", 1: "bcdef", 5: "f", 6: "", 7: "", 64: "", 65: "", 1000000: ""} {
		for _, m := range []int{0, 1, 2, 5, 6, 7, 64, 1000000} {
			cases = append(cases, tells(someone, callAt(impl.CaRead, "/f", n, m), rest[:min(m, len(rest))]), tells(someone, callAt(impl.CaRead, "/none", n, m), ""))
		}
	}
	checkEach(t, v, cases)
	written := func(x impl.Call, want string) {
		t.Helper()
		checkRow(t, v, []doCase{ok(userZero, x), tells(userZero, callAt(impl.CaRead, x.Path, 0, 64), want)})
	}
	written(writeAt("/f", 0, "X"), "Xbcdef")
	written(writeAt("/f", 2, "XY"), "abXYef")
	written(writeAt("/f", 4, "XY"), "abcdXY")
	written(writeAt("/f", 5, "XY"), "abcdeXY")
	written(writeAt("/f", 6, "XY"), "abcdefXY")
	written(writeAt("/f", 7, "XY"), "abcdef\x00XY")
	written(writeAt("/f", 10, "\x00\xff"), "abcdef\x00\x00\x00\x00\x00\xff")
	written(writeAt("/f", 0, "1234567"), "1234567")
	written(writeAt("/none", 3, "X"), "\x00\x00\x00X")
	for _, n := range []int{0, 1, 6, 64, 65, 1000000} {
		written(writeAt("/f", n, ""), "abcdef")
	}
	for _, n := range []int{-1000000, -1, 0, 3, 64, 65, 1000000} {
		written(impl.Call{Kind: impl.CaAppend, Path: "/f", N: n, M: -n, Data: "XY"}, "abcdefXY")
		written(impl.Call{Kind: impl.CaAppend, Path: "/none", N: n, Data: "XY"}, "XY")
		written(impl.Call{Kind: impl.CaAppend, Path: "/f", N: n}, "abcdef")
	}
	for n, want := range map[int]string{0: "", 1: "a", 5: "abcde", 6: "abcdef", 7: "abcdef\x00", 10: "abcdef\x00\x00\x00\x00", 64: "abcdef" + strings.Repeat("\x00", 58)} {
		written(callAt(impl.CaTrunc, "/f", n), want)
	}
	// What was cut off is gone: longer again, it has bytes 0 there.
	checkRow(t, v, []doCase{ok(userZero, callAt(impl.CaTrunc, "/f", 2)), ok(userZero, callAt(impl.CaTrunc, "/f", 4)), tells(userZero, callAt(impl.CaRead, "/f", 0, 9), "ab\x00\x00"),
		ok(userZero, callAt(impl.CaTrunc, "/f", 1)), ok(userZero, writeAt("/f", 3, "!")), tells(userZero, callAt(impl.CaRead, "/f", 0, 9), "a\x00\x00!")})
}
