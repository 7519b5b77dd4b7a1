package tests

import (
	"fmt"
	"math/rand"
	"slices"
	"strconv"
	"strings"
	"testing"
	"unsafe"

	"loop.example/g00757/impl"
)

// someCallVol has few names, files with bytes, quotas that are nearly met, and now and then no room for one more name, inode, number or byte.
func someCallVol(r *rand.Rand) impl.Vol {
	v := someWayVol(r, true)
	v.Inodes[0].Mode = []int{493, 511, 1023, impl.MaxMode}[r.Intn(4)]
	for i := range v.Inodes {
		n := &v.Inodes[i]
		switch {
		case n.Kind == impl.KdFile:
			n.Data = strings.Repeat("\x00\xffab", 16)[:r.Intn(20)]
		case n.Kind == impl.KdDir && r.Intn(3) == 0:
			n.Mode |= []int{impl.MdSticky, impl.MdGroup, 0o222}[r.Intn(3)]
		}
	}
	crowd(r, &v)
	for i := range v.Inodes {
		if n := &v.Inodes[i]; n.Kind == impl.KdDir && r.Intn(4) <= min(i, 1) {
			bytes, inodes := wantUsed(v, n.Id)
			n.MaxB, n.MaxI = min(bytes+r.Intn(5), impl.MaxBytes), min(inodes+r.Intn(2), impl.MaxInodes)
		}
	}
	return v
}

func crowd(r *rand.Rand, v *impl.Vol) {
	s := scene{v: *v}
	switch r.Intn(6) {
	case 0:
		s.add(1, "file", impl.Inode{Kind: impl.KdFile})
		for i, id := 0, s.v.Next-1; len(s.at(1).Names) < impl.MaxEntries-r.Intn(2); i++ {
			putName(s.at(1), "z"+strconv.Itoa(i), id)
		}
	case 1:
		for i := 0; len(s.v.Inodes) < impl.MaxInodes-r.Intn(2) && i < 8; i++ {
			s.add(1, "y"+strconv.Itoa(i), impl.Inode{Kind: impl.KdFile})
		}
	case 2:
		bytes, _ := wantUsed(s.v, 1)
		for left := impl.MaxBytes - bytes - r.Intn(5); left > 0 && len(s.v.Inodes) < impl.MaxInodes; left -= min(left, impl.MaxFile) {
			s.add(1, "w"+strconv.Itoa(left), impl.Inode{Kind: impl.KdFile, Data: strings.Repeat("w", min(left, impl.MaxFile))})
		}
	case 3:
		s.v.Next = impl.MaxId - r.Intn(2)
	}
	*v = s.v
}

// someCallWay leads to something in the volume, or to a name that is new in a directory, but now and then.
func someCallWay(r *rand.Rand, v impl.Vol) string {
	if r.Intn(6) == 0 {
		return someWay(r)
	}
	at, out := inodeOf(v, 1), ""
	for range r.Intn(4) {
		if len(at.Names) > 0 {
			e := at.Names[r.Intn(len(at.Names))]
			at, out = inodeOf(v, e.Id), out+"/"+e.Name
		}
	}
	if at.Kind == impl.KdDir && (out == "" || r.Intn(3) == 0) {
		out += "/" + []string{"new", "a", "b", "."}[r.Intn(4)]
	}
	return out
}

// someNewWay leads to a name that is new, mostly, in some directory.
func someNewWay(r *rand.Rand, v impl.Vol) string {
	at, out := inodeOf(v, 1), ""
	for _, n := range v.Inodes {
		if r.Intn(2) == 0 && nameIn(v, at.Id, "new") == 0 {
			break
		}
		for _, e := range at.Names {
			if e.Id == n.Id && n.Kind == impl.KdDir {
				at, out = n, out+"/"+e.Name
			}
		}
	}
	return out + "/new"
}

// mostOf are the greatest N and M that each kind may bear, as far as it looks at them; of some, what is worth asking for.
func mostOf(kind int) (int, int) {
	most, ok := map[int][2]int{
		impl.CaMkdir: {2047, 9}, impl.CaCreate: {2047, 9}, impl.CaRead: {20, 20}, impl.CaWrite: {64, 9}, impl.CaTrunc: {64, 9}, impl.CaStat: {1, 9}, impl.CaChmod: {2047, 9},
		impl.CaChown: {5, 5}, impl.CaAccess: {7, 9}, impl.CaSetquota: {400, 24},
	}[kind]
	if !ok {
		return 9, 9
	}
	return most[0], most[1]
}

// someCall is of a kind that a volume has, mostly, with numbers that it may bear.
func someCall(r *rand.Rand, v impl.Vol) impl.Call {
	x := impl.Call{Kind: 1 + r.Intn(20+r.Intn(2)*3), Path: someCallWay(r, v)}
	// It has the most to be told.
	if r.Intn(8) == 0 {
		x.Kind = impl.CaRename
	}
	n, m := mostOf(x.Kind)
	x.N, x.M = r.Intn(n+1), r.Intn(m+1)
	switch r.Intn(12) {
	case 0:
		x.N = []int{-1, n, n + 1}[r.Intn(3)]
	case 1:
		x.M = []int{-1, m, m + 1}[r.Intn(3)]
	case 2:
		x.N = []int{-1000001, -1000000, 1000000, 1000001, 1000, 1001}[r.Intn(6)]
	case 3:
		x.N, x.M = r.Intn(9), r.Intn(5)
	}
	switch x.Kind {
	case impl.CaLink, impl.CaRename:
		x.To = someCallWay(r, v)
		if r.Intn(2) == 0 {
			x.To = someNewWay(r, v)
		}
	case impl.CaSymlink:
		x.To = strings.TrimPrefix(someCallWay(r, v), []string{"", "/"}[r.Intn(2)])
	case impl.CaWrite, impl.CaAppend:
		x.Data = strings.Repeat("xyz", 24)[:r.Intn(4)*r.Intn(4)*r.Intn(9)]
	}
	return x
}

// codesOf are all codes that a call of a kind may be told, in a right volume.
func codesOf() map[int][]int {
	way := []int{impl.EOk, impl.EInval, impl.ENoEnt, impl.EAcces, impl.ENotDir, impl.ENameTooLong, impl.ELoop}
	with := func(codes ...int) []int { return append(slices.Clone(way), codes...) }
	made := with(impl.EExist, impl.ENoSpc, impl.EDQuot)
	written := with(impl.EIsDir, impl.EFBig, impl.ENoSpc, impl.EDQuot)
	return map[int][]int{
		impl.CaMkdir: made, impl.CaCreate: made, impl.CaSymlink: made,
		impl.CaRmdir:  with(impl.EBusy, impl.EPerm, impl.ENotEmpty),
		impl.CaUnlink: with(impl.EIsDir, impl.EPerm),
		impl.CaLink:   with(impl.EPerm, impl.EExist, impl.ENoSpc, impl.EDQuot),
		impl.CaRename: with(impl.EBusy, impl.EPerm, impl.ENotEmpty, impl.EIsDir, impl.ENoSpc, impl.EDQuot),
		impl.CaRead:   with(impl.EIsDir), impl.CaWrite: written, impl.CaAppend: written, impl.CaTrunc: written,
		impl.CaReadlink: way, impl.CaReaddir: way, impl.CaStat: way, impl.CaChmod: with(impl.EPerm), impl.CaChown: with(impl.EPerm), impl.CaAccess: way,
		impl.CaStatfs: {impl.EOk, impl.EInval},
		// User 0 may look into each directory, and nobody else comes as far.
		impl.CaSetquota:  {impl.EOk, impl.EInval, impl.EPerm, impl.ENoEnt, impl.ENotDir, impl.ENameTooLong, impl.ELoop, impl.EDQuot},
		impl.CaGetquota:  way,
		impl.CaReadaudit: {impl.EInval}, impl.CaArchive: {impl.EInval}, 23: {impl.EInval},
	}
}

// Promises 4 and 7, by what the test's own volume does: rows of calls, each kind told each code that it may be told, and no other.
func TestSomeCalls(t *testing.T) {
	r := rand.New(rand.NewSource(71))
	told := map[int]map[int]int{}
	for range 6000 {
		v := someCallVol(r)
		for range 12 {
			x := someCall(r, v)
			next, res := do(t, v, someCred(r), x)
			if told[x.Kind] == nil {
				told[x.Kind] = map[int]int{}
			}
			told[x.Kind][res.Code]++
			v = next
		}
	}
	for kind, codes := range codesOf() {
		for _, code := range codes {
			if told[kind][code] < 3 {
				t.Errorf("kind %d, code %d came so often: %d", kind, code, told[kind][code])
			}
		}
		if len(told[kind]) != len(codes) {
			t.Errorf("kind %d: codes %v", kind, told[kind])
		}
	}
}

// spotsOf are where Path and To lead for who calls, as the call asks.
func spotsOf(v impl.Vol, c impl.Cred, x impl.Call) (impl.Spot, impl.Spot) {
	stays := []int{impl.CaMkdir, impl.CaCreate, impl.CaSymlink, impl.CaRmdir, impl.CaUnlink, impl.CaLink, impl.CaRename, impl.CaReadlink}
	return impl.Walk(v, c, x.Path, !slices.Contains(stays, x.Kind)), impl.Walk(v, c, x.To, false)
}

// wantNothingElse is what a call that was done may have changed: what it names, and that alone.
func wantNothingElse(t *testing.T, v impl.Vol, c impl.Cred, x impl.Call, got impl.Vol) {
	t.Helper()
	from, to := spotsOf(v, c, x)
	at := func(id int, kinds ...int) bool { return id != 0 && slices.Contains(kinds, x.Kind) }
	for _, was := range v.Inodes {
		is := slices.IndexFunc(got.Inodes, func(n impl.Inode) bool { return n.Id == was.Id })
		if is < 0 {
			byPath := was.Id == from.Id && at(from.Id, impl.CaUnlink, impl.CaRmdir)
			byTo := was.Id == to.Id && at(to.Id, impl.CaRename)
			if !(byPath || byTo) || was.Kind != impl.KdDir && impl.Links(v, was.Id) != 1 || len(was.Names) > 0 {
				t.Fatalf("%+v by %+v: %d is lost from %+v", x, c, was.Id, v)
			}
			continue
		}
		n, it := got.Inodes[is], was.Id == from.Id
		names := was.Id == from.Dir && at(from.Dir, impl.CaMkdir, impl.CaCreate, impl.CaSymlink, impl.CaRmdir, impl.CaUnlink, impl.CaRename) || was.Id == to.Dir && at(to.Dir, impl.CaLink, impl.CaRename)
		for what, changed := range map[string]bool{
			"Kind":   n.Kind != was.Kind,
			"Mode":   n.Mode != was.Mode && !(it && at(from.Id, impl.CaChmod)),
			"owner":  (n.Uid != was.Uid || n.Gid != was.Gid) && !(it && at(from.Id, impl.CaChown)),
			"Data":   n.Data != was.Data && !(it && at(from.Id, impl.CaWrite, impl.CaAppend, impl.CaTrunc)),
			"quotas": (n.MaxB != was.MaxB || n.MaxI != was.MaxI) && !(it && at(from.Id, impl.CaSetquota)),
			"Names":  !slices.Equal(n.Names, was.Names) && !names,
		} {
			if changed {
				t.Fatalf("%+v by %+v: the %s of %d changed: %+v, %+v", x, c, what, was.Id, v, got)
			}
		}
	}
	made := got.Next - v.Next
	if made != 0 && (made != 1 || !slices.Contains([]int{impl.CaMkdir, impl.CaCreate, impl.CaSymlink}, x.Kind)) {
		t.Fatalf("%+v by %+v: Next is %d, was %d", x, c, got.Next, v.Next)
	}
}

func nameIn(v impl.Vol, dir int, name string) int {
	to, _ := wantNamed(v, dir, name)
	return to.Id
}

// wantDone is what a call that was done has done, asked by other calls of user 0, who may see all.
func wantDone(t *testing.T, v impl.Vol, c impl.Cred, x impl.Call, got impl.Vol) {
	t.Helper()
	from, to := spotsOf(v, c, x)
	ask := func(y impl.Call) string {
		_, res := impl.VolDo(got, userZero, y)
		return fmt.Sprint(res.Code, " ", res.Data)
	}
	hold := func(got, want any) {
		t.Helper()
		if got != want {
			t.Fatalf("%+v by %+v in %+v: %v, want %v", x, c, v, got, want)
		}
	}
	switch x.Kind {
	case impl.CaMkdir, impl.CaCreate, impl.CaSymlink:
		hold(nameIn(got, from.Dir, from.Name), v.Next)
		n, mode := inodeOf(got, v.Next), x.N
		if x.Kind == impl.CaSymlink {
			hold(ask(callAt(impl.CaReadlink, x.Path)), "0 "+x.To)
			mode = 511
		}
		hold(n.Mode&^impl.MdGroup, mode&^impl.MdGroup)
		hold(n.Uid, c.Uid)
		hold(strings.HasPrefix(ask(callAt(impl.CaStat, x.Path, 1)), fmt.Sprint("0 ", n.Kind, n.Mode, n.Uid, n.Gid)), true)
	case impl.CaWrite:
		hold(ask(callAt(impl.CaRead, x.Path, x.N, len(x.Data))), "0 "+x.Data)
	case impl.CaAppend:
		size := len(inodeOf(v, from.Id).Data)
		hold(ask(callAt(impl.CaRead, x.Path, 0, size+65)), "0 "+inodeOf(v, from.Id).Data+x.Data)
	case impl.CaTrunc:
		hold(len(inodeOf(got, from.Id).Data), x.N)
	case impl.CaRmdir, impl.CaUnlink:
		hold(nameIn(got, from.Dir, from.Name), 0)
	case impl.CaLink:
		hold(nameIn(got, to.Dir, to.Name), from.Id)
		hold(nameIn(got, from.Dir, from.Name), from.Id)
		hold(impl.Links(got, from.Id), impl.Links(v, from.Id)+1)
	case impl.CaRename:
		hold(nameIn(got, to.Dir, to.Name), from.Id)
		hold(impl.Links(got, from.Id), impl.Links(v, from.Id))
		if from.Id != to.Id {
			hold(nameIn(got, from.Dir, from.Name), 0)
		}
	case impl.CaSetquota:
		hold(strings.HasPrefix(ask(callAt(impl.CaGetquota, x.Path)), fmt.Sprint("0 ", x.N, x.M, " ")), true)
	}
}

// Promises 4 and 7, asked of the program's answers alone.
func TestPromisesOfCalls(t *testing.T) {
	r := rand.New(rand.NewSource(72))
	did := map[int]int{}
	for range 6000 {
		v := someCallVol(r)
		for range 12 {
			c, x := someCred(r), someCall(r, v)
			next, res := impl.VolDo(v, c, x)
			if !impl.VolOk(next) {
				t.Fatalf("%+v by %+v makes %+v of %+v", x, c, next, v)
			}
			if res.Code != impl.EOk && !sameVol(next, v) {
				t.Fatalf("%+v by %+v is refused with %d, and makes %+v of %+v", x, c, res.Code, next, v)
			}
			wantNothingElse(t, v, c, x, next)
			if res.Code == impl.EOk {
				wantDone(t, v, c, x, next)
				did[x.Kind]++
			}
			v = next
		}
	}
	for kind := 1; kind <= 20; kind++ {
		if did[kind] < 25 {
			t.Errorf("kind %d was done so often: %d", kind, did[kind])
		}
	}
}

// Whatever bytes and numbers a call has, in volumes that are right or not.
func TestCallsOfAnything(t *testing.T) {
	r := rand.New(rand.NewSource(73))
	text := func(most int) string {
		b := make([]byte, r.Intn(most))
		for i := range b {
			b[i] = "/a.bl\x00A"[r.Intn(7)]
		}
		return string(b)
	}
	for range 20000 {
		v := someVol(r)
		if r.Intn(3) == 0 {
			v = bentVol(r, v)
		}
		x := impl.Call{Kind: r.Intn(25) - 1, Path: "/" + text(1+r.Intn(62)), To: text(1 + r.Intn(2)*r.Intn(62)), Data: text(1 + r.Intn(2)*r.Intn(66)), N: r.Intn(100) - 10, M: r.Intn(100) - 10}
		if r.Intn(20) == 0 {
			x.N, x.M = int(r.Uint64()), int(r.Uint64())
		}
		do(t, v, someCred(r), x)
	}
}

func textsOf(v impl.Vol) []string {
	var out []string
	for _, n := range v.Inodes {
		out = append(out, n.Data)
		for _, e := range n.Names {
			out = append(out, e.Name)
		}
	}
	return out
}

// The texts of an answer have bytes of their own, neither the volume's nor the call's.
func TestTextsOfCallsAreNewMemory(t *testing.T) {
	r := rand.New(rand.NewSource(74))
	for i := range 4000 {
		v, c := someCallVol(r), someCred(r)
		x := someCall(r, v)
		if i%2 == 0 {
			v, c, x = flawVol(), someone, callsOfEachKind()[i%19]
		}
		got, res := impl.VolDo(v, c, x)
		for _, s := range append(textsOf(got), res.Data) {
			for _, given := range append(textsOf(v), x.Path, x.To, x.Data) {
				if overlap(unsafe.Slice(unsafe.StringData(s), len(s)), unsafe.Slice(unsafe.StringData(given), len(given))) {
					t.Fatalf("%+v by %+v in %+v: %q shares its bytes with %q", x, c, v, s, given)
				}
			}
		}
	}
}

// Nothing is kept from one call to another, and what is written into an answer is in no other one.
func TestCallsKeepNothing(t *testing.T) {
	r := rand.New(rand.NewSource(75))
	for range 2000 {
		v, c := someCallVol(r), someCred(r)
		x := someCall(r, v)
		got, res := impl.VolDo(v, c, x)
		was := copiedVol(got)
		for i := range got.Inodes {
			for j := range got.Inodes[i].Names {
				got.Inodes[i].Names[j] = impl.Dirent{Name: "mark", Id: -7}
			}
			got.Inodes[i].Names = append(got.Inodes[i].Names, impl.Dirent{Name: "mark", Id: -7})
			got.Inodes[i].Mode = -7
		}
		again, told := impl.VolDo(v, c, x)
		if told != res || !sameVol(again, was) {
			t.Fatalf("%+v by %+v in %+v: once %+v, then %+v", x, c, v, res, told)
		}
	}
}
