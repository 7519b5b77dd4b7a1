package tests

import (
	"math/rand"
	"path"
	"slices"
	"strconv"
	"strings"
	"testing"
	"unsafe"

	"loop.example/g00757/impl"
)

// wantWalk keeps what is left as one text, with the targets put ahead of it.
func wantWalk(v impl.Vol, c impl.Cred, path string, follow bool) impl.Spot {
	if !wantVolOk(v) || !wantCredOk(c) || !wantPathOk(path) {
		return impl.Spot{Code: 22}
	}
	return wantWay(v, c, 1, path, follow, 8)
}

// wantWay goes over one part, and is asked again for what is behind it; more is how many links it may still go over.
func wantWay(v impl.Vol, c impl.Cred, at int, left string, follow bool, more int) impl.Spot {
	left = strings.Trim(left, "/")
	if left == "" {
		return impl.Spot{Id: at}
	}
	part, behind, _ := strings.Cut(left, "/")
	to, there := wantNamed(v, at, part)
	last := behind == ""
	switch {
	case !wantMay(c, inodeOf(v, at), 1):
		return impl.Spot{Code: 13}
	case part == ".":
		return wantWay(v, c, at, behind, follow, more)
	case part == "..":
		return wantWay(v, c, wantOfInode(v, true, at)[3], behind, follow, more)
	case len(part) > 8:
		return impl.Spot{Code: 36}
	case !there && last:
		return impl.Spot{Dir: at, Name: part, Code: 2}
	case !there:
		return impl.Spot{Code: 2}
	case to.Kind == impl.KdLink && (follow || !last) && more == 0:
		return impl.Spot{Code: 40}
	case to.Kind == impl.KdLink && (follow || !last) && len(strings.FieldsFunc(to.Data+"/"+behind, func(c rune) bool { return c == '/' })) > 40:
		return impl.Spot{Code: 36}
	case to.Kind == impl.KdLink && (follow || !last) && to.Data[0] == '/':
		return wantWay(v, c, 1, to.Data+"/"+behind, follow, more-1)
	case to.Kind == impl.KdLink && (follow || !last):
		return wantWay(v, c, at, to.Data+"/"+behind, follow, more-1)
	case last:
		return impl.Spot{Dir: at, Name: part, Id: to.Id}
	case to.Kind != impl.KdDir:
		return impl.Spot{Code: 20}
	}
	return wantWay(v, c, to.Id, behind, follow, more)
}

func inodeOf(v impl.Vol, id int) impl.Inode {
	return v.Inodes[slices.IndexFunc(v.Inodes, func(n impl.Inode) bool { return n.Id == id })]
}

func wantNamed(v impl.Vol, dir int, name string) (impl.Inode, bool) {
	for _, e := range inodeOf(v, dir).Names {
		if e.Name == name {
			return inodeOf(v, e.Id), true
		}
	}
	return impl.Inode{}, false
}

// made is one inode of a volume for a test, and the path at which it stands.
type made struct {
	path string
	n    impl.Inode
}

func dirAt(path string) made { return lockedAt(path, 493) }

func lockedAt(path string, mode int) made {
	return made{path, impl.Inode{Kind: impl.KdDir, Mode: mode}}
}

func fileAt(path string) made { return made{path, impl.Inode{Kind: impl.KdFile, Mode: 420}} }

func linkAt(path string, target string) made {
	return made{path, impl.Inode{Kind: impl.KdLink, Mode: 511, Data: target}}
}

// volOf makes a volume in which the Ids are 2, 3, 4 and so on, as they stand in the list.
func volOf(all ...made) impl.Vol {
	v := impl.NewVol()
	ids := map[string]int{"/": 1}
	for _, m := range all {
		up, name := path.Split(m.path)
		m.n.Id = v.Next
		putName(&v.Inodes[ids[path.Clean(up)]-1], name, m.n.Id)
		v.Inodes = append(v.Inodes, m.n)
		ids[m.path] = v.Next
		v.Next++
	}
	return v
}

// Who asks in nearly all cases.
var (
	userZero = impl.Cred{}
	someone  = impl.Cred{Uid: 2, Gid: 2}
)

func spotAt(dir int, name string, id int) impl.Spot { return impl.Spot{Dir: dir, Name: name, Id: id} }

func inside(id int) impl.Spot { return impl.Spot{Id: id} }

func ends(code int) impl.Spot { return impl.Spot{Code: code} }

func missing(dir int, name string) impl.Spot {
	return impl.Spot{Dir: dir, Name: name, Code: impl.ENoEnt}
}

// wayCase is a path, and where it leads without following the last part, and with.
type wayCase struct {
	path    string
	stays   impl.Spot
	follows impl.Spot
}

func checkWays(t *testing.T, v impl.Vol, c impl.Cred, cases []wayCase) {
	t.Helper()
	if !impl.VolOk(v) || !impl.CredOk(c) {
		t.Fatalf("not right: %+v, %+v", v, c)
	}
	for _, x := range cases {
		for follow, want := range map[bool]impl.Spot{false: x.stays, true: x.follows} {
			if got := impl.Walk(v, c, x.path, follow); got != want {
				t.Errorf("Walk of %q, %v, by %+v = %+v, want %+v", x.path, follow, c, got, want)
			}
			if oracle := wantWalk(v, c, x.path, follow); oracle != want {
				t.Errorf("the test's own way of %q, %v: %+v, want %+v", x.path, follow, oracle, want)
			}
		}
	}
}

// both is a case in which it is one whether the last part is followed.
func both(path string, want impl.Spot) wayCase { return wayCase{path, want, want} }

func TestWalkNumbers(t *testing.T) {
	got := []int{impl.MaxFollow, impl.MaxTodo, impl.EOk, impl.EPerm, impl.ENoEnt, impl.EAgain, impl.EAcces, impl.EBusy, impl.EExist, impl.ENotDir, impl.EIsDir, impl.EInval, impl.EFBig, impl.ENoSpc, impl.ENameTooLong, impl.ENotEmpty, impl.ELoop, impl.EDQuot}
	if !slices.Equal(got, []int{8, 40, 0, 1, 2, 11, 13, 16, 17, 20, 21, 22, 27, 28, 36, 39, 40, 122}) {
		t.Error("limits and codes", got)
	}
}

// plainVol has no links; its numbers are 2 /d, 3 /d/e, 4 /d/e/f, 5 /g, 6 /d/12345678, 7 /d/...
func plainVol() impl.Vol {
	return volOf(dirAt("/d"), dirAt("/d/e"), fileAt("/d/e/f"), fileAt("/g"), fileAt("/d/12345678"), dirAt("/d/..."))
}

func TestWalkByNames(t *testing.T) {
	for _, c := range []impl.Cred{userZero, someone, {Uid: 1000, Gid: 1000, Groups: []int{0, 1, 2, 1000}}} {
		checkWays(t, plainVol(), c, []wayCase{
			both("/d", spotAt(1, "d", 2)),
			both("/d/", spotAt(1, "d", 2)),
			both("//d", spotAt(1, "d", 2)),
			both("/d/e", spotAt(2, "e", 3)),
			both("/d/e/f", spotAt(3, "f", 4)),
			both("///d///e///f///", spotAt(3, "f", 4)),
			both("/g", spotAt(1, "g", 5)),
			both("/d/...", spotAt(2, "...", 7)),
			both("/d/.../x", missing(7, "x")),
		})
	}
}

func TestWalkOfPoints(t *testing.T) {
	checkWays(t, plainVol(), someone, []wayCase{
		both("/", inside(1)),
		both("//", inside(1)),
		both(strings.Repeat("/", 60), inside(1)),
		both("/.", inside(1)),
		both("/./././", inside(1)),
		both(strings.Repeat("/.", 30), inside(1)),
		both("/..", inside(1)),
		both("/../../.", inside(1)),
		both(strings.Repeat("/..", 20), inside(1)),
		both("/../d", spotAt(1, "d", 2)),
		both("/./d", spotAt(1, "d", 2)),
		both("/d/.", inside(2)),
		both("/d/./e", spotAt(2, "e", 3)),
		both("/d/..", inside(1)),
		both("/d/e/..", inside(2)),
		both("/d/e/.", inside(3)),
		both("/d/e/../..", inside(1)),
		both("/d/e/../../..", inside(1)),
		both("/d/e/../../../g", spotAt(1, "g", 5)),
		both("/d/e/../e/./f", spotAt(3, "f", 4)),
		both("/d/.../..", inside(2)),
		both("/d/...", spotAt(2, "...", 7)),
		both("/....", missing(1, "....")),
		both("/.d", missing(1, ".d")),
		both("/..d", missing(1, "..d")),
		both("/d..", missing(1, "d..")),
	})
}

// The deepest directory that there may be, the way down and all the way up.
func TestWalkDownAndUp(t *testing.T) {
	v := deepVol(impl.MaxInodes)
	for deep := range 30 {
		down := strings.Repeat("/n", deep)
		want := spotAt(deep, "n", deep+1)
		switch {
		case deep == 0:
			down, want = "/", inside(1)
		case deep == 24:
			want = missing(24, "n")
		case deep > 24:
			want = ends(impl.ENoEnt)
		}
		checkWays(t, v, userZero, []wayCase{both(down, want)})
		for up := 1; 2*deep+3*up <= 60 && deep < 24; up++ {
			checkWays(t, v, userZero, []wayCase{both(strings.Repeat("/n", deep)+strings.Repeat("/..", up), inside(max(deep-up, 0)+1))})
		}
	}
}

// Each of the wrong inputs alone, together, and where the way would end for another reason.
func TestWalkOfWrongInputs(t *testing.T) {
	right := plainVol()
	refused := func(v impl.Vol, c impl.Cred, path string) {
		t.Helper()
		for _, follow := range []bool{false, true} {
			if got := impl.Walk(v, c, path, follow); got != ends(impl.EInval) {
				t.Errorf("Walk of %.80q, %v, by Uid %d, in %d inodes = %+v", path, follow, c.Uid, len(v.Inodes), got)
			}
		}
	}
	paths := []string{"/", "/d", "/d/e/f", "/none", "/none/x", "/g/x", "/123456789", "/.."}
	for _, c := range wrongCreds() {
		for _, path := range append(paths, "", "d") {
			refused(right, c, path)
			refused(impl.Vol{}, c, path)
		}
	}
	for _, path := range append(noPaths, "d", "d/e", "/D", "/d/e/f\x00", strings.Repeat("/d/..", 12)+"/", strings.Repeat("/", 100000)) {
		refused(right, userZero, path)
		refused(right, someone, path)
		refused(impl.Vol{}, someone, path)
	}
	wrongVols := []impl.Vol{{}, {Next: 2}, {Next: 1, Inodes: impl.NewVol().Inodes}, {Next: 2, Inodes: make([]impl.Inode, 100000)}, wideVol(25), bytesVol(401)}
	for _, change := range []func(v *impl.Vol){
		func(v *impl.Vol) { v.Next = 7 },
		func(v *impl.Vol) { v.Next = impl.MaxId + 1 },
		func(v *impl.Vol) { v.Inodes[0].Kind = impl.KdFile },
		func(v *impl.Vol) { v.Inodes[0].Mode = -1 },
		func(v *impl.Vol) { v.Inodes[0].MaxI = 5 },
		func(v *impl.Vol) { v.Inodes[1].Names[0].Id = 9 },
		func(v *impl.Vol) { v.Inodes[1].Names[0].Name = "E" },
		func(v *impl.Vol) { v.Inodes[2].Names = dirents("f", 4, "up", 2) },
		func(v *impl.Vol) { v.Inodes[2].Names = dirents("f", 4, "root", 1) },
		func(v *impl.Vol) { v.Inodes[4].Uid = impl.MaxUid + 1 },
		func(v *impl.Vol) { named(v, "z", impl.Inode{Id: 9, Kind: impl.KdLink, Mode: 511}) },
		func(v *impl.Vol) { named(v, "z", impl.Inode{Id: 9, Kind: impl.KdLink, Mode: 493, Data: "d"}) },
		func(v *impl.Vol) { named(v, "z", impl.Inode{Id: 9, Kind: impl.KdLink, Mode: 511, Data: "d d"}) },
		func(v *impl.Vol) {
			named(v, "z", impl.Inode{Id: 9, Kind: impl.KdLink, Mode: 511, Data: strings.Repeat("/", 61)})
		},
		func(v *impl.Vol) { v.Inodes = append(v.Inodes, impl.Inode{Id: 8, Kind: impl.KdFile}); v.Next = 9 },
	} {
		v := plainVol()
		change(&v)
		wrongVols = append(wrongVols, v)
	}
	for _, v := range wrongVols {
		if impl.VolOk(v) {
			t.Fatalf("right: %+v", v)
		}
		for _, path := range append(paths, "/z", "", "d") {
			refused(v, userZero, path)
			refused(v, someone, path)
			refused(v, impl.Cred{Uid: -1}, path)
		}
	}
}

// lockedVol has directories that others may not look into: 2 /p with 3 /p/q, 4 /d, 5 /d/p with 6 /d/p/f, and links to what is in them.
func lockedVol() impl.Vol {
	return volOf(lockedAt("/p", 0o766), dirAt("/p/q"), dirAt("/d"), lockedAt("/d/p", 0o700), fileAt("/d/p/f"),
		linkAt("/a", "p/q"), linkAt("/b", "/d/p"), linkAt("/c", "p/."), linkAt("/e", "d/p/"), linkAt("/p/l", "/d"))
}

func TestWalkIntoLockedDirectories(t *testing.T) {
	locked := ends(impl.EAcces)
	checkWays(t, lockedVol(), someone, []wayCase{
		both("/p", spotAt(1, "p", 2)),
		both("/p/", spotAt(1, "p", 2)),
		both("/p/.", locked),
		both("/p/..", locked),
		both("/p/q", locked),
		both("/p/q/x", locked),
		both("/p/none", locked),
		both("/p/none/x", locked),
		both("/p/123456789", locked),
		both("/p/l", locked),
		both("/p/l/p", locked),
		both("/d/p", spotAt(4, "p", 5)),
		both("/d/p/f", locked),
		both("/d/p/f/x", locked),
		both("/d/p/../..", locked),
		both("/d/./p/.", locked),
		{"/a", spotAt(1, "a", 7), locked},
		both("/a/.", locked),
		{"/b", spotAt(1, "b", 8), spotAt(4, "p", 5)},
		both("/b/f", locked),
		both("/b/.", locked),
		{"/c", spotAt(1, "c", 9), locked},
		{"/e", spotAt(1, "e", 10), spotAt(4, "p", 5)},
		both("/e/..", locked),
	})
	checkWays(t, lockedVol(), userZero, []wayCase{
		both("/p/.", inside(2)),
		both("/p/q", spotAt(2, "q", 3)),
		both("/p/none", missing(2, "none")),
		both("/p/none/x", ends(impl.ENoEnt)),
		both("/p/123456789", ends(impl.ENameTooLong)),
		{"/p/l", spotAt(2, "l", 11), spotAt(1, "d", 4)},
		both("/d/p/f", spotAt(5, "f", 6)),
		{"/a", spotAt(1, "a", 7), spotAt(2, "q", 3)},
		{"/c", spotAt(1, "c", 9), inside(2)},
		both("/b/..", inside(4)),
	})
}

// The root may not be looked into: it is there, and that is all.
func TestWalkOfALockedRoot(t *testing.T) {
	v := lockedVol()
	v.Inodes[0].Mode = 0o776
	locked := ends(impl.EAcces)
	cases := []wayCase{both("/", inside(1)), both("///", inside(1))}
	for _, path := range []string{"/.", "/..", "/p", "/d", "/d/p", "/none", "/none/x", "/123456789", "/a", "/a/x", strings.Repeat("/.", 30)} {
		cases = append(cases, both(path, locked))
	}
	checkWays(t, v, someone, cases)
	checkWays(t, v, userZero, []wayCase{both("/.", inside(1)), both("/d", spotAt(1, "d", 4))})
}

// The bit that counts is the one of who asks, to look alone: reading and writing lead nowhere.
func TestWalkAsksForOneBit(t *testing.T) {
	for _, s := range sides() {
		for bit := range 11 {
			v := volOf(lockedAt("/d", 1<<bit), fileAt("/d/f"))
			v.Inodes[1].Uid, v.Inodes[1].Gid = 2, 5
			want := ends(impl.EAcces)
			if 1<<bit == s.from {
				want = spotAt(2, "f", 3)
			}
			checkWays(t, v, s.c, []wayCase{both("/d/f", want), both("/d", spotAt(1, "d", 2))})
		}
	}
}

func TestWalkOfLongNames(t *testing.T) {
	v := volOf(dirAt("/12345678"), fileAt("/12345678/abcdefgh"), fileAt("/g"),
		linkAt("/a", "12345678/abcdefgh"), linkAt("/b", "123456789"), linkAt("/c", "12345678/abcdefghi/x"), linkAt("/h", "abcdefgh"))
	long := ends(impl.ENameTooLong)
	checkWays(t, v, someone, []wayCase{
		both("/12345678", spotAt(1, "12345678", 2)),
		both("/12345678/abcdefgh", spotAt(2, "abcdefgh", 3)),
		both("/1234567", missing(1, "1234567")),
		both("/87654321", missing(1, "87654321")),
		both("/123456789", long),
		both("/123456789/", long),
		both("/123456789/x", long),
		both("/123456789/../g", long),
		both("/12345678/abcdefghi", long),
		both("/12345678/abcdefghi/x", long),
		both("/.........", long),
		both("/........", missing(1, "........")),
		both("/"+strings.Repeat("g", 59), long),
		both("/g/123456789", ends(impl.ENotDir)),
		both("/none/123456789", ends(impl.ENoEnt)),
		{"/a", spotAt(1, "a", 5), spotAt(2, "abcdefgh", 3)},
		{"/b", spotAt(1, "b", 6), long},
		both("/b/x", long),
		{"/c", spotAt(1, "c", 7), long},
		{"/h", spotAt(1, "h", 8), missing(1, "abcdefgh")},
		both("/h/x", ends(impl.ENoEnt)),
	})
}

func TestWalkOfMissingNames(t *testing.T) {
	v := volOf(dirAt("/d"), fileAt("/d/f"), linkAt("/a", "d/new"), linkAt("/b", "new"), linkAt("/c", "/d/./new/"), linkAt("/e", "none/new"),
		linkAt("/g", "new/."), linkAt("/d/h", "../d/../new"), linkAt("/i", "a"))
	gone := ends(impl.ENoEnt)
	checkWays(t, v, someone, []wayCase{
		both("/new", missing(1, "new")),
		both("/new/", missing(1, "new")),
		both("/new///", missing(1, "new")),
		both("/d/new", missing(2, "new")),
		both("/d/../new", missing(1, "new")),
		both("/new/.", gone),
		both("/new/..", gone),
		both("/new/d", gone),
		both("/new/new", gone),
		both("/d/new/../f", gone),
		{"/a", spotAt(1, "a", 4), missing(2, "new")},
		both("/a/x", gone),
		both("/a/.", gone),
		{"/b", spotAt(1, "b", 5), missing(1, "new")},
		{"/c", spotAt(1, "c", 6), missing(2, "new")},
		{"/e", spotAt(1, "e", 7), gone},
		{"/g", spotAt(1, "g", 8), gone},
		{"/d/h", spotAt(2, "h", 9), missing(1, "new")},
		{"/i", spotAt(1, "i", 10), missing(2, "new")},
		both("/f", missing(1, "f")),
		both("/dd", missing(1, "dd")),
	})
	checkWays(t, impl.NewVol(), someone, []wayCase{both("/x", missing(1, "x")), both("/x/y", gone), both("/", inside(1))})
}

func TestWalkOverFiles(t *testing.T) {
	v := volOf(dirAt("/d"), fileAt("/d/f"), fileAt("/g"), linkAt("/l", "d/f"), linkAt("/m", "g/"), linkAt("/n", "g/."), linkAt("/d/o", "/l"))
	none := ends(impl.ENotDir)
	for _, c := range []impl.Cred{userZero, someone} {
		checkWays(t, v, c, []wayCase{
			both("/g", spotAt(1, "g", 4)),
			both("/g/", spotAt(1, "g", 4)),
			both("/g///", spotAt(1, "g", 4)),
			both("/g/.", none),
			both("/g/..", none),
			both("/g/x", none),
			both("/g/x/y", none),
			both("/g/../d", none),
			both("/d/f/", spotAt(2, "f", 3)),
			both("/d/f/x", none),
			both("/d/f/123456789", none),
			{"/l", spotAt(1, "l", 5), spotAt(2, "f", 3)},
			{"/l/", spotAt(1, "l", 5), spotAt(2, "f", 3)},
			both("/l/x", none),
			both("/l/.", none),
			both("/l/..", none),
			{"/m", spotAt(1, "m", 6), spotAt(1, "g", 4)},
			both("/m/x", none),
			{"/n", spotAt(1, "n", 7), none},
			{"/d/o", spotAt(2, "o", 8), spotAt(2, "f", 3)},
			both("/d/o/x", none),
		})
	}
}

// A file with several names is told by the one that the way took.
func TestWalkOfTwoNames(t *testing.T) {
	checkWays(t, rightVol(), userZero, []wayCase{
		both("/f", spotAt(1, "f", 4)),
		both("/d/g", spotAt(2, "g", 4)),
		both("/d/e/h", spotAt(3, "h", 4)),
		both("/d/e/i", spotAt(3, "i", 7)),
		{"/l", spotAt(1, "l", 5), spotAt(1, "f", 4)},
		both("/l/x", ends(impl.ENotDir)),
	})
}

// linkVol has links of all kinds: 2 /d, 3 /d/e, 4 /d/e/f, and the links from 5 on.
func linkVol() impl.Vol {
	return volOf(dirAt("/d"), dirAt("/d/e"), fileAt("/d/e/f"),
		linkAt("/abs", "/d/e"), linkAt("/rel", "d/e"), linkAt("/root", "/"), linkAt("/roots", "///"), linkAt("/here", "."),
		linkAt("/d/here", "./"), linkAt("/d/up", ".."), linkAt("/d/e/up", "..//.."), linkAt("/d/e/top", "/.."), linkAt("/d/e/own", "../e/"),
		linkAt("/d/e/far", "//d//e//f//"), linkAt("/d/rel", "e/f"), linkAt("/two", "d/up/rel"), linkAt("/d/abs", "/rel/f"))
}

func TestWalkOverLinks(t *testing.T) {
	checkWays(t, linkVol(), someone, []wayCase{
		{"/abs", spotAt(1, "abs", 5), spotAt(2, "e", 3)},
		{"/rel", spotAt(1, "rel", 6), spotAt(2, "e", 3)},
		{"/rel/", spotAt(1, "rel", 6), spotAt(2, "e", 3)},
		both("/abs/f", spotAt(3, "f", 4)),
		both("/rel/f", spotAt(3, "f", 4)),
		both("/rel/.", inside(3)),
		both("/rel/..", inside(2)),
		both("/rel/../..", inside(1)),
		both("/abs/..", inside(2)),
		both("/rel/x", missing(3, "x")),
		{"/root", spotAt(1, "root", 7), inside(1)},
		both("/root/d", spotAt(1, "d", 2)),
		both("/root/..", inside(1)),
		both("/root/none", missing(1, "none")),
		{"/root/root", spotAt(1, "root", 7), inside(1)},
		{"/roots", spotAt(1, "roots", 8), inside(1)},
		both("/roots/d/e", spotAt(2, "e", 3)),
		{"/here", spotAt(1, "here", 9), inside(1)},
		both("/here/here/d", spotAt(1, "d", 2)),
		{"/d/here", spotAt(2, "here", 10), inside(2)},
		both("/d/here/e", spotAt(2, "e", 3)),
		{"/d/here/here", spotAt(2, "here", 10), inside(2)},
		{"/d/up", spotAt(2, "up", 11), inside(1)},
		both("/d/up/d", spotAt(1, "d", 2)),
		{"/d/up/d/up", spotAt(2, "up", 11), inside(1)},
		{"/d/e/up", spotAt(3, "up", 12), inside(1)},
		both("/d/e/up/d", spotAt(1, "d", 2)),
		{"/d/e/top", spotAt(3, "top", 13), inside(1)},
		both("/d/e/top/rel/f", spotAt(3, "f", 4)),
		{"/d/e/own", spotAt(3, "own", 14), spotAt(2, "e", 3)},
		{"/d/e/own/own", spotAt(3, "own", 14), spotAt(2, "e", 3)},
		{"/d/e/far", spotAt(3, "far", 15), spotAt(3, "f", 4)},
		{"/d/rel", spotAt(2, "rel", 16), spotAt(3, "f", 4)},
		{"/two", spotAt(1, "two", 17), spotAt(2, "e", 3)},
		both("/two/f", spotAt(3, "f", 4)),
		{"/d/abs", spotAt(2, "abs", 18), spotAt(3, "f", 4)},
		{"/rel/own", spotAt(3, "own", 14), spotAt(2, "e", 3)},
	})
}

// A target counts from the directory in which the link stands, not from where the way began or another link led.
func TestWalkOverLinksInTheirDirectory(t *testing.T) {
	v := volOf(dirAt("/d"), dirAt("/d/x"), fileAt("/d/x/f"), dirAt("/x"), fileAt("/x/g"), linkAt("/d/l", "x"), linkAt("/l", "d/l"), linkAt("/k", "/d/l"))
	checkWays(t, v, someone, []wayCase{
		{"/d/l", spotAt(2, "l", 7), spotAt(2, "x", 3)},
		both("/d/l/f", spotAt(3, "f", 4)),
		both("/d/l/g", missing(3, "g")),
		{"/l", spotAt(1, "l", 8), spotAt(2, "x", 3)},
		both("/l/f", spotAt(3, "f", 4)),
		{"/k", spotAt(1, "k", 9), spotAt(2, "x", 3)},
		both("/k/g", missing(3, "g")),
		both("/k/../../x/g", spotAt(5, "g", 6)),
	})
}

func TestWalkInCircles(t *testing.T) {
	v := volOf(linkAt("/self", "self"), linkAt("/selfs", "/selfs/"), linkAt("/a", "b"), linkAt("/b", "c"), linkAt("/c", "/a"), dirAt("/d"),
		linkAt("/d/in", "../d/in/x"), linkAt("/dot", "./dot"), linkAt("/d/e", "e/e"), fileAt("/d/f"))
	loop := ends(impl.ELoop)
	checkWays(t, v, someone, []wayCase{
		{"/self", spotAt(1, "self", 2), loop},
		{"/self/", spotAt(1, "self", 2), loop},
		both("/self/x", loop),
		both("/self/.", loop),
		both("/self/..", loop),
		{"/selfs", spotAt(1, "selfs", 3), loop},
		{"/a", spotAt(1, "a", 4), loop},
		{"/b", spotAt(1, "b", 5), loop},
		{"/c", spotAt(1, "c", 6), loop},
		both("/c/d", loop),
		both("/a/b/c", loop),
		{"/d/in", spotAt(7, "in", 8), loop},
		both("/d/in/y", loop),
		{"/dot", spotAt(1, "dot", 9), loop},
		{"/d/e", spotAt(7, "e", 10), loop},
		both("/d/f", spotAt(7, "f", 11)),
		both("/self/123456789", loop),
	})
}

// chainVol is so many links, one to the next, and a directory 2 with a file 3 at their end; l1 is the one that leads there.
func chainVol(links int) impl.Vol {
	all := []made{dirAt("/l0"), fileAt("/l0/f")}
	for i := 1; i <= links; i++ {
		all = append(all, linkAt("/l"+strconv.Itoa(i), []string{"", "/", "./"}[i%3]+"l"+strconv.Itoa(i-1)))
	}
	return volOf(all...)
}

func TestWalkOverManyLinks(t *testing.T) {
	loop := ends(impl.ELoop)
	var cases []wayCase
	for i := 1; i <= 10; i++ {
		name := "l" + strconv.Itoa(i)
		x := wayCase{"/" + name, spotAt(1, name, i+3), spotAt(1, "l0", 2)}
		file, dots, none := both("/"+name+"/f", spotAt(2, "f", 3)), both("/"+name+"/./..", inside(1)), both("/"+name+"/x", missing(2, "x"))
		if i > impl.MaxFollow {
			x.follows, file, dots, none = loop, both(file.path, loop), both(dots.path, loop), both(none.path, loop)
		}
		cases = append(cases, x, file, dots, none)
	}
	// Links in different parts count together; the last one alone may be left.
	cases = append(cases,
		both("/l4/../l4/f", spotAt(2, "f", 3)),
		both("/l4/../l5/f", loop),
		wayCase{"/l4/../l4", spotAt(1, "l4", 7), spotAt(1, "l0", 2)},
		wayCase{"/l4/../l5", spotAt(1, "l5", 8), loop},
		wayCase{"/l8/../l1", spotAt(1, "l1", 4), loop},
		wayCase{"/l8/../l10", spotAt(1, "l10", 13), loop},
		both("/l9/../l1", loop),
		both("/l8/../none", missing(1, "none")),
		both("/l8/../none/x", ends(impl.ENoEnt)),
		both("/l8/../123456789", ends(impl.ENameTooLong)),
		both("/l8/f/x", ends(impl.ENotDir)),
	)
	checkWays(t, chainVol(10), someone, cases)
}

// One link again and again counts each time, though it leads to where it is.
func TestWalkOverOneLinkOften(t *testing.T) {
	v := volOf(dirAt("/d"), fileAt("/d/f"), linkAt("/d/s", "."))
	for times := range 25 {
		over := "/d" + strings.Repeat("/s", times)
		last, file := wayCase{over + "/s", spotAt(2, "s", 4), inside(2)}, both(over+"/f", spotAt(2, "f", 3))
		switch {
		case times > impl.MaxFollow:
			last, file = both(last.path, ends(impl.ELoop)), both(file.path, ends(impl.ELoop))
		case times == impl.MaxFollow:
			last.follows = ends(impl.ELoop)
		}
		checkWays(t, v, someone, []wayCase{last, file})
	}
}

// What is left is what the target has and what stands behind the link: the link itself is gone, and so is what lies behind.
func TestWalkWithMuchLeft(t *testing.T) {
	long := ends(impl.ENameTooLong)
	for parts := 1; parts <= 30; parts++ {
		v := volOf(linkAt("/l", strings.Repeat("./", parts)), dirAt("/d"))
		for behind := 0; behind <= 29; behind++ {
			want := both("/l"+strings.Repeat("/.", behind), inside(1))
			if parts+behind > impl.MaxTodo {
				want = both(want.path, long)
			}
			if behind == 0 {
				want.stays = spotAt(1, "l", 2)
			}
			checkWays(t, v, someone, []wayCase{want})
		}
		for ahead := range 20 {
			checkWays(t, v, someone, []wayCase{both("/."+strings.Repeat("/.", ahead)+"/l/d", spotAt(1, "d", 3))})
		}
	}
}

func TestWalkWithMuchLeftByTwoLinks(t *testing.T) {
	long := ends(impl.ENameTooLong)
	dots := func(n int) string { return strings.Repeat("/.", n) }
	v := volOf(linkAt("/a", "b"+dots(29)), linkAt("/b", "."+dots(10)), linkAt("/c", "e"+dots(29)), linkAt("/e", "."+dots(11)), dirAt("/d"),
		linkAt("/g", "/.//"+strings.Repeat("./", 10)+"/"), linkAt("/h", "a"+dots(11)), linkAt("/i", "h"))
	checkWays(t, v, someone, []wayCase{
		{"/a", spotAt(1, "a", 2), inside(1)},
		both("/a/.", long),
		both("/a/d", long),
		{"/b", spotAt(1, "b", 3), inside(1)},
		both("/b"+dots(29), inside(1)),
		{"/c", spotAt(1, "c", 4), long},
		{"/e", spotAt(1, "e", 5), inside(1)},
		both("/e"+dots(28), inside(1)),
		both("/e"+dots(29), long),
		// Neither the / at its end nor those in a row are parts.
		both("/g"+dots(29), inside(1)),
		// At a there are 30 parts and 11 behind: one too many, ahead of b with its own.
		{"/h", spotAt(1, "h", 8), long},
		{"/i", spotAt(1, "i", 9), long},
	})
}

// Where two reasons fit, the one counts that stands first.
func TestWalkTellsTheFirstReason(t *testing.T) {
	v := volOf(lockedAt("/p", 0o600), linkAt("/p/l", "/p/l"), linkAt("/big", "."+strings.Repeat("/.", 20)), linkAt("/s", "/"), linkAt("/q", "p/./"+strings.Repeat("/x", 24)),
		fileAt("/f"), linkAt("/gone", "none"+strings.Repeat("/x", 25)), dirAt("/d"))
	eight := strings.Repeat("/s", 8)
	checkWays(t, v, someone, []wayCase{
		both("/p/l/x", ends(impl.EAcces)),
		both("/p/123456789/x", ends(impl.EAcces)),
		// Too many links counts ahead of too many parts.
		both(eight+"/big"+strings.Repeat("/.", 20), ends(impl.ELoop)),
		both(eight[2:]+"/big"+strings.Repeat("/.", 20), ends(impl.ENameTooLong)),
		// Too many parts counts ahead of what these parts would lead to.
		both("/gone"+strings.Repeat("/x", 15), ends(impl.ENameTooLong)),
		both("/gone"+strings.Repeat("/x", 14), ends(impl.ENoEnt)),
		both("/q"+strings.Repeat("/x", 15), ends(impl.ENameTooLong)),
		both("/q"+strings.Repeat("/x", 14), ends(impl.EAcces)),
		both("/big"+strings.Repeat("/.", 18)+"/d", spotAt(1, "d", 9)),
		both("/big"+strings.Repeat("/.", 19)+"/d", ends(impl.ENameTooLong)),
		both("/f/123456789", ends(impl.ENotDir)),
		both(eight+"/f/s", ends(impl.ENotDir)),
		{eight + "/p/l", ends(impl.EAcces), ends(impl.EAcces)},
	})
}

// someWayVol has few names, so that paths and targets often meet them, links if wanted, and directories that mostly may be looked into.
func someWayVol(r *rand.Rand, links bool) impl.Vol {
	names := []string{"a", "b", "c", "abcdefgh"}
	pieces := []string{"a", "b", "c", "a/b", ".", "..", "abcdefgh", "abcdefghi", "", "/"}
	v := impl.NewVol()
	dirs := []int{0}
	for range r.Intn(20) {
		n := impl.Inode{Id: v.Next, Kind: 1 + r.Intn(3), Uid: r.Intn(4), Gid: r.Intn(6), Mode: r.Intn(512) | 0o111}
		if r.Intn(10) == 0 {
			n.Mode &= r.Intn(512)
		}
		if n.Kind == impl.KdLink && links {
			n.Data, n.Mode = pieces[r.Intn(7)], 511
			for range r.Intn(3) {
				n.Data += "/" + pieces[r.Intn(len(pieces))]
			}
			if r.Intn(3) == 0 {
				n.Data = "/" + n.Data
			}
		} else if n.Kind == impl.KdLink {
			n.Kind = impl.KdDir
		}
		dir := &v.Inodes[dirs[r.Intn(len(dirs))]]
		if !putName(dir, names[r.Intn(len(names))], n.Id) {
			continue
		}
		if n.Kind == impl.KdDir {
			dirs = append(dirs, len(v.Inodes))
		}
		v.Inodes = append(v.Inodes, n)
		v.Next++
	}
	return v
}

// someWay is a path of the names that someWayVol has, with now and then something else.
func someWay(r *rand.Rand) string {
	pieces := []string{"a", "b", "c", "a", "b", "c", "abcdefgh", ".", "..", "..", "", "none", "abcdefghi"}
	out := ""
	for range 1 + r.Intn(7) {
		out += "/" + pieces[r.Intn(len(pieces)-r.Intn(3))]
	}
	if r.Intn(60) == 0 {
		out = noPaths[r.Intn(len(noPaths))]
	}
	return out
}

func TestSomeWays(t *testing.T) {
	r := rand.New(rand.NewSource(61))
	told := map[int]int{}
	for i := range 8000 {
		v := someWayVol(r, true)
		if i%10 == 9 {
			v = bentVol(r, v)
		}
		for range 12 {
			c, path, follow := someCred(r), someWay(r), r.Intn(2) == 0
			got, want := impl.Walk(v, c, path, follow), wantWalk(v, c, path, follow)
			if got != want {
				t.Fatalf("Walk of %q, %v, by %+v in %+v = %+v, want %+v", path, follow, c, v, got, want)
			}
			told[got.Code]++
		}
	}
	for _, code := range []int{impl.EOk, impl.ENoEnt, impl.EAcces, impl.ENotDir, impl.EInval, impl.ENameTooLong, impl.ELoop} {
		if told[code] < 500 {
			t.Errorf("the code %d came so often: %d", code, told[code])
		}
	}
	if len(told) != 7 {
		t.Errorf("codes: %v", told)
	}
}

// Every path of a few bytes, in a volume that has each kind of thing at the names that it may meet.
func TestShortWays(t *testing.T) {
	v := volOf(dirAt("/a"), dirAt("/a/a"), linkAt("/a/b", ".."), fileAt("/a/a/a"), linkAt("/b", "a/b/a"), linkAt("/a/a/b", "/b/b"), linkAt("/c", "c"))
	for _, text := range shortTexts("/.ab", 8) {
		for _, follow := range []bool{false, true} {
			if got, want := impl.Walk(v, someone, text, follow), wantWalk(v, someone, text, follow); got != want {
				t.Fatalf("Walk of %q, %v = %+v, want %+v", text, follow, got, want)
			}
		}
	}
}

// checkClean tells if the path leads somewhere; then its Clean leads there, too.
func checkClean(t *testing.T, v impl.Vol, c impl.Cred, text string, follow bool) bool {
	t.Helper()
	got := impl.Walk(v, c, text, follow)
	clean := impl.Walk(v, c, impl.Clean(text), follow)
	parts := impl.Parts(text)
	points := len(parts) == 0 || parts[len(parts)-1] == "." || parts[len(parts)-1] == ".."
	switch {
	case got.Code == impl.EOk && (clean.Code != impl.EOk || clean.Id != got.Id):
		t.Fatalf("%q leads to %+v, its Clean %q to %+v: %+v in %+v", text, got, impl.Clean(text), clean, c, v)
	case (got.Code == impl.EOk || got.Name != "") && !points && clean != got:
		t.Fatalf("%q, which ends with a name, leads to %+v, its Clean %q to %+v: %+v in %+v", text, got, impl.Clean(text), clean, c, v)
	}
	return got.Code == impl.EOk
}

// Promise 6, in volumes without links.
func TestWalkOfClean(t *testing.T) {
	r := rand.New(rand.NewSource(62))
	led, changed := 0, 0
	for range 8000 {
		v := someWayVol(r, false)
		for range 12 {
			c, text := someCred(r), someWay(r)
			if checkClean(t, v, c, text, r.Intn(2) == 0) {
				led++
				if impl.Clean(text) != text {
					changed++
				}
			}
		}
	}
	if led < 10000 || changed < 5000 {
		t.Error("so many lead somewhere, and so many of these are not clean:", led, changed)
	}
	v := volOf(dirAt("/a"), dirAt("/a/a"), fileAt("/a/b"), lockedAt("/b", 0o600), dirAt("/b/a"), fileAt("/a/a/b"))
	for _, text := range shortTexts("/.ab", 8) {
		for _, c := range []impl.Cred{userZero, someone} {
			checkClean(t, v, c, text, true)
		}
	}
}

// With links the promise is not given: two points lead up from where the link led.
func TestWalkOfCleanWithLinks(t *testing.T) {
	v := linkVol()
	if up, clean := impl.Walk(v, someone, "/rel/..", true), impl.Walk(v, someone, impl.Clean("/rel/.."), true); up != inside(2) || clean != inside(1) {
		t.Errorf("%+v, %+v", up, clean)
	}
}

func TestWalkMemory(t *testing.T) {
	r := rand.New(rand.NewSource(63))
	for i := range 3000 {
		v := someWayVol(r, i%4 > 0)
		if i%5 == 4 {
			v = bentVol(r, v)
		}
		c, text := someCred(r), someWay(r)
		room, given := newRoomyVol(v)
		was := c
		groups, list := newRoomy(c.Groups, 1)
		c.Groups = list
		for _, follow := range []bool{false, true} {
			// The marks behind the lists are names and groups, too: they count for nothing.
			got, want := impl.Walk(given, c, text, follow), wantWalk(v, was, text, follow)
			if got != want {
				t.Fatalf("Walk of %q, %v, by %+v in %+v = %+v, want %+v", text, follow, was, v, got, want)
			}
			if again := impl.Walk(given, c, text, follow); again != got {
				t.Fatalf("Walk of %q, %v, once %+v, then %+v", text, follow, got, again)
			}
		}
		if room.touched() || groups.touched() || !sameVol(given, v) || !slices.Equal(c.Groups, was.Groups) {
			t.Fatalf("written into: %+v, %+v", v, was)
		}
	}
}

// A Name has bytes of its own, neither those of the path nor those of a name or target in the volume.
func TestWalkNameIsNewMemory(t *testing.T) {
	v := volOf(dirAt("/dir"), fileAt("/dir/file"), linkAt("/link", "dir/file"), linkAt("/gone", "dir/none"))
	for _, p := range []string{"/dir/file", "/link", "/gone", "/dir/none", "/none"} {
		given := []string{p}
		for _, n := range v.Inodes {
			given = append(given, n.Data)
			for _, e := range n.Names {
				given = append(given, e.Name)
			}
		}
		for _, follow := range []bool{false, true} {
			name := impl.Walk(v, someone, p, follow).Name
			for _, s := range given {
				if overlap(unsafe.Slice(unsafe.StringData(name), len(name)), unsafe.Slice(unsafe.StringData(s), len(s))) {
					t.Errorf("Walk of %q, %v: the Name shares its bytes with %q", p, follow, s)
				}
			}
		}
	}
}
