package tests

import (
	"fmt"
	"slices"
	"strconv"
	"strings"
	"testing"

	"loop.example/g00757/impl"
)

// flawVol is what scenes begin with: all in it is someone's, but the root. Its numbers are 2 /d, 3 /d/f, 4 /d/l, 5 /d/e, 6 /t, 7 /t/f, 8 /t/e, 9 /q.
func flawVol() impl.Vol {
	return volOf(owned(dirAt("/d"), 2, 2, 0o777), owned(holding(fileAt("/d/f"), "abc"), 2, 2, 0o666), owned(linkAt("/d/l", "f"), 2, 2, 511), owned(dirAt("/d/e"), 2, 2, 0o777),
		owned(dirAt("/t"), 2, 2, 0o777), owned(fileAt("/t/f"), 2, 2, 0o666), owned(dirAt("/t/e"), 2, 2, 0o777), owned(linkAt("/q", "q"), 2, 2, 511))
}

// scene is a volume, who calls, and the call; tight are directories whose bounds are what they use, once all else is set.
type scene struct {
	v              impl.Vol
	c              impl.Cred
	x              impl.Call
	tightB, tightI []int
	// fill puts as many bytes into /t/e as the volume has room for.
	fill bool
	// odd is a scene in which two flaws don't go together.
	odd bool
}

// flaw makes of a scene one in which a call is refused with that code.
type flaw struct {
	what string
	code int
	set  func(s *scene)
}

func (s *scene) at(id int) *impl.Inode {
	return &s.v.Inodes[slices.IndexFunc(s.v.Inodes, func(n impl.Inode) bool { return n.Id == id })]
}

// add puts an inode with a name into that directory.
func (s *scene) add(dir int, name string, n impl.Inode) {
	n.Id = s.v.Next
	s.v.Next++
	putName(s.at(dir), name, n.Id)
	s.v.Inodes = append(s.v.Inodes, n)
}

func (s *scene) tighten() {
	used, _ := wantUsed(s.v, 1)
	// Where there is no room for an inode either, ENoSpc is told anyhow.
	s.odd = s.odd || s.fill && (len(s.v.Inodes) == impl.MaxInodes || s.v.Next == impl.MaxId)
	for left := impl.MaxBytes - used; s.fill && !s.odd && left > 0; left -= min(left, impl.MaxFile) {
		s.add(8, "w"+strconv.Itoa(left), impl.Inode{Kind: impl.KdFile, Data: strings.Repeat("w", min(left, impl.MaxFile))})
	}
	for _, id := range s.tightB {
		s.at(id).MaxB, _ = wantUsed(s.v, id)
		s.odd = s.odd || s.at(id).MaxB == 0
	}
	for _, id := range s.tightI {
		_, s.at(id).MaxI = wantUsed(s.v, id)
		s.odd = s.odd || s.at(id).MaxI == 0
	}
}

// checkFlaws sets each choice of up to three flaws, at most one of each row: the one that stands first counts, whatever stands behind it.
func checkFlaws(t *testing.T, base scene, data string, rows ...[]flaw) {
	t.Helper()
	met := map[string]int{}
	var choose func(row int, chosen []flaw)
	choose = func(row int, chosen []flaw) {
		if row == len(rows) || len(chosen) == 3 {
			if checkFlawed(t, base, data, chosen) {
				for _, f := range chosen {
					met[f.what]++
				}
			}
			return
		}
		choose(row+1, chosen)
		for _, f := range rows[row] {
			choose(row+1, append(slices.Clone(chosen), f))
		}
	}
	choose(0, nil)
	for _, f := range slices.Concat(rows...) {
		if met[f.what] < len(rows) {
			t.Errorf("set so often: %d: %s", met[f.what], f.what)
		}
	}
}

// checkFlawed is false of flaws that don't go together.
func checkFlawed(t *testing.T, s scene, data string, chosen []flaw) bool {
	t.Helper()
	s.v = copiedVol(s.v)
	want, what := impl.Result{Data: data}, "no flaw"
	// A path is changed by what stands ahead: it comes last.
	for _, f := range slices.Backward(chosen) {
		f.set(&s)
		want, what = impl.Result{Code: f.code}, f.what+", "+what
	}
	s.tighten()
	if s.odd {
		return false
	}
	if !impl.VolOk(s.v) {
		t.Fatalf("%s: not right: %+v", what, s.v)
	}
	if _, res := do(t, s.v, s.c, s.x); res != want {
		t.Fatalf("%s: %+v by %+v in %+v is told %+v, want %+v", what, s.x, s.c, s.v, res, want)
	}
	return true
}

// lostWays end ahead of their end, each for another reason; of a path without parts none of them would.
func lostWays(field func(s *scene) *string) []flaw {
	ahead := func(what string, code int, prefix string) flaw {
		return flaw{what, code, func(s *scene) {
			s.odd = s.odd || len(wantParts(*field(s))) == 0
			*field(s) = prefix + *field(s)
		}}
	}
	return []flaw{
		ahead("no such directory", impl.ENoEnt, "/none"), ahead("a file on the way", impl.ENotDir, "/d/f"), ahead("a long name", impl.ENameTooLong, "/123456789"),
		ahead("links in a circle", impl.ELoop, "/q"), ahead("no path", impl.EInval, "x"),
		{"an empty path", impl.EInval, func(s *scene) { *field(s) = "" }},
	}
}

// noWays are of Path: nothing there, or a root that may not be looked into, too.
func noWays(nothing ...string) []flaw {
	out := append(lostWays(pathOf), flaw{"a locked root", impl.EAcces, func(s *scene) {
		s.odd = s.odd || len(wantParts(s.x.Path)) == 0
		s.at(1).Mode = 0o766
	}})
	for _, path := range nothing {
		out = append(out, flaw{"nothing at " + path, impl.ENoEnt, func(s *scene) { s.x.Path = path }})
	}
	return out
}

func pathOf(s *scene) *string { return &s.x.Path }

func toOf(s *scene) *string { return &s.x.To }

func setN(n, code int) flaw {
	return flaw{"N " + strconv.Itoa(n), code, func(s *scene) { s.x.N = n }}
}

func setM(n, code int) flaw {
	return flaw{"M " + strconv.Itoa(n), code, func(s *scene) { s.x.M = n }}
}

func modeWithout(id, bits int) flaw {
	return flaw{"without the bits " + strconv.Itoa(bits) + " at " + strconv.Itoa(id), impl.EAcces, func(s *scene) { s.at(id).Mode &^= bits }}
}

func unchangeable(id int) []flaw { return []flaw{modeWithout(id, 0o222)} }

// unchangeableTo is the directory to which To leads, wherever that is.
func unchangeableTo() flaw {
	return flaw{"To's directory may not be changed", impl.EAcces, func(s *scene) {
		s.at(wantWay(s.v, s.c, 1, s.x.To, false, 8).Dir).Mode &^= 0o222
	}}
}

// sticky is a directory of another one, with all in it another one's.
func sticky(id int) flaw {
	return flaw{"sticky " + strconv.Itoa(id), impl.EPerm, func(s *scene) {
		s.at(id).Uid = 9
		s.at(id).Mode |= impl.MdSticky
		for _, e := range s.at(id).Names {
			s.at(e.Id).Uid = 9
		}
	}}
}

// fullDir has as many names as there may be, most of them of one file.
func fullDir(id, file int) flaw {
	return flaw{"twelve names in " + strconv.Itoa(id), impl.ENoSpc, func(s *scene) {
		for i := 0; len(s.at(id).Names) < impl.MaxEntries; i++ {
			putName(s.at(id), "z"+strconv.Itoa(i), file)
		}
	}}
}

func fullVol() []flaw {
	return []flaw{
		{"as many inodes as there may be", impl.ENoSpc, func(s *scene) {
			for i := 0; len(s.v.Inodes) < impl.MaxInodes; i++ {
				dir := []int{1, 5, 8}[i%3]
				s.add(dir, "y"+strconv.Itoa(i), impl.Inode{Kind: impl.KdFile})
			}
		}},
		{"Next at its end", impl.ENoSpc, func(s *scene) { s.v.Next = impl.MaxId }},
	}
}

func allBytes() flaw {
	return flaw{"as many bytes as there may be", impl.ENoSpc, func(s *scene) { s.fill = true }}
}

func tightB(ids ...int) flaw {
	return flaw{fmt.Sprint("all bytes used of ", ids), impl.EDQuot, func(s *scene) { s.tightB = ids }}
}

func tightI(ids ...int) flaw {
	return flaw{fmt.Sprint("all inodes used of ", ids), impl.EDQuot, func(s *scene) { s.tightI = ids }}
}

func sceneOf(c impl.Cred, x impl.Call) scene { return scene{v: flawVol(), c: c, x: x} }

func exists(field func(s *scene) *string) []flaw {
	var out []flaw
	for _, path := range []string{"/d/f", "/d/e", "/d/l", "/d", "/", "/d/.", "/d/e/.."} {
		out = append(out, flaw{path + " is there", impl.EExist, func(s *scene) { *field(s) = path }})
	}
	return out
}

func TestFlawsOfMaking(t *testing.T) {
	for _, kind := range []int{impl.CaMkdir, impl.CaCreate} {
		checkFlaws(t, sceneOf(someone, callAt(kind, "/d/new", 0o644)), "",
			[]flaw{setN(-1, impl.EInval), setN(2048, impl.EInval)},
			append(noWays(), exists(pathOf)...),
			unchangeable(2),
			append(fullVol(), fullDir(2, 3)),
			[]flaw{tightI(2), tightI(1), tightI(1, 2)})
	}
	checkFlaws(t, sceneOf(someone, callTo(impl.CaSymlink, "/d/new", "f")), "",
		[]flaw{{"no target", impl.EInval, func(s *scene) { s.x.To = "" }}, {"a target with a blank", impl.EInval, func(s *scene) { s.x.To = "a b" }}},
		append(noWays(), exists(pathOf)...),
		unchangeable(2),
		append(fullVol(), fullDir(2, 3)),
		[]flaw{allBytes()},
		[]flaw{tightI(2), tightI(1), tightB(2), tightB(1)})
}

func TestFlawsOfTakingAway(t *testing.T) {
	checkFlaws(t, sceneOf(someone, callAt(impl.CaRmdir, "/d/e")), "",
		noWays("/d/new"),
		noNames(pathOf, "Path"),
		[]flaw{{"a file", impl.ENotDir, func(s *scene) { s.x.Path = "/d/f" }}, {"a link", impl.ENotDir, func(s *scene) { s.x.Path = "/d/l" }}},
		unchangeable(2),
		[]flaw{sticky(2)},
		[]flaw{{"a name in it", impl.ENotEmpty, func(s *scene) { s.add(5, "x", impl.Inode{Kind: impl.KdFile}) }}})
	for _, path := range []string{"/d/f", "/d/l"} {
		checkFlaws(t, sceneOf(someone, callAt(impl.CaUnlink, path)), "",
			noWays("/d/new"),
			[]flaw{{"a directory", impl.EIsDir, func(s *scene) { s.x.Path = "/d/e" }}, {"the root", impl.EIsDir, func(s *scene) { s.x.Path = "/" }}, {"no Name", impl.EIsDir, func(s *scene) { s.x.Path = "/d/e/." }}},
			unchangeable(2),
			[]flaw{sticky(2)})
	}
}

func TestFlawsOfLinking(t *testing.T) {
	checkFlaws(t, sceneOf(someone, callTo(impl.CaLink, "/t/f", "/d/new")), "",
		noWays("/t/none"),
		[]flaw{{"a directory", impl.EPerm, func(s *scene) { s.x.Path = "/t/e" }}, {"the root", impl.EPerm, func(s *scene) { s.x.Path = "/" }}},
		append(lostWays(toOf), exists(toOf)...),
		unchangeable(2),
		[]flaw{fullDir(2, 3)},
		[]flaw{tightI(2)})
	// The bytes that another name brings.
	checkFlaws(t, scene{v: volOf(owned(dirAt("/d"), 2, 2, 0o777), owned(holding(fileAt("/d/f"), "abc"), 2, 2, 0o666), owned(holding(fileAt("/g"), "x"), 2, 2, 0)), c: someone, x: callTo(impl.CaLink, "/g", "/d/new")}, "",
		unchangeable(2), []flaw{fullDir(2, 3)}, []flaw{tightB(2)})
}

// roots lead to a directory without a name.
func roots(field func(s *scene) *string, what string) []flaw {
	return []flaw{
		{"the root as " + what, impl.EBusy, func(s *scene) { *field(s) = "/" }},
		{"up as " + what, impl.EBusy, func(s *scene) { *field(s) = "/t/e/.." }},
	}
}

// noNames take the name of a directory away, too, if it is one.
func noNames(field func(s *scene) *string, what string) []flaw {
	return append(roots(field, what), flaw{"no Name of " + what, impl.EBusy, func(s *scene) {
		spot := wantWay(s.v, s.c, 1, *field(s), false, 8)
		s.odd = s.odd || spot.Code != impl.EOk || s.at(spot.Id).Kind != impl.KdDir
		*field(s) += "/."
	}})
}

func isMoved(path string) flaw {
	return flaw{"the same inode at " + path, impl.EOk, func(s *scene) { s.x.To = path }}
}

func TestFlawsOfMovingAFile(t *testing.T) {
	// Onto a file: what is in /t goes.
	checkFlaws(t, sceneOf(someone, callTo(impl.CaRename, "/d/f", "/t/f")), "",
		noWays("/d/none"),
		lostWays(toOf),
		append(roots(pathOf, "Path"), noNames(toOf, "To")...),
		append(unchangeable(2), unchangeableTo()),
		[]flaw{sticky(2)},
		[]flaw{isMoved("/d/f"), isMoved("/d/./f"), {"another name of it", impl.EOk, func(s *scene) { putName(s.at(6), "g", 3); s.at(3).Uid, s.x.To = 9, "/t/g" }}},
		[]flaw{sticky(6)},
		[]flaw{{"onto a directory", impl.EIsDir, func(s *scene) { s.x.To = "/t/e" }}},
		[]flaw{tightB(6)})
	// To a new name.
	checkFlaws(t, sceneOf(someone, callTo(impl.CaRename, "/d/f", "/t/new")), "",
		noWays("/d/none"),
		lostWays(toOf),
		append(roots(pathOf, "Path"), roots(toOf, "To")...),
		append(unchangeable(2), unchangeableTo()),
		[]flaw{sticky(2)},
		[]flaw{fullDir(6, 7)},
		[]flaw{tightI(6)})
}

func TestFlawsOfMovingADirectory(t *testing.T) {
	checkFlaws(t, sceneOf(someone, callTo(impl.CaRename, "/d/e", "/t/e")), "",
		noWays("/d/none"),
		lostWays(toOf),
		append(noNames(pathOf, "Path"), noNames(toOf, "To")...),
		append(unchangeable(2), unchangeableTo()),
		[]flaw{sticky(2)},
		[]flaw{
			{"into itself", impl.EInval, func(s *scene) { s.x.To = "/d/e/new" }},
			{"onto what is in it", impl.EInval, func(s *scene) {
				s.add(5, "in", impl.Inode{Kind: impl.KdDir, Mode: 0o777})
				s.x.To = "/d/e/in"
			}},
			{"below itself", impl.EInval, func(s *scene) {
				s.add(5, "low", impl.Inode{Kind: impl.KdDir, Mode: 0o777})
				s.add(s.v.Next-1, "lower", impl.Inode{Kind: impl.KdDir, Mode: 0o777})
				s.x.To = "/d/e/low/lower/new"
			}},
		},
		[]flaw{isMoved("/d/e"), isMoved("/d/e/")},
		[]flaw{sticky(6)},
		[]flaw{{"onto a file", impl.ENotDir, func(s *scene) { s.x.To = "/t/f" }}, {"onto a link", impl.ENotDir, func(s *scene) { s.add(6, "l", impl.Inode{Kind: impl.KdLink, Mode: 511, Data: "e"}); s.x.To = "/t/l" }}},
		[]flaw{{"onto names", impl.ENotEmpty, func(s *scene) { s.odd = s.odd || s.x.To != "/t/e"; s.add(8, "x", impl.Inode{Kind: impl.KdFile}) }}})
	// With something in it that another directory has no room for.
	moved := sceneOf(someone, callTo(impl.CaRename, "/d/e", "/t/new"))
	moved.add(5, "x", impl.Inode{Kind: impl.KdFile, Data: "bytes"})
	moved.at(7).Data = "byte"
	checkFlaws(t, moved, "",
		append(unchangeable(2), unchangeableTo()),
		[]flaw{sticky(2)},
		[]flaw{{"into itself", impl.EInval, func(s *scene) { s.x.To = "/d/e/new" }}, {"onto a name in it", impl.EInval, func(s *scene) { s.x.To = "/d/e/x" }}},
		[]flaw{fullDir(6, 7)},
		[]flaw{tightI(6), tightB(6)})
}

func followsDir() []flaw {
	dirs := []flaw{}
	for _, path := range []string{"/d/e", "/", "/d/.", "/toe"} {
		dirs = append(dirs, flaw{path + " is a directory", impl.EIsDir, func(s *scene) { s.x.Path = path }})
	}
	return dirs
}

// byteScene has a link /toe to a directory and /tof to the file.
func byteScene(x impl.Call) scene {
	s := sceneOf(someone, x)
	s.add(1, "toe", impl.Inode{Kind: impl.KdLink, Mode: 511, Data: "d/e"})
	s.add(1, "tof", impl.Inode{Kind: impl.KdLink, Mode: 511, Data: "/d/l"})
	s.add(1, "gone", impl.Inode{Kind: impl.KdLink, Mode: 511, Data: "d/none"})
	return s
}

func TestFlawsOfBytes(t *testing.T) {
	lost := noWays("/d/none", "/gone")
	for _, path := range []string{"/d/f", "/tof"} {
		checkFlaws(t, byteScene(callAt(impl.CaRead, path, 1, 5)), "bc", lost, followsDir(), []flaw{modeWithout(3, 0o400)},
			[]flaw{setN(-1, impl.EInval), setN(-1000000, impl.EInval), setM(-1, impl.EInval), setM(-1000000, impl.EInval)})
		checkFlaws(t, byteScene(writeAt(path, 1, "xyz")), "", lost, followsDir(), []flaw{modeWithout(3, 0o200)},
			[]flaw{setN(-1, impl.EInval), setN(-1000000, impl.EInval)},
			[]flaw{{"no Data", impl.EOk, func(s *scene) { s.x.Data = "" }}},
			[]flaw{setN(62, impl.EFBig), setN(1000000, impl.EFBig)},
			[]flaw{allBytes()},
			[]flaw{tightB(2), tightB(1)})
		checkFlaws(t, byteScene(appendTo(path, "xyz")), "", lost, followsDir(), []flaw{modeWithout(3, 0o200)},
			[]flaw{{"no Data", impl.EOk, func(s *scene) { s.x.Data = "" }}},
			[]flaw{{"62 bytes", impl.EFBig, func(s *scene) { s.at(3).Data = strings.Repeat("f", 62) }}, {"64 bytes", impl.EFBig, func(s *scene) { s.at(3).Data = strings.Repeat("f", 64) }}},
			[]flaw{allBytes()},
			[]flaw{tightB(2), tightB(1)})
		checkFlaws(t, byteScene(callAt(impl.CaTrunc, path, 5)), "", lost, followsDir(), []flaw{modeWithout(3, 0o200)},
			[]flaw{setN(-1, impl.EInval), setN(-1000000, impl.EInval)},
			[]flaw{setN(65, impl.EFBig), setN(1000000, impl.EFBig)},
			[]flaw{allBytes()},
			[]flaw{tightB(2), tightB(1)})
	}
}

func TestFlawsOfTelling(t *testing.T) {
	lost := noWays("/d/none")
	gone := noWays("/d/none", "/gone")
	files := []flaw{{"a file", impl.ENotDir, func(s *scene) { s.x.Path = "/d/f" }}, {"a link to a file", impl.ENotDir, func(s *scene) { s.x.Path = "/tof" }}}
	checkFlaws(t, byteScene(callAt(impl.CaReadlink, "/d/l")), "f", lost,
		[]flaw{{"a file", impl.EInval, func(s *scene) { s.x.Path = "/d/f" }}, {"a directory", impl.EInval, func(s *scene) { s.x.Path = "/d/e" }}, {"the root", impl.EInval, func(s *scene) { s.x.Path = "/" }}})
	checkFlaws(t, byteScene(callAt(impl.CaReaddir, "/d")), "e/f/l", gone, files, []flaw{modeWithout(2, 0o400)})
	checkFlaws(t, byteScene(callAt(impl.CaGetquota, "/d")), "0 0 4 3", gone, files, []flaw{modeWithout(2, 0o400)})
	checkFlaws(t, byteScene(callAt(impl.CaStat, "/tof")), "1 438 2 2 1 3", []flaw{setN(-1, impl.EInval), setN(2, impl.EInval), setN(1000000, impl.EInval)}, gone)
	checkFlaws(t, byteScene(callAt(impl.CaStat, "/tof", 1)), "3 511 0 0 1 4", []flaw{setN(-1, impl.EInval), setN(2, impl.EInval)}, lost)
	checkFlaws(t, byteScene(callAt(impl.CaAccess, "/tof", 6)), "", []flaw{setN(-1, impl.EInval), setN(8, impl.EInval)}, gone, []flaw{modeWithout(3, 0o400), modeWithout(3, 0o200), modeWithout(3, 0o600)})
	checkFlaws(t, byteScene(callAt(impl.CaStatfs, "/d")), "12 18")
}

func TestFlawsOfOwning(t *testing.T) {
	gone := noWays("/d/none", "/gone")
	others := flaw{"another one's", impl.EPerm, func(s *scene) { s.at(3).Uid = 9 }}
	zeros := flaw{"user 0's", impl.EPerm, func(s *scene) { s.at(3).Uid = 0 }}
	for _, path := range []string{"/d/f", "/tof"} {
		checkFlaws(t, byteScene(callAt(impl.CaChmod, path, 0o400)), "", []flaw{setN(-1, impl.EInval), setN(2048, impl.EInval)}, gone, []flaw{others, zeros})
		checkFlaws(t, byteScene(callAt(impl.CaChown, path, 2, 2)), "",
			[]flaw{setN(-1, impl.EInval), setN(1001, impl.EInval), setM(-1, impl.EInval), setM(1001, impl.EInval)}, gone,
			[]flaw{others, zeros, setN(3, impl.EPerm), setN(0, impl.EPerm), setM(3, impl.EPerm), setM(0, impl.EPerm)})
	}
	// EPerm stands ahead of where the path leads.
	quota := byteScene(callAt(impl.CaSetquota, "/d", 10, 10))
	quota.c = userZero
	bounds := []flaw{setN(-1, impl.EInval), setN(401, impl.EInval), setM(-1, impl.EInval), setM(25, impl.EInval)}
	files := []flaw{{"a file", impl.ENotDir, func(s *scene) { s.x.Path = "/d/f" }}, {"a link to a file", impl.ENotDir, func(s *scene) { s.x.Path = "/tof" }}}
	checkFlaws(t, quota, "", bounds, []flaw{{"not user 0", impl.EPerm, func(s *scene) { s.c = someone }}}, gone[:6], files, []flaw{setN(3, impl.EDQuot), setM(2, impl.EDQuot), setN(1, impl.EDQuot)})
	checkFlaws(t, quota, "", bounds, []flaw{{"not user 0", impl.EPerm, func(s *scene) { s.c = someone }}}, gone[7:], files, []flaw{setN(3, impl.EDQuot), setM(2, impl.EDQuot), setM(1, impl.EDQuot)})
}
