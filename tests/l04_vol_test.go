package tests

import (
	"maps"
	"math"
	"math/rand"
	"reflect"
	"slices"
	"strconv"
	"strings"
	"testing"

	"loop.example/g00757/impl"
)

func wantTarget(s string) bool {
	return len(s) >= 1 && len(s) <= impl.MaxPath && strings.Trim(s, "/"+nameBytes) == ""
}

// wantVolBelow is what is below a directory: what a name leads to is added until nothing comes any more.
func wantVolBelow(v impl.Vol, dir int) map[int]impl.Inode {
	found := map[int]impl.Inode{}
	for size := -1; size < len(found); {
		size = len(found)
		for _, n := range v.Inodes {
			if _, in := found[n.Id]; !in && n.Id != dir {
				continue
			}
			for _, e := range n.Names {
				if at := slices.IndexFunc(v.Inodes, func(to impl.Inode) bool { return to.Id == e.Id }); at >= 0 {
					found[e.Id] = v.Inodes[at]
				}
			}
		}
	}
	return found
}

func wantUsed(v impl.Vol, dir int) (int, int) {
	bytes := 0
	for _, n := range wantVolBelow(v, dir) {
		bytes += len(n.Data)
	}
	return bytes, len(wantVolBelow(v, dir))
}

// wantNames is how many names lead to that inode, in all directories.
func wantNames(v impl.Vol, id int) int {
	count := 0
	for _, n := range v.Inodes {
		for _, e := range n.Names {
			if e.Id == id {
				count++
			}
		}
	}
	return count
}

func wantInodeOk(n impl.Inode) bool {
	bare := len(n.Names) == 0 && n.MaxB == 0 && n.MaxI == 0
	right := map[int]bool{
		impl.KdFile: len(n.Data) <= 64 && bare,
		impl.KdLink: wantTarget(n.Data) && n.Mode == 511 && bare,
		impl.KdDir:  n.Data == "" && len(n.Names) <= 12 && n.MaxB >= 0 && n.MaxB <= 400 && n.MaxI >= 0 && n.MaxI <= 24,
	}[n.Kind]
	return right && n.Mode >= 0 && n.Mode <= 2047 && n.Uid >= 0 && n.Uid <= 1000 && n.Gid >= 0 && n.Gid <= 1000
}

// wantVolOk gathers what is wrong, in the document's words.
func wantVolOk(v impl.Vol) bool {
	if v.Next < 2 || v.Next > 100000 || len(v.Inodes) > 24 || len(v.Inodes) == 0 || v.Inodes[0].Id != 1 || v.Inodes[0].Kind != impl.KdDir {
		return false
	}
	wrong, all := false, 0
	for i, n := range v.Inodes {
		wrong = wrong || !wantInodeOk(n) || n.Id < 1 || n.Id > v.Next-1 || i > 0 && n.Id <= v.Inodes[i-1].Id
		all += len(n.Data)
		for j, e := range n.Names {
			there := slices.ContainsFunc(v.Inodes, func(to impl.Inode) bool { return to.Id == e.Id })
			wrong = wrong || !wantNameOk(e.Name) || e.Id == 1 || !there || j > 0 && n.Names[j-1].Name >= e.Name
		}
		wrong = wrong || n.Kind == impl.KdDir && i > 0 && wantNames(v, n.Id) != 1
		bytes, inodes := wantUsed(v, n.Id)
		wrong = wrong || n.MaxB > 0 && bytes > n.MaxB || n.MaxI > 0 && inodes > n.MaxI
	}
	found := wantVolBelow(v, 1)
	for _, n := range v.Inodes[1:] {
		_, in := found[n.Id]
		wrong = wrong || !in
	}
	return !wrong && all <= 400
}

// wantOfInode is Usage, Links and Parent, told by the names that there are.
func wantOfInode(v impl.Vol, right bool, id int) [4]int {
	at := slices.IndexFunc(v.Inodes, func(n impl.Inode) bool { return n.Id == id })
	if !right || at < 0 {
		return [4]int{}
	}
	if v.Inodes[at].Kind != impl.KdDir {
		return [4]int{0, 0, wantNames(v, id), 0}
	}
	bytes, inodes := wantUsed(v, id)
	links, parent := 2, 1
	for _, n := range v.Inodes {
		for _, e := range n.Names {
			if n.Id == id && slices.ContainsFunc(v.Inodes, func(to impl.Inode) bool { return to.Id == e.Id && to.Kind == impl.KdDir }) {
				links++
			}
			if e.Id == id {
				parent = n.Id
			}
		}
	}
	return [4]int{bytes, inodes, links, parent}
}

func ofInode(v impl.Vol, id int) [4]int {
	bytes, inodes := impl.Usage(v, id)
	return [4]int{bytes, inodes, impl.Links(v, id), impl.Parent(v, id)}
}

// inodeNumbers are all that there are and some that there are not.
func inodeNumbers(v impl.Vol) []int {
	out := []int{math.MinInt, -1, 0, 1, 2, v.Next - 1, v.Next, impl.MaxId, math.MaxInt}
	for _, n := range v.Inodes[:min(len(v.Inodes), impl.MaxInodes+1)] {
		out = append(out, n.Id, n.Id+1)
	}
	return out
}

func checkVol(t *testing.T, v impl.Vol) {
	t.Helper()
	right := wantVolOk(v)
	if got := impl.VolOk(v); got != right {
		t.Fatalf("VolOk(%+v) = %v, want %v", v, got, right)
	}
	for _, id := range inodeNumbers(v) {
		if got, want := ofInode(v, id), wantOfInode(v, right, id); got != want {
			t.Fatalf("Usage, Links, Parent of %d in %+v = %v, want %v", id, v, got, want)
		}
	}
}

// dirents are names and where they lead, by turns: "a", 2, "b", 3.
func dirents(words ...any) []impl.Dirent {
	var out []impl.Dirent
	for i := 0; i < len(words); i += 2 {
		out = append(out, impl.Dirent{Name: words[i].(string), Id: words[i+1].(int)})
	}
	return out
}

// rightVol has a directory in a directory, a file with three names in all three of them, a link, and one more file.
func rightVol() impl.Vol {
	return impl.Vol{Next: 9, Inodes: []impl.Inode{
		{Id: 1, Kind: impl.KdDir, Mode: 493, Names: dirents("d", 2, "f", 4, "l", 5)},
		{Id: 2, Kind: impl.KdDir, Mode: 448, Uid: 7, Gid: 8, Names: dirents("e", 3, "g", 4), MaxB: 100, MaxI: 10},
		{Id: 3, Kind: impl.KdDir, Names: dirents("h", 4, "i", 7)},
		{Id: 4, Kind: impl.KdFile, Mode: 420, Data: "abcd"},
		{Id: 5, Kind: impl.KdLink, Mode: 511, Data: "/f"},
		{Id: 7, Kind: impl.KdFile, Data: "x\x00"},
	}}
}

// volWith is the right volume with something changed.
func volWith(change func(v *impl.Vol)) impl.Vol {
	v := rightVol()
	change(&v)
	return v
}

// wideVol has so many inodes: all but a few stand in the root, the others in a directory there.
func wideVol(inodes int) impl.Vol {
	v := impl.Vol{Next: inodes + 1, Inodes: []impl.Inode{{Id: 1, Kind: impl.KdDir}, {Id: 2, Kind: impl.KdDir}}}
	v.Inodes[0].Names = dirents("a", 2)
	for id := 3; id <= inodes; id++ {
		v.Inodes = append(v.Inodes, impl.Inode{Id: id, Kind: impl.KdFile})
		dir := &v.Inodes[0]
		if len(dir.Names) == impl.MaxEntries {
			dir = &v.Inodes[1]
		}
		dir.Names = append(dir.Names, impl.Dirent{Name: "b" + string(rune('a'+id)), Id: id})
	}
	return v
}

// bytesVol has files with so many bytes in all, as few as can be.
func bytesVol(bytes int) impl.Vol {
	v := impl.NewVol()
	for bytes > 0 {
		size := min(bytes, impl.MaxFile)
		v.Inodes = append(v.Inodes, impl.Inode{Id: v.Next, Kind: impl.KdFile, Data: strings.Repeat("x", size)})
		v.Inodes[0].Names = append(v.Inodes[0].Names, impl.Dirent{Name: "n" + strconv.Itoa(v.Next), Id: v.Next})
		v.Next++
		bytes -= size
	}
	return v
}

// volCase is a change of the right volume that leaves it right, or does not.
type volCase struct {
	what   string
	change func(v *impl.Vol)
	right  bool
}

func checkVolCases(t *testing.T, cases []volCase) {
	t.Helper()
	for _, c := range cases {
		v := volWith(c.change)
		if impl.VolOk(v) != c.right {
			t.Errorf("%s: VolOk(%+v) is not %v", c.what, v, c.right)
		}
		checkVol(t, v)
		for _, id := range inodeNumbers(v) {
			if got := ofInode(v, id); !c.right && got != [4]int{} {
				t.Errorf("%s: %d of a volume that is not right: %v", c.what, id, got)
			}
		}
	}
}

// named puts an inode into the volume, with a name in the root.
func named(v *impl.Vol, name string, n impl.Inode) {
	v.Inodes = append(v.Inodes, n)
	v.Inodes[0].Names = append(v.Inodes[0].Names, impl.Dirent{Name: name, Id: n.Id})
	v.Next = n.Id + 1
}

func TestVolLimits(t *testing.T) {
	got := []int{impl.MaxInodes, impl.MaxEntries, impl.MaxFile, impl.MaxBytes, impl.MaxUid, impl.MaxMode, impl.MaxId, impl.KdFile, impl.KdDir, impl.KdLink, impl.MdSticky, impl.MdGroup}
	if !slices.Equal(got, []int{24, 12, 64, 400, 1000, 2047, 100000, 1, 2, 3, 512, 1024}) {
		t.Error("limits", got)
	}
}

func TestNewVol(t *testing.T) {
	v := impl.NewVol()
	want := impl.Vol{Next: 2, Inodes: []impl.Inode{{Id: 1, Kind: impl.KdDir, Mode: 493}}}
	if !reflect.DeepEqual(v, want) || !impl.VolOk(v) {
		t.Errorf("%+v", v)
	}
	if got := ofInode(v, 1); got != [4]int{0, 0, 2, 1} {
		t.Error(got)
	}
	v.Inodes[0].Mode = 7
	if again := impl.NewVol(); !reflect.DeepEqual(again, want) || overlap(again.Inodes, v.Inodes) {
		t.Errorf("the next new one: %+v", again)
	}
}

func TestOfEachInode(t *testing.T) {
	v := rightVol()
	for id, want := range map[int][4]int{
		1: {8, 5, 3, 1}, 2: {6, 3, 3, 1}, 3: {6, 2, 2, 2}, 4: {0, 0, 3, 0}, 5: {0, 0, 1, 0}, 7: {0, 0, 1, 0},
		0: {}, 6: {}, 8: {}, 9: {}, -1: {}, -4: {}, math.MinInt: {}, math.MaxInt: {},
	} {
		if got := ofInode(v, id); got != want {
			t.Errorf("of %d: %v, want %v", id, got, want)
		}
	}
	checkVol(t, v)
}

func TestVolNumbers(t *testing.T) {
	checkVolCases(t, []volCase{
		{"as it is", func(v *impl.Vol) {}, true},
		{"Next just behind", func(v *impl.Vol) { v.Next = 8 }, true},
		{"Next met by an Id", func(v *impl.Vol) { v.Next = 7 }, false},
		{"Next as great as may be", func(v *impl.Vol) { v.Next = 100000 }, true},
		{"Next too great", func(v *impl.Vol) { v.Next = 100001 }, false},
		{"Next far too great", func(v *impl.Vol) { v.Next = math.MaxInt }, false},
		{"Next 0", func(v *impl.Vol) { v.Next = 0 }, false},
		{"Next below 0", func(v *impl.Vol) { v.Next = math.MinInt }, false},
		{"the last Id of all", func(v *impl.Vol) { named(v, "z", impl.Inode{Id: 99999, Kind: impl.KdFile}) }, true},
		{"an Id behind the last one", func(v *impl.Vol) {
			named(v, "z", impl.Inode{Id: 100000, Kind: impl.KdFile})
			v.Next = 100000
		}, false},
		{"Ids fall", func(v *impl.Vol) { v.Inodes[4], v.Inodes[5] = v.Inodes[5], v.Inodes[4] }, false},
		{"an Id twice", func(v *impl.Vol) { v.Inodes = append(v.Inodes, v.Inodes[5]) }, false},
		{"an Id twice, of two kinds", func(v *impl.Vol) { v.Inodes = slices.Insert(v.Inodes, 4, impl.Inode{Id: 4, Kind: impl.KdDir}) }, false},
		{"1 twice", func(v *impl.Vol) { v.Inodes = slices.Insert(v.Inodes, 0, impl.Inode{Id: 1, Kind: impl.KdDir}) }, false},
		{"an Id 0 first", func(v *impl.Vol) { v.Inodes = slices.Insert(v.Inodes, 0, impl.Inode{Id: 0, Kind: impl.KdDir}) }, false},
		{"no inode 1", func(v *impl.Vol) { v.Inodes = v.Inodes[1:] }, false},
		{"1 behind another one", func(v *impl.Vol) { v.Inodes[0], v.Inodes[1] = v.Inodes[1], v.Inodes[0] }, false},
		{"no inodes", func(v *impl.Vol) { v.Inodes = nil }, false},
		{"the zero volume", func(v *impl.Vol) { *v = impl.Vol{} }, false},
		{"1 alone, Next 2", func(v *impl.Vol) { *v = impl.NewVol() }, true},
		{"1 alone, Next 1", func(v *impl.Vol) { *v = impl.NewVol(); v.Next = 1 }, false},
		{"1 is a file", func(v *impl.Vol) { *v = impl.NewVol(); v.Inodes[0].Kind = impl.KdFile }, false},
		{"1 is a link", func(v *impl.Vol) {
			*v = impl.Vol{Next: 2, Inodes: []impl.Inode{{Id: 1, Kind: impl.KdLink, Mode: 511, Data: "a"}}}
		}, false},
		{"as many inodes as may be", func(v *impl.Vol) { *v = wideVol(24) }, true},
		{"one inode more", func(v *impl.Vol) { *v = wideVol(25) }, false},
		{"far too many", func(v *impl.Vol) { v.Inodes = make([]impl.Inode, 100000) }, false},
		{"all bytes that there may be", func(v *impl.Vol) { *v = bytesVol(400) }, true},
		{"one byte more", func(v *impl.Vol) { *v = bytesVol(401) }, false},
		{"one byte more by a link", func(v *impl.Vol) {
			*v = bytesVol(400)
			named(v, "z", impl.Inode{Id: v.Next, Kind: impl.KdLink, Mode: 511, Data: "a"})
		}, false},
		{"all bytes, one of a link", func(v *impl.Vol) {
			*v = bytesVol(399)
			named(v, "z", impl.Inode{Id: v.Next, Kind: impl.KdLink, Mode: 511, Data: "a"})
		}, true},
	})
}

// Every number of each inode is met at its bounds and passed by one, of every kind.
func TestInodeNumbers(t *testing.T) {
	fields := []struct {
		what string
		most int
		set  func(n *impl.Inode, to int)
	}{
		{"Mode", 2047, func(n *impl.Inode, to int) { n.Mode = to }},
		{"Uid", 1000, func(n *impl.Inode, to int) { n.Uid = to }},
		{"Gid", 1000, func(n *impl.Inode, to int) { n.Gid = to }},
		{"MaxB", 400, func(n *impl.Inode, to int) { n.MaxB = to }},
		{"MaxI", 24, func(n *impl.Inode, to int) { n.MaxI = to }},
	}
	var cases []volCase
	for at, n := range rightVol().Inodes {
		for _, f := range fields {
			quota := f.what == "MaxB" || f.what == "MaxI"
			for _, to := range []int{math.MinInt, -1, 0, 1, 510, 511, 512, f.most - 1, f.most, f.most + 1, math.MaxInt} {
				right := to >= 0 && to <= f.most
				switch {
				case quota && n.Kind != impl.KdDir:
					right = to == 0
				case quota:
					right = right && to != 1
				case n.Kind == impl.KdLink && f.what == "Mode":
					right = to == 511
				}
				cases = append(cases, volCase{f.what + " of " + strconv.Itoa(n.Id) + " is " + strconv.Itoa(to), func(v *impl.Vol) { f.set(&v.Inodes[at], to) }, right})
			}
		}
	}
	checkVolCases(t, cases)
}

func TestInodeKinds(t *testing.T) {
	var cases []volCase
	for kind := -1; kind <= 5; kind++ {
		if kind == impl.KdFile || kind == impl.KdDir || kind == impl.KdLink {
			continue
		}
		for at := range rightVol().Inodes {
			cases = append(cases, volCase{"no such kind", func(v *impl.Vol) { v.Inodes[at].Kind = kind }, false})
		}
	}
	cases = append(cases,
		volCase{"a file of 64 bytes", func(v *impl.Vol) { v.Inodes[3].Data = strings.Repeat("x", 64) }, true},
		volCase{"a file of 65 bytes", func(v *impl.Vol) { v.Inodes[3].Data = strings.Repeat("x", 65) }, false},
		volCase{"a file of no bytes", func(v *impl.Vol) { v.Inodes[3].Data = "" }, true},
		volCase{"a file of any bytes", func(v *impl.Vol) { v.Inodes[3].Data = "\x00\xff/A " }, true},
		volCase{"a file with a name", func(v *impl.Vol) { v.Inodes[5].Names = dirents("a", 4) }, false},
		volCase{"a file with a name to nothing", func(v *impl.Vol) { v.Inodes[5].Names = dirents("a", 40) }, false},
		volCase{"a file with no names, not nil", func(v *impl.Vol) { v.Inodes[5].Names = []impl.Dirent{} }, true},
		volCase{"a link with a name", func(v *impl.Vol) { v.Inodes[4].Names = dirents("a", 4) }, false},
		volCase{"a link of 60 bytes", func(v *impl.Vol) { v.Inodes[4].Data = strings.Repeat("a/", 30) }, true},
		volCase{"a link of 61 bytes", func(v *impl.Vol) { v.Inodes[4].Data = strings.Repeat("a/", 30) + "a" }, false},
		volCase{"a link of a byte", func(v *impl.Vol) { v.Inodes[4].Data = "/" }, true},
		volCase{"a link of no byte", func(v *impl.Vol) { v.Inodes[4].Data = "" }, false},
		volCase{"a link not from the root on", func(v *impl.Vol) { v.Inodes[4].Data = "../x//y" }, true},
		volCase{"a directory with a byte", func(v *impl.Vol) { v.Inodes[2].Data = "a" }, false},
		volCase{"1 with a byte", func(v *impl.Vol) { v.Inodes[0].Data = "a" }, false},
		volCase{"a directory without names", func(v *impl.Vol) {
			v.Inodes[2].Names = nil
			v.Inodes[0].Names = dirents("d", 2, "f", 4, "k", 5, "l", 7)
		}, true},
		volCase{"a file becomes a directory", func(v *impl.Vol) { v.Inodes[5].Kind, v.Inodes[5].Data = impl.KdDir, "" }, true},
	)
	for c := range 256 {
		ok := c == '/' || strings.IndexByte(nameBytes, byte(c)) >= 0
		for _, target := range []string{string([]byte{byte(c)}), "a" + string([]byte{byte(c)}), string([]byte{byte(c)}) + "/b"} {
			cases = append(cases, volCase{"a byte of a target", func(v *impl.Vol) { v.Inodes[4].Data = target }, ok})
		}
	}
	checkVolCases(t, cases)
}

func TestVolNames(t *testing.T) {
	twelve, thirteen := wideVol(13).Inodes[0].Names, wideVol(13).Inodes[0].Names
	thirteen = append(thirteen, impl.Dirent{Name: "z", Id: 3})
	checkVolCases(t, []volCase{
		{"a name of 8 bytes", func(v *impl.Vol) { v.Inodes[2].Names[1].Name = "iiiiiiii" }, true},
		{"a name of 9 bytes", func(v *impl.Vol) { v.Inodes[2].Names[1].Name = "iiiiiiiii" }, false},
		{"an empty name", func(v *impl.Vol) { v.Inodes[2].Names[0].Name = "" }, false},
		{"a name is a point", func(v *impl.Vol) { v.Inodes[2].Names[0].Name = "." }, false},
		{"a name is two points", func(v *impl.Vol) { v.Inodes[2].Names[0].Name = ".." }, false},
		{"a name is three points", func(v *impl.Vol) { v.Inodes[2].Names[0].Name = "..." }, true},
		{"a name with a /", func(v *impl.Vol) { v.Inodes[2].Names[0].Name = "a/b" }, false},
		{"a name with a great letter", func(v *impl.Vol) { v.Inodes[2].Names[0].Name = "A" }, false},
		{"names fall", func(v *impl.Vol) { v.Inodes[2].Names = dirents("i", 7, "h", 4) }, false},
		{"names fall at the end", func(v *impl.Vol) { v.Inodes[2].Names = dirents("h", 4, "j", 7, "i", 7) }, false},
		{"a name twice", func(v *impl.Vol) { v.Inodes[2].Names = dirents("h", 4, "h", 7) }, false},
		{"a name twice to the same", func(v *impl.Vol) { v.Inodes[2].Names = dirents("h", 4, "i", 7, "i", 7) }, false},
		{"a beginning is less", func(v *impl.Vol) { v.Inodes[2].Names = dirents("h", 4, "hh", 7) }, true},
		{"a beginning behind", func(v *impl.Vol) { v.Inodes[2].Names = dirents("hh", 4, "h", 7) }, false},
		{"by bytes, not by numbers", func(v *impl.Vol) { v.Inodes[2].Names = dirents("10", 4, "9", 7) }, true},
		{"by numbers, not by bytes", func(v *impl.Vol) { v.Inodes[2].Names = dirents("9", 4, "10", 7) }, false},
		{"the same name in two directories", func(v *impl.Vol) { v.Inodes[2].Names[0].Name = "f" }, true},
		{"a name leads to nothing", func(v *impl.Vol) { v.Inodes[2].Names = dirents("a", 6, "h", 4, "i", 7) }, false},
		{"a name leads to Next", func(v *impl.Vol) { v.Inodes[2].Names = dirents("a", 9, "h", 4, "i", 7) }, false},
		{"a name leads to 0", func(v *impl.Vol) { v.Inodes[2].Names = dirents("a", 0, "h", 4, "i", 7) }, false},
		{"a name leads below 0", func(v *impl.Vol) { v.Inodes[2].Names = dirents("a", -4, "h", 4, "i", 7) }, false},
		{"a name leads far away", func(v *impl.Vol) { v.Inodes[2].Names = dirents("a", math.MaxInt, "h", 4, "i", 7) }, false},
		{"a name leads to 1", func(v *impl.Vol) { v.Inodes[2].Names = dirents("a", 1, "h", 4, "i", 7) }, false},
		{"a name in 1 leads to 1", func(v *impl.Vol) { v.Inodes[0].Names = dirents("a", 1, "d", 2, "f", 4, "l", 5) }, false},
		{"1 alone has a name", func(v *impl.Vol) { *v = impl.NewVol(); v.Inodes[0].Names = dirents("a", 1) }, false},
		{"twelve names", func(v *impl.Vol) { *v = wideVol(13); v.Inodes[0].Names = twelve }, true},
		{"thirteen names", func(v *impl.Vol) { *v = wideVol(13); v.Inodes[0].Names = thirteen }, false},
		{"far too many names", func(v *impl.Vol) { v.Inodes[2].Names = make([]impl.Dirent, 100000) }, false},
	})
}

func TestVolHangsTogether(t *testing.T) {
	dir := func(id int, names ...any) impl.Inode {
		return impl.Inode{Id: id, Kind: impl.KdDir, Names: dirents(names...)}
	}
	file := func(id int) impl.Inode { return impl.Inode{Id: id, Kind: impl.KdFile} }
	set := func(inodes ...impl.Inode) func(v *impl.Vol) {
		return func(v *impl.Vol) { v.Inodes = inodes }
	}
	checkVolCases(t, []volCase{
		{"a file that nothing names", set(dir(1), file(2)), false},
		{"a directory that nothing names", set(dir(1), dir(2)), false},
		{"a link that nothing names", set(dir(1), impl.Inode{Id: 2, Kind: impl.KdLink, Mode: 511, Data: "a"}), false},
		{"a file named by what nothing names", set(dir(1), dir(2, "a", 3), file(3)), false},
		{"a directory in itself", set(dir(1), dir(2, "a", 2)), false},
		{"a directory in itself and in 1", set(dir(1, "a", 2), dir(2, "a", 2)), false},
		{"a ring of two", set(dir(1), dir(2, "a", 3), dir(3, "a", 2)), false},
		{"a ring of two with a file", set(dir(1, "f", 4), dir(2, "a", 3), dir(3, "a", 2, "f", 4), file(4)), false},
		{"a ring of two that is reached", set(dir(1, "a", 2), dir(2, "a", 3), dir(3, "a", 2)), false},
		{"a ring of three", set(dir(1), dir(2, "a", 3), dir(3, "a", 4), dir(4, "a", 2)), false},
		{"a ring beside a right part", set(dir(1, "a", 2), dir(2, "f", 5), dir(3, "a", 4), dir(4, "a", 3), file(5)), false},
		{"a directory twice in one", set(dir(1, "a", 2, "b", 2), dir(2)), false},
		{"a directory in two", set(dir(1, "a", 2, "b", 3), dir(2), dir(3, "a", 2)), false},
		{"a file twice in one", set(dir(1, "a", 2, "b", 2), file(2)), true},
		{"a file in two", set(dir(1, "a", 2, "b", 3), file(2), dir(3, "a", 2)), true},
		{"a file in the lower one alone", set(dir(1, "b", 3), file(2), dir(3, "a", 2)), true},
		{"a directory below one with a greater number", set(dir(1, "b", 3), dir(2), dir(3, "a", 2)), true},
		{"as deep as may be", func(v *impl.Vol) { *v = deepVol(24) }, true},
		{"a ring as long as may be", func(v *impl.Vol) { *v = deepVol(24); v.Inodes[0].Names = nil; v.Inodes[23].Names = dirents("n", 2) }, false},
	})
}

// deepVol has a directory in a directory in a directory.
func deepVol(inodes int) impl.Vol {
	v := impl.NewVol()
	for id := 2; id <= inodes; id++ {
		v.Inodes[id-2].Names = dirents("n", id)
		v.Inodes = append(v.Inodes, impl.Inode{Id: id, Kind: impl.KdDir, MaxI: inodes - id})
	}
	v.Next = inodes + 1
	return v
}

func TestVolQuotas(t *testing.T) {
	var cases []volCase
	for at, used := range [][2]int{{8, 5}, {6, 3}, {6, 2}} {
		for _, by := range []int{-1, 0, 1} {
			cases = append(cases,
				volCase{"bytes", func(v *impl.Vol) { v.Inodes[at].MaxB = used[0] + by }, by >= 0},
				volCase{"inodes", func(v *impl.Vol) { v.Inodes[at].MaxI = used[1] + by }, by >= 0},
				volCase{"both, by bytes", func(v *impl.Vol) { v.Inodes[at].MaxB, v.Inodes[at].MaxI = used[0]+by, used[1] }, by >= 0},
				volCase{"both, by inodes", func(v *impl.Vol) { v.Inodes[at].MaxB, v.Inodes[at].MaxI = used[0], used[1]+by }, by >= 0},
			)
		}
	}
	checkVolCases(t, append(cases, []volCase{
		{"a file with two names counts once", func(v *impl.Vol) { v.Inodes[1].MaxB, v.Inodes[1].MaxI = 6, 3 }, true},
		{"a file with two names in the one", func(v *impl.Vol) {
			v.Inodes[2].Names = dirents("h", 4, "i", 7, "j", 7, "k", 4)
			v.Inodes[2].MaxB, v.Inodes[2].MaxI = 6, 2
		}, true},
		{"a byte more below", func(v *impl.Vol) { v.Inodes[1].MaxB, v.Inodes[5].Data = 6, "xyz" }, false},
		{"a byte more beside", func(v *impl.Vol) { v.Inodes[1].MaxB, v.Inodes[4].Data = 6, "/fff" }, true},
		{"an inode more below", func(v *impl.Vol) { v.Inodes[1].MaxI = 3; v.Inodes[2].Names = dirents("h", 4, "i", 7, "j", 5) }, false},
		{"a link's bytes count", func(v *impl.Vol) { v.Inodes[1].MaxB = 7; v.Inodes[2].Names = dirents("h", 4, "i", 7, "j", 5) }, false},
		{"a link's bytes are just so many", func(v *impl.Vol) { v.Inodes[1].MaxB = 8; v.Inodes[2].Names = dirents("h", 4, "i", 7, "j", 5) }, true},
		{"all directories as full as may be", func(v *impl.Vol) {
			for i, used := range [][2]int{{8, 5}, {6, 3}, {6, 2}} {
				v.Inodes[i].MaxB, v.Inodes[i].MaxI = used[0], used[1]
			}
		}, true},
		{"a directory does not count itself", func(v *impl.Vol) {
			*v = impl.NewVol()
			v.Inodes[0].MaxI = 1
			named(v, "d", impl.Inode{Id: 2, Kind: impl.KdDir, MaxI: 1, MaxB: 1})
		}, true},
		{"the quota of the whole", func(v *impl.Vol) { *v = bytesVol(400); v.Inodes[0].MaxB = 400 }, true},
		{"the quota of the whole, one less", func(v *impl.Vol) { *v = bytesVol(400); v.Inodes[0].MaxB = 399 }, false},
		{"23 inodes of 23", func(v *impl.Vol) { *v = wideVol(24); v.Inodes[0].MaxI = 23 }, true},
		{"23 inodes of 22", func(v *impl.Vol) { *v = wideVol(24); v.Inodes[0].MaxI = 22 }, false},
	}...))
}

// smallVols are all of four inodes, each of two kinds, with each set of names among them and a quota.
func smallVols(check func(v impl.Vol)) {
	names := dirents("a", 2, "b", 3, "c", 4)
	for sets := range 1 << 12 {
		for kinds := range 8 {
			for quota := range 4 {
				v := impl.Vol{Next: 5}
				for i := range 4 {
					n := impl.Inode{Id: i + 1, Kind: impl.KdDir}
					if i > 0 && kinds>>(i-1)&1 == 0 {
						n.Kind, n.Data = impl.KdFile, "xyz"[:i]
					}
					for j, e := range names {
						if sets>>(3*i+j)&1 == 1 {
							n.Names = append(n.Names, e)
						}
					}
					v.Inodes = append(v.Inodes, n)
				}
				v.Inodes[0].MaxI = quota
				if v.Inodes[1].Kind == impl.KdDir {
					v.Inodes[1].MaxB = quota
				}
				check(v)
			}
		}
	}
}

func TestSmallVols(t *testing.T) {
	right := 0
	smallVols(func(v impl.Vol) {
		want := wantVolOk(v)
		if got := impl.VolOk(v); got != want {
			t.Fatalf("VolOk(%+v) = %v, want %v", v, got, want)
		}
		if want {
			right++
			checkVol(t, v)
		}
	})
	if right < 100 {
		t.Error("of all these only so many are right:", right)
	}
}

// someVol is right, of any size up to the bounds, with quotas that are met now and then.
func someVol(r *rand.Rand) impl.Vol {
	v := impl.NewVol()
	v.Inodes[0].Mode = r.Intn(impl.MaxMode + 1)
	for range r.Intn(impl.MaxInodes) {
		n := impl.Inode{Id: v.Next + r.Intn(2)*r.Intn(9), Kind: 1 + r.Intn(3), Mode: r.Intn(impl.MaxMode + 1), Uid: r.Intn(4), Gid: r.Intn(4)}
		switch n.Kind {
		case impl.KdFile:
			n.Data = strings.Repeat("x", r.Intn(20))
		case impl.KdLink:
			n.Data, n.Mode = strings.Repeat("/a..", 1+r.Intn(3)), 511
		}
		v.Next = n.Id + 1 + r.Intn(2)
		v.Inodes = append(v.Inodes, n)
		for range 1 + r.Intn(3) {
			to := &v.Inodes[r.Intn(len(v.Inodes)-1)]
			if to.Kind == impl.KdDir && len(to.Names) < impl.MaxEntries {
				someName(r, to, n.Id)
				if n.Kind == impl.KdDir {
					break
				}
			}
		}
		if wantNames(v, n.Id) == 0 {
			v.Inodes = v.Inodes[:len(v.Inodes)-1]
		}
	}
	for i := range v.Inodes {
		if n := &v.Inodes[i]; n.Kind == impl.KdDir && r.Intn(2) == 0 {
			bytes, inodes := wantUsed(v, n.Id)
			n.MaxB, n.MaxI = min(bytes+r.Intn(2), impl.MaxBytes), min(inodes+r.Intn(2), impl.MaxInodes)
		}
	}
	return v
}

// someName is some name more in a directory, unless it has that one.
func someName(r *rand.Rand, dir *impl.Inode, id int) {
	putName(dir, string("ab-."[r.Intn(3)])+strconv.Itoa(r.Intn(40)), id)
}

// putName puts a name into a directory, where it belongs; false where it has it already.
func putName(dir *impl.Inode, name string, id int) bool {
	names := map[string]int{}
	for _, e := range dir.Names {
		names[e.Name] = e.Id
	}
	if _, in := names[name]; in {
		return false
	}
	names[name] = id
	dir.Names = nil
	for _, name := range slices.Sorted(maps.Keys(names)) {
		dir.Names = append(dir.Names, impl.Dirent{Name: name, Id: names[name]})
	}
	return true
}

func sameVol(a, b impl.Vol) bool {
	return a.Next == b.Next && slices.EqualFunc(a.Inodes, b.Inodes, func(x, y impl.Inode) bool {
		names := slices.Equal(x.Names, y.Names)
		x.Names, y.Names = nil, nil
		return names && reflect.DeepEqual(x, y)
	})
}

func copiedVol(v impl.Vol) impl.Vol {
	v.Inodes = slices.Clone(v.Inodes)
	for i := range v.Inodes {
		v.Inodes[i].Names = slices.Clone(v.Inodes[i].Names)
	}
	return v
}

// bentVol is a right one with some number or name a little off.
func bentVol(r *rand.Rand, v impl.Vol) impl.Vol {
	v = copiedVol(v)
	at := r.Intn(len(v.Inodes))
	n := &v.Inodes[at]
	switch r.Intn(9) {
	case 0:
		n.Id += r.Intn(3) - 1
	case 1:
		n.Kind = 1 + r.Intn(3)
	case 2:
		n.MaxB += r.Intn(3) - 1
	case 3:
		n.MaxI += r.Intn(3) - 1
	case 4:
		n.Data += "/"
	case 5:
		v.Next += r.Intn(3) - 1
	case 6:
		v.Inodes = slices.Delete(v.Inodes, at, at+1)
	default:
		if len(n.Names) > 0 {
			e := &n.Names[r.Intn(len(n.Names))]
			e.Id = v.Inodes[r.Intn(len(v.Inodes))].Id
			if r.Intn(4) == 0 {
				e.Name = n.Names[0].Name
			}
		}
	}
	return v
}

func TestSomeVols(t *testing.T) {
	r := rand.New(rand.NewSource(44))
	bent := 0
	for range 3000 {
		v := someVol(r)
		if !impl.VolOk(v) {
			t.Fatalf("not right: %+v", v)
		}
		checkVol(t, v)
		other := bentVol(r, v)
		checkVol(t, other)
		if !impl.VolOk(other) {
			bent++
		}
	}
	if bent < 500 || bent > 2900 {
		t.Error("so many are not right any more:", bent)
	}
}

// Promise 4, asked of the answers alone: of a right volume each inode has its links, and what the root uses is all there is.
func TestNothingIsLost(t *testing.T) {
	r := rand.New(rand.NewSource(45))
	for range 1000 {
		v := someVol(r)
		bytes := 0
		for _, n := range v.Inodes {
			bytes += len(n.Data)
			if impl.Links(v, n.Id) < 1 {
				t.Fatalf("%d is named by nothing: %+v", n.Id, v)
			}
			b, i := impl.Usage(v, n.Id)
			if n.MaxB > 0 && b > n.MaxB || n.MaxI > 0 && i > n.MaxI {
				t.Fatalf("%d is over: %+v", n.Id, v)
			}
			up := n.Id
			for range len(v.Inodes) {
				up = impl.Parent(v, up)
			}
			if n.Kind == impl.KdDir && up != 1 {
				t.Fatalf("from %d the parents don't lead to 1: %+v", n.Id, v)
			}
		}
		if b, i := impl.Usage(v, 1); b != bytes || i != len(v.Inodes)-1 {
			t.Fatalf("1 uses %d and %d: %+v", b, i, v)
		}
	}
}

// roomyVol is a volume with marks in the spare room of each list, and what all of it was.
type roomyVol struct{ all, was impl.Vol }

func newRoomyVol(v impl.Vol) (roomyVol, impl.Vol) {
	mark := impl.Inode{Id: -7, Data: "mark"}
	all := copiedVol(v)
	all.Inodes = append(all.Inodes, mark, mark)
	for i := range all.Inodes {
		_, names := newRoomy(all.Inodes[i].Names, impl.Dirent{Name: "mark", Id: -7})
		all.Inodes[i].Names = names
	}
	out := all
	out.Inodes = all.Inodes[:len(v.Inodes)]
	return roomyVol{all, copiedRoom(all)}, out
}

// copiedRoom copies each list with its spare room.
func copiedRoom(v impl.Vol) impl.Vol {
	v.Inodes = slices.Clone(v.Inodes[:cap(v.Inodes)])
	for i, n := range v.Inodes {
		v.Inodes[i].Names = slices.Clone(n.Names[:cap(n.Names)])
	}
	return v
}

func (w roomyVol) touched() bool { return !reflect.DeepEqual(copiedRoom(w.all), w.was) }

func TestVolMemory(t *testing.T) {
	r := rand.New(rand.NewSource(46))
	for i := range 600 {
		v := someVol(r)
		if i%2 == 1 {
			v = bentVol(r, v)
		}
		room, given := newRoomyVol(v)
		impl.VolOk(given)
		for _, id := range inodeNumbers(given) {
			impl.Usage(given, id)
			impl.Links(given, id)
			impl.Parent(given, id)
		}
		if room.touched() || !sameVol(given, v) {
			t.Fatalf("the volume is written into: %+v", v)
		}
	}
}
