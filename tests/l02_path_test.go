package tests

import (
	"math/rand"
	"slices"
	"strings"
	"testing"

	"loop.example/g00757/impl"
)

const nameBytes = "abcdefghijklmnopqrstuvwxyz0123456789._-"

// noPaths are asked of every function that takes a path: without a / ahead, with a byte that no name may have, or too long.
var noPaths = []string{
	"", "a", ".", "..", "a/b", "a/", "./a", " /a", "\\a",
	"/A", "/a b", "/a\x00", "/\xff", "/a\n", "/é", "/a\\b", "/*", "/~", "/a:b", "/a,b", "/a+b", "/`", "/{", "/@", "/[", "/^", "/a\x7f",
	"/" + strings.Repeat("a", impl.MaxPath), strings.Repeat("/", impl.MaxPath+1), strings.Repeat("/a", impl.MaxPath/2) + "/",
	strings.Repeat("/", 1000),
}

func wantNameOk(s string) bool {
	return len(s) >= 1 && len(s) <= impl.MaxName && s != "." && s != ".." && strings.Trim(s, nameBytes) == ""
}

func wantPathOk(s string) bool {
	return strings.HasPrefix(s, "/") && len(s) <= impl.MaxPath && strings.Trim(s, nameBytes+"/") == ""
}

func wantParts(s string) []string {
	if !wantPathOk(s) {
		return nil
	}
	return slices.DeleteFunc(strings.Split(s, "/"), func(part string) bool { return part == "" })
}

// wantClean keeps what is left on a stack.
func wantClean(s string) string {
	if !wantPathOk(s) {
		return ""
	}
	var left []string
	for _, part := range wantParts(s) {
		switch {
		case part == "..":
			left = left[:max(len(left)-1, 0)]
		case part != ".":
			left = append(left, part)
		}
	}
	out := ""
	for _, part := range left {
		out += "/" + part
	}
	if out == "" {
		return "/"
	}
	return out
}

// wantBelow holds part against part instead of text against text.
func wantBelow(a, b string) bool {
	if !wantPathOk(a) || !wantPathOk(b) {
		return false
	}
	inner, outer := wantParts(wantClean(a)), wantParts(wantClean(b))
	return len(inner) >= len(outer) && slices.Equal(inner[:len(outer)], outer)
}

// somePaths are mostly right, of any length up to some bytes beyond MaxPath, with points, long parts and now and then a wrong byte.
func somePaths() []string {
	pieces := []string{"a", "b", "ab", "abcdefgh", "abcdefghi", ".", "..", "...", "..a", "a..", ".a", "_-", "0", "", "", "A", "a b"}
	r := rand.New(rand.NewSource(3))
	var out []string
	for range 20000 {
		s, wrong := "", r.Intn(8) == 0
		for range r.Intn(20) {
			piece := pieces[r.Intn(len(pieces)-2)]
			if wrong && r.Intn(10) == 0 {
				piece = pieces[len(pieces)-1-r.Intn(2)]
			}
			s += "/" + piece
		}
		if wrong && r.Intn(3) == 0 {
			s = strings.TrimPrefix(s, "/")
		}
		out = append(out, s)
	}
	return out
}

func pathTexts() []string {
	return slices.Concat(noPaths, somePaths(), shortTexts("/.a", 8), shortTexts("/.aZ", 6), texts())
}

func TestNameOk(t *testing.T) {
	for _, s := range slices.Concat(texts(), shortTexts("a._/", 5), somePaths()) {
		if got, want := impl.NameOk(s), wantNameOk(s); got != want {
			t.Fatalf("NameOk(%q) = %v, want %v", s, got, want)
		}
	}
}

func TestNameOkEdges(t *testing.T) {
	for _, s := range []string{
		"a", "z", "0", "9", "_", "-", "...", "....", "........", ".a", "a.", "..a", "a..", "._", "-.", "az09._-z",
		strings.Repeat("a", impl.MaxName-1), strings.Repeat("a", impl.MaxName),
	} {
		if !impl.NameOk(s) {
			t.Errorf("NameOk(%q) = false", s)
		}
	}
	for _, s := range []string{
		"", ".", "..", ".........", strings.Repeat("a", impl.MaxName+1), strings.Repeat("a", 1000),
		"/", "/a", "a/", "a/b", "A", "Z", "aB", " ", "a b", "a ", " a", "a\x00", "\x00", "\xff", "a\xff", "é", "a\n", "`", "{", ":", ",", "^", "\x7f",
	} {
		if impl.NameOk(s) {
			t.Errorf("NameOk(%q) = true", s)
		}
	}
}

func TestEachByteOfNamesAndPaths(t *testing.T) {
	for c := range 256 {
		b := string([]byte{byte(c)})
		may := strings.Contains(nameBytes, b)
		for _, s := range []string{"a" + b, b + "a", "aaa" + b + "aaaa", "aaaaaaa" + b} {
			if impl.NameOk(s) != may {
				t.Errorf("NameOk(%q) = %v", s, !may)
			}
		}
		for _, s := range []string{"/" + b, "/" + b + "a", "/a/" + b, strings.Repeat("/", impl.MaxPath-1) + b} {
			if impl.PathOk(s) != (may || b == "/") {
				t.Errorf("PathOk(%q) = %v", s, impl.PathOk(s))
			}
		}
		if impl.PathOk(b+"a") != (b == "/") {
			t.Errorf("PathOk(%q) = %v", b+"a", b != "/")
		}
	}
}

func TestPathOk(t *testing.T) {
	for _, s := range pathTexts() {
		if got, want := impl.PathOk(s), wantPathOk(s); got != want {
			t.Fatalf("PathOk(%q) = %v, want %v", s, got, want)
		}
	}
}

func TestPathOkEdges(t *testing.T) {
	for _, s := range []string{
		"/", "//", "///", "/a", "/a/", "//a//b//", "/.", "/..", "/...", "/../..", "/abcdefghi", "/_-.09az",
		"/" + strings.Repeat("a", impl.MaxPath-2), "/" + strings.Repeat("a", impl.MaxPath-1),
		strings.Repeat("/", impl.MaxPath), strings.Repeat("/a", impl.MaxPath/2),
	} {
		if !impl.PathOk(s) {
			t.Errorf("PathOk(%q) = false", s)
		}
	}
	for _, s := range noPaths {
		if impl.PathOk(s) {
			t.Errorf("PathOk(%q) = true", s)
		}
	}
}

func TestParts(t *testing.T) {
	for _, s := range pathTexts() {
		if got, want := impl.Parts(s), wantParts(s); !slices.Equal(got, want) {
			t.Fatalf("Parts(%q) = %q, want %q", s, got, want)
		}
	}
}

func TestPartsEdges(t *testing.T) {
	long := strings.Repeat("a", impl.MaxPath-1)
	for _, c := range []struct {
		s    string
		want []string
	}{
		{"/", nil}, {"//", nil}, {strings.Repeat("/", impl.MaxPath), nil}, {strings.Repeat("/", impl.MaxPath+1), nil},
		{"/a", []string{"a"}}, {"/a/", []string{"a"}}, {"//a///b//", []string{"a", "b"}}, {"/a/a/a", []string{"a", "a", "a"}},
		{"/.", []string{"."}}, {"/..", []string{".."}}, {"/...", []string{"..."}}, {"/a/./../b", []string{"a", ".", "..", "b"}},
		{"/abcdefgh", []string{"abcdefgh"}}, {"/abcdefghi/b", []string{"abcdefghi", "b"}}, {"/" + long, []string{long}}, {"/" + long + "a", nil},
		{"", nil}, {"a", nil}, {"a/b", nil}, {"/a/B", nil}, {"/a/b c", nil},
	} {
		if got := impl.Parts(c.s); !slices.Equal(got, c.want) {
			t.Errorf("Parts(%q) = %q, want %q", c.s, got, c.want)
		}
	}
	if got := impl.Parts(strings.Repeat("/a", impl.MaxPath/2)); len(got) != impl.MaxPath/2 {
		t.Errorf("%d parts of the most that a path may have", len(got))
	}
}

func TestPartsAreNewMemory(t *testing.T) {
	first, second := impl.Parts("/a/b"), impl.Parts("/a/b")
	first[0], first[1] = "x", "y"
	_ = append(first, "z")
	if !slices.Equal(second, []string{"a", "b"}) || !slices.Equal(impl.Parts("/a/b"), []string{"a", "b"}) {
		t.Error("what is written into the Parts of one call is seen in those of another")
	}
}

func TestClean(t *testing.T) {
	for _, s := range pathTexts() {
		if got, want := impl.Clean(s), wantClean(s); got != want {
			t.Fatalf("Clean(%q) = %q, want %q", s, got, want)
		}
	}
}

func TestCleanEdges(t *testing.T) {
	full := strings.Repeat("/a", impl.MaxPath/2)
	for _, c := range [][2]string{
		{"/", "/"}, {"//", "/"}, {strings.Repeat("/", impl.MaxPath), "/"},
		{"/a", "/a"}, {"/a/", "/a"}, {"//a", "/a"}, {"/a//b///c", "/a/b/c"}, {full, full},
		{"/.", "/"}, {"/./", "/"}, {"/././.", "/"}, {"/./a/.", "/a"}, {"/a/./b", "/a/b"},
		{"/..", "/"}, {"/../", "/"}, {"/../..", "/"}, {"/../a", "/a"}, {"/../../a/b", "/a/b"}, {"/./../a", "/a"},
		{"/a/..", "/"}, {"/a/../", "/"}, {"/a/../b", "/b"}, {"/a/b/..", "/a"}, {"/a/b/../c", "/a/c"}, {"/a/./..", "/"}, {"/a/b/./../c", "/a/c"},
		{"/a/b/../..", "/"}, {"/a/b/c/../..", "/a"}, {"/a/b/../../..", "/"}, {"/a/../..", "/"}, {"/a/../../b", "/b"}, {"/a/../b/../../c", "/c"},
		{"/a/../a/..", "/"}, {"/a/../../../b/c/..", "/b"},
		{"/...", "/..."}, {"/a/...", "/a/..."}, {"/.../..", "/"}, {"/..a", "/..a"}, {"/a..", "/a.."}, {"/.a", "/.a"}, {"/a.", "/a."}, {"/a/..b/.", "/a/..b"},
		{"/abcdefghi", "/abcdefghi"}, {"/abcdefghi/..", "/"}, {"/a/abcdefghi/../b", "/a/b"},
		{"/" + strings.Repeat("b", impl.MaxPath-1), "/" + strings.Repeat("b", impl.MaxPath-1)},
		{strings.Repeat("/..", impl.MaxPath/3), "/"}, {"/a" + strings.Repeat("/.", impl.MaxPath/2-1), "/a"},
	} {
		if got := impl.Clean(c[0]); got != c[1] {
			t.Errorf("Clean(%q) = %q, want %q", c[0], got, c[1])
		}
	}
	for _, s := range noPaths {
		if got := impl.Clean(s); got != "" {
			t.Errorf("Clean(%q) = %q of what is no path", s, got)
		}
	}
}

func TestCleanStaysClean(t *testing.T) {
	for _, s := range pathTexts() {
		clean := impl.Clean(s)
		if !impl.PathOk(s) {
			continue
		}
		if !impl.PathOk(clean) || len(clean) > len(s) {
			t.Fatalf("Clean(%q) = %q is no path, or longer", s, clean)
		}
		if again := impl.Clean(clean); again != clean {
			t.Fatalf("Clean(%q) = %q, and of that %q", s, clean, again)
		}
		parts := impl.Parts(clean)
		if slices.Contains(parts, ".") || slices.Contains(parts, "..") {
			t.Fatalf("Clean(%q) = %q has points alone", s, clean)
		}
		if clean != "/"+strings.Join(parts, "/") {
			t.Fatalf("Clean(%q) = %q has more than a / ahead of each of %q", s, clean, parts)
		}
	}
}

func TestBelow(t *testing.T) {
	all := append(shortTexts("/.a", 5), shortTexts("/ab", 5)...)
	for _, a := range all {
		for _, b := range all {
			if got, want := impl.Below(a, b), wantBelow(a, b); got != want {
				t.Fatalf("Below(%q, %q) = %v, want %v", a, b, got, want)
			}
		}
	}
	some := somePaths()
	for i, a := range some {
		b := some[(i*7+1)%len(some)]
		for _, c := range [][2]string{{a, b}, {a + b, a}, {a + "/b", a}, {a, a + "/.."}, {a + "b", a}} {
			if got, want := impl.Below(c[0], c[1]), wantBelow(c[0], c[1]); got != want {
				t.Fatalf("Below(%q, %q) = %v, want %v", c[0], c[1], got, want)
			}
		}
	}
}

func TestBelowEdges(t *testing.T) {
	full := "/" + strings.Repeat("a", impl.MaxPath-1)
	for _, c := range [][2]string{
		{"/", "/"}, {"//", "/."}, {"/..", "/"}, {"/", "/.."}, {"/", "/a/.."}, {"/a", "/"}, {"/a/b", "//"}, {"/...", "/"}, {"/a", "/b/.."},
		{"/a", "/a"}, {"/a/", "/a"}, {"/a", "/a/"}, {"/a/b", "/a"}, {"/a/b/c", "/a"}, {"/a/b/c", "/a/b"}, {"/a/../b", "/b/."}, {"/b/../a/c", "/./a"},
		{full, full}, {full, "/"}, {"/abcdefghi/a", "/abcdefghi"},
	} {
		if !impl.Below(c[0], c[1]) {
			t.Errorf("Below(%q, %q) = false", c[0], c[1])
		}
	}
	for _, c := range [][2]string{
		{"/", "/a"}, {"/a", "/b"}, {"/a", "/a/b"}, {"/ab", "/a"}, {"/a", "/ab"}, {"/ab/c", "/a"}, {"/a/bc", "/a/b"}, {"/a.", "/a"}, {"/a-b", "/a"},
		{"/a/..", "/a"}, {"/a/../b", "/a"}, {"/a/b/../..", "/a"}, {"/b/a", "/a"}, {"/...", "/.../a"}, {full, full[:impl.MaxPath-1]},
	} {
		if impl.Below(c[0], c[1]) {
			t.Errorf("Below(%q, %q) = true", c[0], c[1])
		}
	}
	for _, s := range noPaths {
		if impl.Below(s, "/") || impl.Below("/", s) || impl.Below(s, s) || impl.Below(s, "/a") || impl.Below("/a", s) {
			t.Errorf("Below takes %q, which is no path", s)
		}
		for _, other := range noPaths {
			if impl.Below(s, other) {
				t.Errorf("Below(%q, %q) = true of what are no paths", s, other)
			}
		}
	}
}

func TestBelowItselfAndTheRoot(t *testing.T) {
	for _, s := range pathTexts() {
		ok := impl.PathOk(s)
		if impl.Below(s, s) != ok || impl.Below(s, "/") != ok || impl.Below(s, impl.Clean(s)) != ok || impl.Below(impl.Clean(s), s) != ok {
			t.Fatalf("%q, PathOk %v, held against itself, its Clean and the root", s, ok)
		}
	}
}

func TestBelowGoesOn(t *testing.T) {
	var paths []string
	for _, s := range slices.Concat(shortTexts("/.a", 5), shortTexts("/ab", 6)) {
		if impl.PathOk(s) && !slices.Contains(paths, s) {
			paths = append(paths, s)
		}
	}
	below := make([][]int, len(paths))
	for i, a := range paths {
		for j, b := range paths {
			if impl.Below(a, b) {
				below[i] = append(below[i], j)
			}
		}
	}
	for i := range paths {
		for _, j := range below[i] {
			for _, k := range below[j] {
				if _, found := slices.BinarySearch(below[i], k); !found {
					t.Fatalf("%q is Below %q, that one %q, but not the first the last", paths[i], paths[j], paths[k])
				}
			}
		}
	}
}
