package tests

import (
	"encoding/binary"
	"fmt"
	"math"
	"slices"
	"strings"
	"testing"

	"loop.example/g00757/impl"
)

// token is a part of a text: the Var of a number, or bytes as they are (number is -1 then).
type token struct {
	text   string
	number int
}

func num(n int) token { return token{wantVar(n), n} }

// signedNum is the library's own way to lay the numbers below 0 between the others, which is the chapter's.
func signedNum(n int) token {
	return token{string(binary.AppendVarint(nil, int64(n))), n<<1 ^ n>>63}
}

func pieceTokens(s string) []token { return []token{num(len(s)), {s, -1}} }

func joined(tokens []token) string {
	out := ""
	for _, part := range tokens {
		out += part.text
	}
	return out
}

func volTokens(v impl.Vol) []token {
	out := []token{num(v.Next), num(len(v.Inodes))}
	for _, n := range v.Inodes {
		for _, number := range []int{n.Id, n.Kind, n.Mode, n.Uid, n.Gid, n.MaxB, n.MaxI} {
			out = append(out, num(number))
		}
		out = append(append(out, pieceTokens(n.Data)...), num(len(n.Names)))
		for _, e := range n.Names {
			out = append(append(out, pieceTokens(e.Name)...), num(e.Id))
		}
	}
	return out
}

func callTokens(x impl.Call) []token {
	return slices.Concat([]token{num(x.Kind)}, pieceTokens(x.Path), pieceTokens(x.To), []token{signedNum(x.N), signedNum(x.M)}, pieceTokens(x.Data))
}

func resultTokens(r impl.Result) []token { return []token{num(r.Code), {r.Data, -1}} }

// eater eats parts off a text; once one lacks, no more comes.
type eater struct {
	left  string
	lacks bool
}

func (e *eater) number() int {
	n, size := binary.Uvarint([]byte(e.left[:min(len(e.left), 10)]))
	if e.lacks || size <= 0 || n > impl.MaxVar {
		e.lacks = true
		return 0
	}
	e.left = e.left[size:]
	return int(n)
}

func (e *eater) signed() int {
	n := e.number()
	return n>>1 ^ -(n & 1)
}

func (e *eater) piece() string {
	size := e.number()
	if e.lacks || size > len(e.left) {
		e.lacks = true
		return ""
	}
	out := e.left[:size]
	e.left = e.left[size:]
	return out
}

func (e *eater) vol() impl.Vol {
	v := impl.Vol{Next: e.number()}
	for left := e.number(); left > 0 && !e.lacks; left-- {
		n := impl.Inode{}
		for _, field := range []*int{&n.Id, &n.Kind, &n.Mode, &n.Uid, &n.Gid, &n.MaxB, &n.MaxI} {
			*field = e.number()
		}
		n.Data = e.piece()
		for names := e.number(); names > 0 && !e.lacks; names-- {
			name := e.piece()
			n.Names = append(n.Names, impl.Dirent{Name: name, Id: e.number()})
		}
		v.Inodes = append(v.Inodes, n)
	}
	return v
}

func (e *eater) call() impl.Call {
	x := impl.Call{Kind: e.number()}
	x.Path, x.To = e.piece(), e.piece()
	x.N, x.M = e.signed(), e.signed()
	x.Data = e.piece()
	return x
}

func (e *eater) result() impl.Result {
	r := impl.Result{Code: e.number()}
	r.Data, e.left = e.left, ""
	return r
}

func wantResultOk(r impl.Result) bool { return r.Code >= 0 && r.Code <= 200 && len(r.Data) <= 400 }

// form is one of the chapter's three kinds of text: what the program makes and takes, and what the test does.
type form[T any] struct {
	show   func(x T) string
	read   func(s string) (T, bool)
	tokens func(x T) []token
	eat    func(e *eater) T
	right  func(x T) bool
	same   func(a, b T) bool
}

func volForm() form[impl.Vol] {
	return form[impl.Vol]{impl.ShowVol, impl.ReadVol, volTokens, (*eater).vol, wantVolOk, sameVol}
}

func callForm() form[impl.Call] {
	same := func(a, b impl.Call) bool { return a == b }
	return form[impl.Call]{impl.ShowCall, impl.ReadCall, callTokens, (*eater).call, wantCallOk, same}
}

func resultForm() form[impl.Result] {
	same := func(a, b impl.Result) bool { return a == b }
	return form[impl.Result]{impl.ShowResult, impl.ReadResult, resultTokens, (*eater).result, wantResultOk, same}
}

// want is what s is the text of: what is eaten off it, where that is right, and is written just so.
func (f form[T]) want(s string) (T, bool) {
	e := eater{left: s}
	x, nothing := f.eat(&e), *new(T)
	if e.lacks || e.left != "" || !f.right(x) || joined(f.tokens(x)) != s {
		return nothing, false
	}
	return x, true
}

// checkShow asks for the text of something, right or not, and reads it.
func (f form[T]) checkShow(t *testing.T, x T) string {
	t.Helper()
	want := ""
	if f.right(x) {
		want = joined(f.tokens(x))
	}
	got := f.show(x)
	if got != want {
		t.Fatalf("the text of %+v is %q, want %q", x, got, want)
	}
	if back, ok := f.read(got); ok != f.right(x) || ok && !f.same(back, x) {
		t.Fatalf("read of %q, the text of %+v: %+v, %v", got, x, back, ok)
	}
	return got
}

// checkText asks that this is its text, written out by hand.
func (f form[T]) checkText(t *testing.T, x T, want string) {
	t.Helper()
	if got := f.show(x); got != want {
		t.Errorf("the text of %+v is %q, want %q", x, got, want)
	}
	if back, ok := f.read(want); !ok || !f.same(back, x) {
		t.Errorf("read of %q: %+v, %v", want, back, ok)
	}
}

// checkRead reads a text, of something or of nothing.
func (f form[T]) checkRead(t *testing.T, s string) bool {
	t.Helper()
	got, ok := f.read(s)
	if want, right := f.want(s); ok != right || !f.same(got, want) {
		t.Fatalf("read of %q: %+v, %v, want %+v, %v", s, got, ok, want, right)
	}
	if ok && f.show(got) != s {
		t.Fatalf("%q is read as %+v, of which %q is made", s, got, f.show(got))
	}
	return ok
}

func (f form[T]) checkRefused(t *testing.T, why string, s string) {
	t.Helper()
	if got, ok := f.read(s); ok || !f.same(got, *new(T)) {
		t.Errorf("%s: %q is read as %+v, %v", why, s, got, ok)
	}
}

// checkWhole asks that no text of it is taken that is cut off, has more behind it, or a number with a byte that is not needed.
func (f form[T]) checkWhole(t *testing.T, x T) {
	t.Helper()
	s := f.checkShow(t, x)
	for at := range len(s) {
		f.checkRefused(t, "cut off", s[:at])
	}
	for c := range 256 {
		f.checkRefused(t, "a byte more", s+string([]byte{byte(c)}))
	}
	f.checkRefused(t, "twice", s+s)
	f.checkNeeded(t, x)
}

func (f form[T]) checkNeeded(t *testing.T, x T) {
	t.Helper()
	for at, part := range f.tokens(x) {
		if part.number < 0 {
			continue
		}
		last := len(part.text) - 1
		for _, more := range []string{"\x00", "\x80\x00", "\x80\x80\x80\x80\x80\x80\x00", "\x80\x80\x80\x80\x80\x80\x80\x80\x80\x80\x80\x00"} {
			bent := slices.Clone(f.tokens(x))
			bent[at].text = part.text[:last] + string([]byte{part.text[last] | 128}) + more
			f.checkRefused(t, "a byte that is not needed", joined(bent))
		}
	}
}

// checkNumbers puts other numbers in the place of each one of the text.
func (f form[T]) checkNumbers(t *testing.T, x T) {
	t.Helper()
	for at, part := range f.tokens(x) {
		if part.number < 0 {
			continue
		}
		for _, n := range []int{0, 1, 2, 3, 12, 13, 24, 25, 60, 61, 64, 65, 127, 128, 200, 201, 400, 401, 1000, 1001, 2047, 2048, 100000, 100001, 2000000, 2000001, 2000002, impl.MaxVar, part.number - 1, part.number + 1, part.number + 2} {
			bent := slices.Clone(f.tokens(x))
			bent[at].text = wantVar(n)
			f.checkRead(t, joined(bent))
		}
		bent := slices.Clone(f.tokens(x))
		bent[at].text = strings.Repeat("\xff", 7) + "\x01"
		f.checkRefused(t, "a number above all", joined(bent))
	}
}

// checkBytes puts each other byte in the place of each one of the text.
func (f form[T]) checkBytes(t *testing.T, x T) {
	t.Helper()
	s := joined(f.tokens(x))
	for at := range len(s) {
		for c := range 256 {
			f.checkRead(t, s[:at]+string([]byte{byte(c)})+s[at+1:])
		}
		f.checkRead(t, s[:at]+s[at+1:])
	}
}

func everyByte() string {
	out := make([]byte, 256)
	for i := range out {
		out[i] = byte(i)
	}
	return string(out)
}

// edgeVol has each number at its bounds, and names, links and files as short and as long as may be.
func edgeVol() impl.Vol {
	return impl.Vol{Next: 100000, Inodes: []impl.Inode{
		{Id: 1, Kind: impl.KdDir, Mode: 2047, Uid: 1000, Gid: 1000, MaxB: 400, MaxI: 24, Names: dirents("-", 99999, "...", 127, "00000000", 16384, "a", 2, "aaaaaaaa", 128)},
		{Id: 2, Kind: impl.KdDir, MaxB: 192, MaxI: 4, Names: dirents("b", 16383, "c", 127, "d", 129, "e", 16384, "f", 127)},
		{Id: 127, Kind: impl.KdFile, Mode: 2047, Data: everyByte()[:64]},
		{Id: 128, Kind: impl.KdLink, Mode: 511, Uid: 1000, Data: strings.Repeat("../", 20)},
		{Id: 129, Kind: impl.KdFile, Gid: 1000, Data: everyByte()[192:]},
		{Id: 16383, Kind: impl.KdDir},
		{Id: 16384, Kind: impl.KdFile, Data: strings.Repeat("\x00", 64)},
		{Id: 99999, Kind: impl.KdLink, Mode: 511, Data: "/"},
	}}
}

func textVols() []impl.Vol {
	return []impl.Vol{impl.NewVol(), rightVol(), edgeVol(), wideVol(24), bytesVol(400), deepVol(24), plainVol(), linkVol(), flawVol(), quotaVol(9, 9, 6, 3)}
}

func TestShowVol(t *testing.T) {
	right := "\x09\x06" +
		"\x01\x02\xed\x03\x00\x00\x00\x00" + "\x00" + "\x03" + "\x01d\x02" + "\x01f\x04" + "\x01l\x05" +
		"\x02\x02\xc0\x03\x07\x08\x64\x0a" + "\x00" + "\x02" + "\x01e\x03" + "\x01g\x04" +
		"\x03\x02\x00\x00\x00\x00\x00" + "\x00" + "\x02" + "\x01h\x04" + "\x01i\x07" +
		"\x04\x01\xa4\x03\x00\x00\x00\x00" + "\x04abcd" + "\x00" +
		"\x05\x03\xff\x03\x00\x00\x00\x00" + "\x02/f" + "\x00" +
		"\x07\x01\x00\x00\x00\x00\x00" + "\x02x\x00" + "\x00"
	edge := "\xa0\x8d\x06\x08" +
		"\x01\x02\xff\x0f\xe8\x07\xe8\x07\x90\x03\x18" + "\x00" + "\x05" + "\x01-\x9f\x8d\x06" + "\x03...\x7f" + "\x0800000000\x80\x80\x01" + "\x01a\x02" + "\x08aaaaaaaa\x80\x01" +
		"\x02\x02\x00\x00\x00\xc0\x01\x04" + "\x00" + "\x05" + "\x01b\xff\x7f" + "\x01c\x7f" + "\x01d\x81\x01" + "\x01e\x80\x80\x01" + "\x01f\x7f" +
		"\x7f\x01\xff\x0f\x00\x00\x00\x00" + "\x40" + everyByte()[:64] + "\x00" +
		"\x80\x01\x03\xff\x03\xe8\x07\x00\x00\x00" + "\x3c" + strings.Repeat("../", 20) + "\x00" +
		"\x81\x01\x01\x00\x00\xe8\x07\x00\x00" + "\x40" + everyByte()[192:] + "\x00" +
		"\xff\x7f\x02\x00\x00\x00\x00\x00" + "\x00" + "\x00" +
		"\x80\x80\x01\x01\x00\x00\x00\x00\x00" + "\x40" + strings.Repeat("\x00", 64) + "\x00" +
		"\x9f\x8d\x06\x03\xff\x03\x00\x00\x00\x00" + "\x01/" + "\x00"
	for _, c := range []struct {
		v    impl.Vol
		want string
	}{
		{impl.NewVol(), "\x02\x01\x01\x02\xed\x03\x00\x00\x00\x00\x00\x00"},
		{impl.Vol{Next: 3, Inodes: []impl.Inode{{Id: 1, Kind: 2, Names: dirents("a", 2)}, {Id: 2, Kind: 1}}}, "\x03\x02\x01\x02\x00\x00\x00\x00\x00\x00\x01\x01a\x02\x02\x01\x00\x00\x00\x00\x00\x00\x00"},
		{rightVol(), right},
		{edgeVol(), edge},
	} {
		volForm().checkText(t, c.v, c.want)
	}
	for _, v := range textVols() {
		if volForm().checkShow(t, v) == "" {
			t.Errorf("no text of %+v", v)
		}
	}
	empty := volWith(func(v *impl.Vol) { v.Inodes[3].Names = []impl.Dirent{} })
	if impl.ShowVol(empty) != right {
		t.Error("an empty list is not nil")
	}
}

// wrongVols are each wrong in one thing, its numbers below 0 among them, and may be written all the same where none is below 0.
func wrongVols() []impl.Vol {
	out := []impl.Vol{{}, {Next: 2}, {Next: 1, Inodes: impl.NewVol().Inodes}, {Next: 3, Inodes: make([]impl.Inode, 2)}, wideVol(25), bytesVol(401), {Next: 2, Inodes: make([]impl.Inode, 1000)}}
	fields := []func(n *impl.Inode) *int{
		func(n *impl.Inode) *int { return &n.Id }, func(n *impl.Inode) *int { return &n.Kind }, func(n *impl.Inode) *int { return &n.Mode }, func(n *impl.Inode) *int { return &n.Uid },
		func(n *impl.Inode) *int { return &n.Gid }, func(n *impl.Inode) *int { return &n.MaxB }, func(n *impl.Inode) *int { return &n.MaxI },
	}
	for at := range rightVol().Inodes {
		for _, field := range fields {
			for _, to := range []int{math.MinInt, -1000000, -128, -1, 3000, 1000000, impl.MaxVar, impl.MaxVar + 1, math.MaxInt} {
				out = append(out, volWith(func(v *impl.Vol) { *field(&v.Inodes[at]) = to }))
			}
		}
	}
	for _, to := range []int{math.MinInt, -9, -1, 0, 1, 7, 100001, impl.MaxVar, math.MaxInt} {
		out = append(out, volWith(func(v *impl.Vol) { v.Next = to }), volWith(func(v *impl.Vol) { v.Inodes[2].Names[0].Id = to - 1 }))
	}
	for _, change := range []func(v *impl.Vol){
		func(v *impl.Vol) { v.Inodes[1].MaxB = 5 }, func(v *impl.Vol) { v.Inodes[1].MaxI = 2 },
		func(v *impl.Vol) { v.Inodes[3].Data = strings.Repeat("x", 65) }, func(v *impl.Vol) { v.Inodes[4].Data = "" },
		func(v *impl.Vol) { v.Inodes[4].Data = "A" }, func(v *impl.Vol) { v.Inodes[2].Data = "a" },
		func(v *impl.Vol) { v.Inodes[2].Names[1].Name = "iiiiiiiii" }, func(v *impl.Vol) { v.Inodes[2].Names[0].Name = "" },
		func(v *impl.Vol) { v.Inodes[0].Names = v.Inodes[0].Names[:2] }, func(v *impl.Vol) { v.Inodes = v.Inodes[:5] },
		func(v *impl.Vol) { v.Inodes[2].Names = dirents("h", 4, "h", 7) }, func(v *impl.Vol) { v.Inodes[2].Names = dirents("i", 7, "h", 4) },
		func(v *impl.Vol) { v.Inodes[2].Names = dirents("h", 4, "hh", 7, "h", 7) }, func(v *impl.Vol) { v.Inodes[5].Names = dirents("a", 4) },
		func(v *impl.Vol) { v.Inodes[4], v.Inodes[5] = v.Inodes[5], v.Inodes[4] }, func(v *impl.Vol) { v.Inodes[0], v.Inodes[1] = v.Inodes[1], v.Inodes[0] },
		func(v *impl.Vol) { v.Inodes = append(v.Inodes, v.Inodes[5]) }, func(v *impl.Vol) { slices.Reverse(v.Inodes) },
	} {
		out = append(out, volWith(change))
	}
	return out
}

// A volume that is not right has no text, and the text that it would have is no volume's.
func TestTextsOfWrongVols(t *testing.T) {
	for _, v := range wrongVols() {
		if got := impl.ShowVol(v); got != "" {
			t.Errorf("ShowVol(%+v) = %q", v, got)
		}
		volForm().checkShow(t, v)
		below := v.Next < 0 || slices.ContainsFunc(volTokens(v), func(part token) bool { return part.number != -1 && part.text == "" })
		if s := joined(volTokens(v)); !below {
			volForm().checkRefused(t, "not right", s)
		}
		volForm().checkRead(t, joined(volTokens(v)))
	}
}

func TestReadVolRefuses(t *testing.T) {
	for _, v := range textVols() {
		volForm().checkWhole(t, v)
	}
}

// A count of more than there are, of inodes, names or bytes, up to as many as a number can tell; and of less.
func TestReadVolCounts(t *testing.T) {
	one := "\x01\x02\x00\x00\x00\x00\x00\x00\x00"
	rows := strings.Repeat(one, 1<<14)
	for _, n := range []int{0, 2, 3, 24, 25, 127, 128, 1 << 14, 1 << 20, math.MaxInt32, math.MaxUint32, impl.MaxVar} {
		for _, c := range []struct{ what, s string }{
			{"inodes", "\x02" + wantVar(n) + one},
			{"inodes, zeros behind", "\x02" + wantVar(n) + one + strings.Repeat("\x00", 1<<14)},
			{"inodes, inodes behind", "\x02" + wantVar(n) + rows},
			{"bytes", "\x03\x02\x01\x02\x00\x00\x00\x00\x00\x00\x01\x01a\x02\x02\x01\x00\x00\x00\x00\x00" + wantVar(n) + "x\x00"},
			{"bytes, the names' count among them", "\x03\x02\x01\x02\x00\x00\x00\x00\x00\x00\x01\x01a\x02\x02\x01\x00\x00\x00\x00\x00" + wantVar(n+1) + strings.Repeat("\x00", n%64)},
			{"names", "\x03\x02\x01\x02\x00\x00\x00\x00\x00\x00" + wantVar(n) + "\x01a\x02\x02\x01\x00\x00\x00\x00\x00\x00\x00"},
			{"names, names behind", "\x03\x02\x01\x02\x00\x00\x00\x00\x00\x00" + wantVar(n) + strings.Repeat("\x01a\x02", 1<<14)},
			{"bytes of a name", "\x03\x02\x01\x02\x00\x00\x00\x00\x00\x00\x01" + wantVar(n) + "a\x02\x02\x01\x00\x00\x00\x00\x00\x00\x00"},
		} {
			volForm().checkRefused(t, fmt.Sprint("a count of ", n, " ", c.what), c.s)
			volForm().checkRead(t, c.s)
		}
	}
	if !volForm().checkRead(t, "\x02\x01"+one) {
		t.Error("one inode, counted")
	}
}

func TestReadVolOfOtherNumbers(t *testing.T) {
	for _, v := range []impl.Vol{impl.NewVol(), rightVol(), edgeVol(), bytesVol(400), quotaVol(9, 9, 6, 3)} {
		volForm().checkNumbers(t, v)
	}
}

func TestReadVolOfOtherBytes(t *testing.T) {
	for _, v := range []impl.Vol{impl.NewVol(), rightVol(), quotaVol(9, 9, 6, 3)} {
		volForm().checkBytes(t, v)
	}
}

// Inodes and names that stand in another order are no text, though each is there.
func TestReadVolOutOfOrder(t *testing.T) {
	for _, v := range textVols() {
		for i := range v.Inodes {
			for j := range i {
				bent := copiedVol(v)
				bent.Inodes[i], bent.Inodes[j] = bent.Inodes[j], bent.Inodes[i]
				volForm().checkRefused(t, "two inodes in each other's place", joined(volTokens(bent)))
			}
			for j := range v.Inodes[i].Names {
				for k := range j {
					bent := copiedVol(v)
					names := bent.Inodes[i].Names
					names[j], names[k] = names[k], names[j]
					volForm().checkRefused(t, "two names in each other's place", joined(volTokens(bent)))
				}
			}
		}
	}
}

// argNumbers are N and M, with what stands for them in a text.
var argNumbers = []struct {
	n    int
	want string
}{
	{0, "\x00"}, {1, "\x02"}, {-1, "\x01"}, {2, "\x04"}, {-2, "\x03"}, {63, "\x7e"}, {-63, "\x7d"}, {64, "\x80\x01"}, {-64, "\x7f"}, {65, "\x82\x01"}, {-65, "\x81\x01"},
	{8191, "\xfe\x7f"}, {-8192, "\xff\x7f"}, {8192, "\x80\x80\x01"}, {-8193, "\x81\x80\x01"}, {999999, "\xfe\x88\x7a"}, {-999999, "\xfd\x88\x7a"}, {1000000, "\x80\x89\x7a"}, {-1000000, "\xff\x88\x7a"},
}

func TestShowCallNumbers(t *testing.T) {
	for _, n := range argNumbers {
		for _, m := range argNumbers {
			x := impl.Call{Kind: impl.CaChown, N: n.n, M: m.n}
			if got, want := callForm().checkShow(t, x), "\x10\x00\x00"+n.want+m.want+"\x00"; got != want {
				t.Errorf("ShowCall(%+v) = %q, want %q", x, got, want)
			}
		}
	}
	for n := -20000; n <= 20000; n++ {
		callForm().checkShow(t, impl.Call{Kind: impl.CaStat, N: n, M: -n})
	}
	for _, n := range []int{1000001, -1000001, math.MaxInt, math.MinInt, impl.MaxVar, -impl.MaxVar} {
		for _, x := range []impl.Call{{Kind: 4, N: n}, {Kind: 4, M: n}, {Kind: 4, N: n, M: n}} {
			if got := callForm().checkShow(t, x); got != "" {
				t.Errorf("ShowCall(%+v) = %q", x, got)
			}
		}
	}
}

// textCalls are of each kind, with nothing but it, and as full as it may be.
func textCalls() []impl.Call {
	out := []impl.Call{{Kind: impl.CaRead, Path: everyByte()[:60]}, {Kind: impl.CaWrite, Path: "/a", N: 3, M: -2, Data: everyByte()[192:]}}
	for kind := 1; kind <= 22; kind++ {
		full := impl.Call{Kind: kind, Path: strings.Repeat("\xff", 60), N: 1000000, M: -1000000}
		switch kind {
		case impl.CaLink, impl.CaSymlink, impl.CaRename:
			full.To = strings.Repeat("\x80", 60)
			out = append(out, impl.Call{Kind: kind, To: "/"})
		case impl.CaWrite, impl.CaAppend:
			full.Data = strings.Repeat("\x00", 64)
			out = append(out, impl.Call{Kind: kind, Data: "\x00"})
		}
		out = append(out, full, impl.Call{Kind: kind}, impl.Call{Kind: kind, Path: "/", N: -1, M: 1})
	}
	return out
}

func TestShowCall(t *testing.T) {
	for _, c := range []struct {
		x    impl.Call
		want string
	}{
		{impl.Call{Kind: impl.CaMkdir, Path: "/d", N: 493}, "\x01\x02/d\x00\xda\x07\x00\x00"},
		{impl.Call{Kind: impl.CaRename, Path: "/d", To: "/efg"}, "\x0c\x02/d\x04/efg\x00\x00\x00"},
		{impl.Call{Kind: impl.CaAppend, Path: "/f", Data: "a\x00b"}, "\x06\x02/f\x00\x00\x00\x03a\x00b"},
		{impl.Call{Kind: impl.CaArchive}, "\x16\x00\x00\x00\x00\x00"},
	} {
		callForm().checkText(t, c.x, c.want)
	}
	for _, x := range textCalls() {
		if callForm().checkShow(t, x) == "" {
			t.Errorf("no text of %+v", x)
		}
	}
}

// wrongCalls are each wrong in one thing.
func wrongCalls() []impl.Call {
	var out []impl.Call
	for _, kind := range []int{math.MinInt, -1, 0, 23, 24, 128, math.MaxInt} {
		out = append(out, impl.Call{Kind: kind}, impl.Call{Kind: kind, Path: "/a", N: 1})
	}
	for kind := 1; kind <= 22; kind++ {
		out = append(out, impl.Call{Kind: kind, Path: strings.Repeat("a", 61)}, impl.Call{Kind: kind, To: strings.Repeat("a", 61)}, impl.Call{Kind: kind, Data: strings.Repeat("a", 65)}, impl.Call{Kind: kind, To: "a", Data: "a"})
		if kind != impl.CaLink && kind != impl.CaSymlink && kind != impl.CaRename {
			out = append(out, impl.Call{Kind: kind, To: "\x00"}, impl.Call{Kind: kind, Path: "/a", To: "/b"})
		}
		if kind != impl.CaWrite && kind != impl.CaAppend {
			out = append(out, impl.Call{Kind: kind, Data: "\x00"}, impl.Call{Kind: kind, Path: "/a", Data: "b"})
		}
		for _, n := range []int{1000001, -1000001, math.MaxInt32, math.MinInt32} {
			out = append(out, impl.Call{Kind: kind, N: n}, impl.Call{Kind: kind, M: n})
		}
	}
	return out
}

// A call that is not CallOk has no text, and the text that it would have is no call's.
func TestTextsOfWrongCalls(t *testing.T) {
	for _, x := range wrongCalls() {
		if got := callForm().checkShow(t, x); got != "" {
			t.Errorf("ShowCall(%+v) = %q", x, got)
		}
		callForm().checkRefused(t, "not CallOk", joined(callTokens(x)))
	}
	for _, n := range []string{"\x81\x89\x7a", "\x82\x89\x7a", "\xff\xff\xff\xff\xff\xff\x7f", "\xfe\xff\xff\xff\xff\xff\x7f"} {
		callForm().checkRefused(t, "N beyond its bounds", "\x04\x00\x00"+n+"\x00\x00")
		callForm().checkRefused(t, "M beyond its bounds", "\x04\x00\x00\x00"+n+"\x00")
	}
}

func TestReadCallRefuses(t *testing.T) {
	for _, x := range textCalls() {
		callForm().checkWhole(t, x)
		callForm().checkNumbers(t, x)
	}
	for _, x := range []impl.Call{{Kind: 1}, {Kind: 12, Path: "/a", To: "b"}, {Kind: 5, Path: "/a", N: 100, M: -100, Data: "abc"}} {
		callForm().checkBytes(t, x)
	}
	for _, n := range []int{1, 2, 60, 61, 127, 128, 1 << 20, math.MaxInt32, math.MaxUint32, impl.MaxVar} {
		callForm().checkRefused(t, "more bytes of Path", "\x05"+wantVar(n))
		callForm().checkRefused(t, "more bytes of To", "\x0c\x00"+wantVar(n))
		callForm().checkRefused(t, "more bytes of Data", "\x05\x00\x00\x00\x00"+wantVar(n))
		callForm().checkRefused(t, "far more bytes", "\x05\x00\x00\x00\x00"+wantVar(n)+strings.Repeat("x", 1<<16))
	}
}

// All short texts of a few bytes, those of calls among them.
func TestReadShortCalls(t *testing.T) {
	taken := 0
	for _, s := range shortTexts("\x00\x01\x05\x0c\x80/", 7) {
		if callForm().checkRead(t, s) {
			taken++
		}
	}
	if taken < 300 {
		t.Error("so many are calls:", taken)
	}
}

func TestResultOk(t *testing.T) {
	if impl.MaxTell != 400 {
		t.Error("MaxTell", impl.MaxTell)
	}
	sizes := map[int]bool{0: true, 1: true, 399: true, 400: true, 401: false, 402: false, 100000: false}
	for code, right := range map[int]bool{0: true, 1: true, 127: true, 128: true, 199: true, 200: true, 201: false, 202: false, 256: false, -1: false, -200: false, math.MaxInt: false, math.MinInt: false} {
		for size, fits := range sizes {
			r := impl.Result{Code: code, Data: strings.Repeat("\xff", size)}
			if got := impl.ResultOk(r); got != (right && fits) {
				t.Errorf("ResultOk of Code %d and %d bytes = %v", code, size, got)
			}
			if got := impl.ShowResult(r); (got != "") != (right && fits) {
				t.Errorf("ShowResult of Code %d and %d bytes has %d bytes", code, size, len(got))
			}
			resultForm().checkShow(t, r)
		}
	}
}

func TestShowResult(t *testing.T) {
	for code, want := range map[int]string{0: "\x00", 1: "\x01", 122: "\x7a", 127: "\x7f", 128: "\x80\x01", 200: "\xc8\x01"} {
		for _, data := range []string{"", "a", "\x00", "\x80", "ab\xff", everyByte(), strings.Repeat("x", 400), strings.Repeat("\x80", 400)} {
			r := impl.Result{Code: code, Data: data}
			if got := resultForm().checkShow(t, r); got != want+data {
				t.Errorf("ShowResult(%+v) = %q", r, got)
			}
		}
	}
	for code := -3; code <= 300; code++ {
		resultForm().checkShow(t, impl.Result{Code: code, Data: "1 420 2 7 1 0"})
	}
}

func TestReadResultRefuses(t *testing.T) {
	for _, s := range []string{
		"", "\x80", "\xc8", "\xff", "\x80\x00", "\x81\x00", "\xc8\x81\x00", "\xc8\x80", "\xc9\x01", "\xca\x01", "\xff\x01", "\x80\x02", "\x80\x80\x01", "\xff\xff\xff\xff\xff\xff\x7f", "\xff\xff\xff\xff\xff\xff\xff\x01",
		"\x80\x80", "\x80\x00abc", "\xc9\x01abc", strings.Repeat("\x80", 100), strings.Repeat("\xff", 100), "\x00" + strings.Repeat("x", 401), "\xc8\x01" + strings.Repeat("x", 401), "\x00" + strings.Repeat("x", 1<<20),
	} {
		resultForm().checkRefused(t, "no result", s)
		resultForm().checkRead(t, s)
	}
	for _, r := range []impl.Result{{}, {Code: 127}, {Code: 128}, {Code: 200, Data: "a"}, {Code: 5, Data: everyByte()}} {
		resultForm().checkNeeded(t, r)
		resultForm().checkNumbers(t, r)
		resultForm().checkBytes(t, r)
		s := resultForm().checkShow(t, r)
		for at := range len(s) {
			resultForm().checkRead(t, s[:at])
		}
	}
}

// The Data are what is left behind the Code, none of whose bytes are counted among them.
func TestReadResultBehindItsCode(t *testing.T) {
	for s, want := range map[string]impl.Result{
		"\x00": {}, "\x00abc": {Data: "abc"}, "\x00\x00": {Data: "\x00"}, "\x01": {Code: 1}, "\x7a\x80": {Code: 122, Data: "\x80"}, "\x80\x01": {Code: 128}, "\x80\x01\x80\x01": {Code: 128, Data: "\x80\x01"},
		"\xc8\x01": {Code: 200}, "\xc8\x01x": {Code: 200, Data: "x"}, "\xc8\x01" + strings.Repeat("x", 400): {Code: 200, Data: strings.Repeat("x", 400)},
	} {
		if got, ok := impl.ReadResult(s); !ok || got != want {
			t.Errorf("ReadResult(%q) = %+v, %v, want %+v", s, got, ok, want)
		}
		if got := impl.ShowResult(want); got != s {
			t.Errorf("ShowResult(%+v) = %q, want %q", want, got, s)
		}
	}
}

func TestReadShortResults(t *testing.T) {
	taken := 0
	for _, s := range texts() {
		if resultForm().checkRead(t, s) {
			taken++
		}
	}
	if taken < 1000 {
		t.Error("so many are results:", taken)
	}
}
