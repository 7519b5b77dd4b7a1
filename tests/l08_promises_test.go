package tests

import (
	"math/rand"
	"strings"
	"testing"
	"unsafe"

	"loop.example/g00757/impl"
)

// someTextVol has files of any bytes, and now and then one number or name that is off.
func someTextVol(r *rand.Rand) impl.Vol {
	v := someVol(r)
	if r.Intn(2) == 0 {
		v = someCallVol(r)
	}
	if r.Intn(4) == 0 {
		v = bentVol(r, v)
	}
	return v
}

// someTextCall is CallOk, mostly.
func someTextCall(r *rand.Rand) impl.Call {
	text := func(most int) string {
		b := make([]byte, r.Intn(most+1))
		r.Read(b)
		return string(b)
	}
	number := func() int { return (r.Intn(2)*2 - 1) * r.Intn(1<<r.Intn(21)) }
	x := impl.Call{Kind: 1 + r.Intn(22), Path: text(60), N: number(), M: number()}
	switch x.Kind {
	case impl.CaLink, impl.CaSymlink, impl.CaRename:
		x.To = text(60)
	case impl.CaWrite, impl.CaAppend:
		x.Data = text(64)
	}
	switch r.Intn(12) {
	case 0:
		x.Kind = r.Intn(30) - 3
	case 1:
		x.Path += text(30)
	}
	return x
}

func someTextResult(r *rand.Rand) impl.Result {
	b := make([]byte, r.Intn(410))
	r.Read(b)
	return impl.Result{Code: r.Intn(208) - 2, Data: string(b)}
}

// bentText is a text of these parts with some part or byte of it changed, taken away or doubled.
func bentText(r *rand.Rand, tokens []token) string {
	tokens = append([]token(nil), tokens...)
	for range r.Intn(3) {
		part := &tokens[r.Intn(len(tokens))]
		switch {
		case part.number >= 0 && r.Intn(2) == 0:
			part.text = wantVar(r.Intn(1 << r.Intn(12)))
		case part.number >= 0:
			part.text = wantVar(max(part.number+r.Intn(3)-1, 0))
		case r.Intn(2) == 0:
			part.text = strings.ToUpper(part.text)
		}
	}
	s := joined(tokens)
	for range r.Intn(3) {
		at := r.Intn(len(s) + 1)
		end := min(at+r.Intn(3), len(s))
		switch r.Intn(3) {
		case 0:
			s = s[:at] + s[end:]
		case 1:
			s = s[:at] + string([]byte{byte(r.Intn(256))}) + s[end:]
		case 2:
			s = s[:end] + s[at:]
		}
	}
	return s
}

// checkSome asks promise 8 of many things and of texts that are a little off theirs.
func checkSome[T any](t *testing.T, f form[T], r *rand.Rand, some func(r *rand.Rand) T) {
	t.Helper()
	shown, taken, refused := 0, 0, 0
	for range 6000 {
		x := some(r)
		if f.checkShow(t, x) != "" {
			shown++
		}
		for range 4 {
			s := bentText(r, f.tokens(x))
			if !f.checkRead(t, s) {
				refused++
			} else if got, _ := f.read(s); !f.same(got, x) {
				taken++
			}
		}
	}
	if shown < 3000 || taken < 100 || refused < 3000 {
		t.Error("so many are shown, taken as others, refused:", shown, taken, refused)
	}
}

// Promise 8: what Show makes is taken, and nothing else.
func TestSomeTexts(t *testing.T) {
	checkSome(t, volForm(), rand.New(rand.NewSource(81)), someTextVol)
	checkSome(t, callForm(), rand.New(rand.NewSource(82)), someTextCall)
	checkSome(t, resultForm(), rand.New(rand.NewSource(83)), someTextResult)
}

// Promise 8, asked of the program's answers alone, of bytes of which most are no text.
func TestTextsOfAnything(t *testing.T) {
	r := rand.New(rand.NewSource(84))
	for range 60000 {
		b := make([]byte, r.Intn(1+r.Intn(80)))
		for i := range b {
			b[i] = byte(r.Intn(1 << (1 + r.Intn(8))))
		}
		s := string(b)
		if v, ok := impl.ReadVol(s); ok && impl.ShowVol(v) != s {
			t.Fatalf("%q is read as %+v", s, v)
		}
		if x, ok := impl.ReadCall(s); ok && impl.ShowCall(x) != s {
			t.Fatalf("%q is read as %+v", s, x)
		}
		if x, ok := impl.ReadResult(s); ok && impl.ShowResult(x) != s {
			t.Fatalf("%q is read as %+v", s, x)
		}
	}
}

// Two volumes, calls or results that are not the same have not the same text.
func TestTextsTellApart(t *testing.T) {
	vols, calls, results := map[string]impl.Vol{}, map[string]impl.Call{}, map[string]impl.Result{}
	r := rand.New(rand.NewSource(85))
	for range 4000 {
		v, x, res := someTextVol(r), someTextCall(r), someTextResult(r)
		if s := impl.ShowVol(v); s != "" {
			if other, in := vols[s]; in && !sameVol(other, v) {
				t.Fatalf("%q is the text of %+v and of %+v", s, v, other)
			}
			vols[s] = v
		}
		if s := impl.ShowCall(x); s != "" {
			if other, in := calls[s]; in && other != x {
				t.Fatalf("%q is the text of %+v and of %+v", s, x, other)
			}
			calls[s] = x
		}
		if s := impl.ShowResult(res); s != "" {
			if other, in := results[s]; in && other != res {
				t.Fatalf("%q is the text of %+v and of %+v", s, res, other)
			}
			results[s] = res
		}
	}
}

// A volume goes on behind its text as it would have without.
func TestCallsBehindTexts(t *testing.T) {
	r := rand.New(rand.NewSource(86))
	for range 500 {
		v := someCallVol(r)
		for range 12 {
			c, x := someCred(r), someCall(r, v)
			there, ok := impl.ReadVol(impl.ShowVol(v))
			if !ok || !sameVol(there, v) {
				t.Fatalf("%+v is read as %+v, %v", v, there, ok)
			}
			got, told := impl.VolDo(there, c, x)
			next, res := impl.VolDo(v, c, x)
			if told != res || !sameVol(got, next) {
				t.Fatalf("%+v by %+v in %+v: %+v behind its text, else %+v", x, c, v, told, res)
			}
			v = next
		}
	}
}

func sharesBytes(a, b string) bool {
	return overlap(unsafe.Slice(unsafe.StringData(a), len(a)), unsafe.Slice(unsafe.StringData(b), len(b)))
}

// No argument is written into, nor the room behind its lists, and no answer has its bytes.
func TestShowMemory(t *testing.T) {
	r, wrong := rand.New(rand.NewSource(87)), wrongVols()
	for i := range 2000 {
		v, x, res := someTextVol(r), someTextCall(r), someTextResult(r)
		if i < len(wrong) {
			v = wrong[i]
		}
		if i%4 == 0 {
			res.Code = 0
		}
		room, given := newRoomyVol(v)
		call, result := x, res
		s, ofCall, ofResult := impl.ShowVol(given), impl.ShowCall(call), impl.ShowResult(result)
		impl.ResultOk(result)
		if room.touched() || !sameVol(given, v) || call != x || result != res {
			t.Fatalf("written into %+v, %+v, %+v", v, x, res)
		}
		for _, part := range textsOf(given) {
			if sharesBytes(s, part) {
				t.Fatalf("the text of %+v shares the bytes of %q", v, part)
			}
		}
		if sharesBytes(ofCall, x.Path) || sharesBytes(ofCall, x.To) || sharesBytes(ofCall, x.Data) || sharesBytes(ofResult, res.Data) {
			t.Fatalf("a text shares the bytes of %+v, %+v", x, res)
		}
	}
}

// What is read has bytes and lists of its own: no two of its lists share any, nor those of two readings.
func TestReadMemory(t *testing.T) {
	r := rand.New(rand.NewSource(88))
	for range 2000 {
		s := impl.ShowVol(someTextVol(r))
		was := strings.Clone(s)
		v, ok := impl.ReadVol(s)
		again, _ := impl.ReadVol(s)
		if sharesVol(v, again) {
			t.Fatalf("the lists of %q are shared", s)
		}
		for _, part := range textsOf(v) {
			if sharesBytes(part, s) {
				t.Fatalf("%q shares the bytes of %q", part, s)
			}
		}
		for i := range v.Inodes {
			v.Inodes[i].Names = append(v.Inodes[i].Names, impl.Dirent{Name: "mark", Id: -7})
			for j := range v.Inodes[i].Names {
				v.Inodes[i].Names[j].Id = -7
			}
		}
		v.Inodes = append(v.Inodes, impl.Inode{Id: -7})
		if third, still := impl.ReadVol(s); s != was || still != ok || !sameVol(third, again) || ok && impl.ShowVol(again) != s {
			t.Fatalf("%q is read as %+v, then as %+v", s, again, third)
		}
	}
}

func TestReadCallAndResultMemory(t *testing.T) {
	r := rand.New(rand.NewSource(89))
	for range 2000 {
		s, other := impl.ShowCall(someTextCall(r)), impl.ShowResult(someTextResult(r))
		x, _ := impl.ReadCall(s)
		res, _ := impl.ReadResult(other)
		if sharesBytes(x.Path, s) || sharesBytes(x.To, s) || sharesBytes(x.Data, s) || sharesBytes(res.Data, other) {
			t.Fatalf("%+v or %+v shares the bytes of its text", x, res)
		}
	}
}
