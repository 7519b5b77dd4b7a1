package tests

import (
	"fmt"
	"math"
	"math/big"
	"math/rand"
	"slices"
	"strings"
	"testing"

	"loop.example/g00757/impl"
)

// behind: what may stand behind a number without changing how it is read.
var behind = []string{"", "\x00", "\x7f", "\x80", "\xff\xff\xff\xff\xff\xff\xff\xff", "z"}

// numbers are the edges of each width, of each count of seven bits, and a fixed row of others.
func numbers() []int {
	out := []int{0, 1, 9, 10, 99, 100, 300, 999999999, 1000000000, impl.MaxVar - 1, impl.MaxVar, impl.MaxVar + 1, math.MaxInt - 1, math.MaxInt}
	for bit := range 63 {
		out = append(out, 1<<bit-1, 1<<bit, 1<<bit+1)
	}
	for n := range 70000 {
		out = append(out, n)
	}
	r := rand.New(rand.NewSource(1))
	for range 5000 {
		out = append(out, int(r.Uint64()>>(1+r.Intn(63))))
	}
	for _, n := range slices.Clone(out) {
		out = append(out, -n)
	}
	return append(out, math.MinInt, math.MinInt+1)
}

// texts are all of up to two bytes, and a fixed row of longer ones.
func texts() []string {
	out := []string{""}
	for a := range 256 {
		out = append(out, string([]byte{byte(a)}))
		for b := range 256 {
			out = append(out, string([]byte{byte(a), byte(b)}))
		}
	}
	r := rand.New(rand.NewSource(2))
	for range 2000 {
		b := make([]byte, 3+r.Intn(30))
		r.Read(b)
		out = append(out, string(b))
	}
	return out
}

// shortTexts are all texts of at most so many of these bytes.
func shortTexts(bytes string, most int) []string {
	out := []string{""}
	last := out
	for range most {
		var next []string
		for _, s := range last {
			for i := range len(bytes) {
				next = append(next, s+bytes[i:i+1])
			}
		}
		out = append(out, next...)
		last = next
	}
	return out
}

func wantFixed(n, width int) string {
	if width < 1 || width > 7 || n < 0 {
		return ""
	}
	b := big.NewInt(int64(n)).Bytes()
	if len(b) > width {
		return ""
	}
	return strings.Repeat("\x00", width-len(b)) + string(b)
}

func TestFixed(t *testing.T) {
	for _, n := range numbers() {
		for width := -1; width <= 9; width++ {
			got, want := impl.Fixed(n, width), wantFixed(n, width)
			if got != want {
				t.Fatalf("Fixed(%d, %d) = %q, want %q", n, width, got, want)
			}
			if got == "" {
				continue
			}
			for _, more := range behind {
				if back, ok := impl.ReadFixed(got+more, width); back != n || !ok {
					t.Fatalf("ReadFixed(%q, %d) = %d, %v, want %d", got+more, width, back, ok, n)
				}
			}
		}
	}
}

func TestFixedEdges(t *testing.T) {
	for _, c := range []struct {
		n, width int
		want     string
	}{
		{0, 0, ""}, {0, 1, "\x00"}, {0, 7, "\x00\x00\x00\x00\x00\x00\x00"}, {0, 8, ""},
		{-1, 1, ""}, {-1, 7, ""}, {math.MinInt, 7, ""}, {math.MaxInt, 7, ""},
		{255, 1, "\xff"}, {256, 1, ""}, {65535, 2, "\xff\xff"}, {65536, 2, ""},
		{1<<56 - 1, 7, "\xff\xff\xff\xff\xff\xff\xff"}, {1 << 56, 7, ""},
		{1, -1, ""}, {1, math.MinInt, ""}, {1, math.MaxInt, ""}, {1<<56 - 1, 8, ""},
		{0x010203, 3, "\x01\x02\x03"}, {0x010203, 5, "\x00\x00\x01\x02\x03"},
	} {
		if got := impl.Fixed(c.n, c.width); got != c.want {
			t.Errorf("Fixed(%d, %d) = %q, want %q", c.n, c.width, got, c.want)
		}
	}
}

func TestReadFixedRefuses(t *testing.T) {
	long := strings.Repeat("\x01", 20)
	for _, width := range []int{math.MinInt, -1, 0, 8, 9, math.MaxInt} {
		if n, ok := impl.ReadFixed(long, width); n != 0 || ok {
			t.Errorf("ReadFixed(.., %d) = %d, %v", width, n, ok)
		}
	}
	for width := 1; width <= 7; width++ {
		for length := range width {
			if n, ok := impl.ReadFixed(long[:length], width); n != 0 || ok {
				t.Errorf("ReadFixed of %d bytes, %d = %d, %v", length, width, n, ok)
			}
		}
		got, ok := impl.ReadFixed(long[:width], width)
		if !ok || impl.Fixed(got, width) != long[:width] {
			t.Errorf("ReadFixed of %d bytes = %d, %v", width, got, ok)
		}
	}
}

// wantVar takes the digits to the base 128 apart by division, as the words of the chapter have it.
func wantVar(n int) string {
	if n < 0 || n > impl.MaxVar {
		return ""
	}
	out := []byte{byte(n % 128)}
	for n /= 128; n > 0; n /= 128 {
		out[len(out)-1] += 128
		out = append(out, byte(n%128))
	}
	return string(out)
}

func TestVar(t *testing.T) {
	for _, n := range numbers() {
		got, want := impl.Var(n), wantVar(n)
		if got != want {
			t.Fatalf("Var(%d) = %q, want %q", n, got, want)
		}
		if got == "" {
			continue
		}
		for _, more := range behind {
			if back, size := impl.ReadVar(got + more); back != n || size != len(got) {
				t.Fatalf("ReadVar(%q) = %d, %d, want %d, %d", got+more, back, size, n, len(got))
			}
		}
		for cut := range len(got) {
			if back, size := impl.ReadVar(got[:cut]); back != 0 || size != 0 {
				t.Fatalf("ReadVar(%q) = %d, %d of a text that is cut off", got[:cut], back, size)
			}
		}
	}
}

func TestVarEdges(t *testing.T) {
	for _, c := range []struct {
		n    int
		want string
	}{
		{0, "\x00"}, {1, "\x01"}, {127, "\x7f"}, {128, "\x80\x01"}, {300, "\xac\x02"}, {16383, "\xff\x7f"}, {16384, "\x80\x80\x01"},
		{impl.MaxVar, "\xff\xff\xff\xff\xff\xff\x7f"}, {impl.MaxVar + 1, ""}, {math.MaxInt, ""}, {-1, ""}, {math.MinInt, ""},
	} {
		if got := impl.Var(c.n); got != c.want {
			t.Errorf("Var(%d) = %q, want %q", c.n, got, c.want)
		}
	}
}

func TestReadVarRefuses(t *testing.T) {
	for _, s := range []string{
		"", "\x80", "\xff", "\x80\x80",
		"\x80\x00", "\xff\x00", "\xff\xff\x00", "\x80\x80\x80\x80\x80\x80\x00", "\x81\x00\x01",
		"\xff\xff\xff\xff\xff\xff\xff", "\x80\x80\x80\x80\x80\x80\x80\x01", "\xff\xff\xff\xff\xff\xff\xff\x7f",
		"\x80\x80\x80\x80\x80\x80\x80\x00", "\x80\x80\x80\x80\x80\x80\x80\x80\x80\x01", strings.Repeat("\xff", 100) + "\x01",
	} {
		if n, size := impl.ReadVar(s); n != 0 || size != 0 {
			t.Errorf("ReadVar(%q) = %d, %d", s, n, size)
		}
	}
}

func TestReadVarTakesOnlyWhatVarMakes(t *testing.T) {
	all := append(texts(), shortTexts("\x00\x01\x7f\x80\xff", 8)...)
	for _, s := range all {
		n, size := impl.ReadVar(s)
		if size == 0 {
			if n != 0 {
				t.Fatalf("ReadVar(%q) = %d, 0", s, n)
			}
			continue
		}
		if size < 0 || size > len(s) || impl.Var(n) != s[:size] {
			t.Fatalf("ReadVar(%q) = %d, %d, but Var is %q", s, n, size, impl.Var(n))
		}
	}
}

func TestHex(t *testing.T) {
	for _, s := range texts() {
		got, want := impl.Hex(s), fmt.Sprintf("%x", s)
		if got != want {
			t.Fatalf("Hex(%q) = %q, want %q", s, got, want)
		}
		if back, ok := impl.Unhex(got); back != s || !ok {
			t.Fatalf("Unhex(%q) = %q, %v, want %q", got, back, ok, s)
		}
	}
	if impl.Hex("") != "" || impl.Hex("\x00") != "00" || impl.Hex("\x1f\xf1") != "1ff1" || impl.Hex("a\xff") != "61ff" {
		t.Error("edges of Hex")
	}
}

func TestUnhexRefuses(t *testing.T) {
	for _, s := range []string{
		"0", "f", "000", "61f", "6F", "F6", "AB", "0g", "g0", "0`", "/0", "0:", ":0", "@0", "0x", "0x61", " 61", "61 ", "6 1 ",
		"\x00\x00", "\xff\xff", "-1", "+1", "61\n", "61zz", "zz61", "é",
	} {
		if got, ok := impl.Unhex(s); got != "" || ok {
			t.Errorf("Unhex(%q) = %q, %v", s, got, ok)
		}
	}
}

func TestUnhexTakesOnlyWhatHexMakes(t *testing.T) {
	all := append(texts(), shortTexts("09afgAF/", 5)...)
	for _, s := range all {
		got, ok := impl.Unhex(s)
		right := len(s)%2 == 0
		for i := range len(s) {
			right = right && strings.IndexByte("0123456789abcdef", s[i]) >= 0
		}
		if ok != right || ok && impl.Hex(got) != s || !ok && got != "" {
			t.Fatalf("Unhex(%q) = %q, %v", s, got, ok)
		}
	}
	if got, ok := impl.Unhex(""); got != "" || !ok {
		t.Errorf("Unhex of nothing = %q, %v", got, ok)
	}
}

func TestDec(t *testing.T) {
	for _, n := range numbers() {
		got, want := impl.Dec(n), big.NewInt(int64(n)).String()
		if got != want {
			t.Fatalf("Dec(%d) = %q", n, got)
		}
		back, ok := impl.ReadDec(got)
		if n >= -999999999 && n <= 999999999 {
			if back != n || !ok {
				t.Fatalf("ReadDec(%q) = %d, %v", got, back, ok)
			}
		} else if back != 0 || ok {
			t.Fatalf("ReadDec(%q) = %d, %v: more than 9 digits", got, back, ok)
		}
	}
}

func TestDecEdges(t *testing.T) {
	for _, c := range []struct {
		n    int
		want string
	}{
		{0, "0"}, {7, "7"}, {10, "10"}, {-1, "-1"}, {-120, "-120"},
		{math.MaxInt, "9223372036854775807"}, {math.MinInt, "-9223372036854775808"},
	} {
		if got := impl.Dec(c.n); got != c.want {
			t.Errorf("Dec(%d) = %q, want %q", c.n, got, c.want)
		}
	}
}

func TestReadDecEdges(t *testing.T) {
	for s, want := range map[string]int{
		"0": 0, "9": 9, "10": 10, "-1": -1, "-10": -10, "100": 100,
		"123456789": 123456789, "999999999": 999999999, "-999999999": -999999999, "-100000000": -100000000,
	} {
		if n, ok := impl.ReadDec(s); n != want || !ok {
			t.Errorf("ReadDec(%q) = %d, %v", s, n, ok)
		}
	}
}

func TestReadDecRefuses(t *testing.T) {
	for _, s := range []string{
		"", "-", "--", "--1", "-0", "-00", "00", "01", "-01", "000000001", "0000000001", "+0", "+1", "1-", "1+", "-+1",
		"1000000000", "-1000000000", "9999999999", "12345678901234567890", "18446744073709551617", "-9223372036854775808", strings.Repeat("1", 1000),
		" 1", "1 ", "1 2", "1\n", "1\x00", "\x001", "1_0", "0x1", "1.0", "1e3", "a", "1a", "a1", "12a4", "/", ":", "1/", "1:", "\xff", "٣", "−1",
	} {
		if n, ok := impl.ReadDec(s); n != 0 || ok {
			t.Errorf("ReadDec(%q) = %d, %v", s, n, ok)
		}
	}
}

func TestReadDecTakesOnlyWhatDecMakes(t *testing.T) {
	all := append(texts(), shortTexts("019-+ /:", 5)...)
	for _, s := range all {
		n, ok := impl.ReadDec(s)
		if ok && impl.Dec(n) != s || !ok && n != 0 {
			t.Fatalf("ReadDec(%q) = %d, %v", s, n, ok)
		}
	}
}
