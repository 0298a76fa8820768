package tests

import (
	"encoding/binary"
	"encoding/hex"
	"math"
	"strconv"
	"strings"
	"testing"

	"loop.example/g00358/impl"
)

// behind: what may stand behind a number without changing how it is read.
var behind = []string{"", "\x00", "\x01", "\x7f", "\x80", "\xff", "0", "a", "\x80\x00", "\xff\xff\xff\xff\xff\xff\xff\xff", "one more text"}

// spread: numbers at and beside each power of 2 and of 10, both signs, and the ends of int.
func spread() []int {
	out := []int{0, math.MinInt, math.MinInt + 1, math.MaxInt, math.MaxInt - 1}
	add := func(p int) {
		for d := -2; d <= 2; d++ {
			out = append(out, p+d, -(p + d))
		}
	}
	for i := 0; i < 62; i++ {
		add(1 << i)
	}
	for p := 1; p <= 1e18/10; p *= 10 {
		add(p * 10)
	}
	n := uint64(88172645463325252)
	for range 2000 {
		n ^= n << 13
		n ^= n >> 7
		n ^= n << 17
		out = append(out, int(n), int(n>>8), int(n>>16), int(n>>32), int(n>>48))
	}
	return out
}

// textsOver: all texts of at most length bytes of these.
func textsOver(alphabet string, length int) []string {
	out := []string{""}
	from := 0
	for range length {
		to := len(out)
		for _, s := range out[from:to] {
			for i := range len(alphabet) {
				out = append(out, s+alphabet[i:i+1])
			}
		}
		from = to
	}
	return out
}

func allBytes() string {
	b := make([]byte, 256)
	for i := range b {
		b[i] = byte(i)
	}
	return string(b)
}

// wantFixed: Fixed by the library's big end.
func wantFixed(n int, width int) string {
	if width < 1 || width > 7 || n < 0 || n >= 1<<(8*width) {
		return ""
	}
	return string(binary.BigEndian.AppendUint64(nil, uint64(n))[8-width:])
}

func TestFixedIsAsSaid(t *testing.T) {
	for _, n := range spread() {
		for width := -2; width <= 10; width++ {
			if got, want := impl.Fixed(n, width), wantFixed(n, width); got != want {
				t.Fatalf("Fixed(%d, %d) = %q, want %q", n, width, got, want)
			}
		}
	}
}

func TestFixedEdges(t *testing.T) {
	for width := 1; width <= 7; width++ {
		top := 1<<(8*width) - 1
		if got, want := impl.Fixed(top, width), strings.Repeat("\xff", width); got != want {
			t.Errorf("Fixed(%d, %d) = %q, want %q", top, width, got, want)
		}
		if got := impl.Fixed(top+1, width); got != "" {
			t.Errorf("Fixed(%d, %d) = %q: it does not fit", top+1, width, got)
		}
		if got, want := impl.Fixed(0, width), strings.Repeat("\x00", width); got != want {
			t.Errorf("Fixed(0, %d) = %q, want %q", width, got, want)
		}
		if got := impl.Fixed(-1, width); got != "" {
			t.Errorf("Fixed(-1, %d) = %q", width, got)
		}
	}
	for _, width := range []int{0, -1, 8, 9, 64, math.MinInt, math.MaxInt} {
		for _, n := range []int{0, 1, 255, -1} {
			if got := impl.Fixed(n, width); got != "" {
				t.Errorf("Fixed(%d, %d) = %q: there is no such width", n, width, got)
			}
		}
	}
}

func TestFixedIsReadWhateverStandsBehind(t *testing.T) {
	for _, n := range spread() {
		for width := 1; width <= 7; width++ {
			s := impl.Fixed(n, width)
			if s == "" {
				continue
			}
			for _, b := range behind {
				if got, ok := impl.ReadFixed(s+b, width); got != n || !ok {
					t.Fatalf("ReadFixed(%q, %d) = %d, %v, want %d", s+b, width, got, ok, n)
				}
			}
		}
	}
}

func TestReadFixedRefuses(t *testing.T) {
	long := strings.Repeat("\x01", 70)
	for _, width := range []int{0, -1, -8, 8, 9, 64, math.MinInt, math.MaxInt} {
		for _, s := range []string{"", "\x00", long} {
			if got, ok := impl.ReadFixed(s, width); got != 0 || ok {
				t.Errorf("ReadFixed of %d bytes, %d = %d, %v: there is no such width", len(s), width, got, ok)
			}
		}
	}
	for width := 1; width <= 7; width++ {
		for size := 0; size < width; size++ {
			if got, ok := impl.ReadFixed(long[:size], width); got != 0 || ok {
				t.Errorf("ReadFixed of %d bytes, %d = %d, %v: it is too short", size, width, got, ok)
			}
		}
	}
}

func TestVarIsAsSaid(t *testing.T) {
	if impl.MaxVar != 1<<49-1 {
		t.Fatal("MaxVar is", impl.MaxVar)
	}
	for _, n := range append(spread(), impl.MaxVar-1, impl.MaxVar, impl.MaxVar+1) {
		want := ""
		if n >= 0 && n <= impl.MaxVar {
			want = string(binary.AppendUvarint(nil, uint64(n)))
		}
		if got := impl.Var(n); got != want {
			t.Fatalf("Var(%d) = %q, want %q", n, got, want)
		}
	}
}

func TestVarEdges(t *testing.T) {
	cases := []struct {
		n    int
		want string
	}{
		{0, "\x00"}, {1, "\x01"}, {127, "\x7f"}, {128, "\x80\x01"}, {16383, "\xff\x7f"}, {16384, "\x80\x80\x01"},
		{impl.MaxVar, "\xff\xff\xff\xff\xff\xff\x7f"}, {impl.MaxVar + 1, ""}, {-1, ""}, {math.MinInt, ""}, {math.MaxInt, ""},
	}
	for _, c := range cases {
		if got := impl.Var(c.n); got != c.want {
			t.Errorf("Var(%d) = %q, want %q", c.n, got, c.want)
		}
	}
}

func TestVarIsReadWhateverStandsBehind(t *testing.T) {
	for _, n := range append(spread(), impl.MaxVar) {
		s := impl.Var(n)
		if s == "" {
			continue
		}
		for _, b := range behind {
			if got, size := impl.ReadVar(s + b); got != n || size != len(s) {
				t.Fatalf("ReadVar(%q) = %d, %d, want %d, %d", s+b, got, size, n, len(s))
			}
		}
		for size := range len(s) {
			if got, k := impl.ReadVar(s[:size]); got != 0 || k != 0 {
				t.Fatalf("ReadVar(%q) = %d, %d: it is cut off", s[:size], got, k)
			}
		}
	}
}

func TestReadVarRefuses(t *testing.T) {
	for _, s := range []string{
		"", "\x80", "\xff", "\xff\xff\xff\xff\xff\xff", "\x80\x80\x80\x80\x80\x80\x80", // cut off
		"\x80\x00", "\xff\x00", "\x81\x80\x00", "\x80\x00\x01", "\xff\xff\xff\xff\xff\xff\x00", "\xff\x80\x80\x80\x80\x80\x00", // a byte that is not needed
		"\x80\x80\x80\x80\x80\x80\x80\x01", "\xff\xff\xff\xff\xff\xff\xff\x01", "\xff\xff\xff\xff\xff\xff\xff\x00", // above MaxVar, or eight bytes
		"\x80\x80\x80\x80\x80\x80\x80\x80\x01", "\xff\xff\xff\xff\xff\xff\xff\xff\xff\x01", strings.Repeat("\x80", 100) + "\x01", strings.Repeat("\xff", 100),
	} {
		if got, size := impl.ReadVar(s); got != 0 || size != 0 {
			t.Errorf("ReadVar(%q) = %d, %d", s, got, size)
		}
	}
}

// wantVar: what ReadVar has to say, found by the library: its Uvarint takes what is not needed, so it is held against the shortest one.
func wantVar(s string) (int, int) {
	n, size := binary.Uvarint([]byte(s))
	if size <= 0 || n > impl.MaxVar || string(binary.AppendUvarint(nil, n)) != s[:size] {
		return 0, 0
	}
	return int(n), size
}

func TestReadVarTakesWhatVarMakes(t *testing.T) {
	texts := append(textsOver(allBytes(), 2), textsOver("\x00\x01\x7f\x80\xff", 8)...)
	for _, s := range texts {
		n, size := impl.ReadVar(s)
		if wantN, wantSize := wantVar(s); n != wantN || size != wantSize {
			t.Fatalf("ReadVar(%q) = %d, %d, want %d, %d", s, n, size, wantN, wantSize)
		}
		if size > 0 && impl.Var(n) != s[:size] {
			t.Fatalf("ReadVar(%q) = %d, %d, but Var makes %q", s, n, size, impl.Var(n))
		}
	}
}

func TestHexIsReadByUnhex(t *testing.T) {
	for _, s := range append(textsOver(allBytes(), 2), allBytes(), strings.Repeat("a\x00\xff", 3000), "héllo\n") {
		h := impl.Hex(s)
		if want := hex.EncodeToString([]byte(s)); h != want {
			t.Fatalf("Hex(%q) = %q, want %q", s, h, want)
		}
		if got, ok := impl.Unhex(h); got != s || !ok {
			t.Fatalf("Unhex(%q) = %q, %v, want %q", h, got, ok, s)
		}
	}
}

func TestUnhexTakesWhatHexMakes(t *testing.T) {
	texts := append(textsOver(allBytes(), 2), textsOver("09afAFgG /:@`-", 4)...)
	for _, s := range texts {
		plain := len(s)%2 == 0 && strings.Trim(s, "0123456789abcdef") == ""
		got, ok := impl.Unhex(s)
		if ok != plain || !ok && got != "" {
			t.Fatalf("Unhex(%q) = %q, %v", s, got, ok)
		}
		if ok && impl.Hex(got) != s {
			t.Fatalf("Unhex(%q) = %q, but Hex makes %q", s, got, impl.Hex(got))
		}
	}
}

func TestUnhexRefuses(t *testing.T) {
	for _, s := range []string{"0", "f", "000", "61f", "6F", "F6", "0A", "A0", "g0", "0g", "0x", "0x61", " 61", "61 ", "6 1", "61\n", "6162zz", "zz6162", "61zz62", "\x00\x00", "é"} {
		if got, ok := impl.Unhex(s); got != "" || ok {
			t.Errorf("Unhex(%q) = %q, %v", s, got, ok)
		}
	}
	if got, ok := impl.Unhex(""); got != "" || !ok {
		t.Errorf("Unhex of nothing = %q, %v", got, ok)
	}
}

func TestDecIsAsSaid(t *testing.T) {
	for _, n := range spread() {
		if got, want := impl.Dec(n), strconv.Itoa(n); got != want {
			t.Fatalf("Dec(%d) = %q", n, got)
		}
	}
	for n, want := range map[int]string{0: "0", 7: "7", 10: "10", -1: "-1", -100: "-100", math.MaxInt: "9223372036854775807", math.MinInt: "-9223372036854775808"} {
		if got := impl.Dec(n); got != want {
			t.Errorf("Dec = %q, want %q", got, want)
		}
	}
}

func TestDecIsReadUpToNineDigits(t *testing.T) {
	for _, n := range append(spread(), 999999999, -999999999, 1000000000, -1000000000) {
		got, ok := impl.ReadDec(impl.Dec(n))
		if n >= -999999999 && n <= 999999999 {
			if got != n || !ok {
				t.Fatalf("ReadDec(%q) = %d, %v", impl.Dec(n), got, ok)
			}
		} else if got != 0 || ok {
			t.Fatalf("ReadDec(%q) = %d, %v: it has more than 9 digits", impl.Dec(n), got, ok)
		}
	}
}

func TestReadDecTakesWhatDecMakes(t *testing.T) {
	texts := append(textsOver(allBytes(), 2), textsOver("0159-+ ./:_ax", 5)...)
	for _, s := range texts {
		want, err := strconv.Atoi(s)
		plain := err == nil && strconv.Itoa(want) == s
		if !plain {
			want = 0
		}
		if got, ok := impl.ReadDec(s); got != want || ok != plain {
			t.Fatalf("ReadDec(%q) = %d, %v, want %d, %v", s, got, ok, want, plain)
		}
	}
}

func TestReadDecRefuses(t *testing.T) {
	for _, s := range []string{
		"", "-", "--", "--1", "-0", "-00", "00", "01", "-01", "000000001", "000000000", "0000000001", "-000000001",
		"+1", "+0", "+", "1+", " 1", "1 ", "1 2", " ", "\t1", "1\n", "1-", "1-2", "- 1", "1.0", "1e3", "0x1", "1_0", "a", "1a", "a1", "\x001", "1\x00",
		"1000000000", "-1000000000", "9999999999", "9223372036854775807", "-9223372036854775808", "18446744073709551617", strings.Repeat("9", 100), strings.Repeat("0", 100) + "1",
		"/", ":", "٣", "１",
	} {
		if got, ok := impl.ReadDec(s); got != 0 || ok {
			t.Errorf("ReadDec(%q) = %d, %v", s, got, ok)
		}
	}
}
