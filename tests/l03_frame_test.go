package tests

import (
	"encoding/binary"
	"hash/crc32"
	"slices"
	"strings"
	"testing"
	"unsafe"

	"loop.example/g00358/impl"
)

// rawFrame: length, sum and body as a frame has them, whatever the body's length.
func rawFrame(body string) string {
	out := binary.BigEndian.AppendUint32(nil, uint32(len(body)))
	sum := crc32.Checksum([]byte(string(out)+body), crc32.MakeTable(crc32.Castagnoli))
	out = binary.BigEndian.AppendUint32(out, sum)
	return string(out) + body
}

// wantUnframe: by the words of chapter 3, in their order.
func wantUnframe(s string) (string, int, int) {
	if len(s) < 4 {
		return "", 0, impl.FrShort
	}
	n := int(binary.BigEndian.Uint32([]byte(s[:4])))
	if n == 0 || n > 2000 {
		return "", 0, impl.FrBad
	}
	if len(s) < 8+n {
		return "", 0, impl.FrShort
	}
	if s[:8+n] != rawFrame(s[8:8+n]) {
		return "", 0, impl.FrBad
	}
	return s[8 : 8+n], 8 + n, impl.FrOk
}

// frameBodies: all short ones of the bytes at the edges, the lengths at which a length byte turns over, and the longest.
func frameBodies() []string {
	out := textsOver("\x00\x7f\x80\xff", 4)[1:]
	for _, n := range []int{1, 2, 7, 8, 9, 127, 128, 129, 255, 256, 257, 511, 512, 1999, 2000} {
		out = append(out, mixedText(n, 10), mixedText(n, 11))
		for _, b := range []string{"\x00", "\x7f", "\x80", "\xff"} {
			out = append(out, strings.Repeat(b, n))
		}
	}
	return append(out, allBytes(), rawFrame("a frame in a frame"), rawFrame(""))
}

func checkUnframe(t *testing.T, s string, body string, n int, code int) {
	t.Helper()
	b, m, c := impl.Unframe(s)
	if b != body || m != n || c != code {
		t.Fatalf("Unframe of %d bytes %.40q = %.20q %d %d, want %.20q %d %d", len(s), s, b, m, c, body, n, code)
	}
}

func checkFrames(t *testing.T, s string, bodies []string, n int) {
	t.Helper()
	b, m := impl.Frames(s)
	if !slices.Equal(b, bodies) || m != n {
		t.Fatalf("Frames of %d bytes %.40q = %.80q %d, want %.80q %d", len(s), s, b, m, bodies, n)
	}
}

func TestFrameConstants(t *testing.T) {
	if impl.MaxBody != 2000 || impl.FrOk != 0 || impl.FrShort != 1 || impl.FrBad != 2 {
		t.Error("the limits and codes of chapter 3 are others")
	}
}

func TestFrameOfKnownBodies(t *testing.T) {
	for body, want := range map[string]string{
		"a":         "00000001" + "c57dfe23" + "61",
		"123456789": "00000009" + "6934cf6f" + "313233343536373839",
	} {
		if got := impl.Hex(impl.Frame(body)); got != want {
			t.Errorf("Frame(%q) = %s, want %s", body, got, want)
		}
	}
}

func TestFrameIsLengthSumBody(t *testing.T) {
	for _, body := range frameBodies() {
		if got, want := impl.Frame(body), rawFrame(body); got != want {
			t.Fatalf("Frame of %d bytes %.20q = %.40q, want %.40q", len(body), body, got, want)
		}
	}
}

func TestFrameLimits(t *testing.T) {
	for n, size := range map[int]int{0: 0, 1: 9, 1999: 2007, 2000: 2008, 2001: 0, 2002: 0, 65536: 0, 65537: 0, 1 << 20: 0} {
		for _, body := range []string{strings.Repeat("\x00", n), mixedText(n, 12)} {
			if got := impl.Frame(body); len(got) != size {
				t.Errorf("Frame of %d bytes has %d, want %d", n, len(got), size)
			}
		}
	}
}

func TestUnframeWithAnythingBehind(t *testing.T) {
	for _, body := range frameBodies() {
		s := impl.Frame(body)
		checkUnframe(t, s, body, 8+len(body), impl.FrOk)
		for _, b := range append(behind, s, s[:len(s)-1], impl.Frame("b"), mixedText(3000, 13)) {
			checkUnframe(t, s+b, body, 8+len(body), impl.FrOk)
		}
	}
}

func TestUnframeCutOffIsShort(t *testing.T) {
	for _, body := range frameBodies() {
		s := impl.Frame(body)
		for k := range len(s) {
			checkUnframe(t, s[:k], "", 0, impl.FrShort)
		}
	}
}

// Where several things are wrong, the one that is named first counts.
func TestUnframeOrder(t *testing.T) {
	for _, s := range textsOver("\x00\x07\xd1\xff", 3) {
		checkUnframe(t, s, "", 0, impl.FrShort)
	}
	for _, n := range []int{0, 2001, 2002, 2256, 65535, 65536, 65537, 1 << 24, 1<<24 + 1, 1<<31 - 1, 1 << 31, 1<<31 + 1, 1<<32 - 1} {
		length := impl.Fixed(n, 4)
		for _, b := range append(behind, strings.Repeat("\x00", 5000), mixedText(5000, 14)) {
			checkUnframe(t, length+b, "", 0, impl.FrBad)
		}
		for k := range 4 {
			checkUnframe(t, length[:k], "", 0, impl.FrShort)
		}
	}
	// The sum fits, but the length is out of its limits.
	for _, n := range []int{0, 2001, 2002, 4000, 65537} {
		s := rawFrame(mixedText(n, 15))
		checkUnframe(t, s, "", 0, impl.FrBad)
		checkUnframe(t, s+"x", "", 0, impl.FrBad)
		checkUnframe(t, s[:4], "", 0, impl.FrBad)
	}
	// A wrong sum is not looked at while bytes lack.
	for _, n := range []int{1, 2, 255, 256, 1999, 2000} {
		s := []byte(rawFrame(mixedText(n, 16)))
		s[4] ^= 1
		for k := 4; k < len(s); k++ {
			checkUnframe(t, string(s[:k]), "", 0, impl.FrShort)
		}
		checkUnframe(t, string(s), "", 0, impl.FrBad)
		checkUnframe(t, string(s)+"x", "", 0, impl.FrBad)
	}
}

// The sum counts the length: the sum of the body alone is another one.
func TestUnframeSumOfBodyAlone(t *testing.T) {
	for _, body := range frameBodies() {
		s := impl.Fixed(len(body), 4) + impl.Fixed(impl.Crc(body), 4) + body
		checkUnframe(t, s, "", 0, impl.FrBad)
	}
}

func TestUnframeByTheWords(t *testing.T) {
	var texts []string
	heads := textsOver("\x00\x01\x02\x07\xd0\xd1\xff", 5)
	for _, body := range []string{"a", "\x00", "ab", "\xff\xff", mixedText(2000, 17)} {
		s := rawFrame(body)
		for _, h := range heads {
			texts = append(texts, h+s[min(len(h), len(s)):])
		}
	}
	whole := 0
	for _, s := range append(texts, sumTexts()...) {
		body, n, code := wantUnframe(s)
		checkUnframe(t, s, body, n, code)
		if code == impl.FrOk {
			whole++
		}
	}
	if whole == 0 {
		t.Error("no text of these is a frame")
	}
}

// One byte behind the first four is another one: never FrOk, never FrShort. Of long frames, some turns at every place.
func TestFrameWithOneByteTurned(t *testing.T) {
	for _, body := range frameBodies() {
		s := impl.Frame(body)
		step := 1
		if len(s) > 40 {
			step = len(s) / 4
		}
		for at := 4; at < len(s); at++ {
			b := []byte(s)
			for turn := 1 + at%min(step, 255); turn < 256; turn += step {
				b[at] = s[at] ^ byte(turn)
				if text, n, c := impl.Unframe(string(b)); text != "" || n != 0 || c != impl.FrBad {
					t.Fatalf("byte %d of a frame of %d bytes turned by %d: %.20q %d %d", at, len(s), turn, text, n, c)
				}
			}
		}
	}
}

// frameRows: bodies that stand one behind the other.
func frameRows() [][]string {
	return [][]string{
		{"a"},
		{"\x00"},
		{"\xff", "\xff"},
		{"\x00", "\x7f", "\x80", "\xff"},
		{"\x00\x00\x00\x01", "\x00\x00\x00\x00", "\xff\xff\xff\xff"},
		{"ab", "ab", "ab", "ab", "ab"},
		{rawFrame("in"), rawFrame(""), rawFrame("in")[:7]},
		{mixedText(256, 19), "c", mixedText(127, 20), mixedText(128, 21)},
		{allBytes(), "\x00", allBytes()},
		{mixedText(2000, 22), "d", mixedText(2000, 23)},
		textsOver("\x00\x7f\x80\xff", 2)[1:],
	}
}

func framedRow(bodies []string) string {
	s := ""
	for _, b := range bodies {
		s += impl.Frame(b)
	}
	return s
}

func TestFramesOfNothing(t *testing.T) {
	checkFrames(t, "", nil, 0)
	for _, s := range textsOver("\x00\x01\xff", 5)[1:] {
		checkFrames(t, s, nil, 0)
	}
	checkFrames(t, rawFrame(""), nil, 0)
	checkFrames(t, rawFrame("")+impl.Frame("a"), nil, 0)
	checkFrames(t, rawFrame(mixedText(2001, 24))+impl.Frame("a"), nil, 0)
	checkFrames(t, "x"+impl.Frame("a"), nil, 0)
}

func TestFramesCutOffAnywhere(t *testing.T) {
	for _, bodies := range frameRows() {
		s := framedRow(bodies)
		whole, size := 0, 0
		for k := range len(s) + 1 {
			if whole < len(bodies) && k == size+8+len(bodies[whole]) {
				size = k
				whole++
			}
			checkFrames(t, s[:k], bodies[:whole], size)
		}
		if whole != len(bodies) || size != len(s) {
			t.Fatalf("of %d frames %d were reached", len(bodies), whole)
		}
	}
}

func TestFramesWithNoFrameBehind(t *testing.T) {
	turned := []byte(impl.Frame("turned"))
	turned[len(turned)-1]++
	noFrames := []string{
		"\x00", "\x00\x00\x00", "\x00\x00\x00\x00", "\x00\x00\x07\xd0", "\x00\x00\x07\xd1", "\xff\xff\xff\xff", "one more text",
		impl.Frame("cut")[:10], string(turned), rawFrame(""), rawFrame(mixedText(2001, 25)), strings.Repeat("\x00", 3000),
	}
	for _, bodies := range frameRows() {
		s := framedRow(bodies)
		for _, b := range noFrames {
			checkFrames(t, s+b, bodies, len(s))
			checkFrames(t, s+b+impl.Frame("behind"), bodies, len(s))
		}
	}
}

// A turned byte in the middle: what stands ahead of its frame is read, what stands behind it is not.
func TestFramesUpToATurnedOne(t *testing.T) {
	ahead, behind := []string{"one", "\x00\xff", "three"}, framedRow([]string{"five", "six"})
	s, middle := framedRow(ahead), impl.Frame("four")
	for at := 4; at < len(middle); at++ {
		b := []byte(middle)
		b[at] ^= 128
		checkFrames(t, s+string(b)+behind, ahead, len(s))
	}
}

func TestFramesOfMany(t *testing.T) {
	var bodies []string
	for i := range 3000 {
		bodies = append(bodies, mixedText(1+i%50, uint64(i)))
	}
	s := framedRow(bodies)
	checkFrames(t, s, bodies, len(s))
	checkFrames(t, s[:len(s)-1], bodies[:2999], len(s)-8-len(bodies[2999]))
}

// inside: whether a text lies in the memory of another one.
func inside(part string, whole string) bool {
	p, w := uintptr(unsafe.Pointer(unsafe.StringData(part))), uintptr(unsafe.Pointer(unsafe.StringData(whole)))
	return p >= w && p < w+uintptr(len(whole))
}

func TestFrameAnswersAreNewMemory(t *testing.T) {
	s := framedRow([]string{mixedText(50, 26), "b"})
	body, _, _ := impl.Unframe(s)
	bodies, _ := impl.Frames(s)
	for _, b := range append(bodies, body) {
		if inside(b, s) {
			t.Errorf("the body %.20q is a piece of the argument", b)
		}
	}
}
