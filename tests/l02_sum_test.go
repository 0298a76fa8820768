package tests

import (
	"crypto/sha256"
	"hash/crc32"
	"strings"
	"testing"

	"loop.example/g00358/impl"
)

// wantCrc: by the words of chapter 2, in plain numbers.
func wantCrc(s string) int {
	c := 4294967295
	for i := range len(s) {
		c ^= int(s[i])
		for range 8 {
			odd := c%2 == 1
			c /= 2
			if odd {
				c ^= 2197175160
			}
		}
	}
	return 4294967295 - c
}

func wantSha(s string) string {
	sum := sha256.Sum256([]byte(s))
	return string(sum[:])
}

// mixedText: n bytes of all kinds, others for each seed.
func mixedText(n int, seed uint64) string {
	out := make([]byte, n)
	x := seed*2685821657736338717 + 88172645463325252
	for i := range out {
		x ^= x << 13
		x ^= x >> 7
		x ^= x << 17
		out[i] = byte(x >> 24)
	}
	return string(out)
}

// sumTexts: all texts of up to two bytes, all lengths up to three blocks, of one byte alone and mixed, and long ones.
func sumTexts() []string {
	out := textsOver(allBytes(), 2)
	out = append(out, textsOver("\x00\x7f\x80\xff", 5)...)
	for n := range 200 {
		for _, b := range []string{"\x00", "\x7f", "\x80", "\xff", "a"} {
			out = append(out, strings.Repeat(b, n))
		}
		out = append(out, mixedText(n, 1), mixedText(n, 2))
	}
	for _, n := range []int{255, 256, 257, 8000, 8191, 8192, 8193, 65535, 65536, 100003} {
		out = append(out, mixedText(n, 3), strings.Repeat("\xff", n))
	}
	return append(out, strings.Repeat("a", 1000000))
}

func TestCrcOfKnownTexts(t *testing.T) {
	for s, want := range map[string]int{
		"":                          0,
		"123456789":                 3808858755,
		"a":                         3251651376,
		"\x00":                      1383945041,
		strings.Repeat("\x00", 32):  2324772522,
		strings.Repeat("\xff", 32):  1655221059,
		"\xff\xff\xff\xff":          4294967295,
		"123456789\x83\x92\x06\xe3": 1214729159,
	} {
		if got := impl.Crc(s); got != want {
			t.Errorf("Crc(%q) = %d, want %d", s, got, want)
		}
	}
}

func TestCrcIsAsSaid(t *testing.T) {
	table := crc32.MakeTable(crc32.Castagnoli)
	for _, s := range sumTexts() {
		got := impl.Crc(s)
		if want := int(crc32.Checksum([]byte(s), table)); got != want {
			t.Fatalf("Crc of %d bytes %.40q = %d, the library says %d", len(s), s, got, want)
		}
		if len(s) > 1000 {
			continue
		}
		if want := wantCrc(s); got != want {
			t.Fatalf("Crc(%q) = %d, by the words it is %d", s, got, want)
		}
	}
}

// Any other byte at any place: the sum is another one.
func TestCrcDiffersByOneByte(t *testing.T) {
	texts := []string{"\x00", "\xff", "123456789", strings.Repeat("\x00", 70), strings.Repeat("\xff", 33)}
	for n := 1; n < 60; n += 7 {
		texts = append(texts, mixedText(n, 4))
	}
	for _, s := range texts {
		whole := impl.Crc(s)
		for at := range len(s) {
			b := []byte(s)
			for turn := 1; turn < 256; turn++ {
				b[at] = s[at] ^ byte(turn)
				if impl.Crc(string(b)) == whole {
					t.Fatalf("Crc of %q and %q are alike", s, b)
				}
			}
		}
	}
	long := mixedText(2000, 5)
	whole := impl.Crc(long)
	for at := range len(long) {
		b := []byte(long)
		b[at] ^= 1 << (at % 8)
		if impl.Crc(string(b)) == whole {
			t.Fatalf("byte %d of a long text does not count", at)
		}
	}
}

func TestShaOfKnownTexts(t *testing.T) {
	for s, want := range map[string]string{
		"":    "e3b0c44298fc1c149afbf4c8996fb92427ae41e4649b934ca495991b7852b855",
		"abc": "ba7816bf8f01cfea414140de5dae2223b00361a396177a9cb410ff61f20015ad",
		"abcdbcdecdefdefgefghfghighijhijkijkljklmklmnlmnomnopnopq": "248d6a61d20638b8e5c026930c3e6039a33ce45964ff2167f6ecedd419db06c1",
		strings.Repeat("a", 1000000):                               "cdc76e5c9914fb9281a1c7e284d73e67f1809a48a497200e046d39ccc7112cd0",
	} {
		if got := impl.Hex(impl.Sha(s)); got != want {
			t.Errorf("Sha(%.20q) = %s, want %s", s, got, want)
		}
	}
}

// The lengths at which the padding takes one more block, and those beside them.
func TestShaAroundThePadding(t *testing.T) {
	for _, n := range []int{0, 1, 54, 55, 56, 57, 62, 63, 64, 65, 118, 119, 120, 121, 127, 128, 129, 183, 184, 191, 192, 193} {
		for _, s := range []string{strings.Repeat("\x00", n), strings.Repeat("\x80", n), strings.Repeat("\xff", n), mixedText(n, 6)} {
			if got, want := impl.Sha(s), wantSha(s); got != want {
				t.Errorf("Sha of %d bytes %.10q = %x, want %x", n, s, got, want)
			}
		}
	}
}

func TestShaIsTheLibrarys(t *testing.T) {
	for _, s := range sumTexts() {
		if got, want := impl.Sha(s), wantSha(s); got != want {
			t.Fatalf("Sha of %d bytes %.40q = %x, want %x", len(s), s, got, want)
		}
	}
}

// No call keeps anything from another one.
func TestSumsKeepNothing(t *testing.T) {
	long := mixedText(100, 7)
	crc, sha := impl.Crc(long), impl.Sha(long)
	for _, s := range []string{"", "a", mixedText(64, 8), mixedText(500, 9)} {
		impl.Crc(s)
		impl.Sha(s)
		if impl.Crc(long) != crc || impl.Sha(long) != sha {
			t.Fatalf("behind the sums of %q those of another text have changed", s)
		}
	}
}
