package tests

import (
	"encoding/binary"
	"encoding/hex"
	"math"
	"slices"
	"strings"
	"testing"

	"loop.example/g00358/impl"
)

func vocabOf(numbers ...int) impl.Vocab {
	var v impl.Vocab
	for pair := range slices.Chunk(numbers, 2) {
		v.Merges = append(v.Merges, impl.Pair{A: pair[0], B: pair[1]})
	}
	return v
}

// byteTokens: the bytes of the tokens that each vocabulary has.
var byteTokens = func() []string {
	var out []string
	for b := range 256 {
		out = append(out, string([]byte{byte(b)}))
	}
	return out
}()

// wantTokens: the bytes of all tokens, if the vocabulary is right by the words.
func wantTokens(v impl.Vocab) ([]string, bool) {
	if len(v.Merges) > 60 {
		return nil, false
	}
	tokens := slices.Clone(byteTokens)
	for i, p := range v.Merges {
		if p.A < 0 || p.A > 255+i || p.B < 0 || p.B > 255+i {
			return nil, false
		}
		tokens = append(tokens, tokens[p.A]+tokens[p.B])
	}
	for i, s := range tokens[256:] {
		if len(s) > 24 || slices.Contains(tokens[:256+i], s) {
			return nil, false
		}
	}
	return tokens, true
}

// rawCanon: the parts of a Canon as they stand there, whatever they are.
func rawCanon(count int, pairs ...impl.Pair) string {
	out := binary.AppendUvarint([]byte("bpe"), uint64(count))
	for _, p := range pairs {
		out = binary.AppendUvarint(out, uint64(p.A))
		out = binary.AppendUvarint(out, uint64(p.B))
	}
	return string(out)
}

func wantCanon(v impl.Vocab) string {
	if _, ok := wantTokens(v); !ok {
		return ""
	}
	return rawCanon(len(v.Merges), v.Merges...)
}

// wantReadCanon: numbers are read by the library however they are written; then the text has to be the one that these numbers have.
func wantReadCanon(s string) (impl.Vocab, bool) {
	if !strings.HasPrefix(s, "bpe") {
		return impl.Vocab{}, false
	}
	rest := []byte(s[3:])
	next := func() int {
		n, size := binary.Uvarint(rest)
		rest = rest[max(size, 0):]
		return int(n)
	}
	count := next()
	var v impl.Vocab
	for len(v.Merges) < count && len(rest) > 0 {
		p := impl.Pair{A: next()}
		p.B = next()
		v.Merges = append(v.Merges, p)
		if len(v.Merges) > 61 {
			break
		}
	}
	if want := wantCanon(v); want == "" || want != s {
		return impl.Vocab{}, false
	}
	return v, true
}

// copyVocab: the same vocabulary in memory of its own, with spare room in which something stands.
func copyVocab(v impl.Vocab) impl.Vocab {
	merges := append(slices.Clone(v.Merges), impl.Pair{A: 77, B: 77}, impl.Pair{A: 78, B: 78})
	return impl.Vocab{Merges: merges[:len(v.Merges)]}
}

func vocabTouched(v, before impl.Vocab) bool {
	n := len(before.Merges)
	return !sameVocab(v, before) || !slices.Equal(v.Merges[n:n+2], []impl.Pair{{A: 77, B: 77}, {A: 78, B: 78}})
}

func sameVocab(a, b impl.Vocab) bool {
	return slices.Equal(a.Merges, b.Merges)
}

// checkRight holds whether a vocabulary is right, and its texts, against the words.
func checkRight(t *testing.T, v impl.Vocab) bool {
	t.Helper()
	in := copyVocab(v)
	_, right := wantTokens(v)
	if impl.VocabOk(in) != right {
		t.Fatalf("VocabOk(%v) = %v", v, !right)
	}
	text := impl.Canon(in)
	if text != wantCanon(v) {
		t.Fatalf("Canon(%v) = %q, want %q", v, text, wantCanon(v))
	}
	checkDigest(t, in, text)
	if right {
		checkReadBack(t, v, text)
	}
	if vocabTouched(in, v) {
		t.Fatalf("something writes into %v, or into the room behind it: %v", v, in.Merges[:len(v.Merges)+2])
	}
	return right
}

// checkVocab holds all that is asked of a vocabulary against the words.
func checkVocab(t *testing.T, v impl.Vocab) bool {
	t.Helper()
	in := copyVocab(v)
	tokens, right := wantTokens(v)
	for _, id := range tokenEdges(v) {
		want := ""
		if right && id >= 0 && id < len(tokens) {
			want = tokens[id]
		}
		if got := impl.Token(in, id); got != want {
			t.Fatalf("Token(%v, %d) = %q, want %q", v, id, got, want)
		}
	}
	for i, p := range v.Merges {
		want := i
		if !right {
			want = -1
		}
		if got := impl.Rank(in, p.A, p.B); got != want {
			t.Fatalf("Rank(%v, %d, %d) = %d, want %d", v, p.A, p.B, got, want)
		}
	}
	if vocabTouched(in, v) {
		t.Fatalf("Token or Rank writes into %v, or into the room behind it: %v", v, in.Merges[:len(v.Merges)+2])
	}
	return checkRight(t, v)
}

func checkDigest(t *testing.T, v impl.Vocab, text string) {
	t.Helper()
	want := ""
	if text != "" {
		want = wantSha(text)
	}
	if got := impl.Digest(v); got != want {
		t.Fatalf("Digest(%v) = %x, want %x", v, got, want)
	}
}

func checkReadBack(t *testing.T, v impl.Vocab, text string) {
	t.Helper()
	if len(text) > impl.MaxCanon {
		t.Fatalf("Canon(%v) has %d bytes", v, len(text))
	}
	if back, ok := impl.ReadCanon(text); !ok || !sameVocab(back, v) {
		t.Fatalf("ReadCanon(%q) = %v %v, want %v", text, back, ok, v)
	}
}

func checkReadCanon(t *testing.T, s string) bool {
	t.Helper()
	v, ok := impl.ReadCanon(s)
	want, wantOk := wantReadCanon(s)
	if ok != wantOk || !sameVocab(v, want) {
		t.Fatalf("ReadCanon(%.120q) = %v %v, want %v %v", s, v, ok, want, wantOk)
	}
	return ok
}

func checkNoCanon(t *testing.T, why string, s string) {
	t.Helper()
	if v, ok := impl.ReadCanon(s); ok || len(v.Merges) != 0 {
		t.Fatalf("%s: ReadCanon of %d bytes %.120q = %v %v, want the zero vocabulary and false", why, len(s), s, v, ok)
	}
}

// tokenEdges: numbers at and around all that could be a token.
func tokenEdges(v impl.Vocab) []int {
	top := 256 + len(v.Merges)
	out := []int{math.MinInt, math.MinInt + 255, math.MinInt + 256, -257, -256, -255, -2, -1, 0, 1, 97, 127, 128, 254, 255, 1 << 16, 1 << 32, 1<<32 + 97, math.MaxInt - 255, math.MaxInt - 1, math.MaxInt}
	for id := 256; id <= top+2; id++ {
		out = append(out, id)
	}
	return append(out, 315, 316, 317, 512)
}

// flatVocab: n merges of two bytes each.
func flatVocab(n int) impl.Vocab {
	var v impl.Vocab
	for i := range n {
		v.Merges = append(v.Merges, impl.Pair{A: i, B: 200})
	}
	return v
}

// chainVocab: n merges, each of which puts an x behind what the one ahead of it made.
func chainVocab(n int) impl.Vocab {
	v := vocabOf('x', 'x')
	for len(v.Merges) < n {
		v.Merges = append(v.Merges, impl.Pair{A: 255 + len(v.Merges), B: 'x'})
	}
	return v
}

// longVocab: the longest Canon that there is: MaxMerges, each of two tokens whose Vars have two bytes.
func longVocab() impl.Vocab {
	var v impl.Vocab
	for i := range 60 {
		v.Merges = append(v.Merges, impl.Pair{A: 128 + i, B: 255 - i})
	}
	return v
}

func rightVocabs() map[string]impl.Vocab {
	return map[string]impl.Vocab{
		"zero":                {},
		"empty":               {Merges: []impl.Pair{}},
		"one merge":           vocabOf(97, 98),
		"noughts":             vocabOf(0, 0),
		"the last byte":       vocabOf(255, 255),
		"abc":                 vocabOf(97, 98, 256, 99),
		"abc from the right":  vocabOf(98, 99, 97, 256),
		"turned round":        vocabOf(97, 98, 98, 97, 256, 257, 257, 256),
		"the first one twice": vocabOf(97, 97, 256, 256, 257, 257),
		"one is a beginning":  vocabOf(97, 98, 256, 99, 257, 100, 97, 99),
		"one is an end":       vocabOf(99, 100, 98, 256, 97, 257),
		"Vars of one byte":    vocabOf(0, 127, 127, 0, 1, 126),
		"Vars of two bytes":   vocabOf(128, 255, 256, 255, 128, 257),
		"Vars of both":        vocabOf(127, 128, 256, 255, 257, 257),
		"texts in it":         vocabOf('b', 'p', 256, 'e', 257, 0),
		"24 bytes by ones":    chainVocab(23),
		"24 bytes by twos":    vocabOf(97, 98, 256, 256, 257, 257, 258, 258, 259, 258),
		"24 bytes, then more": vocabOf(97, 98, 256, 256, 257, 257, 258, 258, 259, 258, 99, 256, 259, 257),
		"59 merges":           flatVocab(59),
		"60 merges":           flatVocab(60),
		"60 long merges":      longVocab(),
	}
}

// wrongVocab: a vocabulary that is not right, and why.
type wrongVocab struct {
	why string
	v   impl.Vocab
}

func wrongVocabs() []wrongVocab {
	return []wrongVocab{
		{"A is the token that it makes", vocabOf(256, 97)},
		{"B is the token that it makes", vocabOf(97, 256)},
		{"both are the token that it makes", vocabOf(256, 256)},
		{"A is a token that comes later", vocabOf(257, 97, 97, 98)},
		{"B is a token that comes later", vocabOf(97, 98, 97, 258, 99, 100)},
		{"A below 0", vocabOf(-1, 97)},
		{"B below 0", vocabOf(97, -1)},
		{"A far below 0", vocabOf(math.MinInt, 97)},
		{"B far below 0", vocabOf(97, math.MinInt)},
		{"A far beyond", vocabOf(math.MaxInt, 97)},
		{"B far beyond", vocabOf(97, math.MaxInt)},
		{"A is no token, a byte by its last eight bits", vocabOf(1<<32+97, 98)},
		{"the second one is wrong", vocabOf(97, 98, 99, 257)},
		{"the first one is wrong", vocabOf(97, 256, 99, 100)},
		{"61 merges", flatVocab(61)},
		{"61 merges, of which one is one too many alone", impl.Vocab{Merges: append(longVocab().Merges, impl.Pair{A: 97, B: 98})}},
		{"200 merges", flatVocab(200)},
		{"25 bytes by ones", chainVocab(24)},
		{"25 bytes: 24 and 1", vocabOf(97, 98, 256, 256, 257, 257, 258, 258, 259, 258, 260, 97)},
		{"25 bytes: 1 and 24", vocabOf(97, 98, 256, 256, 257, 257, 258, 258, 259, 258, 97, 260)},
		{"26 bytes", vocabOf(97, 98, 256, 256, 257, 257, 258, 258, 259, 258, 260, 256)},
		{"32 bytes", vocabOf(97, 98, 256, 256, 257, 257, 258, 258, 259, 259)},
		{"48 bytes", vocabOf(97, 98, 256, 256, 257, 257, 258, 258, 259, 258, 260, 260)},
		{"25 bytes behind which it goes on", vocabOf(97, 98, 256, 256, 257, 257, 258, 258, 259, 258, 260, 97, 99, 100)},
		{"two merges alike", vocabOf(97, 98, 97, 98)},
		{"two merges of noughts alike", vocabOf(0, 0, 0, 0)},
		{"two merges alike with others between", vocabOf(97, 98, 99, 100, 101, 102, 97, 98)},
		{"two merges of merges alike", vocabOf(97, 98, 256, 256, 99, 100, 256, 256)},
		{"abc by ab and by bc", vocabOf(97, 98, 98, 99, 256, 99, 97, 257)},
		{"abc by bc and by ab", vocabOf(98, 99, 97, 98, 97, 256, 257, 99)},
		{"aaa by aa and a, and by a and aa", vocabOf(97, 97, 256, 97, 97, 256)},
		{"aaaa by twice aa and by aaa and a", vocabOf(97, 97, 256, 97, 256, 256, 257, 97)},
		{"aaaa by a and aaa and by twice aa", vocabOf(97, 97, 97, 256, 97, 257, 256, 256)},
		{"abcd by ab and cd and by a and bcd", vocabOf(97, 98, 99, 100, 98, 257, 256, 257, 97, 258)},
		{"24 bytes twice", vocabOf(97, 97, 256, 256, 257, 257, 258, 258, 258, 259, 259, 258)},
		{"noughts put together of others", vocabOf(0, 0, 0, 256, 256, 0)},
	}
}

func TestVocabConstants(t *testing.T) {
	if impl.MaxMerges != 60 || impl.MaxToken != 24 || impl.MaxCanon != 250 {
		t.Error("the limits of chapter 7 are others")
	}
}

func TestVocabsThatAreRight(t *testing.T) {
	for why, v := range rightVocabs() {
		if !checkVocab(t, v) {
			t.Errorf("%s: %v is not right", why, v)
		}
	}
}

func TestVocabsThatAreNotRight(t *testing.T) {
	for _, w := range wrongVocabs() {
		if checkVocab(t, w.v) {
			t.Errorf("%s: %v is right", w.why, w.v)
		}
	}
}

func TestVocabOkNumberOfMerges(t *testing.T) {
	for n := range 70 {
		if v := flatVocab(n); checkVocab(t, v) != (n <= impl.MaxMerges) {
			t.Errorf("VocabOk of %d merges = %v", n, n > impl.MaxMerges)
		}
	}
}

// A and B of each number at both ends and one beyond them, in a vocabulary that is right else.
func TestVocabOkBoundsOfEachNumber(t *testing.T) {
	for i := range impl.MaxMerges {
		for id, want := range map[int]bool{math.MinInt: false, -256: false, -1: false, 0: true, 127: true, 128: true, 255: true, 255 + i: true, 256 + i: false, 257 + i: false, 316: false, 1000: false, math.MaxInt: false} {
			for _, p := range []impl.Pair{{A: id, B: 201}, {A: 201, B: id}} {
				v := flatVocab(impl.MaxMerges)
				v.Merges[i] = p
				if checkRight(t, v) != want {
					t.Errorf("with %v as number %d it is right: %v", p, i, !want)
				}
			}
		}
	}
}

// Tokens of each number of bytes up to one beyond the bound, put together at each place.
func TestVocabOkBytesOfAToken(t *testing.T) {
	chain := chainVocab(23)
	for n := 1; n <= 24; n++ {
		for m := 1; m <= 24; m++ {
			// In the chain token 254 and n has n bytes, from 2 on.
			a, b := 254+n, 254+m
			if n == 1 {
				a = 'y'
			}
			if m == 1 {
				b = 'y'
			}
			v := impl.Vocab{Merges: append(slices.Clone(chain.Merges), impl.Pair{A: a, B: b})}
			// Without a y it is a text that the chain has, too, or one that is too long.
			want := n+m <= impl.MaxToken && (n == 1 || m == 1)
			if checkVocab(t, v) != want {
				t.Errorf("with a token of %d and %d bytes it is right: %v", n, m, !want)
			}
		}
	}
	for n := range 26 {
		if got := impl.VocabOk(chainVocab(max(n, 1))); got != (n <= 23) {
			t.Errorf("a chain of %d merges is right: %v", n, got)
		}
	}
}

// The same bytes twice, the one merge as far from the other as may be, and at each pair of places.
func TestVocabOkSameBytesFarApart(t *testing.T) {
	for i := range impl.MaxMerges {
		for j := range impl.MaxMerges {
			v := flatVocab(impl.MaxMerges)
			v.Merges[j] = v.Merges[i]
			if checkRight(t, v) != (i == j) {
				t.Fatalf("with number %d as number %d it is right: %v", i, j, i != j)
			}
		}
	}
	// cde by c and de at the beginning, by cd and e at the end.
	v := flatVocab(impl.MaxMerges)
	for i, p := range []impl.Pair{{A: 'd', B: 'e'}, {A: 'c', B: 256}} {
		v.Merges[i] = p
	}
	v.Merges[58] = impl.Pair{A: 'c', B: 'd'}
	if !checkVocab(t, v) {
		t.Error("cde is there once")
	}
	v.Merges[59] = impl.Pair{A: 256 + 58, B: 'e'}
	if checkVocab(t, v) {
		t.Error("cde is there twice")
	}
	v.Merges[59] = impl.Pair{A: 'e', B: 256 + 58}
	if !checkVocab(t, v) {
		t.Error("ecd is there once")
	}
}

// All vocabularies of up to two merges of some numbers, and of three of a few.
func TestSmallVocabs(t *testing.T) {
	right := 0
	count := func(v impl.Vocab) {
		if checkVocab(t, v) {
			right++
		}
	}
	pairs := func(numbers ...int) []impl.Pair {
		var out []impl.Pair
		for _, a := range numbers {
			for _, b := range numbers {
				out = append(out, impl.Pair{A: a, B: b})
			}
		}
		return out
	}
	wide := pairs(-1, 0, 97, 98, 255, 256, 257, 258)
	for _, p := range wide {
		count(impl.Vocab{Merges: []impl.Pair{p}})
		for _, q := range wide {
			count(impl.Vocab{Merges: []impl.Pair{p, q}})
		}
	}
	few := pairs(97, 98, 256, 257)
	for _, p := range few {
		for _, q := range few {
			for _, r := range few {
				count(impl.Vocab{Merges: []impl.Pair{p, q, r}})
			}
		}
	}
	if right < 400 {
		t.Errorf("only %d of these are right", right)
	}
}

// vocab: merges of a few bytes and of what they make, now and then one that is wrong.
func (r *dice) vocab() impl.Vocab {
	var v impl.Vocab
	size, bytes, slips := r.roll(63), 2+r.roll(60), r.roll(3) == 0
	for len(v.Merges) < size {
		pick := func() int {
			made := len(v.Merges)
			if made > 0 && r.roll(3) == 0 {
				return 256 + r.roll(made)
			}
			return 97 + r.roll(bytes)
		}
		p := impl.Pair{A: pick(), B: pick()}
		if slips && r.roll(40) == 0 {
			p.A, p.B = p.A+200*r.roll(2), p.B-98*r.roll(2)
		}
		next := impl.Vocab{Merges: append(slices.Clone(v.Merges), p)}
		if _, ok := wantTokens(next); !ok && !slips {
			// It goes on with as many as there can be, so that long ones come, too.
			if r.roll(4) == 0 {
				break
			}
			continue
		}
		v = next
	}
	return v
}

func TestAnyVocabs(t *testing.T) {
	r := dice(7)
	right, long := 0, 0
	for range 1000 {
		v := r.vocab()
		if checkVocab(t, v) {
			right++
			long = max(long, len(v.Merges))
		}
	}
	if right < 400 || right > 900 || long < 50 {
		t.Errorf("%d of these are right, the longest of %d merges", right, long)
	}
}

func TestTokenOfEachByteAndMerge(t *testing.T) {
	v := vocabOf(97, 98, 256, 99, 0, 255, 257, 257)
	for b := range 256 {
		if got := impl.Token(v, b); got != string([]byte{byte(b)}) {
			t.Errorf("Token of byte %d = %q", b, got)
		}
		if got := impl.Token(impl.Vocab{}, b); got != string([]byte{byte(b)}) {
			t.Errorf("Token of byte %d in the zero vocabulary = %q", b, got)
		}
	}
	for id, want := range map[int]string{256: "ab", 257: "abc", 258: "\x00\xff", 259: "abcabc", 260: "", 261: "", 316: "", -1: "", -256: "", math.MinInt: "", math.MaxInt: ""} {
		if got := impl.Token(v, id); got != want {
			t.Errorf("Token(%d) = %q, want %q", id, got, want)
		}
	}
	for _, id := range []int{256, 257, 315, 316, -1} {
		if got := impl.Token(impl.Vocab{}, id); got != "" {
			t.Errorf("Token(%d) of the zero vocabulary = %q", id, got)
		}
	}
	if got := impl.Token(chainVocab(23), 278); got != strings.Repeat("x", 24) {
		t.Errorf("Token of 24 bytes = %q", got)
	}
	if got := impl.Token(longVocab(), 315); got != "\xbb\xc4" || impl.Token(longVocab(), 316) != "" {
		t.Errorf("the last Token of the longest vocabulary = %q", got)
	}
}

func TestTokenOfWrongVocabs(t *testing.T) {
	for _, w := range wrongVocabs() {
		for id := -2; id < 600; id++ {
			if got := impl.Token(w.v, id); got != "" {
				t.Fatalf("%s: Token(%d) = %q", w.why, id, got)
			}
		}
	}
}

func TestRankOfEachPair(t *testing.T) {
	for why, v := range rightVocabs() {
		numbers := []int{math.MinInt, -1, 0, 97, 98, 99, 127, 128, 200, 255, 256, 257, 258, 315, 316, math.MaxInt}
		for _, p := range v.Merges {
			numbers = append(numbers, p.A, p.B)
		}
		in := copyVocab(v)
		for _, a := range numbers {
			for _, b := range numbers {
				want := -1
				for i, p := range v.Merges {
					if p.A == a && p.B == b {
						want = i
					}
				}
				if got := impl.Rank(in, a, b); got != want {
					t.Fatalf("%s: Rank(%d, %d) = %d, want %d", why, a, b, got, want)
				}
			}
		}
		if vocabTouched(in, v) {
			t.Fatalf("%s: Rank writes into the vocabulary", why)
		}
	}
}

func TestRankOfKnownPairs(t *testing.T) {
	v := vocabOf(97, 98, 256, 99, 98, 97, 97, 97)
	for p, want := range map[impl.Pair]int{
		{A: 97, B: 98}: 0, {A: 256, B: 99}: 1, {A: 98, B: 97}: 2, {A: 97, B: 97}: 3,
		{A: 98, B: 98}: -1, {A: 99, B: 256}: -1, {A: 97, B: 99}: -1, {A: 256, B: 256}: -1, {A: 97, B: 257}: -1, {A: 0, B: 0}: -1,
		{A: -1, B: 98}: -1, {A: 97, B: -1}: -1, {A: 260, B: 97}: -1, {A: 97, B: 260}: -1, {A: 1<<32 + 97, B: 98}: -1, {A: 97 - 256, B: 98}: -1,
		// The spare room behind the merges is none of them.
		{A: 77, B: 77}: -1, {A: 78, B: 78}: -1,
	} {
		if got := impl.Rank(copyVocab(v), p.A, p.B); got != want {
			t.Errorf("Rank(%d, %d) = %d, want %d", p.A, p.B, got, want)
		}
	}
	if got := impl.Rank(impl.Vocab{}, 0, 0); got != -1 {
		t.Errorf("Rank of the zero vocabulary = %d", got)
	}
}

func TestRankOfWrongVocabs(t *testing.T) {
	for _, w := range wrongVocabs() {
		for _, p := range append(w.v.Merges, impl.Pair{A: 97, B: 98}, impl.Pair{}, impl.Pair{A: -1, B: -1}) {
			if got := impl.Rank(w.v, p.A, p.B); got != -1 {
				t.Errorf("%s: Rank(%d, %d) = %d", w.why, p.A, p.B, got)
			}
		}
	}
}

func TestCanonOfKnownVocabs(t *testing.T) {
	for _, c := range []struct {
		v    impl.Vocab
		want string
	}{
		{impl.Vocab{}, "bpe\x00"},
		{impl.Vocab{Merges: []impl.Pair{}}, "bpe\x00"},
		{vocabOf(97, 98), "bpe\x01ab"},
		{vocabOf(97, 98, 256, 99), "bpe\x02ab\x80\x02c"},
		{vocabOf(0, 0), "bpe\x01\x00\x00"},
		{vocabOf(127, 128), "bpe\x01\x7f\x80\x01"},
		{vocabOf(128, 127), "bpe\x01\x80\x01\x7f"},
		{vocabOf(127, 128, 256, 255, 257, 257), "bpe\x03\x7f\x80\x01\x80\x02\xff\x01\x81\x02\x81\x02"},
		{vocabOf('b', 'p', 256, 'e', 257, 3), "bpe\x03bp\x80\x02e\x81\x02\x03"},
	} {
		if got := impl.Canon(c.v); got != c.want {
			t.Errorf("Canon(%v) = %q, want %q", c.v, got, c.want)
		}
	}
	text := impl.Canon(longVocab())
	if len(text) != 244 || text[:8] != "bpe\x3c\x80\x01\xff\x01" || text[240:] != "\xbb\x01\xc4\x01" {
		t.Errorf("Canon of the longest vocabulary has %d bytes: %q", len(text), text)
	}
	for _, w := range wrongVocabs() {
		if got := impl.Canon(w.v); got != "" {
			t.Errorf("%s: Canon = %q", w.why, got)
		}
	}
}

func TestDigestOfKnownVocabs(t *testing.T) {
	for want, v := range map[string]impl.Vocab{
		"33387526be313277137e08b9ab09ae026c5d3cd2b135a8b10b513cfdc5660853": {},
		"32cf109a8c1b13e67b177d9c4f6d5fecf928ce4f1c7cf1b04cc95dc292ce3f9a": vocabOf(97, 98, 256, 99),
		"59d8904f8c44b3c4d91b291e54643d6cd7b9ce97f3511565717db73298926ee3": vocabOf(127, 128, 256, 255, 257, 257),
	} {
		if got := hex.EncodeToString([]byte(impl.Digest(v))); got != want {
			t.Errorf("Digest(%v) = %s, want %s", v, got, want)
		}
	}
	for _, w := range wrongVocabs() {
		if got := impl.Digest(w.v); got != "" {
			t.Errorf("%s: Digest = %x", w.why, got)
		}
	}
	named := map[string]string{}
	for why, v := range rightVocabs() {
		d := impl.Digest(v)
		if other, there := named[d]; there && len(v.Merges) > 0 {
			t.Errorf("%s and %s have one Digest", why, other)
		}
		named[d] = why
	}
}

func TestReadCanonCutShortOrGoingOn(t *testing.T) {
	for why, v := range rightVocabs() {
		text := wantCanon(v)
		for k := range len(text) {
			checkNoCanon(t, why+", cut short", text[:k])
		}
		for b := range 256 {
			checkNoCanon(t, why+", a byte behind", text+string([]byte{byte(b)}))
		}
		for _, more := range []string{"ab", "\x00\x00", "\x80\x02a", text, "bpe", strings.Repeat("\x00", 300), strings.Repeat("\x80", 300), strings.Repeat("a", 3000)} {
			checkNoCanon(t, why+", something behind", text+more)
			checkNoCanon(t, why+", something ahead", more+text)
		}
	}
}

func TestReadCanonOfAnotherWordAhead(t *testing.T) {
	for why, v := range rightVocabs() {
		tail := wantCanon(v)[3:]
		for _, word := range []string{"", "b", "bp", "bpf", "ape", "bqe", "BPE", "Bpe", "bpE", "epb", "bpe ", " bpe", "bpee", "bbpe", "bpebpe", "pe", "bpe\x00", "\x00bpe"} {
			checkNoCanon(t, why+", "+word, word+tail)
		}
		for at := range 3 {
			for b := range 256 {
				if turned := []byte("bpe" + tail); turned[at] != byte(b) {
					turned[at] = byte(b)
					checkNoCanon(t, why+", a byte of the word turned", string(turned))
				}
			}
		}
	}
}

func TestReadCanonOfAnotherCount(t *testing.T) {
	for why, v := range rightVocabs() {
		n := len(v.Merges)
		for count := range 300 {
			if count != n {
				checkNoCanon(t, why+", another count", rawCanon(count, v.Merges...))
			}
		}
		for _, count := range []int{1 << 14, 1 << 32, 1<<32 + n, 1<<48 + n, impl.MaxVar, impl.MaxVar + 1, 1<<62 + n, math.MaxInt} {
			checkNoCanon(t, why+", a great count", rawCanon(count, v.Merges...))
		}
		checkNoCanon(t, why+", less merges than it says", rawCanon(max(n, 1), v.Merges[:n/2]...))
	}
	for _, text := range []string{"bpe", "bpe\x01", "bpe\x01a", "bpe\x80", "bpe\xff", "bpe\x00a", "bpe\x00ab", "bpe\x01abc", "bpe\x01abcd", "bpe\x02abc", "bpe\x02ab", "bpe\x3c"} {
		checkNoCanon(t, "another count", text)
	}
}

// Each Var of a text with one byte more than it needs, and with many.
func TestReadCanonOfVarsWithNeedlessBytes(t *testing.T) {
	for why, v := range rightVocabs() {
		text := wantCanon(v)
		at := 3
		for at < len(text) {
			_, size := binary.Uvarint([]byte(text[at:]))
			end := at + size
			for more := 1; more <= 7; more++ {
				long := text[:end-1] + string([]byte{text[end-1] | 128}) + strings.Repeat("\x80", more-1) + "\x00" + text[end:]
				checkNoCanon(t, why+", needless bytes", long)
			}
			at = end
		}
	}
	for _, text := range []string{"bpe\x80\x00", "bpe\x81\x00ab", "bpe\x01\xe1\x00b", "bpe\x01a\xe2\x00", "bpe\x02ab\x80\x82\x00c", "bpe\x02ab\x80\x02\xe3\x00"} {
		checkNoCanon(t, "a needless byte", text)
	}
}

func TestReadCanonOfMergesThatAreNotRight(t *testing.T) {
	for _, w := range wrongVocabs() {
		checkNoCanon(t, w.why, rawCanon(len(w.v.Merges), w.v.Merges...))
	}
	checkNoCanon(t, "25 bytes, within MaxCanon", rawCanon(24, chainVocab(24).Merges...))
	checkNoCanon(t, "61 merges, within MaxCanon", rawCanon(61, vocabOf(0, 1).Merges...)+strings.Repeat("ab", 60))
	flat := flatVocab(61)
	for i := range flat.Merges {
		flat.Merges[i].B = 100
	}
	if text := rawCanon(61, flat.Merges...); len(text) > impl.MaxCanon {
		t.Errorf("this has %d bytes", len(text))
	} else {
		checkNoCanon(t, "61 merges that are right else", text)
	}
	if v, ok := impl.ReadCanon(rawCanon(60, flat.Merges[:60]...)); !ok || !slices.Equal(v.Merges, flat.Merges[:60]) {
		t.Errorf("ReadCanon of 60 merges = %v %v", v, ok)
	}
}

// Each byte of a text as any other one: it is another vocabulary's, or none's.
func TestReadCanonWithAByteTurned(t *testing.T) {
	taken := 0
	for _, v := range rightVocabs() {
		text := wantCanon(v)
		for at := range len(text) {
			for b := range 256 {
				if len(text) > 60 && b%7 != at%7 {
					continue
				}
				turned := []byte(text)
				turned[at] = byte(b)
				if checkReadCanon(t, string(turned)) {
					taken++
				}
			}
		}
	}
	if taken < 1000 {
		t.Errorf("only %d of these are taken", taken)
	}
}

// Of all texts of a few bytes those are taken that Canon makes of what is read.
func TestReadCanonByTheWords(t *testing.T) {
	taken := 0
	for _, s := range textsOver("\x00\x01\x02a\x80\x81", 6) {
		checkReadCanon(t, s)
		text := "bpe" + s
		if !checkReadCanon(t, text) {
			continue
		}
		taken++
		v, _ := impl.ReadCanon(text)
		if got := impl.Canon(v); got != text {
			t.Fatalf("ReadCanon takes %q, Canon makes %q", text, got)
		}
	}
	if taken < 100 {
		t.Errorf("only %d of these are taken", taken)
	}
}

func TestReadCanonOfLongTexts(t *testing.T) {
	for _, n := range []int{245, 250, 251, 252, 1000, 1 << 20} {
		for _, b := range []string{"\x00", "\x01", "\x7f", "\x80", "\xff", "a"} {
			checkNoCanon(t, "a long text", strings.Repeat(b, n))
			checkNoCanon(t, "a long tail", "bpe"+strings.Repeat(b, n))
			checkNoCanon(t, "a long tail behind a count", "bpe\x3c"+strings.Repeat(b, n))
			checkNoCanon(t, "a long tail behind merges", wantCanon(longVocab())+strings.Repeat(b, n))
		}
	}
	count := 1 << 18
	checkNoCanon(t, "as many merges as it says", rawCanon(count)+strings.Repeat("ab", count))
}

func TestVocabsOfManyMergesAreNotGoneThrough(t *testing.T) {
	v := impl.Vocab{Merges: make([]impl.Pair, 1<<20)}
	if impl.VocabOk(v) || impl.Token(v, 97) != "" || impl.Rank(v, 0, 0) != -1 || impl.Canon(v) != "" || impl.Digest(v) != "" {
		t.Error("a vocabulary of very many merges is right")
	}
}

// What one call answered stays, whatever is asked then and whatever is written into what was handed in or answered.
func TestVocabsOfOneCallAreApart(t *testing.T) {
	for why, v := range rightVocabs() {
		text := strings.Clone(wantCanon(v))
		first, _ := impl.ReadCanon(text)
		second, _ := impl.ReadCanon(text)
		if overlap(first.Merges, second.Merges) {
			t.Fatalf("%s: two answers of ReadCanon share memory", why)
		}
		in := copyVocab(v)
		last := 255 + len(v.Merges)
		var texts []string
		for range 2 {
			texts = append(texts, impl.Canon(in), impl.Digest(in), impl.Token(in, last), impl.Token(in, 97))
		}
		if shareWithin(texts) || shareText(texts, []string{text}) {
			t.Fatalf("%s: two answers share memory", why)
		}
		kept := slices.Clone(texts)
		for i := range first.Merges {
			first.Merges[i] = impl.Pair{A: -1, B: -1}
			in.Merges[i] = impl.Pair{A: -1, B: -1}
		}
		if !sameVocab(second, v) || !slices.Equal(texts, kept) {
			t.Fatalf("%s: what was answered changed", why)
		}
		if third, ok := impl.ReadCanon(text); !ok || !sameVocab(third, v) {
			t.Fatalf("%s: ReadCanon = %v %v the third time", why, third, ok)
		}
	}
}

// A list that a vocabulary goes on with must not come into one that was read ahead of that.
func TestVocabsThatGoOnAreApart(t *testing.T) {
	text := wantCanon(vocabOf(97, 98, 256, 99))
	a, _ := impl.ReadCanon(text)
	b := impl.Vocab{Merges: append(a.Merges, impl.Pair{A: 1, B: 2})}
	c, _ := impl.ReadCanon(text)
	c.Merges = append(c.Merges, impl.Pair{A: 3, B: 4})
	if !sameVocab(a, vocabOf(97, 98, 256, 99)) || !sameVocab(b, vocabOf(97, 98, 256, 99, 1, 2)) || !sameVocab(c, vocabOf(97, 98, 256, 99, 3, 4)) {
		t.Errorf("%v, %v, %v", a, b, c)
	}
	// And where a right vocabulary and a wrong one share their memory, each is told as it is.
	whole := vocabOf(97, 98, 256, 99, 97, 98)
	part := impl.Vocab{Merges: whole.Merges[:2]}
	if impl.Canon(part) != text || impl.Canon(whole) != "" || impl.Canon(part) != text || impl.Digest(part) != wantSha(text) {
		t.Error("what stands behind a vocabulary is looked at")
	}
}
