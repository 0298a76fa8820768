package tests

import (
	"math"
	"slices"
	"strings"
	"testing"

	"loop.example/g00358/impl"
)

// wantParts: the bytes of each token, if the tokens are right by the words.
func wantParts(v impl.Vocab, toks []int) ([]string, bool) {
	tokens, ok := wantTokens(v)
	if !ok || len(toks) > 1000 {
		return nil, false
	}
	var parts []string
	for _, id := range toks {
		if id < 0 || id >= len(tokens) {
			return nil, false
		}
		parts = append(parts, tokens[id])
	}
	return parts, true
}

// onceOf: the first place of the first merge that has one becomes its token.
func onceOf(v impl.Vocab, toks []int) ([]int, bool) {
	for i, p := range v.Merges {
		for k := 1; k < len(toks); k++ {
			if toks[k-1] == p.A && toks[k] == p.B {
				return slices.Concat(toks[:k-1], []int{256 + i}, toks[k+1:]), true
			}
		}
	}
	return slices.Clone(toks), false
}

func wantOnce(v impl.Vocab, toks []int) ([]int, bool) {
	if _, ok := wantParts(v, toks); !ok {
		return nil, false
	}
	return onceOf(v, toks)
}

// bytesAsToks: the tokens that are a word's bytes.
func bytesAsToks(word string) []int {
	var out []int
	for _, b := range []byte(word) {
		out = append(out, int(b))
	}
	return out
}

func wantBpe(v impl.Vocab, word string) []int {
	if _, ok := wantTokens(v); !ok || len(word) > 64 {
		return nil
	}
	toks, more := bytesAsToks(word), true
	for more {
		toks, more = onceOf(v, toks)
	}
	return toks
}

// replaced: each place of a pair, gone through from the left, becomes the token.
func replaced(toks []int, p impl.Pair, id int) []int {
	var out []int
	for at := 0; at < len(toks); at++ {
		if at+1 < len(toks) && toks[at] == p.A && toks[at+1] == p.B {
			out = append(out, id)
			at++
			continue
		}
		out = append(out, toks[at])
	}
	return out
}

// againAndAgain: what the program's own MergeOnce makes of tokens until it says false.
func againAndAgain(t *testing.T, v impl.Vocab, toks []int) []int {
	t.Helper()
	for range len(toks) + 1 {
		next, ok := impl.MergeOnce(v, toks)
		if !ok {
			return next
		}
		toks = next
	}
	t.Fatalf("MergeOnce by %v doesn't come to an end", brief(v, toks)...)
	return nil
}

// copyToks: the same tokens in memory of their own, with spare room in which something stands.
func copyToks(toks []int) []int {
	return append(slices.Clone(toks), 77, 78)[:len(toks)]
}

func toksTouched(toks, before []int) bool {
	return !slices.Equal(toks[:len(before)+2], append(slices.Clone(before), 77, 78))
}

// checkOnce holds MergeOnce and Stable against the words.
func checkOnce(t *testing.T, v impl.Vocab, toks []int) ([]int, bool) {
	t.Helper()
	inV, in := copyVocab(v), copyToks(toks)
	got, ok := impl.MergeOnce(inV, in)
	want, wantOk := wantOnce(v, toks)
	if ok != wantOk || !slices.Equal(got, want) {
		t.Fatalf("MergeOnce(%v, %v) = %v %v, want %v %v", brief(v, toks, got, ok, want, wantOk)...)
	}
	parts, right := wantParts(v, toks)
	if stable := impl.Stable(inV, in); stable != (right && !wantOk) {
		t.Fatalf("Stable(%v, %v) = %v", brief(v, toks, stable)...)
	}
	if ok {
		after, stillRight := wantParts(v, got)
		if len(got) != len(toks)-1 || !stillRight || strings.Join(after, "") != strings.Join(parts, "") {
			t.Fatalf("MergeOnce(%v, %v) = %v: it takes another number than one token away, or changes the bytes", brief(v, toks, got)...)
		}
	}
	if vocabTouched(inV, v) || toksTouched(in, toks) || overlap(in, got) {
		t.Fatalf("MergeOnce or Stable of %v, %v writes into them, or answers their memory", brief(v, toks)...)
	}
	return got, ok
}

// checkDecode holds Decode and Ends against the words.
func checkDecode(t *testing.T, v impl.Vocab, toks []int) (string, bool) {
	t.Helper()
	inV, in := copyVocab(v), copyToks(toks)
	parts, right := wantParts(v, toks)
	text, ok := impl.Decode(inV, in)
	if ok != right || text != strings.Join(parts, "") {
		t.Fatalf("Decode(%v, %v) = %q %v, want %q %v", brief(v, toks, text, ok, parts, right)...)
	}
	ends, ok := impl.Ends(inV, in)
	if ok != right || len(ends) != len(parts) {
		t.Fatalf("Ends(%v, %v) = %v %v", brief(v, toks, ends, ok)...)
	}
	for i, end := range ends {
		if end != len(strings.Join(parts[:i+1], "")) {
			t.Fatalf("Ends(%v, %v) = %v: number %v is wrong", brief(v, toks, ends, i)...)
		}
	}
	if vocabTouched(inV, v) || toksTouched(in, toks) || overlap(in, ends) {
		t.Fatalf("Decode or Ends of %v, %v writes into them, or answers their memory", brief(v, toks)...)
	}
	return text, right
}

// checkToks holds all that is asked of tokens against the words, and says whether they are right.
func checkToks(t *testing.T, v impl.Vocab, toks []int) bool {
	t.Helper()
	checkOnce(t, v, toks)
	_, right := checkDecode(t, v, toks)
	return right
}

// checkNoToks: nothing and false is told of these.
func checkNoToks(t *testing.T, why string, v impl.Vocab, toks []int) {
	t.Helper()
	if got, ok := impl.MergeOnce(v, toks); ok || len(got) != 0 {
		t.Fatalf("%s: MergeOnce(%v, %v) = %v %v", brief(why, v, toks, got, ok)...)
	}
	if impl.Stable(v, toks) {
		t.Fatalf("%s: Stable(%v, %v)", brief(why, v, toks)...)
	}
	if text, ok := impl.Decode(v, toks); ok || text != "" {
		t.Fatalf("%s: Decode(%v, %v) = %q %v", brief(why, v, toks, text, ok)...)
	}
	if ends, ok := impl.Ends(v, toks); ok || len(ends) != 0 {
		t.Fatalf("%s: Ends(%v, %v) = %v %v", brief(why, v, toks, ends, ok)...)
	}
}

// checkBpe holds Bpe against the words, against MergeOnce, and against Stable, Decode and Ends.
func checkBpe(t *testing.T, v impl.Vocab, word string) []int {
	t.Helper()
	inV := copyVocab(v)
	got := impl.Bpe(inV, word)
	if want := wantBpe(v, word); !slices.Equal(got, want) {
		t.Fatalf("Bpe(%v, %q) = %v, want %v", brief(v, word, got, want)...)
	}
	if vocabTouched(inV, v) {
		t.Fatalf("Bpe(%v, %q) writes into the vocabulary", brief(v, word)...)
	}
	if _, right := wantTokens(v); !right || len(word) > 64 {
		return got
	}
	if again := againAndAgain(t, inV, bytesAsToks(word)); !slices.Equal(got, again) {
		t.Fatalf("Bpe(%v, %q) = %v, MergeOnce comes to %v", brief(v, word, got, again)...)
	}
	if !impl.Stable(inV, got) {
		t.Fatalf("Bpe(%v, %q) = %v is not stable", brief(v, word, got)...)
	}
	if text, ok := impl.Decode(inV, got); !ok || text != word {
		t.Fatalf("Decode of Bpe(%v, %q) = %q %v", brief(v, word, text, ok)...)
	}
	ends, ok := impl.Ends(inV, got)
	if !ok || len(ends) != len(got) || len(ends) > 0 && ends[len(ends)-1] != len(word) {
		t.Fatalf("Ends of Bpe(%v, %q) = %v %v", brief(v, word, ends, ok)...)
	}
	return got
}

// alike: so many tokens of one kind.
func alike(id, n int) []int {
	return slices.Repeat([]int{id}, n)
}

// toksOver: all lists of at most length of these tokens.
func toksOver(ids []int, length int) [][]int {
	out := [][]int{nil}
	from := 0
	for range length {
		to := len(out)
		for _, l := range out[from:to] {
			for _, id := range ids {
				out = append(out, append(slices.Clone(l), id))
			}
		}
		from = to
	}
	return out
}

// overlapVocab: merges that build on each other, and whose places overlap.
func overlapVocab() impl.Vocab {
	return vocabOf('a', 'a', 'a', 'b', 256, 'a', 256, 256, 'b', 'a', 257, 'a', 259, 258, 'b', 'b')
}

func TestMergingConstants(t *testing.T) {
	if impl.MaxWord != 64 || impl.MaxToks != 1000 {
		t.Error("the limits of chapter 8 are others")
	}
}

func TestMergeOnceOfKnownLists(t *testing.T) {
	// 256 is ab, 257 abc, 258 aa, 259 cd, 260 abcab.
	v := vocabOf('a', 'b', 256, 'c', 'a', 'a', 'c', 'd', 257, 256)
	for _, c := range []struct {
		why    string
		toks   []int
		want   []int
		merged bool
	}{
		{"none", nil, nil, false},
		{"one byte", []int{'a'}, []int{'a'}, false},
		{"one merge", []int{256}, []int{256}, false},
		{"two that merge", []int{'a', 'b'}, []int{256}, true},
		{"two that merge, one of them a merge", []int{256, 'c'}, []int{257}, true},
		{"two merges that merge", []int{257, 256}, []int{260}, true},
		{"two that don't", []int{'b', 'c'}, []int{'b', 'c'}, false},
		{"two turned round", []int{'b', 'a'}, []int{'b', 'a'}, false},
		{"a merge turned round", []int{'c', 256}, []int{'c', 256}, false},
		{"merges turned round", []int{256, 257}, []int{256, 257}, false},
		{"the bytes of a merge by other tokens", []int{'a', 'b', 259}, []int{256, 259}, true},
		{"bytes that would be a merge, by others", []int{256, 259}, []int{256, 259}, false},
		{"two that merge with one between", []int{'a', 'x', 'b'}, []int{'a', 'x', 'b'}, false},
		{"the least one stands last", []int{'c', 'd', 'a', 'a', 256, 'c', 'a', 'b'}, []int{'c', 'd', 'a', 'a', 256, 'c', 256}, true},
		{"the least one stands first", []int{'a', 'b', 256, 'c', 'x', 'a', 'a', 'c', 'd'}, []int{256, 256, 'c', 'x', 'a', 'a', 'c', 'd'}, true},
		{"the least one stands between", []int{'a', 'a', 256, 'c', 'c', 'd'}, []int{'a', 'a', 257, 'c', 'd'}, true},
		{"the least one overlaps one ahead of it", []int{'a', 'a', 'b'}, []int{'a', 256}, true},
		{"the least one overlaps one behind it", []int{256, 'c', 'd'}, []int{257, 'd'}, true},
		{"the first of two places", []int{'a', 'b', 'a', 'b'}, []int{256, 'a', 'b'}, true},
		{"the first of two places, behind another number's", []int{'a', 'a', 'x', 'c', 'd', 'x', 'c', 'd', 'x', 256, 'c', 'x', 256, 'c'}, []int{'a', 'a', 'x', 'c', 'd', 'x', 'c', 'd', 'x', 257, 'x', 256, 'c'}, true},
		{"the first of three places", []int{'x', 'c', 'd', 'c', 'd', 'c', 'd'}, []int{'x', 259, 'c', 'd', 'c', 'd'}, true},
		{"two alike", []int{'a', 'a'}, []int{258}, true},
		{"three alike", []int{'a', 'a', 'a'}, []int{258, 'a'}, true},
		{"four alike", []int{'a', 'a', 'a', 'a'}, []int{258, 'a', 'a'}, true},
		{"four alike with one ahead", []int{'b', 'a', 'a', 'a', 'a'}, []int{'b', 258, 'a', 'a'}, true},
		{"what was merged and two more", []int{258, 'a', 'a'}, []int{258, 258}, true},
		{"what was merged stays", []int{258, 258}, []int{258, 258}, false},
		{"what was merged and one more", []int{258, 'a'}, []int{258, 'a'}, false},
		{"the spare room behind the merges", []int{77, 77, 78, 78}, []int{77, 77, 78, 78}, false},
		{"noughts", []int{0, 0, 0}, []int{0, 0, 0}, false},
		{"the last one of the vocabulary", []int{260, 260}, []int{260, 260}, false},
	} {
		got, merged := checkOnce(t, v, c.toks)
		if merged != c.merged || !slices.Equal(got, c.want) {
			t.Errorf("%s: MergeOnce(%v) = %v %v, want %v %v", c.why, c.toks, got, merged, c.want, c.merged)
		}
		if stable := impl.Stable(v, c.toks); stable == c.merged {
			t.Errorf("%s: Stable(%v) = %v", c.why, c.toks, stable)
		}
	}
}

// Of the merges of a long row each is the least one once, at each place.
func TestMergeOnceLeastNumberAtEachPlace(t *testing.T) {
	v := flatVocab(impl.MaxMerges)
	for least := range impl.MaxMerges {
		for at := range 12 {
			// Pairs of greater numbers stand at all other places, the greatest ones first and last; beyond the last number (200, 200) none merge.
			var toks []int
			for k := range 12 {
				other := least + 1 + 5*max(k-6, 6-k)
				if other >= impl.MaxMerges {
					other = 200
				}
				toks = append(toks, other, 200)
			}
			toks[2*at] = least
			want := slices.Concat(toks[:2*at], []int{256 + least}, toks[2*at+2:])
			if got, ok := checkOnce(t, v, toks); !ok || !slices.Equal(got, want) {
				t.Fatalf("number %d at %d: MergeOnce(%v) = %v %v", least, at, toks, got, ok)
			}
		}
	}
}

// Rows of one token: the merge of two of them overlaps itself at each place.
func TestMergeOnceOfTokensAlike(t *testing.T) {
	for _, v := range []impl.Vocab{vocabOf('a', 'a'), vocabOf('a', 'a', 256, 'a'), vocabOf('a', 'a', 'a', 256), vocabOf('a', 'a', 256, 256), vocabOf('a', 'a', 256, 256, 256, 'a', 257, 258), overlapVocab()} {
		for n := range 40 {
			toks, merged := checkOnce(t, v, alike('a', n))
			if merged != (n > 1) {
				t.Fatalf("%d alike by %v merge: %v", n, v, merged)
			}
			for merged {
				toks, merged = checkOnce(t, v, toks)
			}
		}
	}
	v := vocabOf('a', 'a')
	for n := 2; n < 40; n++ {
		if got, _ := checkOnce(t, v, alike('a', n)); !slices.Equal(got, append([]int{256}, alike('a', n-2)...)) {
			t.Errorf("MergeOnce of %d alike = %v", n, got)
		}
		if got, want := impl.Bpe(v, strings.Repeat("a", n)), append(alike(256, n/2), alike('a', n%2)...); !slices.Equal(got, want) {
			t.Errorf("Bpe of %d alike = %v, want %v", n, got, want)
		}
	}
}

func TestAllSmallListsOfTokens(t *testing.T) {
	for _, v := range []impl.Vocab{{}, vocabOf('a', 'b'), vocabOf('a', 'a', 256, 'a'), vocabOf('a', 'b', 'b', 'a', 256, 256), vocabOf('a', 'b', 256, 'a', 'a', 'a'), overlapVocab()} {
		ids := []int{'a', 'b', 0, 256, 257, 258}
		right := 0
		for _, toks := range toksOver(ids, 4) {
			if checkToks(t, v, toks) {
				right++
			}
		}
		known := 3 + min(len(v.Merges), 3)
		if want := 1 + known + known*known + known*known*known + known*known*known*known; right != want {
			t.Errorf("%d lists are right for %v, want %d", right, v, want)
		}
	}
}

// Lists of as many tokens as there may be, that merge everywhere, nowhere, first and last.
func TestToksUpToMaxToks(t *testing.T) {
	v := vocabOf('a', 'b', 'a', 'a', 257, 257)
	for _, n := range []int{998, 999, 1000, 1001, 1002, 2000, 4096} {
		for why, toks := range map[string][]int{
			"all merge":     alike('a', n),
			"none merges":   alike('x', n),
			"merges":        alike(256, n),
			"first ones":    append([]int{'a', 'b'}, alike('x', n-2)...),
			"last ones":     append(alike('x', n-2), 'a', 'b'),
			"last is least": append(alike('a', n-1), 'b'),
		} {
			if right := checkToks(t, v, toks); right != (n <= 1000) {
				t.Errorf("%d tokens, %s: right is %v", n, why, right)
			}
			if n > 1000 {
				checkNoToks(t, why, v, toks)
				checkNoToks(t, why, impl.Vocab{}, toks)
			}
		}
	}
	checkNoToks(t, "very many", v, make([]int, 1<<22))
}

// A full list merges down to its end by MergeOnce alone, as one merge behind the other would.
func TestMergeOnceOfAFullList(t *testing.T) {
	v := vocabOf('a', 'a', 256, 'b', 256, 256, 258, 257)
	toks := slices.Repeat([]int{'a', 'a', 'a', 'a', 'a', 'a', 'b', 'a', 'a', 'a'}, 100)
	want := toks
	for i, p := range v.Merges {
		want = replaced(want, p, 256+i)
	}
	steps := 0
	for merged := true; merged; steps++ {
		toks, merged = checkOnce(t, v, toks)
	}
	if !slices.Equal(toks, want) || steps != 1000-len(want)+1 {
		t.Errorf("MergeOnce %d times = %v, want %v", brief(steps, toks, want)...)
	}
}

func TestToksThatAreNotRight(t *testing.T) {
	for why, v := range rightVocabs() {
		beyond := 256 + len(v.Merges)
		for _, id := range []int{-1, -2, -256, -257, 'a' - 256, beyond, beyond + 1, 316, 317, 1 << 16, 1<<32 + 'a', 1 << 40, math.MinInt, math.MinInt + 'a', math.MaxInt} {
			if id < beyond && id >= 0 {
				continue
			}
			for _, toks := range [][]int{nil, {'a'}, {'a', 'b'}, {'a', 'a', 'b'}, {'x', 'y', 'z'}, {0, 255, beyond - 1}} {
				for at := range len(toks) + 1 {
					checkNoToks(t, why, v, slices.Concat(toks[:at], []int{id}, toks[at:]))
				}
			}
			checkNoToks(t, why+", twice", v, []int{id, id})
			checkNoToks(t, why+", the last of very many", v, append(alike('a', 999), id))
			checkNoToks(t, why+", one more than very many", v, append(alike('a', 1000), id))
		}
		if !checkToks(t, v, []int{0, 255, beyond - 1}) {
			t.Errorf("%s: tokens up to %d are not right", why, beyond-1)
		}
	}
}

func TestToksOfWrongVocabs(t *testing.T) {
	for _, w := range wrongVocabs() {
		for _, toks := range [][]int{nil, {}, {'a'}, {'a', 'b'}, {'x', 'x'}, {0, 0}, {256}, {256, 'a'}, {-1}, {400}, alike('a', 1000), alike('a', 1001)} {
			checkNoToks(t, w.why, w.v, toks)
			checkToks(t, w.v, toks)
		}
		for _, word := range []string{"", "a", "ab", "abc", "xx", "\x00\x00", strings.Repeat("ab", 32), strings.Repeat("x", 65)} {
			if got := impl.Bpe(w.v, word); len(got) != 0 {
				t.Errorf("%s: Bpe(%q) = %v", w.why, word, got)
			}
			checkBpe(t, w.v, word)
		}
	}
	many := impl.Vocab{Merges: make([]impl.Pair, 1<<20)}
	checkNoToks(t, "very many merges", many, []int{0, 0})
	if got := impl.Bpe(many, "a"); len(got) != 0 {
		t.Errorf("Bpe by very many merges = %v", got)
	}
}

// toks: tokens of a vocabulary, many of them two that merge, now and then one that is none.
func (r *dice) toks(v impl.Vocab) []int {
	var out []int
	slips := r.roll(8) == 0
	for range r.roll(40) {
		switch {
		case slips && r.roll(20) == 0:
			out = append(out, 256+len(v.Merges), -1)
		case len(v.Merges) > 0 && r.roll(2) == 0:
			p := v.Merges[r.roll(len(v.Merges))]
			out = append(out, p.A, p.B)
		case len(v.Merges) > 0 && r.roll(2) == 0:
			out = append(out, 256+r.roll(len(v.Merges)))
		default:
			out = append(out, 97+r.roll(6))
		}
	}
	return out
}

func TestAnyToks(t *testing.T) {
	r := dice(8)
	right, merged := 0, 0
	for range 400 {
		v := r.vocab()
		for range 6 {
			toks := r.toks(v)
			if checkToks(t, v, toks) {
				right++
			}
			for again := true; again; {
				toks, again = checkOnce(t, v, toks)
				if again {
					merged++
				}
			}
		}
	}
	if right < 1000 || right > 2300 || merged < 8000 {
		t.Errorf("%d of 2400 are right, %d merged", right, merged)
	}
}

func TestBpeOfKnownWords(t *testing.T) {
	abc := vocabOf('a', 'b', 256, 'c', 'a', 'a')
	right := vocabOf('b', 'c', 'a', 256)
	doubling := vocabOf('a', 'a', 256, 256, 257, 257, 258, 258)
	for _, c := range []struct {
		why  string
		v    impl.Vocab
		word string
		want []int
	}{
		{"no byte", abc, "", nil},
		{"no byte and no merge", impl.Vocab{}, "", nil},
		{"one byte", abc, "a", []int{'a'}},
		{"one merge", abc, "ab", []int{256}},
		{"a merge on a merge", abc, "abc", []int{257}},
		{"none merge", abc, "cba", []int{'c', 'b', 'a'}},
		{"no merge", impl.Vocab{}, "abc", []int{'a', 'b', 'c'}},
		{"the least number first", abc, "aab", []int{'a', 256}},
		{"merges side by side", abc, "abcaab", []int{257, 'a', 256}},
		{"three alike", abc, "aaa", []int{258, 'a'}},
		{"four alike", abc, "aaaa", []int{258, 258}},
		{"five alike and one", abc, "aaaaab", []int{258, 258, 256}},
		{"from the right", right, "abcbc", []int{257, 256}},
		{"a greater number takes what a lesser one left", vocabOf('a', 'b', 'b', 'c', 257, 'c'), "abcbcc", []int{256, 'c', 258}},
		{"a lesser number takes what a greater one would", vocabOf('b', 'c', 'a', 'b', 257, 'c'), "abc", []int{'a', 256}},
		{"two, four, eight", doubling, "aaaaaaaa", []int{258}},
		{"two, four, eight and seven", doubling, "aaaaaaaaaaaaaaa", []int{258, 257, 256, 'a'}},
		{"high bytes and noughts", vocabOf(255, 0, 0, 255), "\xff\x00\xff\x00\x00\xff", []int{256, 256, 257}},
		{"a rune is its bytes", vocabOf(0xc3, 0xa9), "é\xc3\xc3\xa9", []int{256, 0xc3, 256}},
	} {
		if got := checkBpe(t, c.v, c.word); !slices.Equal(got, c.want) {
			t.Errorf("%s: Bpe(%q) = %v, want %v", c.why, c.word, got, c.want)
		}
	}
}

func TestBpeOfEachByte(t *testing.T) {
	for _, v := range []impl.Vocab{{}, overlapVocab(), longVocab(), flatVocab(60)} {
		for b := range 256 {
			if got := checkBpe(t, v, string([]byte{byte(b)})); !slices.Equal(got, []int{b}) {
				t.Errorf("Bpe of byte %d = %v", b, got)
			}
		}
		checkBpe(t, v, "")
	}
}

// Words of each number of bytes, up to the longest and beyond.
func TestBpeOfEachLength(t *testing.T) {
	for why, v := range rightVocabs() {
		for n := range 70 {
			for _, pattern := range []string{"a", "ab", "abc", "x", "\x00", "xy", "\xff"} {
				word := strings.Repeat(pattern, n)[:n]
				if got := checkBpe(t, v, word); (len(got) > 0) != (n >= 1 && n <= 64) {
					t.Errorf("%s: Bpe of %d bytes = %v", why, n, got)
				}
			}
		}
		for _, n := range []int{65, 128, 1000, 1001, 1 << 20} {
			if got := impl.Bpe(v, strings.Repeat("a", n)); len(got) != 0 {
				t.Errorf("%s: Bpe of %d bytes has %d tokens", why, n, len(got))
			}
		}
	}
	if got := impl.Bpe(impl.Vocab{}, strings.Repeat("a", 64)); !slices.Equal(got, alike('a', 64)) {
		t.Errorf("Bpe of the longest word = %v", got)
	}
	if got := impl.Bpe(chainVocab(23), strings.Repeat("x", 64)); !slices.Equal(got, alike(256, 32)) {
		t.Errorf("Bpe of the longest word = %v", got)
	}
}

func TestBpeOfAllSmallWords(t *testing.T) {
	for _, v := range []impl.Vocab{vocabOf('a', 'a', 256, 'a'), vocabOf('a', 'b', 'b', 'a', 256, 256), vocabOf('b', 'a', 'a', 'b', 257, 256, 'a', 'a'), overlapVocab()} {
		for _, word := range textsOver("ab", 8) {
			checkBpe(t, v, word)
		}
		for _, word := range textsOver("abc", 5) {
			checkBpe(t, v, word)
		}
	}
}

// learned: a right vocabulary of many merges on few bytes, so that its words merge far.
func (r *dice) learned(kinds, size int) impl.Vocab {
	var v impl.Vocab
	for range 20 * size {
		pick := func() int {
			if made := len(v.Merges); made > 0 && r.roll(2) == 0 {
				return 256 + r.roll(made)
			}
			return 97 + r.roll(kinds)
		}
		next := impl.Vocab{Merges: append(slices.Clone(v.Merges), impl.Pair{A: pick(), B: pick()})}
		if _, ok := wantTokens(next); ok && len(v.Merges) < size {
			v = next
		}
	}
	return v
}

func (r *dice) word(kinds, size int) string {
	out := make([]byte, size)
	for i := range out {
		out[i] = byte(97 + r.roll(kinds))
	}
	return string(out)
}

func TestBpeOfAnyWords(t *testing.T) {
	r := dice(64)
	bytes, toks := 0, 0
	for range 60 {
		kinds := 1 + r.roll(4)
		v := r.learned(kinds, r.roll(61))
		for range 40 {
			word := r.word(kinds, r.roll(67))
			if got := checkBpe(t, v, word); len(got) > 0 {
				bytes += len(word)
				toks += len(got)
			}
		}
	}
	if bytes < 50000 || toks > bytes*2/3 {
		t.Errorf("%d bytes merge to %d tokens", bytes, toks)
	}
	for range 200 {
		checkBpe(t, r.vocab(), r.word(8, 64))
	}
}

// With one more merge in the vocabulary it is that one's merging of what it was without.
func TestBpeWithOneMoreMerge(t *testing.T) {
	r := dice(88)
	vocabs := []impl.Vocab{overlapVocab(), chainVocab(23), flatVocab(60), vocabOf('a', 'b', 256, 'c', 257, 'a', 'c', 'a')}
	for range 12 {
		vocabs = append(vocabs, r.learned(1+r.roll(3), 60))
	}
	changed := 0
	for _, v := range vocabs {
		words := []string{"", "a", "ab", strings.Repeat("a", 64), strings.Repeat("ab", 32), strings.Repeat("x", 64), strings.Repeat("abca", 16)}
		for range 8 {
			words = append(words, r.word(3, 64))
		}
		for _, word := range words {
			before := impl.Bpe(impl.Vocab{}, word)
			for i, p := range v.Merges {
				got := impl.Bpe(impl.Vocab{Merges: slices.Clone(v.Merges[:i+1])}, word)
				if want := replaced(before, p, 256+i); !slices.Equal(got, want) {
					t.Fatalf("Bpe of %q with %d merges of %v = %v, want %v", word, i+1, v, got, want)
				}
				if more := againAndAgain(t, impl.Vocab{Merges: slices.Clone(v.Merges[:i+1])}, before); !slices.Equal(got, more) {
					t.Fatalf("Bpe of %q with %d merges of %v = %v, MergeOnce comes to %v", word, i+1, v, got, more)
				}
				if len(got) != len(before) {
					changed++
				}
				before = got
			}
		}
	}
	if changed < 500 {
		t.Errorf("only %d merges changed a word", changed)
	}
}

func TestDecodeAndEndsOfKnownToks(t *testing.T) {
	// 256 is ab, 257 abc, 258 a nought and byte 255, 259 abcabc.
	v := vocabOf('a', 'b', 256, 'c', 0, 255, 257, 257)
	for _, c := range []struct {
		toks []int
		text string
		ends []int
	}{
		{nil, "", nil},
		{[]int{}, "", nil},
		{[]int{'a'}, "a", []int{1}},
		{[]int{0}, "\x00", []int{1}},
		{[]int{255}, "\xff", []int{1}},
		{[]int{'a', 'b', 'c'}, "abc", []int{1, 2, 3}},
		{[]int{257}, "abc", []int{3}},
		{[]int{259, 256, 258}, "abcabcab\x00\xff", []int{6, 8, 10}},
		{[]int{257, 'a'}, "abca", []int{3, 4}},
		{[]int{'x', 256, 'y', 259}, "xabyabcabc", []int{1, 3, 4, 10}},
		{[]int{256, 256}, "abab", []int{2, 4}},
		{[]int{0, 0, 258}, "\x00\x00\x00\xff", []int{1, 2, 4}},
	} {
		text, ok := impl.Decode(v, c.toks)
		if !ok || text != c.text {
			t.Errorf("Decode(%v) = %q %v, want %q", c.toks, text, ok, c.text)
		}
		ends, ok := impl.Ends(v, c.toks)
		if !ok || !slices.Equal(ends, c.ends) {
			t.Errorf("Ends(%v) = %v %v, want %v", c.toks, ends, ok, c.ends)
		}
		checkToks(t, v, c.toks)
	}
	for _, v := range []impl.Vocab{{}, v} {
		all := bytesAsToks(allBytes())
		if text, ok := impl.Decode(v, all); !ok || text != allBytes() {
			t.Errorf("Decode of all bytes = %q %v", text, ok)
		}
		checkDecode(t, v, all)
	}
}

func TestDecodeAndEndsOfMaxToks(t *testing.T) {
	v := chainVocab(23)
	text, ok := impl.Decode(v, alike(278, 1000))
	if !ok || text != strings.Repeat("x", 24000) {
		t.Errorf("Decode of the longest tokens has %d bytes, %v", len(text), ok)
	}
	ends, ok := impl.Ends(v, alike(278, 1000))
	if !ok || len(ends) != 1000 || ends[0] != 24 || ends[999] != 24000 {
		t.Errorf("Ends of the longest tokens: %v %v", brief(ends, ok)...)
	}
	for _, id := range []int{0, 'x', 256, 278} {
		for _, n := range []int{999, 1000, 1001} {
			if _, right := checkDecode(t, v, alike(id, n)); right != (n <= 1000) {
				t.Errorf("%d tokens %d are right: %v", n, id, right)
			}
		}
		checkNoToks(t, "one more than MaxToks", v, alike(id, 1001))
	}
}

// What one call answered stays, whatever is asked then and whatever is written into what was handed in or answered.
func TestMergingsOfOneCallAreApart(t *testing.T) {
	v := overlapVocab()
	for _, toks := range [][]int{{'a'}, {256}, {'a', 'b'}, {'b', 'c'}, {'a', 'a', 'a', 'b'}, {256, 257, 'b', 'a'}, alike('a', 1000), alike('x', 1000)} {
		in, inV := copyToks(toks), copyVocab(v)
		var lists [][]int
		var texts []string
		for range 2 {
			once, _ := impl.MergeOnce(inV, in)
			ends, _ := impl.Ends(inV, in)
			text, _ := impl.Decode(inV, in)
			word := text[:min(len(text), 64)]
			lists = append(lists, once, ends, impl.Bpe(inV, word))
			texts = append(texts, text)
		}
		for i := range lists {
			for j := range i {
				if overlap(lists[i], lists[j]) {
					t.Fatalf("answers of %v share memory", brief(toks)...)
				}
			}
			if overlap(lists[i], in) {
				t.Fatalf("an answer of %v is in its memory", brief(toks)...)
			}
		}
		if shareWithin(texts) || shareText(texts, []string{impl.Token(inV, toks[0])}) {
			t.Fatalf("two texts of %v share memory", brief(toks)...)
		}
		checkWrittenOver(t, inV, in, lists)
	}
}

// checkWrittenOver writes into what was handed in, and into all answers but the last ones: these stay, and the calls answer anew.
func checkWrittenOver(t *testing.T, v impl.Vocab, toks []int, lists [][]int) {
	t.Helper()
	before, kept := slices.Clone(toks), slices.Clone(lists)
	for i := range lists {
		kept[i] = slices.Clone(lists[i])
	}
	for _, l := range append([][]int{toks}, lists[:3]...) {
		l = l[:cap(l)]
		for i := range l {
			l[i] = -1
		}
	}
	for i := 3; i < len(lists); i++ {
		if !slices.Equal(lists[i], kept[i]) {
			t.Fatalf("an answer of %v changed", brief(before)...)
		}
	}
	once, _ := impl.MergeOnce(v, before)
	ends, _ := impl.Ends(v, before)
	if !slices.Equal(once, kept[0]) || !slices.Equal(ends, kept[1]) {
		t.Fatalf("%v is answered otherwise the third time", brief(before)...)
	}
}

// No vocabulary is kept for the next call, and what stands behind one is not looked at.
func TestMergingsKeepNothing(t *testing.T) {
	whole := vocabOf('a', 'a', 256, 256, 'a', 256)
	for range 3 {
		for n, want := range [][]int{alike('a', 8), alike(256, 4), alike(257, 2)} {
			part := impl.Vocab{Merges: whole.Merges[:n]}
			if got := impl.Bpe(part, "aaaaaaaa"); !slices.Equal(got, want) {
				t.Errorf("Bpe with %d merges = %v, want %v", n, got, want)
			}
			if _, ok := impl.Decode(part, []int{256 + n}); ok {
				t.Errorf("token %d is taken with %d merges", 256+n, n)
			}
			if impl.Stable(part, alike('a', 2)) != (n == 0) {
				t.Errorf("Stable with %d merges is %v", n, n != 0)
			}
		}
	}
}
