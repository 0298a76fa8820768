package tests

import (
	"math"
	"slices"
	"strings"
	"testing"

	"loop.example/g00358/impl"
)

// wantMemoOk: whether a memo is right by the words.
func wantMemoOk(v impl.Vocab, m impl.Memo) bool {
	if _, ok := wantTokens(v); !ok || m.Room < 0 || m.Room > 40 || len(m.Notes) > m.Room {
		return false
	}
	var words []string
	for _, n := range m.Notes {
		if len(n.Word) < 1 || len(n.Word) > 64 || slices.Contains(words, n.Word) || !slices.Equal(n.Toks, wantBpe(v, n.Word)) {
			return false
		}
		words = append(words, n.Word)
	}
	return true
}

// wantNotes: the Notes of a right memo behind a word of 1 to 64 bytes: its own, and of the others as many as there is room for.
func wantNotes(v impl.Vocab, m impl.Memo, word string) []impl.Note {
	notes := []impl.Note{{Word: word, Toks: wantBpe(v, word)}}
	for _, n := range m.Notes {
		if n.Word != word {
			notes = append(notes, n)
		}
	}
	return notes[:min(len(notes), m.Room)]
}

func wantRecall(v impl.Vocab, m impl.Memo, word string) (impl.Memo, []int, bool) {
	if !wantMemoOk(v, m) {
		return impl.Memo{}, nil, false
	}
	if len(word) < 1 || len(word) > 64 {
		return m, nil, false
	}
	was := slices.Contains(memoWords(m), word)
	return impl.Memo{Room: m.Room, Notes: wantNotes(v, m, word)}, wantBpe(v, word), was
}

func wantEncodeMemo(v impl.Vocab, m impl.Memo, s string) (impl.Memo, []int, int) {
	if !wantMemoOk(v, m) {
		return impl.Memo{}, nil, 1
	}
	if len(s) > 1000 {
		return m, nil, 2
	}
	toks, _ := wantEncode(v, s)
	return impl.Memo{Room: m.Room, Notes: lastWords(v, m, wantCut(s))}, toks, 0
}

// lastWords: the Notes of the words that came last, when these words came behind those of a memo.
func lastWords(v impl.Vocab, m impl.Memo, words []string) []impl.Note {
	came := memoWords(m)
	slices.Reverse(came)
	came = append(came, words...)
	slices.Reverse(came)
	var notes []impl.Note
	var seen []string
	for _, word := range came {
		if len(notes) < m.Room && !slices.Contains(seen, word) {
			seen = append(seen, word)
			notes = append(notes, impl.Note{Word: word, Toks: wantBpe(v, word)})
		}
	}
	return notes
}

func memoWords(m impl.Memo) []string {
	var out []string
	for _, n := range m.Notes {
		out = append(out, n.Word)
	}
	return out
}

// memoOf: a memo that has these words, the first one first.
func memoOf(v impl.Vocab, room int, words ...string) impl.Memo {
	m := impl.Memo{Room: room}
	for _, word := range words {
		m.Notes = append(m.Notes, impl.Note{Word: word, Toks: wantBpe(v, word)})
	}
	return m
}

// manyWords: so many words of which no two are alike.
func manyWords(n int) []string {
	var out []string
	for i := range n {
		out = append(out, "ab"+string([]byte{byte('a' + i%26), byte('a' + i/26)}))
	}
	return out
}

// copyMemo: the same memo in memory of its own, with spare room behind each list in which something stands.
func copyMemo(m impl.Memo) impl.Memo {
	out := impl.Memo{Room: m.Room}
	for _, n := range m.Notes {
		out.Notes = append(out.Notes, impl.Note{Word: strings.Clone(n.Word), Toks: copyToks(n.Toks)})
	}
	out.Notes = append(out.Notes, behindNotes()...)[:len(m.Notes)]
	return out
}

func behindNotes() []impl.Note {
	return []impl.Note{{Word: "behind", Toks: []int{77}}, {Word: "farther behind", Toks: []int{78}}}
}

func sameNotes(a, b []impl.Note) bool {
	return slices.EqualFunc(a, b, func(x, y impl.Note) bool { return x.Word == y.Word && slices.Equal(x.Toks, y.Toks) })
}

func sameMemo(a, b impl.Memo) bool {
	return a.Room == b.Room && sameNotes(a.Notes, b.Notes)
}

func memoTouched(m, before impl.Memo) bool {
	n := len(before.Notes)
	if !sameMemo(m, before) || !sameNotes(m.Notes[n:n+2], behindNotes()) {
		return true
	}
	for i, note := range m.Notes {
		if toksTouched(note.Toks, before.Notes[i].Toks) {
			return true
		}
	}
	return false
}

func memoToks(m impl.Memo) [][]int {
	var out [][]int
	for _, n := range m.Notes {
		out = append(out, n.Toks)
	}
	return out
}

// meet: whether one of the lists is in the memory of another one of them.
func meet(lists [][]int) bool {
	for i := range lists {
		for j := range i {
			if overlap(lists[i], lists[j]) {
				return true
			}
		}
	}
	return false
}

// apart: whether these memos, tokens and texts have memory of their own, each list and each text.
func apart(memos []impl.Memo, toks [][]int, texts ...string) bool {
	for i, m := range memos {
		toks = append(toks, memoToks(m)...)
		texts = append(texts, memoWords(m)...)
		for j := range i {
			if overlap(m.Notes, memos[j].Notes) {
				return false
			}
		}
	}
	return !meet(toks) && !shareWithin(texts)
}

func checkMemoOk(t *testing.T, v impl.Vocab, m impl.Memo) bool {
	t.Helper()
	inV, in := copyVocab(v), copyMemo(m)
	got := impl.MemoOk(inV, in)
	if want := wantMemoOk(v, m); got != want {
		t.Fatalf("MemoOk(%v, %v) = %v", brief(v, m, got)...)
	}
	if vocabTouched(inV, v) || memoTouched(in, m) {
		t.Fatalf("MemoOk(%v, %v) writes into what it was handed", brief(v, m)...)
	}
	return got
}

// checkRecall holds Recall against the words, and looks at what it was handed and what it answers.
func checkRecall(t *testing.T, v impl.Vocab, m impl.Memo, word string) (impl.Memo, []int, bool) {
	t.Helper()
	inV, in, inWord := copyVocab(v), copyMemo(m), strings.Clone(word)
	got, toks, was := impl.Recall(inV, in, inWord)
	want, wantToks, wantWas := wantRecall(v, m, word)
	if !sameMemo(got, want) || !slices.Equal(toks, wantToks) || was != wantWas {
		t.Fatalf("Recall(%v, %v, %q)\n = %v %v %v,\nwant %v %v %v", brief(v, m, word, got, toks, was, want, wantToks, wantWas)...)
	}
	if vocabTouched(inV, v) || memoTouched(in, m) || inWord != word {
		t.Fatalf("Recall(%v, %v, %q) writes into what it was handed", brief(v, m, word)...)
	}
	if !apart([]impl.Memo{in, got}, [][]int{toks}, inWord) {
		t.Fatalf("Recall(%v, %v, %q): what it answers is not apart", brief(v, m, word)...)
	}
	if wantMemoOk(v, m) && !impl.MemoOk(v, got) {
		t.Fatalf("Recall(%v, %v, %q) leaves a memo that is not right", brief(v, m, word)...)
	}
	return got, toks, was
}

// checkEncodeMemo holds EncodeMemo against the words, against Encode, and against Recall of each word.
func checkEncodeMemo(t *testing.T, v impl.Vocab, m impl.Memo, s string) (impl.Memo, []int, int) {
	t.Helper()
	inV, in, inS := copyVocab(v), copyMemo(m), strings.Clone(s)
	got, toks, code := impl.EncodeMemo(inV, in, inS)
	want, wantToks, wantCode := wantEncodeMemo(v, m, s)
	if !sameMemo(got, want) || !slices.Equal(toks, wantToks) || code != wantCode {
		t.Fatalf("EncodeMemo(%v, %v, %q)\n = %v %v %v,\nwant %v %v %v", brief(v, m, s, got, toks, code, want, wantToks, wantCode)...)
	}
	if vocabTouched(inV, v) || memoTouched(in, m) || inS != s {
		t.Fatalf("EncodeMemo(%v, %v, %q) writes into what it was handed", brief(v, m, s)...)
	}
	if !apart([]impl.Memo{in, got}, [][]int{toks}, inS) {
		t.Fatalf("EncodeMemo(%v, %v, %q): what it answers is not apart", brief(v, m, s)...)
	}
	if wantCode == 0 {
		checkAsEncode(t, v, m, s, got, toks)
	}
	return got, toks, code
}

// checkAsEncode: the tokens are those of Encode, and the memo is right and the one that Recall of each word comes to.
func checkAsEncode(t *testing.T, v impl.Vocab, m impl.Memo, s string, got impl.Memo, toks []int) {
	t.Helper()
	if want, code := impl.Encode(v, s); code != impl.EnOk || !slices.Equal(toks, want) {
		t.Fatalf("EncodeMemo(%v, %v, %q) = %v, Encode says %v %v", brief(v, m, s, toks, want, code)...)
	}
	if !impl.MemoOk(v, got) || len(got.Notes) > m.Room {
		t.Fatalf("EncodeMemo(%v, %v, %q) leaves %v", brief(v, m, s, got)...)
	}
	var known []int
	for _, word := range impl.Cut(s) {
		var more []int
		m, more, _ = impl.Recall(v, m, word)
		known = append(known, more...)
	}
	if !sameMemo(got, m) || !slices.Equal(toks, known) {
		t.Fatalf("EncodeMemo of %q = %v %v, Recall of each word %v %v", brief(s, got, toks, m, known)...)
	}
}

// memoVocab: 256 is ab, 257 abc, 258 a blank and a, 259 a blank and ab, 260 is 12.
func memoVocab() impl.Vocab {
	return vocabOf('a', 'b', 256, 'c', ' ', 'a', ' ', 256, '1', '2')
}

// wordEdges: texts of 0, 1, 63, 64, 65 bytes and more.
func wordEdges() []string {
	out := []string{"", "a", "\x00", "\xff", "ab", "abc", "ba", " ab", "a b", "1234", "a\nb"}
	for _, n := range []int{63, 64, 65, 66, 128, 1000, 1001, 1 << 16} {
		out = append(out, filled("ab", n), filled("x", n))
	}
	return out
}

func TestMemoConstant(t *testing.T) {
	if impl.MaxMemo != 40 {
		t.Error("MaxMemo is another one")
	}
}

func TestNewMemo(t *testing.T) {
	for room := -3; room <= 45; room++ {
		m, ok := impl.NewMemo(room)
		if ok != (room >= 0 && room <= 40) || len(m.Notes) != 0 {
			t.Errorf("NewMemo(%d) = %v %v", room, m, ok)
		}
		if want := map[bool]int{true: room}[ok]; m.Room != want {
			t.Errorf("NewMemo(%d) has Room %d, want %d", room, m.Room, want)
		}
		if ok && !checkMemoOk(t, memoVocab(), m) {
			t.Errorf("NewMemo(%d) is not right", room)
		}
	}
	for _, room := range []int{math.MinInt, math.MinInt + 1, math.MinInt + 40, -1 << 32, -1<<32 + 1, -256, -41, -40, 80, 255, 256, 257, 1 << 16, 1 << 31, 1 << 32, 1<<32 + 1, 1<<32 + 40, math.MaxInt - 1, math.MaxInt} {
		if m, ok := impl.NewMemo(room); ok || m.Room != 0 || len(m.Notes) != 0 {
			t.Errorf("NewMemo(%d) = %v %v", room, m, ok)
		}
	}
}

func TestMemosWithoutNotes(t *testing.T) {
	for why, v := range rightVocabs() {
		for room := -2; room <= 43; room++ {
			for _, notes := range [][]impl.Note{nil, {}} {
				if right := checkMemoOk(t, v, impl.Memo{Room: room, Notes: notes}); right != (room >= 0 && room <= 40) {
					t.Errorf("%s: a memo of Room %d without Notes is right: %v", why, room, right)
				}
			}
		}
	}
	if !impl.MemoOk(impl.Vocab{}, impl.Memo{}) {
		t.Error("the zero Memo is not right for the zero vocabulary")
	}
	for _, room := range []int{math.MinInt, -1 << 32, -41, -40, -1, 41, 80, 1 << 32, 1<<32 + 5, math.MaxInt} {
		for _, words := range [][]string{nil, {"ab"}, manyWords(40)} {
			if checkMemoOk(t, memoVocab(), memoOf(memoVocab(), room, words...)) {
				t.Errorf("a memo of Room %d with %d Notes is right", room, len(words))
			}
		}
	}
}

// As many Notes as there is room for are right, one more isn't, for each Room.
func TestMemosUpToTheirRoom(t *testing.T) {
	v := memoVocab()
	for room := range 42 {
		for _, n := range []int{0, 1, room - 1, room, room + 1, room + 2, 40, 41, 60} {
			words := manyWords(max(n, 0))
			if right := checkMemoOk(t, v, memoOf(v, room, words...)); right != (room <= 40 && len(words) <= room) {
				t.Errorf("%d Notes in Room %d are right: %v", len(words), room, right)
			}
		}
	}
	if impl.MemoOk(v, impl.Memo{Room: 40, Notes: make([]impl.Note, 1<<20)}) {
		t.Error("very many Notes are right")
	}
}

func TestMemosByTheLengthOfTheirWords(t *testing.T) {
	for why, v := range rightVocabs() {
		for _, word := range wordEdges() {
			right := len(word) >= 1 && len(word) <= 64
			// Where there is no Bpe, the Toks are as empty as it.
			for _, words := range [][]string{{word}, {word, "other"}, {"other", word}, {"other", word, "another"}} {
				if got := checkMemoOk(t, v, memoOf(v, 3, words...)); got != right {
					t.Errorf("%s: a Note of %d bytes among %d is right: %v", why, len(word), len(words), got)
				}
			}
			if m := (impl.Memo{Room: 2, Notes: []impl.Note{{Word: word, Toks: bytesAsToks(word)}}}); len(word) > 64 && checkMemoOk(t, v, m) {
				t.Errorf("%s: a Note of %d bytes with its bytes is right", why, len(word))
			}
		}
	}
}

// Two Words alike are wrong at each two places, whether the Notes are next to one another or far apart.
func TestMemosWithTwoWordsAlike(t *testing.T) {
	v := memoVocab()
	for _, n := range []int{2, 3, 6, 40} {
		for i := range n {
			for j := range i {
				words := manyWords(n)
				if n == 40 && (i+j)%7 != 0 {
					continue
				}
				words[i] = words[j]
				if checkMemoOk(t, v, memoOf(v, 40, words...)) {
					t.Errorf("Notes %d and %d of %d are alike, and the memo is right", j, i, n)
				}
			}
		}
		if !checkMemoOk(t, v, memoOf(v, n, manyWords(n)...)) {
			t.Errorf("%d Notes in as much room are not right", n)
		}
	}
	// One Word is the beginning or the end of another one, or has its bytes in another order.
	for _, words := range [][]string{{"a", "ab", "abc"}, {"abc", "bc", "c"}, {"ab", "ba"}, {"ab", " ab", "ab "}, {"ab", "Ab", "aB"}, {"a", "aa", "aaa"}, {"\x00", "\x00\x00"}, {filled("ab", 63), filled("ab", 64)}} {
		if !checkMemoOk(t, v, memoOf(v, 5, words...)) {
			t.Errorf("a memo of %q is not right", words)
		}
	}
	if checkMemoOk(t, v, impl.Memo{Room: 5, Notes: []impl.Note{{Word: "ab", Toks: []int{256}}, {Word: "ab", Toks: []int{'a', 'b'}}}}) {
		t.Error("a Word with two Toks is right")
	}
}

// badToks: tokens that are not Bpe of a Word, made out of those that are.
func badToks(word string, toks []int) map[string][]int {
	last := len(toks) - 1
	out := map[string][]int{
		"none":                  nil,
		"the last one lacks":    toks[:last],
		"the first one lacks":   toks[1:],
		"one more behind":       append(slices.Clone(toks), 'x'),
		"one more ahead":        append([]int{'x'}, toks...),
		"a nought behind":       append(slices.Clone(toks), 0),
		"twice":                 append(slices.Clone(toks), toks...),
		"another last one":      append(slices.Clone(toks[:last]), toks[last]+1),
		"another first one":     append([]int{toks[0] - 1}, toks[1:]...),
		"below 0":               append(slices.Clone(toks[:last]), -1),
		"alike by its bits":     append(slices.Clone(toks[:last]), toks[last]+1<<32),
		"no token":              append(slices.Clone(toks[:last]), 400),
		"very many":             alike(toks[0], 1001),
		"the last one is other": append(slices.Clone(toks[:last]), 'q'),
	}
	if len(toks) < len(word) {
		out["not merged"] = bytesAsToks(word)
	}
	if turned := slices.Clone(toks); len(toks) > 1 {
		slices.Reverse(turned)
		if !slices.Equal(turned, toks) {
			out["turned round"] = turned
		}
	}
	return out
}

func TestMemosWithToksThatAreNotBpe(t *testing.T) {
	v := memoVocab()
	words := []string{"ab", "x", "abcab", " ab", "1212", "abx", "a"}
	for at, word := range words {
		for why, toks := range badToks(word, wantBpe(v, word)) {
			m := memoOf(v, 7, words...)
			m.Notes[at].Toks = toks
			if checkMemoOk(t, v, m) {
				t.Errorf("Note %d, %q with %v, is right: %s", at, word, toks, why)
			}
		}
		// The Toks of another Note are none of its own.
		for other := range words {
			m := memoOf(v, 7, words...)
			m.Notes[at].Toks = m.Notes[other].Toks
			if right := checkMemoOk(t, v, m); right != (other == at) {
				t.Errorf("Note %d with the Toks of Note %d is right: %v", at, other, right)
			}
		}
	}
	for why, toks := range map[string][]int{"merged in part": {256, 'c'}, "by another merge": {'a', 'b', 'c'}} {
		if checkMemoOk(t, v, impl.Memo{Room: 1, Notes: []impl.Note{{Word: "abc", Toks: toks}}}) {
			t.Errorf("abc with %v is right: %s", toks, why)
		}
	}
	// What merges first counts, not that it is the bytes and stable.
	if checkMemoOk(t, vocabOf('b', 'c', 'a', 'b'), impl.Memo{Room: 1, Notes: []impl.Note{{Word: "abc", Toks: []int{257, 'c'}}}}) {
		t.Error("abc by ab and c is right where bc merges first")
	}
	if !checkMemoOk(t, v, memoOf(v, 7, words...)) {
		t.Error("the memo of which these were made is not right")
	}
}

func TestMemosOfOtherVocabs(t *testing.T) {
	v := memoVocab()
	m := memoOf(v, 5, "ab", "x", "abc", "zz")
	for _, c := range []struct {
		why   string
		v     impl.Vocab
		right bool
	}{
		{"its own", v, true},
		{"a merge more that these words don't have", impl.Vocab{Merges: append(slices.Clone(v.Merges), impl.Pair{A: 'q', B: 'q'})}, true},
		{"as many merges as these words have", vocabOf('a', 'b', 256, 'c'), true},
		{"none", impl.Vocab{}, false},
		{"a merge less", vocabOf('a', 'b'), false},
		{"a merge more of one of these words", impl.Vocab{Merges: append(slices.Clone(v.Merges), impl.Pair{A: 'z', B: 'z'})}, false},
		{"the same merges in another order", vocabOf(' ', 'a', 'a', 'b', 257, 'c', ' ', 257, '1', '2'), false},
		{"other merges", vocabOf('b', 'c', 'a', 256), false},
	} {
		if right := checkMemoOk(t, c.v, m); right != c.right {
			t.Errorf("%s: the memo is right: %v", c.why, right)
		}
		if got, toks, was := checkRecall(t, c.v, m, "x"); (len(got.Notes) == 4) != c.right || was != c.right || (len(toks) == 1) != c.right {
			t.Errorf("%s: Recall = %v %v %v", c.why, got, toks, was)
		}
		if _, _, code := checkEncodeMemo(t, c.v, m, "x"); (code == impl.EnOk) != c.right {
			t.Errorf("%s: EncodeMemo says %d", c.why, code)
		}
	}
}

// wrongMemo: a memo that is not right for a vocabulary, and why.
type wrongMemo struct {
	why string
	v   impl.Vocab
	m   impl.Memo
}

func wrongMemos() []wrongMemo {
	v := memoVocab()
	note := func(word string, toks ...int) []impl.Note { return []impl.Note{{Word: word, Toks: toks}} }
	out := []wrongMemo{
		{"Room below 0", v, impl.Memo{Room: -1}},
		{"Room below 0 and a Note", v, memoOf(v, -1, "ab")},
		{"Room far below 0", v, impl.Memo{Room: math.MinInt}},
		{"Room above MaxMemo", v, memoOf(v, 41, "ab", "x")},
		{"Room far above MaxMemo", v, memoOf(v, math.MaxInt, "ab", "x")},
		{"a Note without room", v, memoOf(v, 0, "ab")},
		{"a Note more than Room", v, memoOf(v, 2, "ab", "x", "abc")},
		{"a Note more than MaxMemo", v, memoOf(v, 40, manyWords(41)...)},
		{"a Word without bytes", v, impl.Memo{Room: 3, Notes: note("")}},
		{"a Word that is too long", v, impl.Memo{Room: 3, Notes: note(filled("x", 65))}},
		{"a Word that is too long, with its bytes", v, impl.Memo{Room: 3, Notes: note(filled("x", 65), alike('x', 65)...)}},
		{"two Words alike", v, memoOf(v, 3, "ab", "x", "ab")},
		{"no Toks", v, impl.Memo{Room: 3, Notes: note("ab")}},
		{"Toks that are not merged", v, impl.Memo{Room: 3, Notes: note("ab", 'a', 'b')}},
		{"a token too many", v, impl.Memo{Room: 3, Notes: note("ab", 256, 'a')}},
		{"another token", v, impl.Memo{Room: 3, Notes: note("ab", 257)}},
		{"of another vocabulary", v, impl.Memo{Room: 3, Notes: note("zz", 256)}},
	}
	for _, w := range wrongVocabs() {
		out = append(out,
			wrongMemo{w.why, w.v, impl.Memo{}},
			wrongMemo{w.why, w.v, impl.Memo{Room: 3}},
			wrongMemo{w.why, w.v, impl.Memo{Room: 3, Notes: note("ab", 'a', 'b')}},
			wrongMemo{w.why, w.v, impl.Memo{Room: 3, Notes: note("ab")}},
			wrongMemo{w.why, w.v, impl.Memo{Room: -1}})
	}
	return out
}

// Of a memo that is not right nothing is told, whatever else is handed in: also where the word or the text is too long.
func TestMemosThatAreNotRight(t *testing.T) {
	for _, w := range wrongMemos() {
		if checkMemoOk(t, w.v, w.m) {
			t.Errorf("%s: %v is right", w.why, w.m)
		}
		for _, word := range []string{"", "a", "ab", "x", "new", filled("x", 64), filled("x", 65), filled("x", 1<<16)} {
			got, toks, was := checkRecall(t, w.v, w.m, word)
			if got.Room != 0 || len(got.Notes) != 0 || len(toks) != 0 || was {
				t.Errorf("%s: Recall(%q) = %v %v %v", brief(w.why, word, got, toks, was)...)
			}
		}
		for _, s := range []string{"", "a", "ab", "ab x 12", filled("ab ", 1000), filled("ab ", 1001), filled("a", 1<<16)} {
			got, toks, code := checkEncodeMemo(t, w.v, w.m, s)
			if got.Room != 0 || len(got.Notes) != 0 || len(toks) != 0 || code != impl.EnBad {
				t.Errorf("%s: EncodeMemo(%q) = %v %v %v", brief(w.why, s, got, toks, code)...)
			}
		}
	}
}

func TestRecallOfKnownWords(t *testing.T) {
	v := memoVocab()
	for _, c := range []struct {
		why   string
		room  int
		words []string
		word  string
		toks  []int
		was   bool
		after []string
	}{
		{"the first one", 4, []string{"ab", "x", "abc"}, "ab", []int{256}, true, []string{"ab", "x", "abc"}},
		{"one in the middle", 4, []string{"ab", "x", "abc"}, "x", []int{'x'}, true, []string{"x", "ab", "abc"}},
		{"the last one", 4, []string{"ab", "x", "abc"}, "abc", []int{257}, true, []string{"abc", "ab", "x"}},
		{"a new one, and room", 4, []string{"ab", "x", "abc"}, "12", []int{260}, false, []string{"12", "ab", "x", "abc"}},
		{"a new one, and much room", 40, []string{"ab"}, " ab", []int{259}, false, []string{" ab", "ab"}},
		{"a new one into an empty memo", 4, nil, "abab", []int{256, 256}, false, []string{"abab"}},
		{"a new one, no room", 3, []string{"ab", "x", "abc"}, "12", []int{260}, false, []string{"12", "ab", "x"}},
		{"the first one, no room", 3, []string{"ab", "x", "abc"}, "ab", []int{256}, true, []string{"ab", "x", "abc"}},
		{"one in the middle, no room", 3, []string{"ab", "x", "abc"}, "x", []int{'x'}, true, []string{"x", "ab", "abc"}},
		{"the last one, no room", 3, []string{"ab", "x", "abc"}, "abc", []int{257}, true, []string{"abc", "ab", "x"}},
		{"Room 2, the last one", 2, []string{"ab", "x"}, "x", []int{'x'}, true, []string{"x", "ab"}},
		{"Room 2, a new one", 2, []string{"ab", "x"}, "y", []int{'y'}, false, []string{"y", "ab"}},
		{"Room 1, nothing", 1, nil, "ab", []int{256}, false, []string{"ab"}},
		{"Room 1, a new one", 1, []string{"ab"}, "x", []int{'x'}, false, []string{"x"}},
		{"Room 1, the same one", 1, []string{"ab"}, "ab", []int{256}, true, []string{"ab"}},
		{"Room 0", 0, nil, "ab", []int{256}, false, nil},
		{"Room 0, the longest word", 0, nil, filled("ab", 64), alike(256, 32), false, nil},
		{"the longest word", 2, []string{"ab"}, filled("ab", 64), alike(256, 32), false, []string{filled("ab", 64), "ab"}},
		{"a byte more", 2, []string{"ab"}, filled("ab", 65), nil, false, []string{"ab"}},
		{"no byte", 2, []string{"ab"}, "", nil, false, []string{"ab"}},
		{"no byte, no room", 1, []string{"ab"}, "", nil, false, []string{"ab"}},
		{"no byte, Room 0", 0, nil, "", nil, false, nil},
		{"too long, Room 0", 0, nil, filled("x", 65), nil, false, nil},
		{"too long, no room", 3, []string{"ab", "x", "abc"}, filled("x", 65), nil, false, []string{"ab", "x", "abc"}},
		{"the beginning of a word", 4, []string{"abc", "x"}, "ab", []int{256}, false, []string{"ab", "abc", "x"}},
		{"a word and more", 4, []string{"ab", "x"}, "abc", []int{257}, false, []string{"abc", "ab", "x"}},
		{"a word with a blank ahead", 4, []string{"ab", "x"}, " ab", []int{259}, false, []string{" ab", "ab", "x"}},
		{"what Cut would cut", 4, []string{"x"}, "ab ab", []int{256, 259}, false, []string{"ab ab", "x"}},
		{"noughts", 4, []string{"\x00", "\x00\x00"}, "\x00\x00", []int{0, 0}, true, []string{"\x00\x00", "\x00"}},
	} {
		m := memoOf(v, c.room, c.words...)
		got, toks, was := checkRecall(t, v, m, c.word)
		if !slices.Equal(toks, c.toks) || was != c.was || !slices.Equal(memoWords(got), c.after) || got.Room != c.room {
			t.Errorf("%s: Recall(%q) = %v %v %v", c.why, c.word, got, toks, was)
		}
		if !checkMemoOk(t, v, got) {
			t.Errorf("%s: %v is not right", c.why, got)
		}
	}
}

// In memos of each size the word at each place is recalled, and a new one, with room for one more and without.
func TestRecallAtEachPlace(t *testing.T) {
	v := memoVocab()
	for _, n := range []int{0, 1, 2, 3, 4, 5, 10, 39, 40} {
		words := manyWords(n)
		for room := n; room <= min(n+1, 40); room++ {
			for at, word := range words {
				got, _, was := checkRecall(t, v, memoOf(v, room, words...), word)
				want := slices.Concat([]string{word}, words[:at], words[at+1:])
				if !was || !slices.Equal(memoWords(got), want) {
					t.Errorf("Recall of word %d of %d = %q %v", at, n, memoWords(got), was)
				}
			}
			got, toks, was := checkRecall(t, v, memoOf(v, room, words...), "new")
			want := append([]string{"new"}, words...)[:min(n+1, room)]
			if was || !slices.Equal(memoWords(got), want) || !slices.Equal(toks, []int{'n', 'e', 'w'}) {
				t.Errorf("Recall of a new word by %d of %d = %q %v %v", n, room, memoWords(got), toks, was)
			}
		}
	}
}

func TestRecallOfTextsThatAreNoWords(t *testing.T) {
	for why, v := range rightVocabs() {
		for _, word := range wordEdges() {
			for _, m := range []impl.Memo{{}, {Room: 40}, memoOf(v, 2, "ab"), memoOf(v, 2, "ab", "x"), memoOf(v, 1, filled("ab", 64))} {
				got, toks, was := checkRecall(t, v, m, word)
				if right := len(word) >= 1 && len(word) <= 64; (len(toks) > 0) != right || !right && (was || !sameMemo(got, m)) {
					t.Errorf("%s: Recall(%v, %d bytes) = %v %v %v", why, m, len(word), got, toks, was)
				}
			}
		}
	}
}

// All orders in which a few words come: the Notes are those that came last, the last one first.
func TestNotesAreTheWordsThatCameLast(t *testing.T) {
	v := memoVocab()
	names := map[byte]string{'a': "a", 'b': "ab", 'c': "abc", 'd': " ab"}
	for room := range 4 {
		for _, order := range textsOver("abcd", 5) {
			m := impl.Memo{Room: room}
			var came []string
			for _, b := range []byte(order) {
				word := names[b]
				was := slices.Contains(memoWords(m), word)
				next, toks, there := impl.Recall(v, m, word)
				if there != was || !slices.Equal(toks, wantBpe(v, word)) {
					t.Fatalf("Recall of %q behind %q = %v %v", word, came, toks, there)
				}
				m = next
				came = append(came, word)
			}
			if want := lastWords(v, impl.Memo{Room: room}, came); !sameNotes(m.Notes, want) || m.Room != room {
				t.Fatalf("behind %q the memo is %v, want %v", came, m, want)
			}
		}
	}
}

// A long row of words, by one memo, as a client would: each step holds against the words.
func TestRecallOfAnyWords(t *testing.T) {
	r := dice(10)
	seen, gone := 0, 0
	for range 40 {
		kinds := 1 + r.roll(3)
		v := r.learned(kinds, r.roll(20))
		m, _ := impl.NewMemo([]int{0, 1, 2, 5, 12, 40}[r.roll(6)])
		for range 60 {
			word := r.word(kinds, r.roll(4))
			if r.roll(12) == 0 {
				word = r.word(kinds, 60+r.roll(8))
			}
			next, _, was := checkRecall(t, v, m, word)
			if was {
				seen++
			}
			if !was && len(next.Notes) == len(m.Notes) && len(m.Notes) > 0 {
				gone++
			}
			m = next
		}
		checkMemoOk(t, v, m)
	}
	if seen < 500 || gone < 100 {
		t.Errorf("%d words were there, %d Notes went", seen, gone)
	}
}

func TestEncodeMemoOfKnownTexts(t *testing.T) {
	v := memoVocab()
	text := "ab ab 1212 ab"
	toks := []int{256, 259, ' ', 260, '1', '2', 259}
	for _, c := range []struct {
		why   string
		room  int
		words []string
		s     string
		toks  []int
		after []string
	}{
		{"Room 0", 0, nil, text, toks, nil},
		{"Room 1", 1, nil, text, toks, []string{" ab"}},
		{"Room 1, another one", 1, []string{"x"}, text, toks, []string{" ab"}},
		{"Room 2", 2, nil, text, toks, []string{" ab", "2"}},
		{"less than the words", 3, []string{"ab", "x"}, text, toks, []string{" ab", "2", "121"}},
		{"as many as the words", 5, nil, text, toks, []string{" ab", "2", "121", " ", "ab"}},
		{"as many as the words, others there", 5, []string{"x", "y", "z"}, text, toks, []string{" ab", "2", "121", " ", "ab"}},
		{"one more than the words, others there", 6, []string{"x", "y", "z"}, text, toks, []string{" ab", "2", "121", " ", "ab", "x"}},
		{"words that are there", 6, []string{"x", "121", "y", "ab"}, text, toks, []string{" ab", "2", "121", " ", "ab", "x"}},
		{"much room", 40, []string{"x", "2", "y"}, text, toks, []string{" ab", "2", "121", " ", "ab", "x", "y"}},
		{"no text", 3, []string{"x", "ab"}, "", nil, []string{"x", "ab"}},
		{"no text, Room 0", 0, nil, "", nil, nil},
		{"no text, no room", 2, []string{"x", "ab"}, "", nil, []string{"x", "ab"}},
		{"one word again and again", 2, []string{"x"}, "x x x", []int{'x', ' ', 'x', ' ', 'x'}, []string{" x", "x"}},
		{"a word twice side by side", 3, nil, "123123", []int{260, '3', 260, '3'}, []string{"123"}},
		{"Room 1, two by turns", 1, nil, "a!a!a", []int{'a', '!', 'a', '!', 'a'}, []string{"a"}},
		{"Room 2, two by turns", 2, nil, "a!a!a", []int{'a', '!', 'a', '!', 'a'}, []string{"a", "!"}},
		{"merges never cross", 3, nil, "a ab 1 2", []int{'a', 259, ' ', '1', ' ', '2'}, []string{"2", " ", "1"}},
		{"a long word", 3, nil, filled("ab", 66), append(alike(256, 32), 256), []string{"ab", filled("ab", 64)}},
	} {
		got, toks, code := checkEncodeMemo(t, v, memoOf(v, c.room, c.words...), c.s)
		if code != impl.EnOk || !slices.Equal(toks, c.toks) || !slices.Equal(memoWords(got), c.after) || got.Room != c.room {
			t.Errorf("%s: EncodeMemo(%q) = %q %v %v", c.why, c.s, memoWords(got), toks, code)
		}
	}
}

// A text of MaxLine bytes is encoded, of one with a byte more nothing is told and the memo stays as it is.
func TestEncodeMemoUpToMaxLine(t *testing.T) {
	v := memoVocab()
	memos := []impl.Memo{{}, {Room: 1}, {Room: 40}, memoOf(v, 3, "ab", "x"), memoOf(v, 2, "ab", "x"), memoOf(v, 40, manyWords(40)...)}
	for _, m := range memos {
		for _, s := range []string{"a", "ab ", " ", "1", "ab 12!\n", "\x00"} {
			for _, n := range []int{998, 999, 1000, 1001, 1002, 2000, 1 << 16} {
				got, toks, code := checkEncodeMemo(t, v, m, filled(s, n))
				if n > 1000 && (code != impl.EnLarge || len(toks) != 0 || !sameMemo(got, m)) {
					t.Errorf("EncodeMemo of %d bytes of %q by %v = %v %v %v", brief(n, s, m, got, toks, code)...)
				}
				if n <= 1000 && (code != impl.EnOk || len(toks) == 0 || len(got.Notes) > m.Room) {
					t.Errorf("EncodeMemo of %d bytes of %q by %v = %v %v %v", brief(n, s, m, got, toks, code)...)
				}
			}
		}
	}
}

// As many words as a text can have go through memos of each Room.
func TestEncodeMemoOfManyWords(t *testing.T) {
	v := memoVocab()
	s := filled(strings.Join(manyWords(100), " "), 1000)
	for room := range 41 {
		got, _, _ := checkEncodeMemo(t, v, memoOf(v, room), s)
		if len(got.Notes) != room {
			t.Errorf("Room %d: %d Notes", room, len(got.Notes))
		}
		full := memoOf(v, room, manyWords(room)...)
		if got, _, _ := checkEncodeMemo(t, v, full, filled("x!", 1000)); len(got.Notes) != room {
			t.Errorf("Room %d: %d Notes of many", room, len(got.Notes))
		}
	}
}

func TestEncodeMemoOfAnyTexts(t *testing.T) {
	r := dice(40)
	for range 60 {
		kinds := 1 + r.roll(3)
		v := r.learned(kinds, r.roll(30))
		m, _ := impl.NewMemo([]int{0, 1, 2, 7, 40}[r.roll(5)])
		for range 4 {
			var s strings.Builder
			for size := r.roll(150); s.Len() < size; {
				s.WriteString([]string{" ", "", "1", "\n", "!", "  "}[r.roll(6)])
				s.WriteString(r.word(kinds, r.roll(5)))
			}
			m, _, _ = checkEncodeMemo(t, v, m, s.String())
			m, _, _ = checkEncodeMemo(t, v, m, r.line(200))
		}
	}
}

func TestMemosByEachRightVocab(t *testing.T) {
	for why, v := range rightVocabs() {
		for _, room := range []int{0, 1, 4, 40} {
			m := impl.Memo{Room: room}
			for _, s := range []string{"ab abc", "", "abcd aabb  ab 12", "ab abc", strings.Repeat("x", 200), "\x00\x00 \xff\xff"} {
				got, _, code := checkEncodeMemo(t, v, m, s)
				if code != impl.EnOk {
					t.Errorf("%s: EncodeMemo(%q) says %d", why, s, code)
				}
				m = got
			}
			if !checkMemoOk(t, v, m) {
				t.Errorf("%s: %v is not right", why, m)
			}
		}
	}
}

// writeOver puts something else at each place of a memo, and behind.
func writeOver(m impl.Memo) {
	for i := range m.Notes {
		toks := m.Notes[i].Toks[:cap(m.Notes[i].Toks)]
		for k := range toks {
			toks[k] = -1
		}
	}
	notes := m.Notes[:cap(m.Notes)]
	for i := range notes {
		notes[i] = impl.Note{Word: "written over"}
	}
}

// What one call answered stays, whatever is asked then and whatever is written into what was handed in or answered.
func TestMemosOfOneCallAreApart(t *testing.T) {
	v := memoVocab()
	m := memoOf(v, 4, "ab", "x", "abc", " ab")
	for _, word := range []string{"ab", "x", "abc", " ab", "a", "new", "", filled("x", 65)} {
		inV, in, inWord := copyVocab(v), copyMemo(m), strings.Clone(word)
		first, toks, _ := impl.Recall(inV, in, inWord)
		second, again, _ := impl.Recall(inV, in, inWord)
		third, line, _ := impl.EncodeMemo(inV, in, inWord)
		fourth, next, _ := impl.EncodeMemo(inV, in, inWord)
		if !apart([]impl.Memo{in, first, second, third, fourth}, [][]int{toks, again, line, next}, inWord) {
			t.Fatalf("answers of %q share memory", word)
		}
		want, wantToks, _ := wantRecall(v, m, word)
		wantLast, wantLine, _ := wantEncodeMemo(v, m, word)
		writeOver(in)
		writeOver(first)
		writeOver(third)
		for i := range inV.Merges {
			inV.Merges[i] = impl.Pair{A: -1, B: -1}
		}
		for _, l := range [][]int{toks, line} {
			for i := range l {
				l[i] = -1
			}
		}
		if !sameMemo(second, want) || !slices.Equal(again, wantToks) {
			t.Fatalf("what Recall of %q answered changed: %v %v", word, second, again)
		}
		if !sameMemo(fourth, wantLast) || !slices.Equal(next, wantLine) {
			t.Fatalf("what EncodeMemo of %q answered changed: %v %v", word, fourth, next)
		}
		checkRecall(t, v, m, word)
		checkEncodeMemo(t, v, m, word)
	}
	large, _, _ := impl.EncodeMemo(v, m, filled("a", 1001))
	writeOver(large)
	if !sameMemo(m, memoOf(v, 4, "ab", "x", "abc", " ab")) {
		t.Error("the memo that a text too long leaves is the one that was handed in")
	}
}

// A memo is all that is kept: no word, and no tokens of another vocabulary, are known to the next call.
func TestMemosKeepNothing(t *testing.T) {
	v, other := memoVocab(), vocabOf('x', 'y', 'b', 'c')
	for range 3 {
		for _, c := range []struct {
			v    impl.Vocab
			want []int
		}{{v, []int{257}}, {other, []int{'a', 257}}, {impl.Vocab{}, []int{'a', 'b', 'c'}}} {
			m, toks, was := impl.Recall(c.v, impl.Memo{Room: 2}, "abc")
			if was || !slices.Equal(toks, c.want) || len(m.Notes) != 1 {
				t.Errorf("Recall by %v = %v %v %v", c.v, m, toks, was)
			}
			if _, _, was := impl.Recall(c.v, m, "abc"); !was {
				t.Errorf("Recall by %v doesn't know its word", c.v)
			}
			if _, toks, code := impl.EncodeMemo(c.v, impl.Memo{Room: 2}, "abc"); code != impl.EnOk || !slices.Equal(toks, c.want) {
				t.Errorf("EncodeMemo by %v = %v %v", c.v, toks, code)
			}
		}
	}
}
