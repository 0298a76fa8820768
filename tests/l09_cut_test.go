package tests

import (
	"math"
	"slices"
	"strings"
	"testing"

	"loop.example/g00358/impl"
)

// wantClass: the Class of a byte by the words, as a number.
func wantClass(b int) int {
	switch {
	case b < 0 || b > 255:
		return 0
	case b > 127 || strings.IndexByte("abcdefghijklmnopqrstuvwxyzABCDEFGHIJKLMNOPQRSTUVWXYZ", byte(b)) >= 0:
		return 1
	case strings.IndexByte("0123456789", byte(b)) >= 0:
		return 2
	case b == 9 || b == 10 || b == 13 || b == 32:
		return 3
	}
	return 4
}

// wantRun: how many bytes of one Class stand at the beginning.
func wantRun(s string) int {
	n := 0
	for n < len(s) && wantClass(int(s[n])) == wantClass(int(s[0])) {
		n++
	}
	return n
}

// wantWord: the word that a text begins with, as long as it would be without a limit.
func wantWord(s string) string {
	run := wantRun(s)
	rest := s[run:]
	switch wantClass(int(s[0])) {
	case 2:
		return s[:min(run, 3)]
	case 3:
		if rest == "" || wantClass(int(rest[0])) == 2 || s[run-1] != 32 {
			return s[:run]
		}
		if run == 1 {
			return s[:1+wantRun(rest)]
		}
		return s[:run-1]
	}
	return s[:run]
}

func wantCut(s string) []string {
	if len(s) > 1000 {
		return nil
	}
	var out []string
	for s != "" {
		word := wantWord(s)
		word = word[:min(len(word), 64)]
		out = append(out, word)
		s = s[len(word):]
	}
	return out
}

func wantEncode(v impl.Vocab, s string) ([]int, int) {
	if _, ok := wantTokens(v); !ok {
		return nil, 1
	}
	if len(s) > 1000 {
		return nil, 2
	}
	var out []int
	for _, word := range wantCut(s) {
		out = append(out, wantBpe(v, word)...)
	}
	return out, 0
}

// checkCut holds Cut against the words, and its words against what is promised of them.
func checkCut(t *testing.T, s string) []string {
	t.Helper()
	in := strings.Clone(s)
	got := impl.Cut(in)
	if want := wantCut(s); !slices.Equal(got, want) {
		t.Fatalf("Cut(%q) = %q, want %q", s, got, want)
	}
	if len(s) <= 1000 && strings.Join(got, "") != s {
		t.Fatalf("the words of %q are %q", s, got)
	}
	for i, word := range got {
		if len(word) < 1 || len(word) > 64 {
			t.Fatalf("Cut(%q): word %d has %d bytes", s, i, len(word))
		}
		if again := impl.Cut(word); len(again) != 1 || again[0] != word {
			t.Fatalf("Cut(%q): word %d, %q, by itself is cut to %q", s, i, word, again)
		}
	}
	if in != s || shareWithin(got) || shareText(got, []string{in}) {
		t.Fatalf("Cut(%q) writes into it, or its words share memory", s)
	}
	return got
}

// checkEncode holds Encode against the words, against Bpe of each word, and against Decode and Ends.
func checkEncode(t *testing.T, v impl.Vocab, s string) []int {
	t.Helper()
	inV, in := copyVocab(v), strings.Clone(s)
	got, code := impl.Encode(inV, in)
	want, wantCode := wantEncode(v, s)
	if code != wantCode || !slices.Equal(got, want) {
		t.Fatalf("Encode(%v, %q) = %v %v, want %v %v", brief(v, s, got, code, want, wantCode)...)
	}
	if vocabTouched(inV, v) || in != s {
		t.Fatalf("Encode(%v, %q) writes into what it was handed", brief(v, s)...)
	}
	if wantCode != 0 {
		return got
	}
	var words []int
	for _, word := range impl.Cut(s) {
		words = append(words, impl.Bpe(v, word)...)
	}
	if !slices.Equal(got, words) {
		t.Fatalf("Encode(%v, %q) = %v, Bpe of its words %v", brief(v, s, got, words)...)
	}
	if text, ok := impl.Decode(v, got); !ok || text != s {
		t.Fatalf("Decode of Encode(%v, %q) = %q %v", brief(v, s, text, ok)...)
	}
	ends, ok := impl.Ends(v, got)
	if !ok || len(ends) != len(got) || len(ends) > 0 && ends[len(ends)-1] != len(s) || len(ends) == 0 && s != "" {
		t.Fatalf("Ends of Encode(%v, %q) = %v %v", brief(v, s, ends, ok)...)
	}
	return got
}

// kinds: texts of one Class each, by its number.
func kinds() map[int][]string {
	return map[int][]string{
		1: {"a", "z", "A", "Z", "\x80", "\xff", "aZ", "é", "x\xffQ"},
		2: {"0", "9", "5", "09", "123"},
		3: {" ", "\t", "\n", "\r", "\r\n", " \t", "\t "},
		4: {"\x00", "!", "/", ":", "@", "[", "_", "`", "{", "\x7f", "\x0b", "\x0c", ".,"},
	}
}

// filled: so many bytes of a text that is put behind itself.
func filled(s string, n int) string {
	return strings.Repeat(s, n/len(s)+1)[:n]
}

func TestCutConstants(t *testing.T) {
	if impl.MaxLine != 1000 {
		t.Error("MaxLine is another one")
	}
	if impl.ClLetter != 1 || impl.ClDigit != 2 || impl.ClBlank != 3 || impl.ClOther != 4 {
		t.Error("the Classes are other numbers")
	}
	if impl.EnOk != 0 || impl.EnBad != 1 || impl.EnLarge != 2 {
		t.Error("the codes of Encode are other numbers")
	}
}

func TestClassOfEachNumber(t *testing.T) {
	counts := map[int]int{}
	for b := -1; b <= 256; b++ {
		if got, want := impl.Class(b), wantClass(b); got != want {
			t.Errorf("Class(%d) = %d, want %d", b, got, want)
		}
		counts[impl.Class(b)]++
	}
	for class, n := range map[int]int{0: 2, impl.ClLetter: 52 + 128, impl.ClDigit: 10, impl.ClBlank: 4, impl.ClOther: 62} {
		if counts[class] != n {
			t.Errorf("%d numbers from -1 to 256 have Class %d, want %d", counts[class], class, n)
		}
	}
}

func TestClassAtItsBounds(t *testing.T) {
	for class, numbers := range map[int][]int{
		impl.ClLetter: {'a', 'm', 'z', 'A', 'M', 'Z', 128, 129, 160, 254, 255},
		impl.ClDigit:  {'0', '5', '9'},
		impl.ClBlank:  {9, 10, 13, 32},
		impl.ClOther:  {0, 1, 8, 11, 12, 14, 31, 33, '/', ':', '@', '[', '_', '`', '{', 126, 127},
		0:             {-1, 256},
	} {
		for _, b := range numbers {
			if got := impl.Class(b); got != class {
				t.Errorf("Class(%d) = %d, want %d", b, got, class)
			}
		}
	}
}

// A number that isn't a byte has no Class, though its last eight bits are one.
func TestClassOfNumbersFarOutside(t *testing.T) {
	for _, far := range []int{1 << 8, 1 << 9, 1 << 16, 1 << 31, 1 << 32, 1 << 40, 1 << 62, -1 << 8, -1 << 16, -1 << 32, math.MinInt} {
		for _, b := range []int{0, 9, 10, 13, 32, '0', '9', 'A', 'Z', 'a', 'z', 127, 128, 255} {
			if got := impl.Class(far + b); got != 0 {
				t.Errorf("Class(%d) = %d", far+b, got)
			}
		}
	}
	for _, b := range []int{math.MinInt, math.MinInt + 1, -97, -33, -32, -10, -2, 257, 258, math.MaxInt - 1, math.MaxInt} {
		if got := impl.Class(b); got != 0 {
			t.Errorf("Class(%d) = %d", b, got)
		}
	}
}

func TestCutOfNothingAndOfEachByte(t *testing.T) {
	if got := checkCut(t, ""); len(got) != 0 {
		t.Errorf("the empty text has the words %q", got)
	}
	for b := range 256 {
		s := string([]byte{byte(b)})
		if got := checkCut(t, s); len(got) != 1 || got[0] != s {
			t.Errorf("byte %d is cut to %q", b, got)
		}
	}
}

// Of each two bytes it is known whether they are one word.
func TestCutOfEachTwoBytes(t *testing.T) {
	for a := range 256 {
		for b := range 256 {
			s := string([]byte{byte(a), byte(b)})
			one := wantClass(a) == wantClass(b) || a == 32 && wantClass(b)%3 == 1
			if got := checkCut(t, s); (len(got) == 1) != one {
				t.Fatalf("Cut(%q) = %q", s, got)
			}
		}
	}
}

func TestCutOfDigits(t *testing.T) {
	for s, want := range map[string][]string{
		"1":                     {"1"},
		"12":                    {"12"},
		"123":                   {"123"},
		"1234":                  {"123", "4"},
		"12345":                 {"123", "45"},
		"123456":                {"123", "456"},
		"1234567":               {"123", "456", "7"},
		"0000000000":            {"000", "000", "000", "0"},
		"a1b":                   {"a", "1", "b"},
		"a123b":                 {"a", "123", "b"},
		"a1234b":                {"a", "123", "4", "b"},
		"ab1234567cd":           {"ab", "123", "456", "7", "cd"},
		"1a2b":                  {"1", "a", "2", "b"},
		"1.5":                   {"1", ".", "5"},
		"12.3456":               {"12", ".", "345", "6"},
		"123\xff456":            {"123", "\xff", "456"},
		"1 2":                   {"1", " ", "2"},
		"1234 5678":             {"123", "4", " ", "567", "8"},
		"\xd9\xa1\xd9\xa2 \xc2": {"\xd9\xa1\xd9\xa2", " \xc2"},
	} {
		if got := checkCut(t, s); !slices.Equal(got, want) {
			t.Errorf("Cut(%q) = %q, want %q", s, got, want)
		}
	}
}

func TestCutOfLettersAndOthers(t *testing.T) {
	for s, want := range map[string][]string{
		"ab":               {"ab"},
		"aB":               {"aB"},
		"aZ\x80\xffq":      {"aZ\x80\xffq"},
		"straße":           {"straße"},
		"日本語":              {"日本語"},
		"日本語,は":            {"日本語", ",", "は"},
		"!?":               {"!?"},
		"\x00\x01\x7f":     {"\x00\x01\x7f"},
		"\x0b\x0c":         {"\x0b\x0c"},
		"ab!":              {"ab", "!"},
		"!ab":              {"!", "ab"},
		"a!b!c":            {"a", "!", "b", "!", "c"},
		"ab!?cd":           {"ab", "!?", "cd"},
		"don't":            {"don", "'", "t"},
		"snake_case":       {"snake", "_", "case"},
		"f(x)=[y];":        {"f", "(", "x", ")=[", "y", "];"},
		"a\x7fb\x80\x00":   {"a", "\x7f", "b\x80", "\x00"},
		"a1!b2?":           {"a", "1", "!", "b", "2", "?"},
		"!1?2":             {"!", "1", "?", "2"},
		"@A[Z`a{z/0:9":     {"@", "A", "[", "Z", "`", "a", "{", "z", "/", "0", ":", "9"},
		"a\x0bb\x0cc\x00d": {"a", "\x0b", "b", "\x0c", "c", "\x00", "d"},
	} {
		if got := checkCut(t, s); !slices.Equal(got, want) {
			t.Errorf("Cut(%q) = %q, want %q", s, got, want)
		}
	}
}

func TestCutOfOneBlank(t *testing.T) {
	for s, want := range map[string][]string{
		" a":         {" a"},
		" ab":        {" ab"},
		" ab c":      {" ab", " c"},
		"a b c":      {"a", " b", " c"},
		" \xff":      {" \xff"},
		" !":         {" !"},
		" !?":        {" !?"},
		"a !b":       {"a", " !", "b"},
		" a!":        {" a", "!"},
		" !a":        {" !", "a"},
		" \x00 \x7f": {" \x00", " \x7f"},
		" 1":         {" ", "1"},
		" 1234":      {" ", "123", "4"},
		"a 1 b":      {"a", " ", "1", " b"},
		" a1":        {" a", "1"},
		" !1":        {" !", "1"},
		" ":          {" "},
		"a ":         {"a", " "},
		"1 ":         {"1", " "},
		"! ":         {"!", " "},
		" a ":        {" a", " "},
		"\ta":        {"\t", "a"},
		"\na":        {"\n", "a"},
		"\ra":        {"\r", "a"},
		"\t!":        {"\t", "!"},
		"\n!":        {"\n", "!"},
		"\r!":        {"\r", "!"},
		"\t1":        {"\t", "1"},
		"a\n":        {"a", "\n"},
		"\x0ba":      {"\x0b", "a"},
		" \x0ba":     {" \x0b", "a"},
	} {
		if got := checkCut(t, s); !slices.Equal(got, want) {
			t.Errorf("Cut(%q) = %q, want %q", s, got, want)
		}
	}
}

func TestCutOfMoreBlanks(t *testing.T) {
	for s, want := range map[string][]string{
		"  ":           {"  "},
		"a  ":          {"a", "  "},
		"  a":          {" ", " a"},
		"  !":          {" ", " !"},
		"  1":          {"  ", "1"},
		"   a":         {"  ", " a"},
		"   !":         {"  ", " !"},
		"   1":         {"   ", "1"},
		"a   b":        {"a", "  ", " b"},
		"a   1b":       {"a", "   ", "1", "b"},
		" \ta":         {" \t", "a"},
		" \na":         {" \n", "a"},
		" \ra":         {" \r", "a"},
		" \t!":         {" \t", "!"},
		" \n1":         {" \n", "1"},
		"\t a":         {"\t", " a"},
		"\n a":         {"\n", " a"},
		"\r a":         {"\r", " a"},
		"\t !":         {"\t", " !"},
		"\t 1":         {"\t ", "1"},
		"\t\ta":        {"\t\t", "a"},
		"\r\na":        {"\r\n", "a"},
		"\r\n a":       {"\r\n", " a"},
		"\r\n  a":      {"\r\n ", " a"},
		"\r\n  1":      {"\r\n  ", "1"},
		" \t \n a":     {" \t \n", " a"},
		" \t \n  !":    {" \t \n ", " !"},
		" \t \n \r!":   {" \t \n \r", "!"},
		" \t \n":       {" \t \n"},
		"\n\n":         {"\n\n"},
		"a\n\n  b\n":   {"a", "\n\n ", " b", "\n"},
		"x = 1\n\ty":   {"x", " =", " ", "1", "\n\t", "y"},
		"if  (a) {\n ": {"if", " ", " (", "a", ")", " {", "\n "},
	} {
		if got := checkCut(t, s); !slices.Equal(got, want) {
			t.Errorf("Cut(%q) = %q, want %q", s, got, want)
		}
	}
}

// Runs of each length, up to beyond three words, of each kind.
func TestCutOfLongRuns(t *testing.T) {
	for class, texts := range kinds() {
		for _, s := range texts {
			for n := 1; n <= 200; n++ {
				run := filled(s, n)
				most := 64
				if class == 2 {
					most = 3
				}
				var want []string
				for from := 0; from < n; from += most {
					want = append(want, run[from:min(from+most, n)])
				}
				if got := checkCut(t, run); !slices.Equal(got, want) {
					t.Fatalf("%d bytes of %q are cut to %q", n, s, got)
				}
			}
		}
	}
}

// lengthsOf: how many bytes each word has.
func lengthsOf(words []string) []int {
	var out []int
	for _, word := range words {
		out = append(out, len(word))
	}
	return out
}

func TestCutOfWordsThatAreTooLong(t *testing.T) {
	x := func(n int) string { return strings.Repeat("x", n) }
	dots := func(n int) string { return strings.Repeat(".", n) }
	blanks := func(n int) string { return strings.Repeat(" ", n) }
	for _, c := range []struct {
		s    string
		want []int
	}{
		{x(63), []int{63}},
		{x(64), []int{64}},
		{x(65), []int{64, 1}},
		{x(128), []int{64, 64}},
		{x(129), []int{64, 64, 1}},
		{" " + x(62), []int{63}},
		{" " + x(63), []int{64}},
		{" " + x(64), []int{64, 1}},
		{" " + x(65), []int{64, 2}},
		{" " + x(127), []int{64, 64}},
		{" " + x(128), []int{64, 64, 1}},
		{" " + dots(63), []int{64}},
		{" " + dots(64), []int{64, 1}},
		{" " + dots(128), []int{64, 64, 1}},
		{" " + x(64) + dots(64), []int{64, 1, 64}},
		{" " + x(63) + dots(64), []int{64, 64}},
		{"  " + x(63), []int{1, 64}},
		{"  " + x(64), []int{1, 64, 1}},
		{"\t" + x(64), []int{1, 64}},
		{"\t" + x(65), []int{1, 64, 1}},
		{x(64) + " " + x(64), []int{64, 64, 1}},
		{x(65) + " " + x(2), []int{64, 1, 3}},
		{blanks(63) + x(1), []int{62, 2}},
		{blanks(64) + x(1), []int{63, 2}},
		{blanks(65) + x(1), []int{64, 2}},
		{blanks(66) + x(1), []int{64, 1, 2}},
		{blanks(67) + x(1), []int{64, 2, 2}},
		{blanks(129) + x(64), []int{64, 64, 64, 1}},
		{blanks(64) + dots(1), []int{63, 2}},
		{blanks(65) + dots(64), []int{64, 64, 1}},
		{blanks(64) + "1", []int{64, 1}},
		{blanks(65) + "1", []int{64, 1, 1}},
		{blanks(66) + "1234", []int{64, 2, 3, 1}},
		{blanks(63) + "\t" + x(1), []int{64, 1}},
		{blanks(64) + "\t" + x(1), []int{64, 1, 1}},
		{blanks(63) + "\t " + x(1), []int{64, 2}},
		{blanks(64) + "\t " + x(1), []int{64, 1, 2}},
		{blanks(64), []int{64}},
		{blanks(65), []int{64, 1}},
		{blanks(128), []int{64, 64}},
		{strings.Repeat("1", 64), append(slices.Repeat([]int{3}, 21), 1)},
		{" " + strings.Repeat("1", 64), slices.Concat([]int{1}, slices.Repeat([]int{3}, 21), []int{1})},
	} {
		if got := lengthsOf(checkCut(t, c.s)); !slices.Equal(got, c.want) {
			t.Errorf("Cut(%q): words of %v bytes, want %v", c.s, got, c.want)
		}
	}
}

// Blanks of each length and kind, ahead of runs of each kind and of the lengths at which words end.
func TestCutOfBlanksAheadOfRuns(t *testing.T) {
	leads := []string{" ", "\t", "\n", "\r", " \t", "\t ", "\r\n ", " \n", "  \t  "}
	heads := []string{"", "a", "1", "!"}
	var runs []string
	for _, texts := range kinds() {
		for _, n := range []int{1, 2, 3, 4, 62, 63, 64, 65, 66, 128} {
			runs = append(runs, filled(texts[0], n), filled(texts[len(texts)-1], n))
		}
	}
	for _, lead := range leads {
		for _, n := range []int{1, 2, 3, 5, 62, 63, 64, 65, 66, 67, 127, 128, 129, 130} {
			blanks := filled(lead, n)
			for _, run := range append(runs, "", "a1", "!a", "1!") {
				for _, head := range heads {
					checkCut(t, head+blanks+run)
				}
			}
		}
	}
}

// What the words of small texts are hangs on no byte behind the run, and on none ahead of the word.
func TestCutOfAllSmallTexts(t *testing.T) {
	for _, s := range append(textsOver("a1 \t!", 6), textsOver("a1 ", 8)...) {
		words := checkCut(t, s)
		for i := range words {
			if rest := strings.Join(words[i:], ""); !slices.Equal(impl.Cut(rest), words[i:]) {
				t.Fatalf("Cut(%q) = %q, and of its end %q", s, words, rest)
			}
		}
	}
}

// line: runs of all kinds and of short and long ones, at most size bytes.
func (r *dice) line(size int) string {
	texts := kinds()
	var out strings.Builder
	for range 1 + r.roll(60) {
		some := texts[1+r.roll(4)]
		if r.roll(3) == 0 {
			some = []string{" "}
		}
		out.WriteString(filled(some[r.roll(len(some))], 1+r.roll([]int{2, 5, 9, 70, 140}[r.roll(5)])))
	}
	return out.String()[:min(size, out.Len())]
}

func TestCutOfAnyTexts(t *testing.T) {
	r := dice(9)
	words, longest := 0, 0
	for range 3000 {
		got := checkCut(t, r.line(1000))
		words += len(got)
		for _, word := range got {
			if len(word) == 64 {
				longest++
			}
		}
	}
	for range 500 {
		text := make([]byte, r.roll(300))
		for i := range text {
			text[i] = byte(r.roll(256))
		}
		words += len(checkCut(t, string(text)))
	}
	if words < 50000 || longest < 3000 {
		t.Errorf("%d words, %d of the most bytes", words, longest)
	}
}

// A text of MaxLine bytes has words, one of a byte more has none, whatever stands in it.
func TestCutUpToMaxLine(t *testing.T) {
	for class, texts := range kinds() {
		for _, s := range append(texts, "a ", " a", "a1", "ab  12345 c!\n", "x.") {
			for _, n := range []int{998, 999, 1000, 1001, 1002, 1024, 2000, 2001} {
				if got := checkCut(t, filled(s, n)); (len(got) > 0) != (n <= 1000) {
					t.Errorf("class %d: %d bytes of %q have %d words", class, n, s, len(got))
				}
			}
			if got := impl.Cut(filled(s, 1<<22)); len(got) != 0 {
				t.Errorf("very many bytes of %q have %d words", s, len(got))
			}
		}
	}
	for s, want := range map[string]int{"a": 16, " ": 16, "\n": 16, ".": 16, "1": 334, "a1": 1000, " a": 500, "a\n": 1000, "1 ": 1000} {
		if got := checkCut(t, filled(s, 1000)); len(got) != want {
			t.Errorf("MaxLine bytes of %q have %d words, want %d", s, len(got), want)
		}
	}
}

func TestEncodeOfKnownTexts(t *testing.T) {
	// 256 is ab, 257 a blank and a, 258 is a blank and ab, 259 is 12, 260 is !!.
	v := vocabOf('a', 'b', ' ', 'a', ' ', 256, '1', '2', '!', '!')
	for _, c := range []struct {
		why  string
		v    impl.Vocab
		s    string
		want []int
	}{
		{"nothing", v, "", nil},
		{"nothing, and no merges", impl.Vocab{}, "", nil},
		{"no merges", impl.Vocab{}, "ab 12!", []int{'a', 'b', ' ', '1', '2', '!'}},
		{"one word", v, "ab", []int{256}},
		{"one byte that merges nowhere", v, "x", []int{'x'}},
		{"a blank in its word", v, "ab ab", []int{256, 258}},
		{"blanks of which one is in its word", v, "ab   ab", []int{256, ' ', ' ', 258}},
		{"a blank that isn't 32", v, "ab\nab", []int{256, '\n', 256}},
		{"a blank ahead of a", v, " a", []int{257}},
		{"digits", v, "1212", []int{259, '1', '2'}},
		{"digits of which a merge would cross", v, "3412", []int{'3', '4', '1', '2'}},
		{"all of it", v, "ab 12!! ab!", []int{256, ' ', 259, 260, 258, '!'}},
		{"letter and other", vocabOf('a', '!'), "a!a!", []int{'a', '!', 'a', '!'}},
		{"other and letter", vocabOf('!', 'a'), "!a!a", []int{'!', 'a', '!', 'a'}},
		{"letter and digit", vocabOf('a', '1', '1', 'a'), "a1a1", []int{'a', '1', 'a', '1'}},
		{"letter and blank", vocabOf('a', ' ', 256, 'a'), "a a", []int{'a', ' ', 'a'}},
		{"letter and blank, blank and letter", vocabOf('a', ' ', ' ', 'a'), "a a", []int{'a', 257}},
		{"blank and digit", vocabOf(' ', '1', '1', ' '), " 1 1", []int{' ', '1', ' ', '1'}},
		{"blank and other", vocabOf(' ', '!'), "! !", []int{'!', 256}},
		{"two blanks at the end", vocabOf(' ', ' '), "a  ", []int{'a', 256}},
		{"two blanks ahead of a letter", vocabOf(' ', ' '), "  a", []int{' ', ' ', 'a'}},
		{"three blanks ahead of a letter", vocabOf(' ', ' '), "   a", []int{256, ' ', 'a'}},
		{"two blanks ahead of a digit", vocabOf(' ', ' '), "  1", []int{256, '1'}},
		{"a line's end and a blank ahead of a letter", vocabOf('\n', ' '), "\n a", []int{'\n', ' ', 'a'}},
		{"a line's end and a blank ahead of a digit", vocabOf('\n', ' '), "\n 1", []int{256, '1'}},
		{"bytes of a rune", vocabOf(0xc3, 0xa9), "é é1é", []int{256, ' ', 256, '1', 256}},
		{"where a long word ends", vocabOf('a', 'b'), strings.Repeat("x", 63) + "abab", append(alike('x', 63), 'a', 'b', 256)},
		{"just ahead of where a long word ends", vocabOf('a', 'b'), strings.Repeat("x", 62) + "abab", append(alike('x', 62), 256, 256)},
		{"where a long word with a blank ahead ends", vocabOf('a', 'b'), " " + strings.Repeat("x", 62) + "ab", append(append([]int{' '}, alike('x', 62)...), 'a', 'b')},
		{"long words", vocabOf('x', 'x'), strings.Repeat("x", 131), append(alike(256, 65), 'x')},
	} {
		if got := checkEncode(t, c.v, c.s); !slices.Equal(got, c.want) {
			t.Errorf("%s: Encode(%v, %q) = %v, want %v", c.why, c.v, c.s, got, c.want)
		}
	}
}

// meetings: merges of the two bytes that meet wherever a word of a text ends.
func meetings(s string) impl.Vocab {
	var v impl.Vocab
	words := wantCut(s)
	for i := 1; i < len(words) && len(v.Merges) < 60; i++ {
		end, begin := words[i-1][len(words[i-1])-1], words[i][0]
		if p := (impl.Pair{A: int(end), B: int(begin)}); !slices.Contains(v.Merges, p) {
			v.Merges = append(v.Merges, p)
		}
	}
	return v
}

// Without merges the tokens are the bytes; with merges of bytes that meet only there, where words do, they still are.
func TestEncodeMergesNothingAcrossWords(t *testing.T) {
	r := dice(19)
	apart := 0
	for range 300 {
		s := r.line(1 + r.roll(400))
		if got := checkEncode(t, impl.Vocab{}, s); !slices.Equal(got, bytesAsToks(s)) {
			t.Fatalf("Encode(%q) without merges = %v", s, got)
		}
		checkEncode(t, meetings(s), s)
		// In these texts two bytes that meet where words do stand side by side nowhere else.
		s = filled([]string{"a!", "a1!", "xyz\t.", "!1\n", "ab 12"}[r.roll(5)], r.roll(200))
		v := meetings(s)
		if got := checkEncode(t, v, s); !slices.Equal(got, bytesAsToks(s)) {
			t.Fatalf("Encode(%v, %q) = %v", brief(v, s, got)...)
		}
		apart += len(v.Merges)
	}
	if apart < 500 {
		t.Errorf("only %d merges would have crossed", apart)
	}
}

func TestEncodeOfAllSmallTexts(t *testing.T) {
	for _, v := range []impl.Vocab{{}, vocabOf('a', ' ', ' ', 'a', 'a', 'a'), vocabOf(' ', ' ', ' ', 'a', 256, 'a', '1', ' ', '1', '1'), vocabOf('a', '!', '!', ' ', ' ', '!', 258, '!')} {
		for _, s := range append(textsOver("a1 ", 6), textsOver("a! \n", 5)...) {
			checkEncode(t, v, s)
		}
	}
}

func TestEncodeOfAnyTexts(t *testing.T) {
	r := dice(99)
	bytes, toks := 0, 0
	for range 150 {
		v := r.learned(1+r.roll(4), r.roll(61))
		for range 4 {
			var s strings.Builder
			for size := r.roll(980); s.Len() < size; {
				s.WriteString([]string{" ", "", "1", "\n", "!", "  "}[r.roll(6)])
				s.WriteString(r.word(4, r.roll(12)))
			}
			bytes += s.Len()
			toks += len(checkEncode(t, v, s.String()))
			checkEncode(t, v, r.line(1100))
		}
	}
	if bytes < 200000 || toks > bytes*9/10 {
		t.Errorf("%d bytes are %d tokens", bytes, toks)
	}
}

func TestEncodeByEachRightVocab(t *testing.T) {
	for why, v := range rightVocabs() {
		for _, s := range []string{"", "a", "ab abc", "abcd aabb  ab 12", allBytes(), strings.Repeat("x", 1000), strings.Repeat("a1", 500), strings.Repeat("ab ", 333), strings.Repeat("\x00", 999)} {
			if got := checkEncode(t, v, s); (len(got) == 0) != (s == "") {
				t.Errorf("%s: Encode(%q) = %v", why, s, got)
			}
		}
		for _, n := range []int{1001, 1002, 2000, 1 << 20} {
			for _, s := range []string{"a", "ab ", " ", "1"} {
				if got, code := impl.Encode(v, filled(s, n)); code != impl.EnLarge || len(got) != 0 {
					t.Errorf("%s: Encode of %d bytes of %q = %v %v", why, n, s, len(got), code)
				}
			}
		}
		if _, code := impl.Encode(v, filled("ab 12!", 1000)); code != impl.EnOk {
			t.Errorf("%s: Encode of MaxLine bytes says %v", why, code)
		}
	}
	// As many tokens as Decode takes: each byte one.
	if got := checkEncode(t, impl.Vocab{}, filled("ab 1!\n", 1000)); len(got) != 1000 {
		t.Errorf("MaxLine bytes without merges are %d tokens", len(got))
	}
}

// That the vocabulary isn't right counts ahead of a text that is too long.
func TestEncodeByWrongVocabs(t *testing.T) {
	for _, w := range wrongVocabs() {
		for _, s := range []string{"", "a", "ab", "x y 1", strings.Repeat("a", 65), strings.Repeat("a", 1000), strings.Repeat("a", 1001), strings.Repeat("a ", 1<<19)} {
			if got, code := impl.Encode(w.v, s); code != impl.EnBad || len(got) != 0 {
				t.Errorf("%s: Encode(%q) = %v %v", brief(w.why, s, got, code)...)
			}
		}
		checkEncode(t, w.v, "ab 12")
	}
}

// What one call answered stays, whatever is asked then and whatever is written into what was handed in or answered.
func TestCutsOfOneCallAreApart(t *testing.T) {
	for _, s := range []string{"a", " ", "1", "ab", " a", "ab  12345 c!\n d 7 \n", filled("a", 1000), filled("a1", 1000), filled(" a", 1000)} {
		in := strings.Clone(s)
		first, second := impl.Cut(in), impl.Cut(in)
		if overlap(first, second) || shareText(first, second) || shareText(append(first, second...), []string{in}) {
			t.Fatalf("two answers of Cut(%q) share memory, or are in its own", s)
		}
		kept := slices.Clone(second)
		for i := range first[:cap(first)] {
			first[:cap(first)][i] = "written over"
		}
		if !slices.Equal(second, kept) || !slices.Equal(impl.Cut(in), kept) || in != s {
			t.Fatalf("Cut(%q) is answered otherwise the third time", s)
		}
	}
}

func TestEncodesOfOneCallAreApart(t *testing.T) {
	v := vocabOf('a', 'b', ' ', 256, '1', '2')
	for _, s := range []string{"a", "ab", " ab", "ab ab 12\n", filled("a", 1000), filled("ab 12", 1000)} {
		inV, in := copyVocab(v), strings.Clone(s)
		first, _ := impl.Encode(inV, in)
		second, _ := impl.Encode(inV, in)
		if overlap(first, second) {
			t.Fatalf("two answers of Encode of %q share memory", s)
		}
		kept := slices.Clone(second)
		for i := range first[:cap(first)] {
			first[:cap(first)][i] = -1
		}
		for i := range inV.Merges {
			inV.Merges[i] = impl.Pair{A: -1, B: -1}
		}
		if !slices.Equal(second, kept) {
			t.Fatalf("an answer of Encode of %q changed", s)
		}
		if _, code := impl.Encode(inV, in); code != impl.EnBad {
			t.Fatalf("Encode of %q by a vocabulary that was written over says %d", s, code)
		}
		if third, _ := impl.Encode(v, in); !slices.Equal(third, kept) {
			t.Fatalf("Encode of %q = %v the third time", s, third)
		}
	}
}
