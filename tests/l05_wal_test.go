package tests

import (
	"encoding/binary"
	"math"
	"reflect"
	"slices"
	"strings"
	"testing"

	"loop.example/g00358/impl"
)

// wantRecOk: whether a Rec is one of the four, kind by kind.
func wantRecOk(r impl.Rec) bool {
	term := r.Term >= 1 && r.Term <= 100000
	index := r.Index >= 1 && r.Index <= 100000
	switch r.Kind {
	case 1:
		return (term || r.Term == 0) && r.Vote >= -1 && r.Vote <= 4 && r.Index == 0 && r.Data == ""
	case 2:
		return term && index && len(r.Data) <= 900 && r.Vote == 0
	case 3:
		return index && r.Term == 0 && r.Vote == 0 && r.Data == ""
	case 4:
		return (term && index || r.Term == 0 && r.Index == 0) && r.Vote == 0 && r.Data == ""
	}
	return false
}

func wantShow(r impl.Rec) string {
	if !wantRecOk(r) {
		return ""
	}
	out := []byte{byte(r.Kind)}
	for _, n := range []int{r.Term, r.Index, r.Vote + 1} {
		out = binary.AppendUvarint(out, uint64(n))
	}
	return string(out) + r.Data
}

// wantRead: the Rec that a text may be, taken only where the text is made of it.
func wantRead(s string) (impl.Rec, bool) {
	if s == "" {
		return impl.Rec{}, false
	}
	var parts [3]int
	rest := []byte(s[1:])
	for i := range parts {
		n, size := binary.Uvarint(rest)
		if size <= 0 {
			return impl.Rec{}, false
		}
		parts[i], rest = int(n), rest[size:]
	}
	r := impl.Rec{Kind: int(s[0]), Term: parts[0], Index: parts[1], Vote: parts[2] - 1, Data: string(rest)}
	if wantShow(r) != s {
		return impl.Rec{}, false
	}
	return r, true
}

// wantWalOk: whether a Wal is right, sentence by sentence.
func wantWalOk(w impl.Wal) bool {
	if w.Term < 0 || w.Term > 100000 || w.Vote < -1 || w.Vote > 4 {
		return false
	}
	if !wantRecOk(impl.Rec{Kind: 4, Index: w.Base, Term: w.BaseTerm}) || w.BaseTerm > w.Term {
		return false
	}
	if len(w.Entries) > 60 || w.Base+len(w.Entries) > 100000 {
		return false
	}
	for i, e := range w.Entries {
		if len(e.Data) > 900 || e.Term < 1 || e.Term < w.BaseTerm || e.Term > w.Term || i > 0 && e.Term < w.Entries[i-1].Term {
			return false
		}
	}
	return true
}

func wantFits(w impl.Wal, r impl.Rec) bool {
	if !wantRecOk(r) {
		return false
	}
	last := w.BaseTerm
	if n := len(w.Entries); n > 0 {
		last = w.Entries[n-1].Term
	}
	switch r.Kind {
	case 1:
		return r.Term > w.Term || r.Term == w.Term && (w.Vote == -1 || r.Vote == w.Vote)
	case 2:
		return r.Index == w.Base+len(w.Entries)+1 && len(w.Entries) < 60 && r.Term >= last && r.Term <= w.Term
	case 3:
		return r.Index > w.Base && r.Index <= w.Base+len(w.Entries)
	}
	return false
}

func wantStep(w impl.Wal, r impl.Rec) (impl.Wal, bool) {
	if !wantWalOk(w) {
		return impl.Wal{}, false
	}
	out := copyWal(w)
	if !wantFits(w, r) {
		return out, false
	}
	switch r.Kind {
	case 1:
		out.Term, out.Vote = r.Term, r.Vote
	case 2:
		out.Entries = append(out.Entries, impl.Entry{Term: r.Term, Data: r.Data})
	case 3:
		out.Entries = out.Entries[:r.Index-w.Base-1]
	}
	return out, true
}

func wantReplay(text string) (impl.Wal, int, bool) {
	body, size, _ := wantUnframe(text)
	r, ok := wantRead(body)
	if !ok || r.Kind != 4 {
		return impl.Wal{}, 0, false
	}
	w := impl.Wal{Term: r.Term, Vote: -1, Base: r.Index, BaseTerm: r.Term}
	for {
		body, n, _ := wantUnframe(text[size:])
		r, ok := wantRead(body)
		if !ok || !wantFits(w, r) {
			return w, size, true
		}
		w, _ = wantStep(w, r)
		size += n
	}
}

// walRecs: the records of which WalText are the frames.
func walRecs(w impl.Wal) []impl.Rec {
	out := []impl.Rec{{Kind: 4, Term: w.BaseTerm, Index: w.Base}, {Kind: 1, Term: w.Term, Vote: w.Vote}}
	for i, e := range w.Entries {
		out = append(out, impl.Rec{Kind: 2, Term: e.Term, Index: w.Base + 1 + i, Data: e.Data})
	}
	return out
}

func framedRecs(recs ...impl.Rec) string {
	s := ""
	for _, r := range recs {
		s += rawFrame(wantShow(r))
	}
	return s
}

func wantWalText(w impl.Wal) string {
	if !wantWalOk(w) {
		return ""
	}
	return framedRecs(walRecs(w)...)
}

func wantChanges(a, b impl.Wal) ([]impl.Rec, bool) {
	hard := impl.Rec{Kind: 1, Term: b.Term, Vote: b.Vote}
	differ := a.Term != b.Term || a.Vote != b.Vote
	if !wantWalOk(a) || !wantWalOk(b) || a.Base != b.Base || a.BaseTerm != b.BaseTerm || differ && !wantFits(a, hard) {
		return nil, false
	}
	var out []impl.Rec
	if differ {
		out = append(out, hard)
	}
	both := 0
	for both < min(len(a.Entries), len(b.Entries)) && a.Entries[both] == b.Entries[both] {
		both++
	}
	if len(a.Entries) > both {
		out = append(out, impl.Rec{Kind: 3, Index: a.Base + both + 1})
	}
	return append(out, walRecs(b)[2+both:]...), true
}

// copyWal: the same Wal in memory of its own, its list with spare room in which something stands.
func copyWal(w impl.Wal) impl.Wal {
	n := len(w.Entries)
	var entries []impl.Entry
	for _, e := range w.Entries {
		entries = append(entries, impl.Entry{Term: e.Term, Data: strings.Clone(e.Data)})
	}
	w.Entries = append(entries, impl.Entry{Term: 77}, impl.Entry{Term: 78})[:n]
	return w
}

func sameWal(a, b impl.Wal) bool {
	return a.Term == b.Term && a.Vote == b.Vote && a.Base == b.Base && a.BaseTerm == b.BaseTerm && slices.Equal(a.Entries, b.Entries)
}

// walTouched: whether a Wal that copyWal made is another one than before, or what stands behind its list is.
func walTouched(w, before impl.Wal) bool {
	n := len(before.Entries)
	return !sameWal(w, before) || !slices.Equal(w.Entries[n:n+2], []impl.Entry{{Term: 77}, {Term: 78}})
}

func walData(w impl.Wal) []string {
	var out []string
	for _, e := range w.Entries {
		out = append(out, e.Data)
	}
	return out
}

func recData(recs []impl.Rec) []string {
	var out []string
	for _, r := range recs {
		out = append(out, r.Data)
	}
	return out
}

func shareWal(a, b impl.Wal) bool {
	return overlap(a.Entries, b.Entries) || shareText(walData(a), walData(b))
}

// shareWithin: whether two of these texts lie in one memory.
func shareWithin(texts []string) bool {
	for i := range texts {
		if shareText(texts[:i], texts[i:i+1]) {
			return true
		}
	}
	return false
}

func checkStep(t *testing.T, w impl.Wal, r impl.Rec) (impl.Wal, bool) {
	t.Helper()
	in := copyWal(w)
	r.Data = strings.Clone(r.Data)
	out, ok := impl.WalStep(in, r)
	want, wantOk := wantStep(w, r)
	if ok != wantOk || !sameWal(out, want) {
		t.Fatalf("WalStep of %.300v by %.60v\n = %.300v %v,\nwant %.300v %v", w, r, out, ok, want, wantOk)
	}
	if walTouched(in, w) {
		t.Fatalf("WalStep by %.60v writes into %.300v", r, w)
	}
	if shareWal(in, out) || shareText(walData(out), []string{r.Data}) || shareWithin(walData(out)) {
		t.Fatalf("WalStep of %.300v by %.60v answers old memory", w, r)
	}
	if impl.WalOk(w) && !impl.WalOk(out) {
		t.Fatalf("WalStep of %.300v by %.60v leaves a wrong Wal", w, r)
	}
	return out, ok
}

func checkReplay(t *testing.T, text string) (impl.Wal, int, bool) {
	t.Helper()
	w, n, ok := impl.Replay(text)
	want, wantN, wantOk := wantReplay(text)
	if ok != wantOk || n != wantN || !sameWal(w, want) {
		t.Fatalf("Replay of %d bytes %.60q\n = %.300v %d %v,\nwant %.300v %d %v", len(text), text, w, n, ok, want, wantN, wantOk)
	}
	if shareText(walData(w), []string{text}) || shareWithin(walData(w)) {
		t.Fatalf("Replay of %d bytes %.60q answers old memory", len(text), text)
	}
	return w, n, ok
}

func checkChanges(t *testing.T, a, b impl.Wal) ([]impl.Rec, bool) {
	t.Helper()
	inA, inB := copyWal(a), copyWal(b)
	recs, ok := impl.Changes(inA, inB)
	want, wantOk := wantChanges(a, b)
	if ok != wantOk || !slices.Equal(recs, want) {
		t.Fatalf("Changes from %.300v to %.300v\n = %.300v %v,\nwant %.300v %v", a, b, recs, ok, want, wantOk)
	}
	if walTouched(inA, a) || walTouched(inB, b) {
		t.Fatalf("Changes writes into %.300v or %.300v", a, b)
	}
	if data := recData(recs); shareText(data, append(walData(inA), walData(inB)...)) || shareWithin(data) {
		t.Fatalf("Changes from %.300v to %.300v answers old memory", a, b)
	}
	if ok {
		checkLead(t, a, b, recs)
	}
	return recs, ok
}

// checkLead: promise 5, each of the records fits, and they come to b.
func checkLead(t *testing.T, a, b impl.Wal, recs []impl.Rec) {
	t.Helper()
	w := copyWal(a)
	for i, r := range recs {
		next, fits := impl.WalStep(w, r)
		if !fits {
			t.Fatalf("from %.300v to %.300v: number %d, %.60v, does not fit %.300v", a, b, i, r, w)
		}
		w = next
	}
	if !sameWal(w, b) {
		t.Fatalf("from %.300v to %.300v: the records come to %.300v", a, b, w)
	}
}

// checkWalText: promise 5, a right Wal's text is Replayed as it, to its last byte.
func checkWalText(t *testing.T, w impl.Wal) string {
	t.Helper()
	in := copyWal(w)
	s := impl.WalText(in)
	if want := wantWalText(w); s != want {
		t.Fatalf("WalText of %.300v\n = %.300q,\nwant %.300q", w, s, want)
	}
	if walTouched(in, w) || shareText([]string{s}, walData(in)) {
		t.Fatalf("WalText writes into %.300v or answers its memory", w)
	}
	if wantWalOk(w) {
		if back, n, ok := checkReplay(t, s); !ok || n != len(s) || !sameWal(back, w) {
			t.Fatalf("WalText of %.300v, %d bytes, is Replayed as %.300v %d %v", w, len(s), back, n, ok)
		}
	}
	return s
}

func someData(n int) string {
	return mixedText(n, uint64(n))
}

// recEdges: every Rec of numbers at and beside the bounds, right ones and wrong ones.
func recEdges() []impl.Rec {
	kinds := []int{-1, 0, 1, 2, 3, 4, 5, 255, 256, 257, 258, 260, math.MinInt, math.MaxInt}
	numbers := []int{-1, 0, 1, 127, 128, 99999, 100000, 100001, math.MinInt, math.MaxInt}
	votes := []int{-2, -1, 0, 1, 3, 4, 5, math.MinInt, math.MaxInt}
	var out []impl.Rec
	for _, kind := range kinds {
		for _, term := range numbers {
			for _, index := range numbers {
				for _, vote := range votes {
					for _, n := range []int{0, 1, 900, 901} {
						out = append(out, impl.Rec{Kind: kind, Term: term, Index: index, Vote: vote, Data: someData(n)})
					}
				}
			}
		}
	}
	return out
}

func rightRecs() []impl.Rec {
	return slices.DeleteFunc(recEdges(), func(r impl.Rec) bool { return !wantRecOk(r) })
}

func TestRecordConstants(t *testing.T) {
	if impl.MaxPeers != 5 || impl.MaxTerm != 100000 || impl.MaxIndex != 100000 || impl.MaxLog != 60 || impl.MaxData != 900 {
		t.Error("the limits of chapter 5 are others")
	}
	if impl.RcHard != 1 || impl.RcEntry != 2 || impl.RcCut != 3 || impl.RcBase != 4 {
		t.Error("the kinds of records are others")
	}
}

// Each bound of each kind, at its end and one beyond it.
func TestRecOkBounds(t *testing.T) {
	hard, entry := impl.Rec{Kind: impl.RcHard, Term: 7, Vote: 2}, impl.Rec{Kind: impl.RcEntry, Term: 7, Index: 3, Data: "d"}
	cut, base := impl.Rec{Kind: impl.RcCut, Index: 3}, impl.Rec{Kind: impl.RcBase, Term: 7, Index: 3}
	with := func(r impl.Rec, change func(r *impl.Rec)) impl.Rec {
		change(&r)
		return r
	}
	for r, want := range map[impl.Rec]bool{
		hard: true, entry: true, cut: true, base: true,
		with(hard, func(r *impl.Rec) { r.Term = -1 }):               false,
		with(hard, func(r *impl.Rec) { r.Term = 0 }):                true,
		with(hard, func(r *impl.Rec) { r.Term = impl.MaxTerm }):     true,
		with(hard, func(r *impl.Rec) { r.Term = impl.MaxTerm + 1 }): false,
		with(hard, func(r *impl.Rec) { r.Vote = -2 }):               false,
		with(hard, func(r *impl.Rec) { r.Vote = -1 }):               true,
		with(hard, func(r *impl.Rec) { r.Vote = 4 }):                true,
		with(hard, func(r *impl.Rec) { r.Vote = 5 }):                false,

		with(entry, func(r *impl.Rec) { r.Term = 0 }):                  false,
		with(entry, func(r *impl.Rec) { r.Term = 1 }):                  true,
		with(entry, func(r *impl.Rec) { r.Term = impl.MaxTerm }):       true,
		with(entry, func(r *impl.Rec) { r.Term = impl.MaxTerm + 1 }):   false,
		with(entry, func(r *impl.Rec) { r.Index = 0 }):                 false,
		with(entry, func(r *impl.Rec) { r.Index = 1 }):                 true,
		with(entry, func(r *impl.Rec) { r.Index = impl.MaxIndex }):     true,
		with(entry, func(r *impl.Rec) { r.Index = impl.MaxIndex + 1 }): false,
		with(entry, func(r *impl.Rec) { r.Data = "" }):                 true,
		with(entry, func(r *impl.Rec) { r.Data = someData(900) }):      true,
		with(entry, func(r *impl.Rec) { r.Data = someData(901) }):      false,

		with(cut, func(r *impl.Rec) { r.Index = 0 }):                 false,
		with(cut, func(r *impl.Rec) { r.Index = 1 }):                 true,
		with(cut, func(r *impl.Rec) { r.Index = impl.MaxIndex }):     true,
		with(cut, func(r *impl.Rec) { r.Index = impl.MaxIndex + 1 }): false,

		with(base, func(r *impl.Rec) { r.Index = -1 }):                                    false,
		with(base, func(r *impl.Rec) { r.Index, r.Term = -1, 0 }):                         false,
		with(base, func(r *impl.Rec) { r.Index, r.Term = 0, 0 }):                          true,
		with(base, func(r *impl.Rec) { r.Index = 0 }):                                     false,
		with(base, func(r *impl.Rec) { r.Index, r.Term = 0, 1 }):                          false,
		with(base, func(r *impl.Rec) { r.Index, r.Term = 0, -1 }):                         false,
		with(base, func(r *impl.Rec) { r.Index, r.Term = 1, 0 }):                          false,
		with(base, func(r *impl.Rec) { r.Index, r.Term = 1, 1 }):                          true,
		with(base, func(r *impl.Rec) { r.Index, r.Term = impl.MaxIndex, impl.MaxTerm }):   true,
		with(base, func(r *impl.Rec) { r.Index = impl.MaxIndex + 1 }):                     false,
		with(base, func(r *impl.Rec) { r.Term = impl.MaxTerm + 1 }):                       false,
		with(base, func(r *impl.Rec) { r.Index, r.Term = impl.MaxIndex+1, impl.MaxTerm }): false,
	} {
		if impl.RecOk(r) != want || wantRecOk(r) != want {
			t.Errorf("RecOk(%.60v) = %v, want %v", r, impl.RecOk(r), want)
		}
	}
}

// What a kind does not name is zero, -1 being no zero.
func TestRecOkOfWhatAKindDoesNotName(t *testing.T) {
	for _, r := range []impl.Rec{
		{Kind: impl.RcHard, Term: 7, Vote: 2, Index: 1}, {Kind: impl.RcHard, Term: 7, Vote: 2, Index: -1}, {Kind: impl.RcHard, Term: 7, Vote: 2, Data: "d"}, {Kind: impl.RcHard, Term: 7, Vote: 2, Data: "\x00"},
		{Kind: impl.RcEntry, Term: 7, Index: 3, Vote: 1}, {Kind: impl.RcEntry, Term: 7, Index: 3, Vote: -1},
		{Kind: impl.RcCut, Index: 3, Term: 1}, {Kind: impl.RcCut, Index: 3, Term: -1}, {Kind: impl.RcCut, Index: 3, Vote: 1}, {Kind: impl.RcCut, Index: 3, Vote: -1}, {Kind: impl.RcCut, Index: 3, Data: "d"},
		{Kind: impl.RcBase, Vote: 1}, {Kind: impl.RcBase, Vote: -1}, {Kind: impl.RcBase, Data: "d"}, {Kind: impl.RcBase, Term: 7, Index: 3, Vote: 1}, {Kind: impl.RcBase, Term: 7, Index: 3, Vote: -1}, {Kind: impl.RcBase, Term: 7, Index: 3, Data: "d"},
		{}, {Kind: 5}, {Kind: -1}, {Kind: 0, Term: 1, Index: 1}, {Kind: 5, Term: 1, Index: 1}, {Kind: 257, Term: 1}, {Kind: 258, Term: 1, Index: 1}, {Kind: 260},
	} {
		if impl.RecOk(r) || impl.ShowRec(r) != "" {
			t.Errorf("RecOk(%v) = %v, ShowRec %q; want false and nothing", r, impl.RecOk(r), impl.ShowRec(r))
		}
	}
}

func TestRecsAtEveryEdge(t *testing.T) {
	right := map[int]int{}
	for _, r := range recEdges() {
		want := wantRecOk(r)
		if impl.RecOk(r) != want {
			t.Fatalf("RecOk(%.60v) = %v", r, !want)
		}
		s := impl.ShowRec(r)
		if s != wantShow(r) || (s == "") == want {
			t.Fatalf("ShowRec(%.60v) = %.60q, want %.60q", r, s, wantShow(r))
		}
		if back, ok := impl.ReadRec(s); want && (back != r || !ok) {
			t.Fatalf("ReadRec(%.60q) = %.60v %v, want %.60v", s, back, ok, r)
		}
		if want {
			right[r.Kind]++
		}
	}
	if len(right) != 4 {
		t.Errorf("kinds of which one was right: %v", right)
	}
}

func TestShowRecOfKnownRecords(t *testing.T) {
	for want, r := range map[string]impl.Rec{
		"\x01\x00\x00\x00":                     {Kind: impl.RcHard, Vote: -1},
		"\x01\x00\x00\x01":                     {Kind: impl.RcHard},
		"\x01\xa0\x8d\x06\x00\x05":             {Kind: impl.RcHard, Term: 100000, Vote: 4},
		"\x02\x01\x01\x01":                     {Kind: impl.RcEntry, Term: 1, Index: 1},
		"\x02\x80\x01\xa0\x8d\x06\x01\x00\xff": {Kind: impl.RcEntry, Term: 128, Index: 100000, Data: "\x00\xff"},
		"\x03\x00\x7f\x01":                     {Kind: impl.RcCut, Index: 127},
		"\x04\x00\x00\x01":                     {Kind: impl.RcBase},
		"\x04\x07\x80\x01\x01":                 {Kind: impl.RcBase, Term: 7, Index: 128},
	} {
		if got := impl.ShowRec(r); got != want {
			t.Errorf("ShowRec(%v) = %q, want %q", r, got, want)
		}
		if got, ok := impl.ReadRec(want); got != r || !ok {
			t.Errorf("ReadRec(%q) = %v %v, want %v", want, got, ok, r)
		}
	}
}

func TestReadRecCutShort(t *testing.T) {
	for _, r := range rightRecs() {
		s := wantShow(r)
		head := len(s) - len(r.Data)
		for k := range head {
			if got, ok := impl.ReadRec(s[:k]); ok || got != (impl.Rec{}) {
				t.Fatalf("ReadRec(%q), of which %d bytes lack, = %v %v", s[:k], len(s)-k, got, ok)
			}
		}
		// An entry whose Data are cut off is an entry with less of them: the frame guards these.
		for k := head; k < len(s); k++ {
			want := r
			want.Data = s[head:k]
			if got, ok := impl.ReadRec(s[:k]); !ok || got != want {
				t.Fatalf("ReadRec(%.60q) = %.60v %v, want %.60v", s[:k], got, ok, want)
			}
		}
	}
}

func TestReadRecOfWhatShowRecDoesNotMake(t *testing.T) {
	for why, s := range map[string]string{
		"nothing":                          "",
		"kind 0":                           "\x00\x01\x01\x01",
		"kind 5":                           "\x05\x01\x01\x01",
		"kind 129":                         "\x81\x01\x01\x01",
		"a Term with a needless byte":      "\x02\x81\x00\x01\x01d",
		"a Term 0 with a needless byte":    "\x01\x80\x00\x00\x00",
		"an Index with a needless byte":    "\x02\x01\x81\x00\x01d",
		"an Index 0 with a needless byte":  "\x01\x01\x80\x00\x00",
		"a Vote with a needless byte":      "\x02\x01\x01\x81\x00d",
		"a Vote -1 with a needless byte":   "\x01\x01\x00\x80\x00",
		"a Term that does not end":         "\x02\x81\x81\x81\x81\x81\x81\x81\x81\x81\x81",
		"a Term of eight bytes":            "\x02\x81\x81\x81\x81\x81\x81\x81\x01\x01\x01",
		"a Vote that does not end":         "\x01\x01\x00\x80",
		"a Vote of MaxPeers":               "\x01\x01\x00\x06",
		"a Vote of 100":                    "\x01\x01\x00\x65",
		"a Vote of 127":                    "\x01\x01\x00\x80\x01",
		"an entry that votes":              "\x02\x01\x01\x02d",
		"an entry with a Vote of -1":       "\x02\x01\x01\x00d",
		"a cut with a Vote of -1":          "\x03\x00\x01\x00",
		"a base with a Vote of -1":         "\x04\x00\x00\x00",
		"an entry of Term 0":               "\x02\x00\x01\x01d",
		"an entry of Index 0":              "\x02\x01\x00\x01d",
		"a cut of Index 0":                 "\x03\x00\x00\x01",
		"a cut with a Term":                "\x03\x01\x01\x01",
		"a hard with an Index":             "\x01\x01\x01\x01",
		"a base of Term 0":                 "\x04\x00\x01\x01",
		"a base of Index 0 with a Term":    "\x04\x01\x00\x01",
		"a Term of MaxTerm and 1":          "\x01\xa1\x8d\x06\x00\x00",
		"an entry's Index of MaxIndex + 1": "\x02\x01\xa1\x8d\x06\x01",
		"a cut's Index of MaxIndex + 1":    "\x03\x00\xa1\x8d\x06\x01",
		"a base's Index of MaxIndex + 1":   "\x04\x01\xa1\x8d\x06\x01",
		"an Index of MaxVar":               "\x03\x00\xff\xff\xff\xff\xff\xff\x7f\x01",
		"something behind a hard":          "\x01\x01\x00\x00d",
		"a nought behind a hard":           "\x01\x01\x00\x00\x00",
		"something behind a cut":           "\x03\x00\x01\x01d",
		"something behind a base":          "\x04\x00\x00\x01d",
		"a record behind a base":           "\x04\x00\x00\x01\x01\x01\x00\x00",
		"901 bytes of Data":                "\x02\x01\x01\x01" + someData(901),
		"a frame":                          rawFrame("\x02\x01\x01\x01d"),
	} {
		if got, ok := impl.ReadRec(s); ok || got != (impl.Rec{}) {
			t.Errorf("%s: ReadRec(%.60q) = %.60v %v, want the zero Rec and false", why, s, got, ok)
		}
	}
}

// Every short text of the bytes at the edges, and right texts with one byte turned or put in.
func TestReadRecByTheWords(t *testing.T) {
	texts := textsOver("\x00\x01\x02\x03\x04\x05\x7f\x80", 6)
	for _, r := range rightRecs() {
		if len(r.Data) > 1 {
			continue
		}
		s := wantShow(r)
		for at := range s {
			for _, b := range []string{"", "\x00", "\x01", "\x06", "\x80", "\x81", "\xff"} {
				texts = append(texts, s[:at]+b+s[at+1:], s[:at]+b+s[at:])
			}
		}
	}
	taken := map[int]int{}
	for _, s := range texts {
		want, wantOk := wantRead(s)
		r, ok := impl.ReadRec(s)
		if r != want || ok != wantOk {
			t.Fatalf("ReadRec(%q) = %v %v, want %v %v", s, r, ok, want, wantOk)
		}
		if ok && (impl.ShowRec(r) != s || !impl.RecOk(r)) {
			t.Fatalf("ReadRec takes %q as %v, of which ShowRec makes %q", s, r, impl.ShowRec(r))
		}
		taken[r.Kind]++
	}
	for kind := range 5 {
		if taken[kind] == 0 {
			t.Errorf("no text was taken as kind %d: %v", kind, taken)
		}
	}
}

func TestRecordTextsAreNewMemory(t *testing.T) {
	r := impl.Rec{Kind: impl.RcEntry, Term: 1, Index: 1, Data: someData(40)}
	s := impl.ShowRec(r)
	back, _ := impl.ReadRec(s)
	if shareText([]string{s}, []string{r.Data}) || shareText([]string{back.Data}, []string{s, r.Data}) {
		t.Error("ShowRec or ReadRec answers old memory")
	}
}

// richWal: a base, a vote, and entries of several terms.
func richWal() impl.Wal {
	return impl.Wal{Term: 9, Vote: 2, Base: 5, BaseTerm: 3, Entries: []impl.Entry{{Term: 3, Data: "three"}, {Term: 4}, {Term: 4, Data: "\x00\xff\x80"}, {Term: 7, Data: someData(900)}}}
}

// longWal: as many entries as may be, with data of this length.
func longWal(base int, size int) impl.Wal {
	w := impl.Wal{Term: 80, Vote: -1, Base: base, BaseTerm: min(base, 1)}
	for i := range impl.MaxLog {
		w.Entries = append(w.Entries, impl.Entry{Term: 1 + i, Data: mixedText(size, uint64(i))})
	}
	return w
}

func rightWals() map[string]impl.Wal {
	return map[string]impl.Wal{
		"the zero Wal":              {},
		"the first one":             {Vote: -1},
		"a term without entries":    {Term: 100000, Vote: 4},
		"the last vote":             {Term: 1, Vote: 4},
		"rich":                      richWal(),
		"the last base":             {Term: 100000, Vote: 0, Base: 100000, BaseTerm: 100000},
		"the first base":            {Term: 1, Vote: -1, Base: 1, BaseTerm: 1},
		"the base's term is its":    {Term: 6, Vote: 3, Base: 8, BaseTerm: 6, Entries: []impl.Entry{{Term: 6, Data: "at both ends"}}},
		"the last number":           {Term: 5, Vote: -1, Base: 99998, BaseTerm: 2, Entries: []impl.Entry{{Term: 2}, {Term: 5, Data: "last"}}},
		"all entries":               longWal(0, 3),
		"all entries, all data":     longWal(7, 900),
		"all entries up to the end": longWal(99940, 0),
		"no entry ahead of term 1":  {Term: 4, Vote: 1, Entries: []impl.Entry{{Term: 1, Data: "one"}, {Term: 4, Data: "four"}}},
		"entries alike":             {Term: 2, Vote: 0, Entries: []impl.Entry{{Term: 2, Data: "same"}, {Term: 2, Data: "same"}, {Term: 2, Data: "same"}}},
	}
}

// wrongWal: a Wal that breaks one rule.
type wrongWal struct {
	why string
	bad impl.Wal
}

func wrongWals() []wrongWal {
	var out []wrongWal
	but := func(why string, change func(w *impl.Wal)) {
		w := copyWal(richWal())
		change(&w)
		out = append(out, wrongWal{why, w})
	}
	but("a Term below 0", func(w *impl.Wal) { *w = impl.Wal{Term: -1} })
	but("a Term above MaxTerm", func(w *impl.Wal) { w.Term = impl.MaxTerm + 1 })
	but("the least Term", func(w *impl.Wal) { *w = impl.Wal{Term: math.MinInt} })
	but("the greatest Term", func(w *impl.Wal) { w.Term = math.MaxInt })
	but("a Vote below -1", func(w *impl.Wal) { w.Vote = -2 })
	but("a Vote of MaxPeers", func(w *impl.Wal) { w.Vote = impl.MaxPeers })
	but("the greatest Vote", func(w *impl.Wal) { w.Vote = math.MaxInt })
	but("a Base below 0", func(w *impl.Wal) { w.Base = -1 })
	but("a Base below 0 of Term 0", func(w *impl.Wal) { *w = impl.Wal{Term: 1, Base: -1} })
	but("a Base above MaxIndex", func(w *impl.Wal) { *w = impl.Wal{Term: 1, Base: impl.MaxIndex + 1, BaseTerm: 1} })
	but("the greatest Base", func(w *impl.Wal) { w.Base = math.MaxInt })
	but("the least Base", func(w *impl.Wal) { w.Base = math.MinInt })
	but("a Base without a BaseTerm", func(w *impl.Wal) { w.BaseTerm = 0 })
	but("a BaseTerm without a Base", func(w *impl.Wal) { w.Base = 0 })
	but("a BaseTerm below 0", func(w *impl.Wal) { w.BaseTerm = -1 })
	but("a BaseTerm below 0 of Base 0", func(w *impl.Wal) { *w = impl.Wal{Term: 1, BaseTerm: -1} })
	but("a BaseTerm above MaxTerm", func(w *impl.Wal) { *w = impl.Wal{Term: impl.MaxTerm, Base: 1, BaseTerm: impl.MaxTerm + 1} })
	but("a BaseTerm above Term", func(w *impl.Wal) { *w = impl.Wal{Term: 2, Base: 1, BaseTerm: 3} })
	but("more than MaxLog entries", func(w *impl.Wal) {
		*w = longWal(0, 0)
		w.Entries = append(w.Entries, impl.Entry{Term: 80})
	})
	but("901 bytes in the first entry", func(w *impl.Wal) { w.Entries[0].Data = someData(901) })
	but("901 bytes in the last entry", func(w *impl.Wal) { w.Entries[3].Data = someData(901) })
	but("an entry of term 0", func(w *impl.Wal) { *w = impl.Wal{Term: 1, Entries: []impl.Entry{{}}} })
	but("an entry of a term below 0", func(w *impl.Wal) { *w = impl.Wal{Term: 1, Entries: []impl.Entry{{Term: -1}, {Term: 1}}} })
	but("an entry below BaseTerm", func(w *impl.Wal) { w.Entries[0].Term = 2 })
	but("an entry below the one ahead", func(w *impl.Wal) { w.Entries[2].Term = 3 })
	but("a last entry below the one ahead", func(w *impl.Wal) { w.Entries[3].Term = 3 })
	but("an entry above Term", func(w *impl.Wal) { w.Entries[3].Term = 10 })
	but("a first entry above Term", func(w *impl.Wal) { *w = impl.Wal{Term: 2, Entries: []impl.Entry{{Term: 3}}} })
	but("an entry behind MaxIndex", func(w *impl.Wal) { w.Base = impl.MaxIndex - 3 })
	but("one entry behind MaxIndex", func(w *impl.Wal) {
		*w = impl.Wal{Term: 1, Base: impl.MaxIndex, BaseTerm: 1, Entries: []impl.Entry{{Term: 1}}}
	})
	return out
}

// smallWals: all Wals of few small numbers, right ones and wrong ones.
func smallWals() []impl.Wal {
	var rows [][]impl.Entry
	some := []impl.Entry{{Term: 0}, {Term: 1}, {Term: 1, Data: "ab"}, {Term: 2}, {Term: 2, Data: "ab"}}
	for i, a := range some {
		rows = append(rows, []impl.Entry{a})
		for _, b := range some {
			rows = append(rows, []impl.Entry{a, b}, []impl.Entry{a, b, some[i]})
		}
	}
	var out []impl.Wal
	for _, entries := range append(rows, nil) {
		for term := range 3 {
			for vote := -1; vote < 2; vote++ {
				for base := range 2 {
					for baseTerm := range 3 {
						out = append(out, impl.Wal{Term: term, Vote: vote, Base: base, BaseTerm: baseTerm, Entries: entries})
					}
				}
			}
		}
	}
	return out
}

func TestWalOkOfRightWals(t *testing.T) {
	for why, w := range rightWals() {
		if in := copyWal(w); !wantWalOk(w) || !impl.WalOk(in) || walTouched(in, w) {
			t.Errorf("%s: %.300v is right, WalOk says %v", why, w, impl.WalOk(in))
		}
	}
}

func TestWalOkOfEachBrokenRule(t *testing.T) {
	for _, w := range wrongWals() {
		if wantWalOk(w.bad) || impl.WalOk(w.bad) {
			t.Errorf("%s: %.300v is not right, WalOk says %v", w.why, w.bad, impl.WalOk(w.bad))
		}
	}
}

func TestWalOkOfSmallWals(t *testing.T) {
	right := 0
	for _, w := range smallWals() {
		if impl.WalOk(w) != wantWalOk(w) {
			t.Fatalf("WalOk(%v) = %v", w, impl.WalOk(w))
		}
		if wantWalOk(w) {
			right++
		}
	}
	if right < 50 {
		t.Errorf("only %d of these are right", right)
	}
}

// stepRecs: records of each kind with numbers at and beside those of the Wal, right ones and wrong ones.
func stepRecs(w impl.Wal) []impl.Rec {
	terms := []int{w.Term - 1, w.Term, w.Term + 1, w.BaseTerm - 1, w.BaseTerm, w.BaseTerm + 1, 0, 1, 100000}
	for _, e := range w.Entries {
		terms = append(terms, e.Term-1, e.Term)
	}
	indexes := []int{w.Base - 1, w.Base, w.Base + 1, 0, 1, 100000}
	for i := range 4 {
		indexes = append(indexes, w.Base+len(w.Entries)-1+i)
	}
	slices.Sort(terms)
	slices.Sort(indexes)
	terms, indexes = slices.Compact(terms), slices.Compact(indexes)
	out := []impl.Rec{{}, {Kind: 5, Term: 1, Index: 1}, {Kind: 3, Index: w.Base + 1, Term: 1}, {Kind: 1, Term: w.Term + 1, Index: 1}}
	for _, term := range terms {
		for vote := -2; vote <= 5; vote++ {
			out = append(out, impl.Rec{Kind: 1, Term: term, Vote: vote})
		}
		for _, index := range indexes {
			out = append(out, impl.Rec{Kind: 2, Term: term, Index: index, Data: "entry"}, impl.Rec{Kind: 4, Term: term, Index: index})
		}
		end := w.Base + len(w.Entries) + 1
		out = append(out, impl.Rec{Kind: 2, Term: term, Index: end}, impl.Rec{Kind: 2, Term: term, Index: end, Data: someData(900)}, impl.Rec{Kind: 2, Term: term, Index: end, Data: someData(901)}, impl.Rec{Kind: 2, Term: term, Index: end, Vote: 1})
	}
	for _, index := range append(indexes, 2, 3) {
		out = append(out, impl.Rec{Kind: 3, Index: index})
	}
	return out
}

// Each kind where it fits, and where one reason alone is against it.
func TestWalStepReasons(t *testing.T) {
	rich := richWal()
	noVote := copyWal(rich)
	noVote.Vote = -1
	empty := impl.Wal{Term: 4, Vote: 0, Base: 5, BaseTerm: 3}
	full, nearly := longWal(7, 2), longWal(7, 2)
	nearly.Entries = nearly.Entries[:59]
	hard := func(term, vote int) impl.Rec { return impl.Rec{Kind: impl.RcHard, Term: term, Vote: vote} }
	entry := func(index, term int) impl.Rec {
		return impl.Rec{Kind: impl.RcEntry, Index: index, Term: term, Data: "new"}
	}
	cut := func(index int) impl.Rec { return impl.Rec{Kind: impl.RcCut, Index: index} }
	for _, c := range []struct {
		why  string
		w    impl.Wal
		r    impl.Rec
		fits bool
	}{
		{"a later term", rich, hard(10, 3), true},
		{"a later term without a vote", rich, hard(10, -1), true},
		{"the last term", rich, hard(100000, 0), true},
		{"the same term and vote", rich, hard(9, 2), true},
		{"the same term, the first vote", noVote, hard(9, 4), true},
		{"the same term, no vote again", noVote, hard(9, -1), true},
		{"the same term, another vote", rich, hard(9, 3), false},
		{"the same term, the vote is taken back", rich, hard(9, -1), false},
		{"an earlier term", rich, hard(8, 2), false},
		{"an earlier term, no vote", noVote, hard(8, -1), false},
		{"no right vote", rich, hard(10, 5), false},

		{"an entry of the last one's term", rich, entry(10, 7), true},
		{"an entry of its term", rich, entry(10, 9), true},
		{"an entry between", rich, entry(10, 8), true},
		{"an entry below the last one's term", rich, entry(10, 6), false},
		{"an entry above its term", rich, entry(10, 10), false},
		{"an entry that is there", rich, entry(9, 7), false},
		{"an entry with one left out", rich, entry(11, 7), false},
		{"the first entry, of BaseTerm", empty, entry(6, 3), true},
		{"the first entry, of its term", empty, entry(6, 4), true},
		{"the first entry, below BaseTerm", empty, entry(6, 2), false},
		{"the first entry, above its term", empty, entry(6, 5), false},
		{"an entry at the base", empty, entry(5, 3), false},
		{"an entry as if there were no base", empty, entry(1, 3), false},
		{"the last of MaxLog", nearly, entry(67, 60), true},
		{"one more than MaxLog", full, entry(68, 60), false},
		{"the last number", impl.Wal{Term: 1, Vote: -1, Base: 99999, BaseTerm: 1}, entry(100000, 1), true},
		{"behind the last number", impl.Wal{Term: 1, Vote: -1, Base: 100000, BaseTerm: 1}, entry(100001, 1), false},
		{"an entry where there is no term yet", impl.Wal{Vote: -1}, entry(1, 1), false},

		{"all entries go", rich, cut(6), true},
		{"some entries go", rich, cut(8), true},
		{"the last entry goes", rich, cut(9), true},
		{"behind the last entry", rich, cut(10), false},
		{"the base itself", rich, cut(5), false},
		{"below the base", rich, cut(1), false},
		{"no entry to go", empty, cut(6), false},
		{"number 0", impl.Wal{Term: 1, Entries: []impl.Entry{{Term: 1}}}, cut(0), false},

		{"a base as it is", rich, impl.Rec{Kind: impl.RcBase, Index: 5, Term: 3}, false},
		{"a base at the end", rich, impl.Rec{Kind: impl.RcBase, Index: 9, Term: 7}, false},
		{"a base of nothing", impl.Wal{Vote: -1}, impl.Rec{Kind: impl.RcBase}, false},
		{"the zero Rec", rich, impl.Rec{}, false},
	} {
		out, ok := checkStep(t, c.w, c.r)
		if ok != c.fits || !ok && !sameWal(out, c.w) {
			t.Errorf("%s: %.60v fits is %v, want %v; the Wal is %.300v then", c.why, c.r, ok, c.fits, out)
		}
	}
}

func TestWalStepMakes(t *testing.T) {
	w := impl.Wal{Term: 4, Vote: -1, Base: 5, BaseTerm: 3, Entries: []impl.Entry{{Term: 3, Data: "six"}, {Term: 4, Data: "seven"}}}
	for _, c := range []struct {
		r    impl.Rec
		want impl.Wal
	}{
		{impl.Rec{Kind: impl.RcHard, Term: 4, Vote: 1}, impl.Wal{Term: 4, Vote: 1, Base: 5, BaseTerm: 3, Entries: w.Entries}},
		{impl.Rec{Kind: impl.RcHard, Term: 8, Vote: -1}, impl.Wal{Term: 8, Vote: -1, Base: 5, BaseTerm: 3, Entries: w.Entries}},
		{impl.Rec{Kind: impl.RcEntry, Term: 4, Index: 8, Data: "eight"}, impl.Wal{Term: 4, Vote: -1, Base: 5, BaseTerm: 3, Entries: []impl.Entry{{Term: 3, Data: "six"}, {Term: 4, Data: "seven"}, {Term: 4, Data: "eight"}}}},
		{impl.Rec{Kind: impl.RcCut, Index: 7}, impl.Wal{Term: 4, Vote: -1, Base: 5, BaseTerm: 3, Entries: w.Entries[:1]}},
		{impl.Rec{Kind: impl.RcCut, Index: 6}, impl.Wal{Term: 4, Vote: -1, Base: 5, BaseTerm: 3}},
	} {
		if out, ok := impl.WalStep(w, c.r); !ok || !sameWal(out, c.want) {
			t.Errorf("%v makes %v %v, want %v", c.r, out, ok, c.want)
		}
	}
}

func TestWalStepByTheWords(t *testing.T) {
	seen := map[string]int{}
	wals := smallWals()
	for _, w := range rightWals() {
		wals = append(wals, w)
	}
	for _, w := range wals {
		if len(w.Entries) > 2 && w.Vote == 1 {
			continue
		}
		for _, r := range stepRecs(w) {
			_, ok := checkStep(t, w, r)
			if wantWalOk(w) && wantRecOk(r) {
				seen[impl.Dec(r.Kind)+map[bool]string{true: " fits", false: " does not"}[ok]]++
			}
		}
	}
	for _, what := range []string{"1 fits", "1 does not", "2 fits", "2 does not", "3 fits", "3 does not", "4 does not"} {
		if seen[what] == 0 {
			t.Errorf("no record of kind %s: %v", what, seen)
		}
	}
	if len(seen) != 7 {
		t.Errorf("a base that fits: %v", seen)
	}
}

// A Wal that is not right is the zero Wal then, whatever the record is; a record that is not right leaves a right one as it is.
func TestWalStepOfWrongWalsAndRecords(t *testing.T) {
	for _, w := range wrongWals() {
		for _, r := range append(stepRecs(w.bad), walRecs(w.bad)...) {
			if out, ok := impl.WalStep(w.bad, r); ok || !reflect.DeepEqual(out, impl.Wal{}) {
				t.Fatalf("%s: WalStep by %.60v = %.300v %v, want the zero Wal and false", w.why, r, out, ok)
			}
		}
	}
	wrong := []impl.Rec{{Kind: impl.RcHard, Term: 10, Vote: 5}, {Kind: impl.RcHard, Term: 10, Index: 1}, {Kind: impl.RcHard, Term: 100001},
		{Kind: impl.RcEntry, Term: 9, Index: 10, Data: someData(901)}, {Kind: impl.RcEntry, Term: 9, Index: 10, Vote: -1}, {Kind: impl.RcCut, Index: 6, Data: "d"}, {Kind: impl.RcCut, Index: 6, Term: 3}, {Kind: 0, Index: 6}, {Kind: 5, Index: 6}, {Kind: 257, Term: 10}}
	for _, r := range wrong {
		if out, ok := checkStep(t, richWal(), r); ok || !sameWal(out, richWal()) {
			t.Errorf("WalStep by %.60v = %.300v %v, want the Wal as it is and false", r, out, ok)
		}
	}
}

func TestWalTextOfKnownWals(t *testing.T) {
	for _, c := range []struct {
		w      impl.Wal
		bodies []string
	}{
		{impl.Wal{Vote: -1}, []string{"\x04\x00\x00\x01", "\x01\x00\x00\x00"}},
		{impl.Wal{}, []string{"\x04\x00\x00\x01", "\x01\x00\x00\x01"}},
		{impl.Wal{Term: 9, Vote: 2, Base: 128, BaseTerm: 3, Entries: []impl.Entry{{Term: 3, Data: "a"}, {Term: 9}}}, []string{"\x04\x03\x80\x01\x01", "\x01\x09\x00\x03", "\x02\x03\x81\x01\x01a", "\x02\x09\x82\x01\x01"}},
	} {
		if got := impl.WalText(c.w); got != framedRow(c.bodies) {
			t.Errorf("WalText(%v) = %q, want %q", c.w, got, framedRow(c.bodies))
		}
	}
}

func TestWalTextIsReplayed(t *testing.T) {
	for why, w := range rightWals() {
		s := checkWalText(t, w)
		if s == "" {
			t.Errorf("%s: no text", why)
		}
		// Whatever stands behind it that is no record which fits is not taken.
		for _, b := range append(behind, s, rawFrame("no record"), rawFrame(wantShow(impl.Rec{Kind: 4})), rawFrame("\x05")+framedRecs(impl.Rec{Kind: 1, Term: 100000}), framedRecs(impl.Rec{Kind: 1, Term: 100000})[:9]) {
			if got, n, ok := checkReplay(t, s+b); !ok || n != len(s) || !sameWal(got, w) {
				t.Errorf("%s, with %.40q behind it: %.300v %d %v, want %d bytes", why, b, got, n, ok, len(s))
			}
		}
	}
	for _, w := range smallWals() {
		checkWalText(t, w)
	}
}

func TestWalTextOfWrongWals(t *testing.T) {
	for _, w := range wrongWals() {
		if s := impl.WalText(w.bad); s != "" {
			t.Errorf("%s: WalText = %.60q, want nothing", w.why, s)
		}
	}
}

func TestReplayWithoutABase(t *testing.T) {
	good := framedRecs(impl.Rec{Kind: 4}, impl.Rec{Kind: 1, Term: 1, Vote: 1}, impl.Rec{Kind: 2, Term: 1, Index: 1, Data: "one"})
	turned := []byte(good)
	turned[8]++
	for why, s := range map[string]string{
		"nothing":                   "",
		"no frame":                  "one more text",
		"a record without a frame":  "\x04\x00\x00\x01",
		"a byte ahead":              "\x00" + good,
		"a frame that is turned":    string(turned),
		"a frame of no record":      rawFrame("no record") + good,
		"a hard first":              framedRecs(impl.Rec{Kind: 1, Term: 1}) + good,
		"a hard of nothing first":   framedRecs(impl.Rec{Kind: 1, Vote: -1}) + good,
		"an entry first":            framedRecs(impl.Rec{Kind: 2, Term: 1, Index: 1}) + good,
		"a cut first":               framedRecs(impl.Rec{Kind: 3, Index: 1}) + good,
		"a base that is not right":  rawFrame("\x04\x00\x01\x01") + good,
		"a base with Data":          rawFrame("\x04\x00\x00\x01d") + good,
		"a base with a Vote of -1":  rawFrame("\x04\x00\x00\x00") + good,
		"a base with a long Var":    rawFrame("\x04\x80\x00\x00\x01") + good,
		"a base behind MaxIndex":    rawFrame("\x04\x01\xa1\x8d\x06\x01") + good,
		"a frame of a frame":        rawFrame(good),
		"a frame without a body":    rawFrame("") + good,
		"a frame beyond its limits": rawFrame(someData(2001)) + good,
	} {
		if w, n, ok := checkReplay(t, s); ok || n != 0 || !reflect.DeepEqual(w, impl.Wal{}) {
			t.Errorf("%s: Replay = %v %d %v, want the zero Wal, 0 and false", why, w, n, ok)
		}
	}
}

func TestReplayOfABaseAlone(t *testing.T) {
	for r, want := range map[impl.Rec]impl.Wal{
		{Kind: 4}:                              {Vote: -1},
		{Kind: 4, Term: 1, Index: 1}:           {Term: 1, Vote: -1, Base: 1, BaseTerm: 1},
		{Kind: 4, Term: 7, Index: 3}:           {Term: 7, Vote: -1, Base: 3, BaseTerm: 7},
		{Kind: 4, Term: 100000, Index: 100000}: {Term: 100000, Vote: -1, Base: 100000, BaseTerm: 100000},
	} {
		s := framedRecs(r)
		if w, n, ok := checkReplay(t, s); !ok || n != len(s) || !sameWal(w, want) || !impl.WalOk(w) {
			t.Errorf("Replay of %v = %v %d %v, want %v", r, w, n, ok, want)
		}
	}
}

// logOf: a log as it grows: terms, votes, entries, cuts, and entries again.
func logOf() []impl.Rec {
	return []impl.Rec{
		{Kind: 4, Term: 2, Index: 5}, {Kind: 2, Term: 2, Index: 6, Data: "six"}, {Kind: 1, Term: 3, Vote: -1}, {Kind: 1, Term: 3, Vote: 1},
		{Kind: 2, Term: 3, Index: 7, Data: someData(300)}, {Kind: 2, Term: 3, Index: 8}, {Kind: 3, Index: 7}, {Kind: 1, Term: 5, Vote: 0},
		{Kind: 2, Term: 4, Index: 7, Data: "seven"}, {Kind: 2, Term: 5, Index: 8, Data: "eight"}, {Kind: 3, Index: 6}, {Kind: 1, Term: 5, Vote: 0}, {Kind: 2, Term: 2, Index: 6, Data: "again"},
	}
}

func TestReplayCutOffAtEveryByte(t *testing.T) {
	recs := logOf()
	s := framedRecs(recs...)
	whole, size := 0, 0
	for k := range len(s) + 1 {
		if whole < len(recs) && k == size+8+len(wantShow(recs[whole])) {
			size = k
			whole++
		}
		w, n, ok := checkReplay(t, s[:k])
		if ok != (whole > 0) || n != size {
			t.Fatalf("the first %d of %d bytes: Replay takes %d %v, want %d", k, len(s), n, ok, size)
		}
		if whole > 0 && !impl.WalOk(w) {
			t.Fatalf("the first %d bytes come to %v, which is not right", k, w)
		}
	}
	want := impl.Wal{Term: 5, Vote: 0, Base: 5, BaseTerm: 2, Entries: []impl.Entry{{Term: 2, Data: "again"}}}
	if w, n, _ := checkReplay(t, s); whole != len(recs) || n != len(s) || !sameWal(w, want) {
		t.Errorf("the log comes to %v, %d of %d bytes, want %v", w, n, len(s), want)
	}
}

// A record that does not fit, or is none, ends the log wherever it stands, with good ones behind it.
func TestReplayUpToWhatDoesNotFit(t *testing.T) {
	recs := logOf()
	for at := 1; at <= len(recs); at++ {
		ahead, rest := framedRecs(recs[:at]...), framedRecs(recs[at:]...)
		want, _, _ := wantReplay(ahead)
		noRecords := []string{rawFrame("no record"), rawFrame("\x00"), rawFrame("\x02\x81\x00\x01\x01"), rawFrame("\x01\x7f\x00\x06"), rawFrame("\x01\x7f\x00\x00d"), rawFrame(""), "\x00", "x"}
		for _, r := range stepRecs(want) {
			if wantRecOk(r) && !wantFits(want, r) {
				noRecords = append(noRecords, framedRecs(r))
			}
		}
		turned := []byte(framedRecs(impl.Rec{Kind: 1, Term: 9}))
		turned[len(turned)-1] ^= 1
		for _, b := range append(noRecords, string(turned)) {
			// The last one fits by itself, whatever the log is.
			for _, behind := range []string{"", rest, framedRecs(impl.Rec{Kind: 1, Term: 90, Vote: 3})} {
				if w, n, ok := checkReplay(t, ahead+b+behind); !ok || n != len(ahead) || !sameWal(w, want) {
					t.Fatalf("behind %d records %.40q: %.300v %d %v, want %.300v %d", at, b, w, n, ok, want, len(ahead))
				}
			}
		}
	}
}

func TestReplayOfMoreThanMaxLog(t *testing.T) {
	w := longWal(7, 20)
	s := checkWalText(t, w)
	over := framedRecs(impl.Rec{Kind: 2, Term: 70, Index: 68, Data: "over"})
	later := framedRecs(impl.Rec{Kind: 1, Term: 90, Vote: 2})
	if got, n, _ := checkReplay(t, s+over+later); n != len(s) || !sameWal(got, w) {
		t.Errorf("one more than MaxLog: %d of %d bytes", n, len(s))
	}
	more := framedRecs(impl.Rec{Kind: 3, Index: 67}, impl.Rec{Kind: 2, Term: 70, Index: 67, Data: "in its place"})
	if got, n, _ := checkReplay(t, s+more+later+over); n != len(s+more+later) || got.Term != 90 || len(got.Entries) != 60 || got.Entries[59] != (impl.Entry{Term: 70, Data: "in its place"}) {
		t.Errorf("a cut makes room: %d bytes, %.300v", n, got)
	}
}

func TestReplayOfALongLog(t *testing.T) {
	recs := []impl.Rec{{Kind: 4}}
	for i := range 3000 {
		recs = append(recs, impl.Rec{Kind: 1, Term: i + 1, Vote: i%6 - 1}, impl.Rec{Kind: 2, Term: i + 1, Index: i%60 + 1, Data: mixedText(i%40, uint64(i))})
		if i%60 == 59 {
			recs = append(recs, impl.Rec{Kind: 3, Index: 1})
		}
	}
	var s strings.Builder
	for _, r := range recs {
		s.WriteString(framedRecs(r))
	}
	if w, n, ok := checkReplay(t, s.String()); !ok || n != s.Len() || w.Term != 3000 || w.Vote != 2999%6-1 || len(w.Entries) != 0 {
		t.Errorf("%d of %d bytes, %.300v %v", n, s.Len(), w, ok)
	}
}

func TestChangesOfKnownWals(t *testing.T) {
	entries := []impl.Entry{{Term: 3, Data: "six"}, {Term: 4, Data: "seven"}, {Term: 4, Data: "eight"}}
	a := impl.Wal{Term: 4, Vote: -1, Base: 5, BaseTerm: 3, Entries: entries}
	with := func(term, vote int, entries ...impl.Entry) impl.Wal {
		return impl.Wal{Term: term, Vote: vote, Base: 5, BaseTerm: 3, Entries: entries}
	}
	for _, c := range []struct {
		why  string
		b    impl.Wal
		want []impl.Rec
	}{
		{"nothing differs", a, nil},
		{"a vote", with(4, 2, entries...), []impl.Rec{{Kind: 1, Term: 4, Vote: 2}}},
		{"a term", with(5, -1, entries...), []impl.Rec{{Kind: 1, Term: 5, Vote: -1}}},
		{"entries less", with(4, -1, entries[:1]...), []impl.Rec{{Kind: 3, Index: 7}}},
		{"no entries", with(4, -1), []impl.Rec{{Kind: 3, Index: 6}}},
		{"an entry more", with(4, -1, append(slices.Clone(entries), impl.Entry{Term: 4, Data: "nine"})...), []impl.Rec{{Kind: 2, Term: 4, Index: 9, Data: "nine"}}},
		{"another term", with(5, 1, entries[0], impl.Entry{Term: 5, Data: "seven"}), []impl.Rec{{Kind: 1, Term: 5, Vote: 1}, {Kind: 3, Index: 7}, {Kind: 2, Term: 5, Index: 7, Data: "seven"}}},
		{"other data ahead of an entry that is alike", with(4, -1, impl.Entry{Term: 3, Data: "SIX"}, entries[1], entries[2]), []impl.Rec{{Kind: 3, Index: 6}, {Kind: 2, Term: 3, Index: 6, Data: "SIX"}, {Kind: 2, Term: 4, Index: 7, Data: "seven"}, {Kind: 2, Term: 4, Index: 8, Data: "eight"}}},
	} {
		recs, ok := checkChanges(t, a, c.b)
		if !ok || !slices.Equal(recs, c.want) {
			t.Errorf("%s: %v %v, want %v", c.why, recs, ok, c.want)
		}
	}
}

// Each way in which there are no Changes, alone.
func TestChangesThatThereAreNot(t *testing.T) {
	a := richWal()
	but := func(change func(w *impl.Wal)) impl.Wal {
		w := copyWal(a)
		change(&w)
		return w
	}
	for why, b := range map[string]impl.Wal{
		"another Base":                but(func(w *impl.Wal) { w.Base = 6 }),
		"another BaseTerm":            but(func(w *impl.Wal) { w.BaseTerm = 2 }),
		"an earlier term":             but(func(w *impl.Wal) { w.Term = 8 }),
		"an earlier term, no vote":    but(func(w *impl.Wal) { w.Term, w.Vote = 8, -1 }),
		"another vote in the term":    but(func(w *impl.Wal) { w.Vote = 3 }),
		"a vote that was taken back":  but(func(w *impl.Wal) { w.Vote = -1 }),
		"another vote, other entries": but(func(w *impl.Wal) { w.Vote, w.Entries = 0, w.Entries[:1] }),
	} {
		if recs, ok := checkChanges(t, a, b); ok || len(recs) != 0 || !impl.WalOk(b) {
			t.Errorf("%s: %v %v, want nothing and false", why, recs, ok)
		}
	}
	for _, w := range wrongWals() {
		for _, pair := range [][2]impl.Wal{{a, w.bad}, {w.bad, a}, {w.bad, w.bad}} {
			if recs, ok := checkChanges(t, pair[0], pair[1]); ok || len(recs) != 0 {
				t.Errorf("%s: %.300v %v, want nothing and false", w.why, recs, ok)
			}
		}
	}
}

func TestChangesOfEveryPair(t *testing.T) {
	some := slices.DeleteFunc(smallWals(), func(w impl.Wal) bool { return !wantWalOk(w) })
	for _, w := range rightWals() {
		some = append(some, w)
	}
	some = append(some, longWal(0, 4), longWal(7, 899))
	lead := 0
	for _, a := range some {
		for _, b := range some {
			if _, ok := checkChanges(t, a, b); ok {
				lead++
			}
		}
	}
	if lead < 1000 {
		t.Errorf("only %d pairs of %d Wals have Changes", lead, len(some))
	}
}

// A log that Changes are added to, one behind the other, is Replayed as the Wal that they led to.
func TestChangesBehindALog(t *testing.T) {
	for seed := range 30 {
		r := dice(seed)
		w := impl.Wal{Term: 1, Vote: -1, Base: seed % 3, BaseTerm: min(seed%3, 1)}
		log := checkWalText(t, w)
		for range 40 {
			next := r.later(w)
			recs, ok := checkChanges(t, w, next)
			if !ok {
				t.Fatalf("no Changes from %.300v to %.300v", w, next)
			}
			log, w = log+framedRecs(recs...), next
			if got, n, ok := checkReplay(t, log); !ok || n != len(log) || !sameWal(got, w) {
				t.Fatalf("the log comes to %.300v %d %v, want %.300v %d", got, n, ok, w, len(log))
			}
			checkWalText(t, w)
		}
	}
}

// later: a Wal to which Changes lead from this one.
func (r *dice) later(w impl.Wal) impl.Wal {
	out := copyWal(w)
	switch r.roll(3) {
	case 0:
		out.Term, out.Vote = out.Term+1+r.roll(3), r.roll(6)-1
	case 1:
		if out.Vote == -1 {
			out.Vote = r.roll(5)
		}
	}
	if len(out.Entries) > 0 && r.roll(3) == 0 {
		out.Entries = out.Entries[:r.roll(len(out.Entries)+1)]
	}
	for range min(r.roll(9), 60-len(out.Entries)) {
		least := max(out.BaseTerm, 1)
		if n := len(out.Entries); n > 0 {
			least = out.Entries[n-1].Term
		}
		out.Entries = append(out.Entries, impl.Entry{Term: least + r.roll(out.Term-least+1), Data: mixedText(r.roll(30), uint64(r.roll(99)))})
	}
	return out
}

func TestWalsOfOneCallAreApart(t *testing.T) {
	w := copyWal(richWal())
	w.Entries[1].Data = w.Entries[0].Data
	for _, r := range stepRecs(w) {
		a, _ := impl.WalStep(w, r)
		b, _ := impl.WalStep(w, r)
		if shareWal(a, b) || !sameWal(a, b) || shareWithin(walData(a)) {
			t.Errorf("WalStep by %.60v: two answers, or two entries of one, share memory", r)
		}
	}
	s := impl.WalText(w)
	a, _, _ := impl.Replay(s)
	b, _, _ := impl.Replay(s)
	if shareWal(a, b) || shareWal(a, w) || shareWithin(walData(a)) {
		t.Error("Replay: two answers share memory")
	}
	first, _ := impl.Changes(impl.Wal{Term: 9, Vote: 2, Base: 5, BaseTerm: 3}, w)
	second, _ := impl.Changes(impl.Wal{Term: 9, Vote: 2, Base: 5, BaseTerm: 3}, w)
	if len(first) != 4 || overlap(first, second) || shareText(recData(first), recData(second)) || shareWithin(recData(first)) {
		t.Error("Changes: two answers, or two records of one, share memory")
	}
}

// What comes behind an answer's list does not reach the Wal that was handed in, nor the other way round.
func TestWalsThatGoOnAreApart(t *testing.T) {
	w := copyWal(richWal())
	short, _ := impl.WalStep(w, impl.Rec{Kind: impl.RcCut, Index: 8})
	one, _ := impl.WalStep(short, impl.Rec{Kind: impl.RcEntry, Term: 5, Index: 8, Data: "one way"})
	other, _ := impl.WalStep(short, impl.Rec{Kind: impl.RcEntry, Term: 6, Index: 8, Data: "the other"})
	if one.Entries[2].Data != "one way" || other.Entries[2].Data != "the other" || len(short.Entries) != 2 || !sameWal(w, richWal()) {
		t.Errorf("two ways from one Wal: %.300v and %.300v from %.300v", one, other, short)
	}
	one.Entries[0].Term = 99
	if other.Entries[0].Term != 3 || short.Entries[0].Term != 3 || w.Entries[0].Term != 3 {
		t.Error("an answer that is changed changes another one")
	}
}
