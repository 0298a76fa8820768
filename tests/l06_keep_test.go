package tests

import (
	"encoding/binary"
	"fmt"
	"maps"
	"math"
	"reflect"
	"slices"
	"strings"
	"testing"

	"loop.example/g00358/impl"
)

// brief: values as they are told where a test fails, long ones cut off.
func brief(values ...any) []any {
	for i, v := range values {
		if text := fmt.Sprint(v); len(text) > 300 {
			values[i] = text[:300] + ".."
		}
	}
	return values
}

func wantSnapOk(s impl.Snap) bool {
	none := s.Index == 0 && s.Term == 0 && s.Data == ""
	return none || s.Index >= 1 && s.Index <= 100000 && s.Term >= 1 && s.Term <= 100000 && len(s.Data) <= 8000
}

// rawSnap: the parts of a Snap's text as they stand there, whatever they are.
func rawSnap(index, term, count int, sha, data string) string {
	var head []byte
	for _, n := range []int{index, term, count} {
		head = binary.BigEndian.AppendUint32(head, uint32(n))
	}
	return rawFrame(string(head)+sha) + data
}

func wantShowSnap(s impl.Snap) string {
	if !wantSnapOk(s) || s.Index == 0 {
		return ""
	}
	return rawSnap(s.Index, s.Term, len(s.Data), wantSha(s.Data), s.Data)
}

// wantReadSnap: part by part.
func wantReadSnap(text string) (impl.Snap, bool) {
	head, size, code := wantUnframe(text)
	if code != impl.FrOk || len(head) != 12+32 {
		return impl.Snap{}, false
	}
	at := func(i int) int { return int(binary.BigEndian.Uint32([]byte(head[i : i+4]))) }
	s := impl.Snap{Index: at(0), Term: at(4), Data: text[size:]}
	if s.Index == 0 || !wantSnapOk(s) || at(8) != len(s.Data) || head[12:] != wantSha(s.Data) {
		return impl.Snap{}, false
	}
	return s, true
}

func wantDoStep(d impl.Disk, s impl.Step) (impl.Disk, int) {
	if !wantRight(d) {
		return impl.Disk{}, impl.DkBad
	}
	switch s.Kind {
	case 1:
		return diskCall{"make", s.Name, ""}.want(d)
	case 2:
		return diskCall{"add", s.Name, s.Data}.want(d)
	case 3:
		return diskCall{"sync", s.Name, ""}.want(d)
	case 4:
		return diskCall{"rename", s.Name, s.To}.want(d)
	case 5:
		return diskCall{"drop", s.Name, ""}.want(d)
	case 6:
		return diskCall{what: "syncdir"}.want(d)
	}
	return d, impl.DkBad
}

func wantDoSteps(d impl.Disk, steps []impl.Step, n int) (impl.Disk, int, int) {
	if !wantRight(d) {
		return impl.Disk{}, 0, impl.DkBad
	}
	if len(steps) > 20 {
		return d, 0, impl.DkBad
	}
	done := 0
	for done < n && done < len(steps) {
		next, code := wantDoStep(d, steps[done])
		if code != impl.DkOk {
			return d, done, code
		}
		d = next
		done++
	}
	return d, done, impl.DkOk
}

// wantData: what a right disk has under this name now.
func wantData(d impl.Disk, name string) (string, bool) {
	now := wantNow(d)
	at := linkAt(now, name)
	if at < 0 {
		return "", false
	}
	i := slices.IndexFunc(d.Inodes, func(n impl.Inode) bool { return n.Id == now[at].Id })
	return d.Inodes[i].Data, true
}

func wantHas(d impl.Disk, name string) bool {
	_, there := wantData(d, name)
	return there
}

func wantPut(d impl.Disk, name string, text string) []impl.Step {
	fresh := name + ".new"
	steps := []impl.Step{{Kind: 5, Name: fresh}, {Kind: 1, Name: fresh}, {Kind: 2, Name: fresh, Data: text}, {Kind: 3, Name: fresh}, {Kind: 4, Name: fresh, To: name}, {Kind: 6}}
	if !wantHas(d, fresh) {
		return steps[1:]
	}
	return steps
}

func wantPlanLog(d impl.Disk, w impl.Wal) []impl.Step {
	if !wantRight(d) || !wantWalOk(w) {
		return nil
	}
	return wantPut(d, "log", wantWalText(w))
}

func wantPlanSnap(d impl.Disk, s impl.Snap, w impl.Wal) []impl.Step {
	text := wantShowSnap(s)
	if !wantRight(d) || !wantWalOk(w) || text == "" {
		return nil
	}
	return append(wantPut(d, "snap", text), wantPlanLog(d, w)...)
}

func wantPlanAdd(a, b impl.Wal) []impl.Step {
	recs, ok := wantChanges(a, b)
	if !ok || len(recs) == 0 {
		return nil
	}
	return []impl.Step{{Kind: 2, Name: "log", Data: framedRecs(recs...)}, {Kind: 3, Name: "log"}}
}

// wantBehind: the Wal behind a Snap that is later than its Base.
func wantBehind(w impl.Wal, s impl.Snap) impl.Wal {
	out := impl.Wal{Term: w.Term, Vote: w.Vote, Base: s.Index, BaseTerm: s.Term}
	for i, e := range w.Entries {
		if w.Base+1+i == s.Index && e.Term == s.Term {
			out.Entries = slices.Clone(w.Entries[i+1:])
		}
	}
	if w.Term < s.Term {
		out.Term, out.Vote = s.Term, -1
	}
	return out
}

func wantRecover(d impl.Disk) (impl.Kept, int) {
	if !wantRight(d) {
		return impl.Kept{}, impl.KpBad
	}
	log, there := wantData(d, "log")
	if !there {
		return impl.Kept{}, impl.KpNone
	}
	w, took, ok := wantReplay(log)
	var s impl.Snap
	if text, there := wantData(d, "snap"); there && ok {
		s, ok = wantReadSnap(text)
	}
	if !ok || w.Base > s.Index || w.Base == s.Index && w.BaseTerm != s.Term {
		return impl.Kept{}, impl.KpBad
	}
	later := s.Index > w.Base
	if later {
		w = wantBehind(w, s)
	}
	dirty := len(log) > took || later || wantHas(d, "log.new") || wantHas(d, "snap.new")
	return impl.Kept{Wal: w, Snap: s, Dirty: dirty}, impl.KpOk
}

// copySteps: the same steps in memory of their own, with spare room in which something stands.
func copySteps(steps []impl.Step) []impl.Step {
	var out []impl.Step
	for _, s := range steps {
		out = append(out, impl.Step{Kind: s.Kind, Name: strings.Clone(s.Name), To: strings.Clone(s.To), Data: strings.Clone(s.Data)})
	}
	return append(out, impl.Step{Kind: 77}, impl.Step{Kind: 78})[:len(steps)]
}

func stepTexts(steps []impl.Step) []string {
	var out []string
	for _, s := range steps {
		out = append(out, s.Name, s.To, s.Data)
	}
	return out
}

func stepsTouched(steps, before []impl.Step) bool {
	n := len(before)
	return !slices.Equal(steps, before) || !slices.Equal(steps[n:n+2], []impl.Step{{Kind: 77}, {Kind: 78}})
}

func diskTouched(d, before impl.Disk) bool {
	return !sameDisk(spare(d), spare(copyDisk(before)))
}

func sameKept(a, b impl.Kept) bool {
	return sameWal(a.Wal, b.Wal) && a.Snap == b.Snap && a.Dirty == b.Dirty
}

func keptTexts(k impl.Kept) []string {
	return append(walData(k.Wal), k.Snap.Data)
}

func checkDoStep(t *testing.T, d impl.Disk, s impl.Step) (impl.Disk, int) {
	t.Helper()
	in, steps := copyDisk(d), copySteps([]impl.Step{s})
	out, code := impl.DoStep(in, steps[0])
	want, wantCode := wantDoStep(d, s)
	if code != wantCode || !sameDisk(out, want) {
		t.Fatalf("DoStep of %v on %v\n = %v %d,\nwant %v %d", brief(s, d, out, code, want, wantCode)...)
	}
	if diskTouched(in, d) || stepsTouched(steps, []impl.Step{s}) || shareDisk(in, out) || shareText(diskTexts(out), stepTexts(steps)) {
		t.Fatalf("DoStep of %v on %v writes into it or answers old memory", brief(s, d)...)
	}
	return out, code
}

func checkDoSteps(t *testing.T, d impl.Disk, steps []impl.Step, n int) (impl.Disk, int, int) {
	t.Helper()
	in, inSteps := copyDisk(d), copySteps(steps)
	out, done, code := impl.DoSteps(in, inSteps, n)
	want, wantDone, wantCode := wantDoSteps(d, steps, n)
	if done != wantDone || code != wantCode || !sameDisk(out, want) {
		t.Fatalf("DoSteps of %d of %v on %v\n = %v %d %d,\nwant %v %d %d", brief(n, steps, d, out, done, code, want, wantDone, wantCode)...)
	}
	if diskTouched(in, d) || stepsTouched(inSteps, steps) {
		t.Fatalf("DoSteps of %d of %v writes into these or into %v", brief(n, steps, d)...)
	}
	if shareDisk(in, out) || shareText(diskTexts(out), stepTexts(inSteps)) {
		t.Fatalf("DoSteps of %d of %v on %v answers old memory", brief(n, steps, d)...)
	}
	return out, done, code
}

func checkPlanAdd(t *testing.T, a, b impl.Wal) []impl.Step {
	t.Helper()
	inA, inB := copyWal(a), copyWal(b)
	steps := impl.PlanAdd(inA, inB)
	if want := wantPlanAdd(a, b); !slices.Equal(steps, want) {
		t.Fatalf("PlanAdd from %v to %v\n = %v,\nwant %v", brief(a, b, steps, want)...)
	}
	if walTouched(inA, a) || walTouched(inB, b) || shareText(stepTexts(steps), append(walData(inA), walData(inB)...)) {
		t.Fatalf("PlanAdd from %v to %v writes into one or answers its memory", brief(a, b)...)
	}
	return steps
}

func checkPlanLog(t *testing.T, d impl.Disk, w impl.Wal) []impl.Step {
	t.Helper()
	in, inWal := copyDisk(d), copyWal(w)
	steps := impl.PlanLog(in, inWal)
	if want := wantPlanLog(d, w); !slices.Equal(steps, want) {
		t.Fatalf("PlanLog of %v on %v\n = %v,\nwant %v", brief(w, d, steps, want)...)
	}
	if diskTouched(in, d) || walTouched(inWal, w) || shareText(stepTexts(steps), append(diskTexts(in), walData(inWal)...)) {
		t.Fatalf("PlanLog of %v on %v writes into one or answers its memory", brief(w, d)...)
	}
	return steps
}

func checkPlanSnap(t *testing.T, d impl.Disk, s impl.Snap, w impl.Wal) []impl.Step {
	t.Helper()
	in, inWal := copyDisk(d), copyWal(w)
	s.Data = strings.Clone(s.Data)
	steps := impl.PlanSnap(in, s, inWal)
	if want := wantPlanSnap(d, s, w); !slices.Equal(steps, want) {
		t.Fatalf("PlanSnap of %v and %v on %v\n = %v,\nwant %v", brief(s, w, d, steps, want)...)
	}
	old := append(append(diskTexts(in), walData(inWal)...), s.Data)
	if diskTouched(in, d) || walTouched(inWal, w) || shareText(stepTexts(steps), old) {
		t.Fatalf("PlanSnap of %v and %v on %v writes into one or answers its memory", brief(s, w, d)...)
	}
	return steps
}

func checkRecover(t *testing.T, d impl.Disk) (impl.Kept, int) {
	t.Helper()
	in := copyDisk(d)
	k, code := impl.Recover(in)
	want, wantCode := wantRecover(d)
	if code != wantCode || !sameKept(k, want) {
		t.Fatalf("Recover of %v\n = %v %d,\nwant %v %d", brief(d, k, code, want, wantCode)...)
	}
	if code != impl.KpOk && !reflect.DeepEqual(k, impl.Kept{}) {
		t.Fatalf("Recover of %v tells %v beside %d, want the zero Kept", brief(d, k, code)...)
	}
	if diskTouched(in, d) || shareText(keptTexts(k), diskTexts(in)) || shareWithin(keptTexts(k)) {
		t.Fatalf("Recover of %v writes into it or answers old memory", brief(d)...)
	}
	if code == impl.KpOk && (!impl.WalOk(k.Wal) || !impl.SnapOk(k.Snap) || k.Wal.Base != k.Snap.Index || k.Wal.BaseTerm != k.Snap.Term) {
		t.Fatalf("Recover of %v tells %v, which is not right", brief(d, k)...)
	}
	return k, code
}

// named: a name with what its file has.
type named struct {
	name string
	data string
}

// safeDisk: a disk with these files, all of them safe.
func safeDisk(files ...named) impl.Disk {
	d := impl.Disk{Room: impl.MaxRoom, Next: 1}
	for _, f := range files {
		d.Inodes = append(d.Inodes, impl.Inode{Id: d.Next, Data: f.data, Sure: len(f.data)})
		d.Dir = with(d.Dir, impl.Link{Name: f.name, Id: d.Next})
		d.Next++
	}
	return d
}

// keptDisk: a disk that has this Wal and, unless it is the zero one, this Snap; and other files beside.
func keptDisk(w impl.Wal, s impl.Snap, others ...named) impl.Disk {
	files := []named{{"log", wantWalText(w)}}
	if s.Index > 0 {
		files = append(files, named{"snap", wantShowSnap(s)})
	}
	return safeDisk(append(files, others...)...)
}

func snapOf(w impl.Wal, data string) impl.Snap {
	if w.Base == 0 {
		return impl.Snap{}
	}
	return impl.Snap{Index: w.Base, Term: w.BaseTerm, Data: data}
}

func someSnap() impl.Snap {
	return impl.Snap{Index: 300, Term: 70000, Data: "all that was"}
}

func rightSnaps() []impl.Snap {
	return []impl.Snap{
		someSnap(), {Index: 1, Term: 1}, {Index: 1, Term: 1, Data: "\x00"}, {Index: 100000, Term: 100000, Data: mixedText(8000, 1)},
		{Index: 255, Term: 256, Data: mixedText(7999, 2)}, {Index: 65536, Term: 65535, Data: mixedText(2000, 3)}, {Index: 99999, Term: 1, Data: mixedText(2001, 4)},
		{Index: 1, Term: 100000, Data: wantShowSnap(someSnap())}, {Index: 9, Term: 9, Data: allBytes()},
	}
}

// snapEdges: every Snap of numbers at and beside the bounds.
func snapEdges() []impl.Snap {
	numbers := []int{math.MinInt, -1, 0, 1, 2, 99999, 100000, 100001, 1<<32 + 1, math.MaxInt}
	var out []impl.Snap
	for _, index := range numbers {
		for _, term := range numbers {
			for _, n := range []int{0, 1, 7999, 8000, 8001} {
				out = append(out, impl.Snap{Index: index, Term: term, Data: someData(n)})
			}
		}
	}
	return out
}

func TestKeepConstants(t *testing.T) {
	if impl.MaxSnap != 8000 || impl.MaxSteps != 20 {
		t.Error("the limits of chapter 6 are others")
	}
	if impl.StMake != 1 || impl.StAdd != 2 || impl.StSync != 3 || impl.StName != 4 || impl.StDrop != 5 || impl.StDir != 6 {
		t.Error("the kinds of steps are others")
	}
	if impl.KpOk != 0 || impl.KpNone != 1 || impl.KpBad != 2 {
		t.Error("the codes of chapter 6 are others")
	}
}

// Each bound at its end and one beyond it; and the zero Snap, of which nothing may be set.
func TestSnapOkBounds(t *testing.T) {
	for s, want := range map[impl.Snap]bool{
		{}:                             true,
		{Index: 1, Term: 1}:            true,
		{Index: 1, Term: 1, Data: "d"}: true,
		{Index: 0, Term: 1}:            false,
		{Index: 0, Term: 1, Data: "d"}: false,
		{Index: 1, Term: 0}:            false,
		{Index: 1, Term: 0, Data: "d"}: false,
		{Data: "d"}:                    false,
		{Data: "\x00"}:                 false,
		{Index: -1, Term: 1}:           false,
		{Index: 1, Term: -1}:           false,
		{Index: impl.MaxIndex, Term: 1, Data: "d"}:                             true,
		{Index: impl.MaxIndex + 1, Term: 1, Data: "d"}:                         false,
		{Index: 1, Term: impl.MaxTerm, Data: "d"}:                              true,
		{Index: 1, Term: impl.MaxTerm + 1, Data: "d"}:                          false,
		{Index: impl.MaxIndex, Term: impl.MaxTerm, Data: someData(8000)}:       true,
		{Index: impl.MaxIndex, Term: impl.MaxTerm, Data: someData(8001)}:       false,
		{Data: someData(8000)}:                                                 false,
		{Index: math.MaxInt, Term: 1}:                                          false,
		{Index: 1, Term: math.MinInt}:                                          false,
		{Index: 1, Term: 1, Data: strings.Repeat("\x00", impl.MaxSnap)}:        true,
		{Index: 1, Term: 1, Data: strings.Repeat("\x00", impl.MaxSnap) + "\n"}: false,
	} {
		if impl.SnapOk(s) != want || wantSnapOk(s) != want {
			t.Errorf("SnapOk(%v) = %v, want %v", brief(s, impl.SnapOk(s), want)...)
		}
	}
}

func TestSnapsAtEveryEdge(t *testing.T) {
	right := 0
	for _, s := range append(snapEdges(), rightSnaps()...) {
		want := wantSnapOk(s)
		if impl.SnapOk(s) != want {
			t.Fatalf("SnapOk(%v) = %v", brief(s, !want)...)
		}
		text := impl.ShowSnap(s)
		if text != wantShowSnap(s) {
			t.Fatalf("ShowSnap(%v) = %.80q, want %.80q", brief(s, text, wantShowSnap(s))...)
		}
		if text == "" {
			continue
		}
		right++
		back, ok := impl.ReadSnap(text)
		if back != s || !ok {
			t.Fatalf("ReadSnap(%.80q) = %v %v, want %v", brief(text, back, ok, s)...)
		}
		if shareText([]string{text}, []string{s.Data}) || shareText([]string{back.Data}, []string{text, s.Data}) {
			t.Fatalf("ShowSnap or ReadSnap of %v answers old memory", brief(s)...)
		}
	}
	if right < 60 {
		t.Errorf("only %d of these have a text", right)
	}
}

func TestShowSnapOfKnownSnaps(t *testing.T) {
	sha, _ := impl.Unhex("ba7816bf8f01cfea414140de5dae2223b00361a396177a9cb410ff61f20015ad")
	body := "\x00\x00\x01\x02" + "\x00\x01\x86\xa0" + "\x00\x00\x00\x03" + sha
	if got := impl.ShowSnap(impl.Snap{Index: 258, Term: 100000, Data: "abc"}); got != rawFrame(body)+"abc" || len(got) != 8+44+3 {
		t.Errorf("ShowSnap = %q", got)
	}
	for _, s := range []impl.Snap{{}, {Index: 1}, {Term: 1}, {Data: "d"}, {Index: 100001, Term: 1}, {Index: 1, Term: 100001}, {Index: 1, Term: 1, Data: someData(8001)}, {Index: -1, Term: 1}} {
		if got := impl.ShowSnap(s); got != "" {
			t.Errorf("ShowSnap(%v) = %.60q, want nothing", brief(s, got)...)
		}
	}
}

func checkNoSnap(t *testing.T, why string, text string) {
	t.Helper()
	if s, ok := impl.ReadSnap(text); ok || s != (impl.Snap{}) {
		t.Fatalf("%s: ReadSnap of %d bytes %.80q = %v %v, want the zero Snap and false", brief(why, len(text), text, s, ok)...)
	}
}

func TestReadSnapCutShortOrGoingOn(t *testing.T) {
	for _, s := range rightSnaps() {
		text := wantShowSnap(s)
		for k := range len(text) {
			if k > 100 && k < len(text)-100 && k%37 != 0 {
				continue
			}
			checkNoSnap(t, "cut short", text[:k])
		}
		for _, more := range []string{"\x00", "x", "\xff", text, rawFrame("more"), strings.Repeat("z", 9000)} {
			checkNoSnap(t, "something behind", text+more)
			checkNoSnap(t, "something ahead", more+text)
		}
	}
}

func TestReadSnapWithAByteTurned(t *testing.T) {
	for _, s := range rightSnaps() {
		text := wantShowSnap(s)
		for at := range len(text) {
			if at > 120 && at < len(text)-20 && at%97 != 0 {
				continue
			}
			for _, by := range []byte{1, 2, 16, 128, 255} {
				turned := []byte(text)
				turned[at] ^= by
				checkNoSnap(t, "a byte turned", string(turned))
			}
		}
		// With the frame made anew, so that its sum is right, each byte of what it has.
		head, size, _ := wantUnframe(text)
		for at := range len(head) {
			for _, by := range []byte{1, 2, 16, 128, 255} {
				turned := []byte(head)
				turned[at] ^= by
				again := rawFrame(string(turned)) + text[size:]
				want, wantOk := wantReadSnap(again)
				if got, ok := impl.ReadSnap(again); got != want || ok != wantOk {
					t.Fatalf("byte %d of the head turned: ReadSnap = %v %v, want %v %v", brief(at, got, ok, want, wantOk)...)
				}
				if at >= 8 {
					checkNoSnap(t, "a count or a Sha turned", again)
				}
			}
		}
	}
}

func TestReadSnapOfWhatShowSnapDoesNotMake(t *testing.T) {
	sha := wantSha("abc")
	long := someData(8001)
	good := wantShowSnap(impl.Snap{Index: 2, Term: 3, Data: "abc"})
	head, _, _ := wantUnframe(good)
	for why, text := range map[string]string{
		"nothing":                       "",
		"a text":                        "snap",
		"three bytes":                   "\x00\x00\x00",
		"a frame of little":             rawFrame("abc"),
		"a frame of seven bytes":        rawFrame(head[:7]) + "abc",
		"a frame of numbers alone":      rawFrame(head[:12]) + "abc",
		"a head of one byte less":       rawFrame(head[:43]) + "abc",
		"a head of one byte more":       rawFrame(head+"\x00") + "abc",
		"a head with the data":          rawFrame(head + "abc"),
		"a head with the data, twice":   rawFrame(head+"abc") + "abc",
		"a frame without a body":        rawFrame("") + good,
		"a record":                      framedRecs(impl.Rec{Kind: 4}),
		"a log":                         wantWalText(richWal()),
		"no frame":                      head + "abc",
		"the frame alone":               rawFrame(head),
		"a count less":                  rawSnap(2, 3, 2, sha, "abc"),
		"a count more":                  rawSnap(2, 3, 4, sha, "abc"),
		"a count of 0":                  rawSnap(2, 3, 0, sha, "abc"),
		"a count less, its Sha":         rawSnap(2, 3, 2, wantSha("ab"), "abc"),
		"a great count":                 rawSnap(2, 3, -1, sha, "abc"),
		"another Sha":                   rawSnap(2, 3, 3, wantSha("abd"), "abc"),
		"the Sha of nothing":            rawSnap(2, 3, 3, wantSha(""), "abc"),
		"no Data, another Sha":          rawSnap(2, 3, 0, sha, ""),
		"Index 0":                       rawSnap(0, 3, 3, sha, "abc"),
		"Term 0":                        rawSnap(2, 0, 3, sha, "abc"),
		"the zero Snap":                 rawSnap(0, 0, 0, wantSha(""), ""),
		"Index and Term 0 with Data":    rawSnap(0, 0, 3, sha, "abc"),
		"an Index above MaxIndex":       rawSnap(100001, 3, 3, sha, "abc"),
		"a Term above MaxTerm":          rawSnap(2, 100001, 3, sha, "abc"),
		"a great Index":                 rawSnap(-1, 3, 3, sha, "abc"),
		"a great Term":                  rawSnap(2, -1, 3, sha, "abc"),
		"more than MaxSnap bytes":       rawSnap(2, 3, 8001, wantSha(long), long),
		"numbers with the lowest first": rawFrame("\x02\x00\x00\x00\x03\x00\x00\x00\x03\x00\x00\x00"+sha) + "abc",
	} {
		checkNoSnap(t, why, text)
		if _, ok := wantReadSnap(text); ok {
			t.Errorf("%s: this is a Snap", why)
		}
	}
	if s, ok := impl.ReadSnap(good); !ok || s != (impl.Snap{Index: 2, Term: 3, Data: "abc"}) {
		t.Errorf("ReadSnap(%q) = %v %v", good, s, ok)
	}
	edge := rawSnap(100000, 100000, 8000, wantSha(long[:8000]), long[:8000])
	if s, ok := impl.ReadSnap(edge); !ok || s != (impl.Snap{Index: 100000, Term: 100000, Data: long[:8000]}) {
		t.Errorf("at the bounds: %v %v", brief(s, ok)...)
	}
}

// stepDisks: right disks on which each kind of step is done or refused for each reason.
func stepDisks() []impl.Disk {
	last := impl.Disk{Room: 5, Next: impl.MaxId, Inodes: []impl.Inode{{Id: 7, Data: "x"}}, Dir: []impl.Link{{Name: "a", Id: 7}}}
	return []impl.Disk{richDisk(), fullDisk(), last, {Room: 0, Next: 1}}
}

func TestDoStepOfEachKind(t *testing.T) {
	names := []string{"a", "c", "safe", "new", "x", "fa", "other", "", "1234567890123", "No"}
	seen := map[[2]int]int{}
	for _, d := range stepDisks() {
		for kind := -1; kind <= 8; kind++ {
			for _, name := range names {
				for _, to := range append(names, "y") {
					for _, data := range []string{"", "+++", strings.Repeat("z", 50)} {
						_, code := checkDoStep(t, d, impl.Step{Kind: kind, Name: name, To: to, Data: data})
						seen[[2]int{kind, code}]++
					}
				}
			}
		}
	}
	want := [][2]int{{-1, 1}, {0, 1}, {1, 0}, {1, 1}, {1, 3}, {1, 4}, {2, 0}, {2, 1}, {2, 2}, {2, 4}, {3, 0}, {3, 1}, {3, 2}, {4, 0}, {4, 1}, {4, 2}, {4, 4}, {5, 0}, {5, 1}, {5, 2}, {5, 4}, {6, 0}, {7, 1}, {8, 1}}
	for _, w := range want {
		if seen[w] == 0 {
			t.Errorf("no step of kind %d said %d", w[0], w[1])
		}
	}
	if len(seen) != len(want) {
		t.Errorf("codes that no such step has: %v", seen)
	}
}

// What a kind does not use may be anything.
func TestDoStepLooksAtWhatItUses(t *testing.T) {
	d := richDisk()
	for _, c := range []struct {
		step impl.Step
		want func() (impl.Disk, int)
	}{
		{impl.Step{Kind: impl.StMake, Name: "x", To: "NO", Data: strings.Repeat("z", 99)}, func() (impl.Disk, int) { return impl.Make(d, "x") }},
		{impl.Step{Kind: impl.StAdd, Name: "safe", To: "NO", Data: "++"}, func() (impl.Disk, int) { return impl.Add(d, "safe", "++") }},
		{impl.Step{Kind: impl.StSync, Name: "new", To: "NO", Data: strings.Repeat("z", 99)}, func() (impl.Disk, int) { return impl.Sync(d, "new") }},
		{impl.Step{Kind: impl.StName, Name: "new", To: "safe", Data: strings.Repeat("z", 99)}, func() (impl.Disk, int) { return impl.Rename(d, "new", "safe") }},
		{impl.Step{Kind: impl.StDrop, Name: "safe", To: "safe", Data: strings.Repeat("z", 99)}, func() (impl.Disk, int) { return impl.Drop(d, "safe") }},
		{impl.Step{Kind: impl.StDir, Name: "NO", To: "NO", Data: strings.Repeat("z", 99)}, func() (impl.Disk, int) { return impl.SyncDir(d) }},
	} {
		want, wantCode := c.want()
		if got, code := checkDoStep(t, d, c.step); code != impl.DkOk || code != wantCode || !sameDisk(got, want) {
			t.Errorf("DoStep of %v = %v %d, want %v %d", brief(c.step, got, code, want, wantCode)...)
		}
	}
	for _, kind := range []int{0, 7, -1, 257, 262, math.MinInt, math.MaxInt} {
		if got, code := checkDoStep(t, d, impl.Step{Kind: kind, Name: "safe", To: "x", Data: "d"}); code != impl.DkBad || !sameDisk(got, d) {
			t.Errorf("kind %d: %v %d, want the disk as it is and DkBad", kind, got, code)
		}
	}
}

func TestStepsOnWrongDisks(t *testing.T) {
	plan := wantPlanLog(impl.Disk{Room: 0, Next: 1}, richWal())
	many := slices.Repeat([]impl.Step{{Kind: impl.StDir}}, 21)
	for _, w := range wrongDisks() {
		for kind := range 8 {
			if out, code := impl.DoStep(w.bad, impl.Step{Kind: kind, Name: "safe", To: "x"}); code != impl.DkBad || !reflect.DeepEqual(out, impl.Disk{}) {
				t.Errorf("%s: DoStep of kind %d = %v %d, want the zero Disk and DkBad", w.why, kind, out, code)
			}
		}
		for _, steps := range [][]impl.Step{nil, plan, many, {{Kind: 9}}} {
			for _, n := range []int{-1, 0, 1, 99} {
				if out, done, code := impl.DoSteps(w.bad, steps, n); done != 0 || code != impl.DkBad || !reflect.DeepEqual(out, impl.Disk{}) {
					t.Errorf("%s: DoSteps of %d = %v %d %d, want the zero Disk, 0 and DkBad", w.why, n, out, done, code)
				}
			}
		}
	}
}

func TestDoStepsOfNoneSomeAndAll(t *testing.T) {
	steps := []impl.Step{{Kind: impl.StMake, Name: "x"}, {Kind: impl.StAdd, Name: "x", Data: "one"}, {Kind: impl.StSync, Name: "x"}, {Kind: impl.StDir}, {Kind: impl.StAdd, Name: "x", Data: "two"}, {Kind: impl.StName, Name: "x", To: "y"}, {Kind: impl.StMake, Name: "x"}, {Kind: impl.StDrop, Name: "y"}}
	d := impl.Disk{Room: 20, Next: 1}
	for n := -2; n <= len(steps)+2; n++ {
		want := min(max(n, 0), len(steps))
		if _, done, code := checkDoSteps(t, d, steps, n); done != want || code != impl.DkOk {
			t.Errorf("%d of %d steps: %d were done, %d", n, len(steps), done, code)
		}
	}
	for _, n := range []int{math.MinInt, -1, 0} {
		if out, done, code := checkDoSteps(t, richDisk(), steps, n); done != 0 || code != impl.DkOk || !sameDisk(out, richDisk()) {
			t.Errorf("%d steps: %v %d %d, want the disk as it is", n, out, done, code)
		}
	}
	if _, done, code := checkDoSteps(t, d, steps, math.MaxInt); done != len(steps) || code != impl.DkOk {
		t.Errorf("all steps: %d %d", done, code)
	}
	if out, done, code := checkDoSteps(t, richDisk(), nil, 5); done != 0 || code != impl.DkOk || !sameDisk(out, richDisk()) {
		t.Errorf("no steps: %v %d %d", out, done, code)
	}
	want := impl.Disk{Room: 20, Next: 3,
		Inodes: []impl.Inode{{Id: 1, Data: "onetwo", Sure: 3}, {Id: 2}},
		Dir:    []impl.Link{{Name: "x", Id: 1}},
		Moves:  []impl.Move{{Kind: impl.MvName, Name: "x", To: "y"}, {Kind: impl.MvMake, Name: "x", Id: 2}, {Kind: impl.MvDrop, Name: "y"}}}
	if out, _, _ := impl.DoSteps(d, steps, len(steps)); !sameDisk(out, want) {
		t.Errorf("all steps: %v, want %v", out, want)
	}
}

// Those ahead of a step that refuses are done; it and those behind it are not.
func TestDoStepsUpToOneThatRefuses(t *testing.T) {
	good := []impl.Step{{Kind: impl.StMake, Name: "x"}, {Kind: impl.StAdd, Name: "x", Data: "one"}, {Kind: impl.StSync, Name: "x"}, {Kind: impl.StDir}}
	for code, bad := range map[int][]impl.Step{
		impl.DkBad:   {{}, {Kind: 7}, {Kind: -1, Name: "x"}, {Kind: impl.StMake, Name: "X"}, {Kind: impl.StName, Name: "a", To: "a"}, {Kind: impl.StSync}},
		impl.DkNone:  {{Kind: impl.StDrop, Name: "none"}, {Kind: impl.StAdd, Name: "none"}, {Kind: impl.StName, Name: "none", To: "x"}, {Kind: impl.StSync, Name: "none"}},
		impl.DkThere: {{Kind: impl.StMake, Name: "a"}, {Kind: impl.StMake, Name: "safe"}},
		impl.DkFull:  {{Kind: impl.StAdd, Name: "a", Data: strings.Repeat("z", 31)}},
	} {
		for _, b := range bad {
			for at := range len(good) + 1 {
				steps := slices.Insert(slices.Clone(good), at, b)
				ahead, _, _ := checkDoSteps(t, richDisk(), good, at)
				for n := range len(steps) + 2 {
					out, done, got := checkDoSteps(t, richDisk(), steps, n)
					if n <= at && (done != n || got != impl.DkOk) || n > at && (done != at || got != code || !sameDisk(out, ahead)) {
						t.Fatalf("%v at %d of %d: %v %d %d, want %d", b, at, n, out, done, got, code)
					}
				}
			}
		}
	}
}

func TestDoStepsOfMaxSteps(t *testing.T) {
	var steps []impl.Step
	for i := range 20 {
		steps = append(steps, impl.Step{Kind: impl.StAdd, Name: "safe", Data: string(rune('a' + i))})
	}
	d := richDisk()
	d.Room = 99
	if out, done, code := checkDoSteps(t, d, steps, 20); done != 20 || code != impl.DkOk || out.Inodes[0].Data != "staysabcdefghijklmnopqrst" {
		t.Errorf("MaxSteps steps: %v %d %d", out, done, code)
	}
	for _, more := range []int{21, 22, 40} {
		steps := slices.Repeat(steps, 2)[:more]
		for _, n := range []int{-1, 0, 1, 20, 21, 99} {
			if out, done, code := checkDoSteps(t, d, steps, n); done != 0 || code != impl.DkBad || !sameDisk(out, d) {
				t.Errorf("%d of %d steps: %v %d %d, want the disk as it is, 0 and DkBad", n, more, out, done, code)
			}
		}
	}
}

func (r *dice) step() impl.Step {
	names := []string{"a", "b", "log", "log.new", "snap", "No"}
	return impl.Step{Kind: []int{1, 1, 1, 2, 2, 2, 3, 4, 5, 6, 6, r.roll(9)}[r.roll(12)], Name: names[r.roll(len(names))], To: names[r.roll(len(names))], Data: mixedText(r.roll(6), uint64(r.roll(99)))}
}

// Steps in any order, each list at each n, and power that falls between them.
func TestDoStepsOfAnySteps(t *testing.T) {
	for seed := range 300 {
		r := dice(seed)
		d, _ := impl.NewDisk(10 + 20*(seed%5))
		for range 8 {
			var steps []impl.Step
			for range r.roll(22) {
				steps = append(steps, r.step())
			}
			for n := range len(steps) + 1 {
				checkDoSteps(t, d, steps, n)
			}
			// Lists that go on behind what refuses, so that the disk fills.
			for _, s := range steps {
				d, _ = checkDoStep(t, d, s)
			}
			if r.roll(4) == 0 {
				d = impl.Crash(d, r.roll(9), r.cuts())
			}
		}
	}
}

func TestPlanAddOfKnownWals(t *testing.T) {
	a := impl.Wal{Term: 1, Vote: -1, Entries: []impl.Entry{{Term: 1, Data: "one"}}}
	b := impl.Wal{Term: 2, Vote: 3, Entries: []impl.Entry{{Term: 2, Data: "two"}, {Term: 2}}}
	data := framedRow([]string{"\x01\x02\x00\x04", "\x03\x00\x01\x01", "\x02\x02\x01\x01two", "\x02\x02\x02\x01"})
	want := []impl.Step{{Kind: impl.StAdd, Name: "log", Data: data}, {Kind: impl.StSync, Name: "log"}}
	if got := checkPlanAdd(t, a, b); !slices.Equal(got, want) {
		t.Errorf("PlanAdd = %v, want %v", got, want)
	}
	for why, pair := range map[string][2]impl.Wal{
		"nothing differs":          {a, a},
		"of nothing":               {{Vote: -1}, {Vote: -1}},
		"a term that goes back":    {b, a},
		"another vote":             {b, {Term: 2, Vote: 2, Entries: b.Entries}},
		"another Base":             {{Term: 2, Base: 1, BaseTerm: 1}, {Term: 2, Base: 2, BaseTerm: 1}},
		"another BaseTerm":         {{Term: 2, Base: 1, BaseTerm: 1}, {Term: 2, Base: 1, BaseTerm: 2}},
		"the first one is wrong":   {{Term: -1}, b},
		"the second one is wrong":  {a, {Term: 2, Vote: 5}},
		"an entry of a later term": {a, {Term: 1, Vote: -1, Entries: []impl.Entry{{Term: 2}}}},
	} {
		if got := checkPlanAdd(t, pair[0], pair[1]); len(got) != 0 {
			t.Errorf("%s: PlanAdd = %v, want nothing", why, got)
		}
	}
}

func TestPlanAddOfEveryPair(t *testing.T) {
	some := slices.DeleteFunc(smallWals(), func(w impl.Wal) bool { return !wantWalOk(w) })
	for _, w := range rightWals() {
		some = append(some, w)
	}
	some = append(some, longWal(0, 4), longWal(7, 899))
	seen := map[int]int{}
	for _, a := range some {
		for _, b := range some {
			seen[len(checkPlanAdd(t, a, b))]++
		}
	}
	if seen[0] == 0 || seen[2] < 1000 || len(seen) != 2 {
		t.Errorf("how many steps there were: %v", seen)
	}
	for _, w := range wrongWals() {
		for _, pair := range [][2]impl.Wal{{richWal(), w.bad}, {w.bad, richWal()}, {w.bad, w.bad}} {
			if got := checkPlanAdd(t, pair[0], pair[1]); len(got) != 0 {
				t.Errorf("%s: PlanAdd = %v, want nothing", brief(w.why, got)...)
			}
		}
	}
}

// planDisks: disks with and without log.new and snap.new, by a safe name, by a Move, and with one that a Move took.
func planDisks() map[string]impl.Disk {
	logNew, snapNew := named{"log.new", "half a lo"}, named{"snap.new", "half a sn"}
	w := richWal()
	s := snapOf(w, "old")
	after := func(d impl.Disk, steps ...impl.Step) impl.Disk {
		out, _, _ := wantDoSteps(d, steps, len(steps))
		return out
	}
	both := keptDisk(w, s, logNew, snapNew)
	return map[string]impl.Disk{
		"nothing":                 {Room: 0, Next: 1},
		"neither":                 keptDisk(w, s),
		"log.new":                 keptDisk(w, s, logNew),
		"snap.new":                keptDisk(w, s, snapNew),
		"both":                    both,
		"both alone":              safeDisk(snapNew, logNew),
		"names that begin alike":  keptDisk(w, s, named{"log.ne", ""}, named{"log.new.", ""}, named{"snap.new1", ""}),
		"log.new by a Move":       after(keptDisk(w, s), impl.Step{Kind: 1, Name: "log.new"}),
		"snap.new by a Move":      after(keptDisk(w, s, logNew), impl.Step{Kind: 4, Name: "log.new", To: "snap.new"}),
		"log.new that was taken":  after(both, impl.Step{Kind: 5, Name: "log.new"}),
		"snap.new that was taken": after(both, impl.Step{Kind: 4, Name: "snap.new", To: "snap"}),
	}
}

func TestPlanLogWithAndWithoutLogNew(t *testing.T) {
	drops := 0
	for why, d := range planDisks() {
		for _, w := range rightWals() {
			steps := checkPlanLog(t, d, w)
			drop := slices.Contains(impl.List(d), "log.new")
			if len(steps) != 5 && !drop || len(steps) != 6 && drop {
				t.Errorf("%s: %d steps", why, len(steps))
			}
			if drop {
				drops++
			}
		}
	}
	if drops != 5*len(rightWals()) {
		t.Errorf("%d plans with a drop", drops)
	}
	text := framedRow([]string{"\x04\x00\x00\x01", "\x01\x00\x00\x00"})
	want := []impl.Step{{Kind: impl.StDrop, Name: "log.new"}, {Kind: impl.StMake, Name: "log.new"}, {Kind: impl.StAdd, Name: "log.new", Data: text}, {Kind: impl.StSync, Name: "log.new"}, {Kind: impl.StName, Name: "log.new", To: "log"}, {Kind: impl.StDir}}
	if got := checkPlanLog(t, planDisks()["both"], impl.Wal{Vote: -1}); !slices.Equal(got, want) {
		t.Errorf("PlanLog = %v, want %v", got, want)
	}
	if got := checkPlanLog(t, planDisks()["snap.new"], impl.Wal{Vote: -1}); !slices.Equal(got, want[1:]) {
		t.Errorf("PlanLog = %v, want %v", got, want[1:])
	}
}

func TestPlanSnapWithAndWithoutNew(t *testing.T) {
	seen := map[int]int{}
	for why, d := range planDisks() {
		for _, s := range rightSnaps() {
			// A Wal that does not go with the Snap is none of the plan's business.
			for _, w := range []impl.Wal{richWal(), {}, longWal(7, 5)} {
				steps := checkPlanSnap(t, d, s, w)
				seen[len(steps)]++
				log := wantPlanLog(d, w)
				if len(steps) < 10 || !slices.Equal(steps[len(steps)-len(log):], log) {
					t.Errorf("%s: %v has not the log's plan behind it", brief(why, steps)...)
				}
			}
		}
	}
	if len(seen) != 3 || seen[10] == 0 || seen[11] == 0 || seen[12] == 0 {
		t.Errorf("how many steps there were: %v", seen)
	}
	s := impl.Snap{Index: 2, Term: 3, Data: "abc"}
	w := impl.Wal{Term: 3, Vote: 0, Base: 2, BaseTerm: 3}
	want := []impl.Step{
		{Kind: impl.StDrop, Name: "snap.new"}, {Kind: impl.StMake, Name: "snap.new"}, {Kind: impl.StAdd, Name: "snap.new", Data: wantShowSnap(s)}, {Kind: impl.StSync, Name: "snap.new"}, {Kind: impl.StName, Name: "snap.new", To: "snap"}, {Kind: impl.StDir},
		{Kind: impl.StDrop, Name: "log.new"}, {Kind: impl.StMake, Name: "log.new"}, {Kind: impl.StAdd, Name: "log.new", Data: wantWalText(w)}, {Kind: impl.StSync, Name: "log.new"}, {Kind: impl.StName, Name: "log.new", To: "log"}, {Kind: impl.StDir},
	}
	if got := checkPlanSnap(t, planDisks()["both"], s, w); !slices.Equal(got, want) {
		t.Errorf("PlanSnap = %v, want %v", got, want)
	}
	if got := checkPlanSnap(t, planDisks()["nothing"], s, w); !slices.Equal(got, append(slices.Clone(want[1:6]), want[7:]...)) {
		t.Errorf("PlanSnap = %v", got)
	}
}

func TestPlansOfWhatIsNotRight(t *testing.T) {
	d, w, s := keptDisk(richWal(), snapOf(richWal(), "old")), richWal(), someSnap()
	none := func(why string, steps []impl.Step) {
		t.Helper()
		if len(steps) != 0 {
			t.Errorf("%s: %v, want nothing", brief(why, steps)...)
		}
	}
	for _, bad := range wrongDisks() {
		none(bad.why, impl.PlanLog(bad.bad, w))
		none(bad.why, impl.PlanSnap(bad.bad, s, w))
		none(bad.why, impl.PlanSnap(bad.bad, impl.Snap{}, impl.Wal{Term: -1}))
	}
	for _, bad := range wrongWals() {
		none(bad.why, checkPlanLog(t, d, bad.bad))
		none(bad.why, checkPlanSnap(t, d, s, bad.bad))
	}
	none("the zero Snap", checkPlanSnap(t, d, impl.Snap{}, w))
	for _, bad := range append(snapEdges(), impl.Snap{Data: "d"}) {
		if !wantSnapOk(bad) {
			none("a Snap", checkPlanSnap(t, d, bad, w))
		}
	}
	if len(impl.PlanLog(d, w)) != 5 || len(impl.PlanSnap(d, s, w)) != 10 {
		t.Error("what is right has no plan")
	}
}

func TestRecoverOfWrongDisks(t *testing.T) {
	for _, w := range wrongDisks() {
		if k, code := impl.Recover(w.bad); code != impl.KpBad || !reflect.DeepEqual(k, impl.Kept{}) {
			t.Errorf("%s: %v %d, want the zero Kept and KpBad", w.why, k, code)
		}
	}
	d := keptDisk(richWal(), snapOf(richWal(), "old"))
	d.Room = 5
	if k, code := checkRecover(t, d); code != impl.KpBad {
		t.Errorf("more Data than Room: %v %d", k, code)
	}
}

// Without a log there is none, whatever else is there.
func TestRecoverWithoutALog(t *testing.T) {
	log := named{"log", wantWalText(richWal())}
	gone, _ := impl.Drop(safeDisk(log), "log")
	moved, _ := impl.Rename(safeDisk(log), "log", "log.old")
	for why, d := range map[string]impl.Disk{
		"nothing":                   {Room: 9, Next: 1},
		"a snapshot alone":          safeDisk(named{"snap", wantShowSnap(someSnap())}),
		"a snapshot that isn't one": safeDisk(named{"snap", "snap"}),
		"a fresh log alone":         safeDisk(named{"log.new", log.data}),
		"another name":              safeDisk(named{"log.", log.data}, named{"lo", log.data}),
		"it was dropped":            gone,
		"it has another name":       moved,
	} {
		if k, code := checkRecover(t, d); code != impl.KpNone {
			t.Errorf("%s: %v %d, want KpNone", why, k, code)
		}
	}
}

func TestRecoverOfWhatIsNotRead(t *testing.T) {
	w := richWal()
	log, snap := wantWalText(w), wantShowSnap(snapOf(w, "old"))
	turnedLog, turnedSnap := []byte(log), []byte(snap)
	turnedLog[9] ^= 1
	turnedSnap[len(snap)-1] ^= 1
	for why, d := range map[string]impl.Disk{
		"an empty log":                  safeDisk(named{"log", ""}, named{"snap", snap}),
		"a log without a base":          safeDisk(named{"log", framedRecs(impl.Rec{Kind: 1, Term: 1})}),
		"a log whose base is turned":    safeDisk(named{"log", string(turnedLog)}, named{"snap", snap}),
		"a log whose base is cut off":   safeDisk(named{"log", log[:9]}, named{"snap", snap}),
		"an empty snapshot":             safeDisk(named{"log", log}, named{"snap", ""}),
		"a snapshot that is cut off":    safeDisk(named{"log", log}, named{"snap", snap[:len(snap)-1]}),
		"a snapshot that is turned":     safeDisk(named{"log", log}, named{"snap", string(turnedSnap)}),
		"a snapshot that goes on":       safeDisk(named{"log", log}, named{"snap", snap + "\x00"}),
		"an empty one with a first log": safeDisk(named{"log", wantWalText(impl.Wal{Vote: -1})}, named{"snap", ""}),
		"neither is read":               safeDisk(named{"log", "log"}, named{"snap", "snap"}),
		"they are each other":           safeDisk(named{"log", snap}, named{"snap", log}),
	} {
		if k, code := checkRecover(t, d); code != impl.KpBad {
			t.Errorf("%s: %v %d, want KpBad", why, k, code)
		}
	}
}

// Each way in which the Wal and the Snap do not go together, and those beside it in which they do.
func TestRecoverOfWhatDoesNotGoTogether(t *testing.T) {
	w := richWal()
	for _, c := range []struct {
		why  string
		w    impl.Wal
		s    impl.Snap
		code int
	}{
		{"the same", w, impl.Snap{Index: 5, Term: 3, Data: "old"}, impl.KpOk},
		{"the same, no Data", w, impl.Snap{Index: 5, Term: 3}, impl.KpOk},
		{"Base is above Index", w, impl.Snap{Index: 4, Term: 3, Data: "old"}, impl.KpBad},
		{"Base is above Index 1", w, impl.Snap{Index: 1, Term: 1, Data: "old"}, impl.KpBad},
		{"Base is above none", w, impl.Snap{}, impl.KpBad},
		{"BaseTerm is above Term", w, impl.Snap{Index: 5, Term: 2, Data: "old"}, impl.KpBad},
		{"BaseTerm is below Term", w, impl.Snap{Index: 5, Term: 4, Data: "old"}, impl.KpBad},
		{"BaseTerm is below Term, which is the Wal's", w, impl.Snap{Index: 5, Term: 9, Data: "old"}, impl.KpBad},
		{"Index is above Base", w, impl.Snap{Index: 6, Term: 3, Data: "new"}, impl.KpOk},
		{"Index is above Base, Term is another", w, impl.Snap{Index: 6, Term: 2, Data: "new"}, impl.KpOk},
		{"no Base, no Snap", impl.Wal{Term: 1, Vote: 0}, impl.Snap{}, impl.KpOk},
		{"no Base, a Snap", impl.Wal{Term: 1, Vote: 0}, impl.Snap{Index: 1, Term: 1}, impl.KpOk},
		{"the first Base, no Snap", impl.Wal{Term: 1, Vote: 0, Base: 1, BaseTerm: 1}, impl.Snap{}, impl.KpBad},
		{"the last Base", impl.Wal{Term: 100000, Base: 100000, BaseTerm: 100000}, impl.Snap{Index: 100000, Term: 100000}, impl.KpOk},
		{"the last Base, a Term less", impl.Wal{Term: 100000, Base: 100000, BaseTerm: 100000}, impl.Snap{Index: 100000, Term: 99999}, impl.KpBad},
		{"the last Base, an Index less", impl.Wal{Term: 100000, Base: 100000, BaseTerm: 100000}, impl.Snap{Index: 99999, Term: 100000}, impl.KpBad},
	} {
		k, code := checkRecover(t, keptDisk(c.w, c.s))
		if code != c.code {
			t.Errorf("%s: %v %d, want %d", brief(c.why, k, code, c.code)...)
		}
		if code == impl.KpOk && c.w.Base == c.s.Index && (!sameWal(k.Wal, c.w) || k.Snap != c.s || k.Dirty) {
			t.Errorf("%s: %v, want what was kept, not Dirty", brief(c.why, k)...)
		}
	}
}

func TestRecoverWithALaterSnap(t *testing.T) {
	entries := []impl.Entry{{Term: 3, Data: "six"}, {Term: 4, Data: "seven"}, {Term: 4, Data: "eight"}, {Term: 7, Data: "nine"}}
	w := impl.Wal{Term: 9, Vote: 2, Base: 5, BaseTerm: 3, Entries: entries}
	for _, c := range []struct {
		why  string
		s    impl.Snap
		want impl.Wal
	}{
		{"the first Entry", impl.Snap{Index: 6, Term: 3}, impl.Wal{Term: 9, Vote: 2, Entries: entries[1:]}},
		{"an Entry in the middle", impl.Snap{Index: 7, Term: 4, Data: "new"}, impl.Wal{Term: 9, Vote: 2, Entries: entries[2:]}},
		{"the one behind it", impl.Snap{Index: 8, Term: 4, Data: "new"}, impl.Wal{Term: 9, Vote: 2, Entries: entries[3:]}},
		{"the last Entry", impl.Snap{Index: 9, Term: 7, Data: "new"}, impl.Wal{Term: 9, Vote: 2}},
		{"behind the last Entry", impl.Snap{Index: 10, Term: 7, Data: "new"}, impl.Wal{Term: 9, Vote: 2}},
		{"far behind", impl.Snap{Index: 100000, Term: 9, Data: "new"}, impl.Wal{Term: 9, Vote: 2}},
		{"the first Entry, a Term less", impl.Snap{Index: 6, Term: 2, Data: "new"}, impl.Wal{Term: 9, Vote: 2}},
		{"the first Entry, a Term more", impl.Snap{Index: 6, Term: 4, Data: "new"}, impl.Wal{Term: 9, Vote: 2}},
		{"an Entry whose neighbour has that Term", impl.Snap{Index: 8, Term: 7, Data: "new"}, impl.Wal{Term: 9, Vote: 2}},
		{"the last Entry, the Wal's Term", impl.Snap{Index: 9, Term: 9, Data: "new"}, impl.Wal{Term: 9, Vote: 2}},
		{"an Entry, a Term above the Wal's", impl.Snap{Index: 7, Term: 10, Data: "new"}, impl.Wal{Term: 10, Vote: -1}},
		{"behind, a Term above the Wal's", impl.Snap{Index: 10, Term: 100000, Data: "new"}, impl.Wal{Term: 100000, Vote: -1}},
		{"behind, a Term of 1", impl.Snap{Index: 10, Term: 1, Data: "new"}, impl.Wal{Term: 9, Vote: 2}},
	} {
		c.want.Base, c.want.BaseTerm = c.s.Index, c.s.Term
		k, code := checkRecover(t, keptDisk(w, c.s))
		if code != impl.KpOk || !sameWal(k.Wal, c.want) || k.Snap != c.s || !k.Dirty {
			t.Errorf("%s: %v %d, want %v, Dirty", c.why, k, code, c.want)
		}
	}
	first := impl.Wal{Vote: -1}
	if k, code := checkRecover(t, keptDisk(first, impl.Snap{Index: 4, Term: 2})); code != impl.KpOk || !sameWal(k.Wal, impl.Wal{Term: 2, Vote: -1, Base: 4, BaseTerm: 2}) {
		t.Errorf("a first log: %v %d", k, code)
	}
}

// Dirty by each of its reasons alone.
func TestRecoverDirty(t *testing.T) {
	w := richWal()
	s := snapOf(w, "old")
	log, snap := named{"log", wantWalText(w)}, named{"snap", wantShowSnap(s)}
	longer := func(more string) impl.Disk { return safeDisk(named{"log", log.data + more}, snap) }
	taken, _ := impl.Drop(safeDisk(log, snap, named{"log.new", "x"}), "log.new")
	moved, _ := impl.Rename(safeDisk(log, snap, named{"snap.new", "x"}), "snap.new", "other")
	come, _ := impl.Make(safeDisk(log, snap), "log.new")
	unsafe := safeDisk(log, snap)
	unsafe.Inodes[0].Sure, unsafe.Inodes[1].Sure = 0, 1
	for _, c := range []struct {
		why   string
		d     impl.Disk
		dirty bool
	}{
		{"nothing", safeDisk(log, snap), false},
		{"another file", safeDisk(log, snap, named{"other", "x"}, named{"new", ""}, named{"log.ne", ""}, named{"snap.new.", ""}), false},
		{"a record more", longer(framedRecs(impl.Rec{Kind: 3, Index: 6})), false},
		{"one byte more", longer("\x00"), true},
		{"half a frame more", longer(framedRecs(impl.Rec{Kind: 3, Index: 6})[:7]), true},
		{"a frame of no record", longer(rawFrame("no record")), true},
		{"a record that does not fit", longer(framedRecs(impl.Rec{Kind: 3, Index: 99})), true},
		{"log.new", safeDisk(log, snap, named{"log.new", ""}), true},
		{"snap.new", safeDisk(log, snap, named{"snap.new", "x"}), true},
		{"log.new by a Move", come, true},
		{"log.new that a Move took", taken, false},
		{"snap.new that a Move took", moved, false},
		{"what is not safe", unsafe, false},
		{"a later Snap", safeDisk(log, named{"snap", wantShowSnap(impl.Snap{Index: 6, Term: 3})}), true},
		{"no Snap", safeDisk(named{"log", wantWalText(impl.Wal{Term: 1})}), false},
		{"no Snap, snap.new", safeDisk(named{"log", wantWalText(impl.Wal{Term: 1})}, named{"snap.new", ""}), true},
	} {
		if k, code := checkRecover(t, c.d); code != impl.KpOk || k.Dirty != c.dirty {
			t.Errorf("%s: Dirty is %v, %d, want %v", c.why, k.Dirty, code, c.dirty)
		}
	}
}

// Recover of every small Wal with every small Snap.
func TestRecoverOfEveryPair(t *testing.T) {
	var snaps []impl.Snap
	for index := range 6 {
		for term := range 4 {
			if s := (impl.Snap{Index: index, Term: term}); wantSnapOk(s) {
				snaps = append(snaps, s)
			}
		}
	}
	some := slices.DeleteFunc(smallWals(), func(w impl.Wal) bool { return !wantWalOk(w) })
	for _, w := range rightWals() {
		some = append(some, w)
	}
	seen := map[int]int{}
	for _, w := range some {
		for _, s := range append(snaps, impl.Snap{Index: w.Base + 1, Term: max(w.BaseTerm, 1)}, snapOf(w, "its")) {
			if !wantSnapOk(s) {
				continue
			}
			_, code := checkRecover(t, keptDisk(w, s))
			seen[code]++
		}
	}
	if seen[impl.KpOk] < 500 || seen[impl.KpBad] < 500 {
		t.Errorf("codes: %v", seen)
	}
}

func TestRecoverOfALogCutOffAtEveryByte(t *testing.T) {
	recs := logOf()
	log := framedRecs(recs...)
	for _, s := range []impl.Snap{{Index: 5, Term: 2, Data: "base"}, {Index: 6, Term: 2, Data: "later"}, {Index: 7, Term: 4, Data: "later"}, {Index: 20, Term: 9}} {
		for k := range len(log) + 1 {
			got, code := checkRecover(t, safeDisk(named{"log", log[:k]}, named{"snap", wantShowSnap(s)}))
			if _, took, ok := wantReplay(log[:k]); ok != (code == impl.KpOk) || ok && got.Dirty != (took < k || s.Index > 5) {
				t.Fatalf("the first %d bytes: %v %d", k, got, code)
			}
		}
	}
}

// cutsOf: what may be left of this many Inodes: of all nothing or everything, of each one alone some bytes, and anything.
func cutsOf(r *dice, d impl.Disk) [][]int {
	n := len(d.Inodes)
	out := [][]int{nil, slices.Repeat([]int{math.MaxInt}, n)}
	for i := range n {
		loose := len(d.Inodes[i].Data) - d.Inodes[i].Sure
		if loose == 0 {
			continue
		}
		for _, k := range []int{1, 8, 12, loose / 2, loose - 1, loose, 1 + r.roll(loose)} {
			cuts := make([]int, n)
			cuts[i] = k
			out = append(out, cuts)
		}
	}
	anything := make([]int, n)
	for i := range anything {
		anything[i] = r.roll(len(d.Inodes[i].Data) + 2)
	}
	return append(out, anything)
}

// tally: how often the old ones were told, and the new ones, ahead of the last step.
type tally struct {
	old int
	new int
}

// checkOldOrNew: promise 6, of each number of the steps, and of all that a Crash may take behind them.
func checkOldOrNew(t *testing.T, r *dice, d impl.Disk, steps []impl.Step, old, new impl.Kept, seen *tally) {
	t.Helper()
	is := func(k impl.Kept, other impl.Kept) bool { return sameWal(k.Wal, other.Wal) && k.Snap == other.Snap }
	for n := range len(steps) + 1 {
		e, done, _ := impl.DoSteps(d, steps, n)
		left := []impl.Disk{e}
		for keep := range len(e.Moves) + 1 {
			for _, cuts := range cutsOf(r, e) {
				left = append(left, impl.Crash(e, keep, cuts))
			}
		}
		for _, x := range left {
			k, code := impl.Recover(x)
			if code != impl.KpOk || !is(k, old) && !is(k, new) {
				t.Fatalf("behind %d of %d steps: %v %d,\nwant %v\nor %v", brief(n, len(steps), k, code, old, new)...)
			}
			// PlanLog leaves a snap.new alone.
			if done == len(steps) && (!is(k, new) || k.Dirty != wantHas(x, "snap.new")) {
				t.Fatalf("behind all steps: %v, want %v", brief(k, new)...)
			}
			if done < len(steps) && is(k, new) {
				seen.new++
			} else if done < len(steps) {
				seen.old++
			}
		}
	}
}

// litter: what falls of power leave beside the log and the snapshot.
func litter() [][]named {
	whole := named{"log.new", wantWalText(impl.Wal{Term: 99, Vote: 1})}
	snap := named{"snap.new", wantShowSnap(impl.Snap{Index: 99999, Term: 99, Data: "never named"})}
	return [][]named{nil, {whole}, {snap}, {{"log.new", ""}, {"snap.new", "half"}}, {snap, whole, {"a", "b"}}}
}

func TestPlanLogIsOldOrNew(t *testing.T) {
	var seen tally
	r := dice(6)
	for _, why := range slices.Sorted(maps.Keys(rightWals())) {
		w := rightWals()[why]
		s := snapOf(w, "the base of "+why)
		for range 2 {
			next := copyWal(w)
			next.Term = max(next.Term, 1)
			next = r.later(next)
			next.Vote = r.roll(6) - 1
			if !wantWalOk(next) {
				continue
			}
			for _, others := range litter() {
				d := keptDisk(w, s, others...)
				checkOldOrNew(t, &r, d, checkPlanLog(t, d, next), impl.Kept{Wal: w, Snap: s}, impl.Kept{Wal: next, Snap: s}, &seen)
			}
		}
	}
	if seen.old < 500 || seen.new < 50 {
		t.Errorf("told ahead of the last step: %v", seen)
	}
}

// A disk that has no log yet: there is none, or the new one.
func TestPlanLogOfAFirstLog(t *testing.T) {
	r := dice(7)
	w := impl.Wal{Term: 3, Vote: 1, Entries: []impl.Entry{{Term: 2, Data: "first"}}}
	for _, others := range litter() {
		d := safeDisk(others...)
		steps := checkPlanLog(t, d, w)
		for n := range len(steps) + 1 {
			e, _, _ := checkDoSteps(t, d, steps, n)
			for keep := range len(e.Moves) + 1 {
				for _, cuts := range cutsOf(&r, e) {
					k, code := checkRecover(t, checkCrash(t, e, keep, cuts))
					if code == impl.KpOk && !sameWal(k.Wal, w) || code == impl.KpBad || n == len(steps) && code != impl.KpOk {
						t.Fatalf("behind %d steps: %v %d", n, k, code)
					}
				}
			}
		}
	}
}

// laterSnaps: Snaps of numbers above Base, with and without an Entry, of its Term, a lesser one, and one above the Wal's.
func laterSnaps(w impl.Wal) []impl.Snap {
	var out []impl.Snap
	end := w.Base + len(w.Entries)
	for _, index := range []int{w.Base + 1, (w.Base+end)/2 + 1, end, end + 1, end + 100} {
		terms := []int{w.Term, w.Term + 1, max(w.BaseTerm, 1)}
		if i := index - w.Base - 1; i >= 0 && i < len(w.Entries) {
			terms = append(terms, w.Entries[i].Term)
		}
		for _, term := range terms {
			if s := (impl.Snap{Index: index, Term: term, Data: mixedText(index%300, uint64(term))}); index > w.Base && wantSnapOk(s) {
				out = append(out, s)
			}
		}
	}
	return out
}

func TestPlanSnapIsOldOrNew(t *testing.T) {
	var seen tally
	r := dice(8)
	for _, why := range slices.Sorted(maps.Keys(rightWals())) {
		w := rightWals()[why]
		s := snapOf(w, "the base of "+why)
		for i, next := range laterSnaps(w) {
			behind := wantBehind(w, next)
			if !impl.WalOk(behind) {
				t.Fatalf("%s: %v is not right", brief(why, behind)...)
			}
			d := keptDisk(w, s, litter()[i%len(litter())]...)
			checkOldOrNew(t, &r, d, checkPlanSnap(t, d, next, behind), impl.Kept{Wal: w, Snap: s}, impl.Kept{Wal: behind, Snap: next}, &seen)
		}
	}
	if seen.old < 1000 || seen.new < 1000 {
		t.Errorf("told ahead of the last step: %v", seen)
	}
}

// Steps end where the disk refuses, too: for want of room, of Inodes or of Moves.
func TestOldOrNewOnAFullDisk(t *testing.T) {
	var seen tally
	r := dice(9)
	w := richWal()
	s, next := snapOf(w, "old"), impl.Snap{Index: 7, Term: 4, Data: mixedText(700, 9)}
	behind := wantBehind(w, next)
	old, new := impl.Kept{Wal: w, Snap: s}, impl.Kept{Wal: behind, Snap: next}
	var disks []impl.Disk
	used := wantUsed(keptDisk(w, s))
	for room := used; room < used+2000; room += 50 {
		d := keptDisk(w, s)
		d.Room = room
		disks = append(disks, d)
	}
	for files := 6; files <= 8; files++ {
		var others []named
		for i := range files {
			others = append(others, named{"f" + impl.Dec(i), "x"})
		}
		disks = append(disks, keptDisk(w, s, others...))
	}
	for moves := 15; moves <= 20; moves++ {
		d := keptDisk(w, s, named{"x", "x"})
		for i := range moves {
			d.Moves = append(d.Moves, []impl.Move{{Kind: impl.MvName, Name: "x", To: "y"}, {Kind: impl.MvName, Name: "y", To: "x"}}[i%2])
		}
		disks = append(disks, d)
	}
	ends := map[int]int{}
	for _, d := range disks {
		steps := checkPlanSnap(t, d, next, behind)
		_, done, _ := checkDoSteps(t, d, steps, len(steps))
		ends[done]++
		checkOldOrNew(t, &r, d, steps, old, new, &seen)
		more := r.later(copyWal(w))
		checkOldOrNew(t, &r, d, checkPlanLog(t, d, more), old, impl.Kept{Wal: more, Snap: s}, &seen)
	}
	for _, done := range []int{0, 1, 3, 6, 10} {
		if ends[done] == 0 {
			t.Errorf("no plan ended behind %d steps: %v", done, ends)
		}
	}
}

// wholeChanges: how many of the records a beginning of their frames has, and whether something is left over.
func wholeChanges(recs []impl.Rec, size int) (int, bool) {
	for i, r := range recs {
		n := len(framedRecs(r))
		if size < n {
			return i, size > 0
		}
		size -= n
	}
	return len(recs), size > 0
}

func TestPlanAddIsABeginning(t *testing.T) {
	told := map[int]int{}
	for seed := range 60 {
		r := dice(seed)
		a := r.later(impl.Wal{Term: 2, Vote: -1, Base: seed % 3, BaseTerm: min(seed%3, 1)})
		b := r.later(r.later(a))
		recs, ok := wantChanges(a, b)
		steps := checkPlanAdd(t, a, b)
		if !ok || len(recs) == 0 {
			continue
		}
		s := snapOf(a, "base")
		d := keptDisk(a, s)
		added, done, _ := checkDoSteps(t, d, steps, 1)
		if done != 1 {
			t.Fatalf("nothing was added to %v", brief(d)...)
		}
		for cut := range len(steps[0].Data) + 2 {
			k, code := checkRecover(t, checkCrash(t, added, 0, []int{cut}))
			whole, over := wholeChanges(recs, min(cut, len(steps[0].Data)))
			want := a
			for _, rec := range recs[:whole] {
				want, _ = wantStep(want, rec)
			}
			if code != impl.KpOk || !sameWal(k.Wal, want) || k.Snap != s || k.Dirty != over {
				t.Fatalf("%d of %d bytes: %v %d,\nwant %v and Dirty %v", brief(cut, len(steps[0].Data), k, code, want, over)...)
			}
			told[whole]++
		}
		for _, n := range []int{0, 2, 3} {
			e, _, _ := checkDoSteps(t, d, steps, n)
			want := b
			if n == 0 {
				want = a
			}
			for _, cuts := range [][]int{nil, {0}, {5}, {math.MaxInt, 1}} {
				if k, code := checkRecover(t, checkCrash(t, e, 0, cuts)); code != impl.KpOk || !sameWal(k.Wal, want) || k.Snap != s || k.Dirty {
					t.Fatalf("behind %d steps: %v %d, want %v", brief(n, k, code, want)...)
				}
			}
		}
		d.Room = wantUsed(d) + len(steps[0].Data) - 1
		e, done, refused := checkDoSteps(t, d, steps, 2)
		if k, code := checkRecover(t, e); done != 0 || refused != impl.DkFull || code != impl.KpOk || !sameWal(k.Wal, a) || k.Dirty {
			t.Fatalf("no room: %d %d, %v %d", brief(done, refused, k, code)...)
		}
	}
	if told[0] == 0 || told[1] == 0 || told[2] == 0 || told[5] == 0 {
		t.Errorf("how many changes were told: %v", told)
	}
}

// clean: the steps by which a disk that is Dirty has what it tells, and nothing else.
func clean(d impl.Disk, k impl.Kept) []impl.Step {
	steps := impl.PlanLog(d, k.Wal)
	if slices.Contains(impl.List(d), "snap.new") {
		steps = slices.Insert(steps, 0, impl.Step{Kind: impl.StDrop, Name: "snap.new"})
	}
	return steps
}

// A disk that lives: it is added to, put away and written anew, and power falls again and again, in what cleans it, too.
func TestOldOrNewForALongTime(t *testing.T) {
	falls := 0
	for seed := range 40 {
		r := dice(500 + seed)
		w := impl.Wal{Term: 1, Vote: -1}
		now := impl.Kept{Wal: w}
		d := keptDisk(w, impl.Snap{})
		for range 60 {
			var steps []impl.Step
			next := now
			switch later := laterSnaps(now.Wal); r.roll(4) {
			case 0:
				next.Snap = later[r.roll(len(later))]
				next.Wal = wantBehind(now.Wal, next.Snap)
				steps = impl.PlanSnap(d, next.Snap, next.Wal)
			case 1:
				next.Wal = r.later(now.Wal)
				steps = impl.PlanLog(d, next.Wal)
			default:
				next.Wal = r.later(now.Wal)
				steps = impl.PlanAdd(now.Wal, next.Wal)
			}
			n := len(steps)
			if r.roll(2) == 0 {
				n = r.roll(len(steps) + 1)
			}
			before := d
			d, _, _ = checkDoSteps(t, d, steps, n)
			if n < len(steps) {
				falls++
				d = impl.Crash(d, r.roll(len(d.Moves)+2), slices.Repeat([]int{r.roll(40)}, 4))
			}
			k, code := checkRecover(t, d)
			if code != impl.KpOk {
				t.Fatalf("lost behind %d of %d steps on %v: %v", brief(n, len(steps), before, d)...)
			}
			if n == len(steps) && (k.Dirty || !sameWal(k.Wal, next.Wal) || k.Snap != next.Snap) {
				t.Fatalf("behind all steps: %v, want %v", brief(k, next)...)
			}
			for k.Dirty {
				plan := clean(d, k)
				var seen tally
				checkOldOrNew(t, &r, d, plan, k, k, &seen)
				d, _, _ = checkDoSteps(t, d, plan, r.roll(len(plan)+3))
				d = impl.Crash(d, r.roll(len(d.Moves)+2), nil)
				again, _ := checkRecover(t, d)
				if !sameWal(again.Wal, k.Wal) || again.Snap != k.Snap {
					t.Fatalf("cleaning made %v of %v", brief(again, k)...)
				}
				k = again
			}
			now = k
		}
	}
	if falls < 200 {
		t.Errorf("power fell only %d times", falls)
	}
}

func TestKeptOfOneCallAreApart(t *testing.T) {
	w := copyWal(richWal())
	w.Entries[1].Data = w.Entries[0].Data
	s := impl.Snap{Index: 6, Term: 3, Data: "three"}
	d := copyDisk(keptDisk(w, s, named{"log.new", "x"}))
	a, _ := impl.Recover(d)
	b, _ := impl.Recover(d)
	if overlap(a.Wal.Entries, b.Wal.Entries) || shareText(keptTexts(a), keptTexts(b)) || !sameKept(a, b) {
		t.Error("Recover: two answers share memory or differ")
	}
	plans := func() [][]impl.Step {
		return [][]impl.Step{impl.PlanLog(d, w), impl.PlanSnap(d, s, w), impl.PlanAdd(impl.Wal{Term: 9, Vote: 2, Base: 5, BaseTerm: 3}, w)}
	}
	first, second := plans(), plans()
	for i := range first {
		for j := range second {
			if overlap(first[i], second[j]) {
				t.Errorf("plans %d and %d share memory", i, j)
			}
		}
		if !slices.Equal(first[i], second[i]) || len(first[i]) == 0 {
			t.Errorf("plan %d differs from call to call", i)
		}
	}
	// What is put behind one plan reaches no other one.
	_ = append(first[0], impl.Step{Kind: 99})
	if !slices.Equal(first[1], second[1]) {
		t.Error("what stands behind a plan is another one's")
	}
	steps := wantPlanLog(d, w)
	x, _, _ := impl.DoSteps(d, steps, 9)
	y, _, _ := impl.DoSteps(d, steps, 9)
	if shareDisk(x, y) || !sameDisk(x, y) {
		t.Error("DoSteps: two answers share memory or differ")
	}
}
