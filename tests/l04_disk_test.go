package tests

import (
	"cmp"
	"math"
	"reflect"
	"slices"
	"strings"
	"testing"
	"unsafe"

	"loop.example/g00358/impl"
)

const nameBytes = "abcdefghijklmnopqrstuvwxyz0123456789."

func wantName(s string) bool {
	return len(s) >= 1 && len(s) <= 12 && strings.Trim(s, nameBytes) == ""
}

func linkAt(links []impl.Link, name string) int {
	return slices.IndexFunc(links, func(l impl.Link) bool { return l.Name == name })
}

func without(links []impl.Link, name string) []impl.Link {
	return slices.DeleteFunc(slices.Clone(links), func(l impl.Link) bool { return l.Name == name })
}

func with(links []impl.Link, l impl.Link) []impl.Link {
	out := append(slices.Clone(links), l)
	slices.SortFunc(out, func(a, b impl.Link) int { return cmp.Compare(a.Name, b.Name) })
	return out
}

// wantApply: a Move applied to a list of Links by the words of chapter 4, and whether it fits.
func wantApply(links []impl.Link, v impl.Move) ([]impl.Link, bool) {
	at := linkAt(links, v.Name)
	switch {
	case v.Kind == impl.MvMake && v.To == "" && at < 0:
		return with(links, impl.Link{Name: v.Name, Id: v.Id}), true
	case v.Kind == impl.MvName && v.Id == 0 && at >= 0 && wantName(v.To) && v.To != v.Name:
		return with(without(without(links, v.Name), v.To), impl.Link{Name: v.To, Id: links[at].Id}), true
	case v.Kind == impl.MvDrop && v.To == "" && v.Id == 0 && at >= 0:
		return without(links, v.Name), true
	}
	return nil, false
}

// wantLinks: Dir with the first keep Moves applied.
func wantLinks(d impl.Disk, keep int) ([]impl.Link, bool) {
	links := slices.Clone(d.Dir)
	for i := 0; i < keep && i < len(d.Moves); i++ {
		next, fits := wantApply(links, d.Moves[i])
		if !fits {
			return nil, false
		}
		links = next
	}
	return links, true
}

func wantNow(d impl.Disk) []impl.Link {
	links, _ := wantLinks(d, len(d.Moves))
	return links
}

func wantUsed(d impl.Disk) int {
	n := 0
	for _, x := range d.Inodes {
		n += len(x.Data)
	}
	return n
}

// wantHad: the Ids of Dir and of the MvMakes, in this order.
func wantHad(d impl.Disk) []int {
	var out []int
	for _, l := range d.Dir {
		out = append(out, l.Id)
	}
	for _, v := range d.Moves {
		if v.Kind == impl.MvMake {
			out = append(out, v.Id)
		}
	}
	return out
}

// wantRight: whether a disk is right, sentence by sentence.
func wantRight(d impl.Disk) bool {
	if d.Room < 0 || d.Room > 1048576 || d.Next < 1 || d.Next > 1000000 || len(d.Inodes) > 10 || len(d.Moves) > 20 {
		return false
	}
	var ids []int
	for i, n := range d.Inodes {
		if n.Id < 1 || n.Id > d.Next-1 || i > 0 && n.Id <= d.Inodes[i-1].Id || n.Sure < 0 || n.Sure > len(n.Data) {
			return false
		}
		ids = append(ids, n.Id)
	}
	for i, l := range d.Dir {
		if !wantName(l.Name) || i > 0 && l.Name <= d.Dir[i-1].Name {
			return false
		}
	}
	for _, v := range d.Moves {
		if !wantName(v.Name) {
			return false
		}
	}
	had := wantHad(d)
	slices.Sort(had)
	_, fit := wantLinks(d, len(d.Moves))
	return fit && wantUsed(d) <= d.Room && slices.Equal(had, ids)
}

// wantSettled: with these Links as Dir, no Moves, and the Inodes alone that they have.
func wantSettled(d impl.Disk, links []impl.Link) impl.Disk {
	out := impl.Disk{Room: d.Room, Next: d.Next, Dir: links}
	for _, n := range d.Inodes {
		if slices.ContainsFunc(links, func(l impl.Link) bool { return l.Id == n.Id }) {
			out.Inodes = append(out.Inodes, n)
		}
	}
	return out
}

func wantCrash(d impl.Disk, keep int, cuts []int) impl.Disk {
	if !wantRight(d) {
		return impl.Disk{}
	}
	links, _ := wantLinks(d, keep)
	cut := copyDisk(d)
	for i := range cut.Inodes {
		n := &cut.Inodes[i]
		more := 0
		if i < len(cuts) && cuts[i] > 0 {
			more = cuts[i]
		}
		if more < len(n.Data)-n.Sure {
			n.Data = n.Data[:n.Sure+more]
		}
		n.Sure = len(n.Data)
	}
	return wantSettled(cut, links)
}

// diskCall: one of the calls that answer a disk and a code.
type diskCall struct {
	what string
	name string
	to   string
}

func (c diskCall) do(d impl.Disk) (impl.Disk, int) {
	switch c.what {
	case "make":
		return impl.Make(d, c.name)
	case "add":
		return impl.Add(d, c.name, c.to)
	case "sync":
		return impl.Sync(d, c.name)
	case "rename":
		return impl.Rename(d, c.name, c.to)
	case "drop":
		return impl.Drop(d, c.name)
	}
	return impl.SyncDir(d)
}

// refusal: the first code that the chapter has against the call.
func (c diskCall) refusal(d impl.Disk) int {
	there := linkAt(wantNow(d), c.name) >= 0
	movesFull := len(d.Moves) >= 20
	switch {
	case c.what == "syncdir":
		return impl.DkOk
	case !wantName(c.name) || c.what == "rename" && (!wantName(c.to) || c.to == c.name):
		return impl.DkBad
	case c.what == "make" && there:
		return impl.DkThere
	case c.what == "make" && (movesFull || len(d.Inodes) >= 10 || d.Next == 1000000):
		return impl.DkFull
	case c.what != "make" && !there:
		return impl.DkNone
	case c.what == "add" && wantUsed(d)+len(c.to) > d.Room:
		return impl.DkFull
	case (c.what == "rename" || c.what == "drop") && movesFull:
		return impl.DkFull
	}
	return impl.DkOk
}

func (c diskCall) want(d impl.Disk) (impl.Disk, int) {
	if !wantRight(d) {
		return impl.Disk{}, impl.DkBad
	}
	if code := c.refusal(d); code != impl.DkOk {
		return d, code
	}
	out, now := copyDisk(d), wantNow(d)
	if c.what == "add" || c.what == "sync" {
		id := now[linkAt(now, c.name)].Id
		n := &out.Inodes[slices.IndexFunc(d.Inodes, func(n impl.Inode) bool { return n.Id == id })]
		if c.what == "add" {
			n.Data += c.to
		} else {
			n.Sure = len(n.Data)
		}
		return out, impl.DkOk
	}
	switch c.what {
	case "make":
		out.Inodes = append(out.Inodes, impl.Inode{Id: d.Next})
		out.Moves = append(out.Moves, impl.Move{Kind: impl.MvMake, Name: c.name, Id: d.Next})
		out.Next++
	case "rename":
		out.Moves = append(out.Moves, impl.Move{Kind: impl.MvName, Name: c.name, To: c.to})
	case "drop":
		out.Moves = append(out.Moves, impl.Move{Kind: impl.MvDrop, Name: c.name})
	case "syncdir":
		out = wantSettled(d, now)
	}
	return out, impl.DkOk
}

// copyDisk: the same disk in memory of its own, its lists with spare room in which something stands.
func copyDisk(d impl.Disk) impl.Disk {
	out := impl.Disk{Room: d.Room, Next: d.Next}
	for _, n := range d.Inodes {
		out.Inodes = append(out.Inodes, impl.Inode{Id: n.Id, Data: strings.Clone(n.Data), Sure: n.Sure})
	}
	for _, l := range d.Dir {
		out.Dir = append(out.Dir, impl.Link{Name: strings.Clone(l.Name), Id: l.Id})
	}
	for _, v := range d.Moves {
		out.Moves = append(out.Moves, impl.Move{Kind: v.Kind, Name: strings.Clone(v.Name), To: strings.Clone(v.To), Id: v.Id})
	}
	out.Inodes = append(out.Inodes, impl.Inode{Id: 77}, impl.Inode{Id: 78})[:len(d.Inodes)]
	out.Dir = append(out.Dir, impl.Link{Id: 77}, impl.Link{Id: 78})[:len(d.Dir)]
	out.Moves = append(out.Moves, impl.Move{Id: 77}, impl.Move{Id: 78})[:len(d.Moves)]
	return out
}

// spare: the disk with what copyDisk put behind its lists.
func spare(d impl.Disk) impl.Disk {
	d.Inodes, d.Dir, d.Moves = d.Inodes[:len(d.Inodes)+2], d.Dir[:len(d.Dir)+2], d.Moves[:len(d.Moves)+2]
	return d
}

func sameDisk(a, b impl.Disk) bool {
	return a.Room == b.Room && a.Next == b.Next && slices.Equal(a.Inodes, b.Inodes) && slices.Equal(a.Dir, b.Dir) && slices.Equal(a.Moves, b.Moves)
}

func overlap[T any](a, b []T) bool {
	a, b = a[:cap(a)], b[:cap(b)]
	if len(a) == 0 || len(b) == 0 {
		return false
	}
	var one T
	at := func(s []T) (uintptr, uintptr) {
		from := uintptr(unsafe.Pointer(unsafe.SliceData(s)))
		return from, from + uintptr(len(s))*unsafe.Sizeof(one)
	}
	a0, a1 := at(a)
	b0, b1 := at(b)
	return a0 < b1 && b0 < a1
}

func diskTexts(d impl.Disk) []string {
	var out []string
	for _, n := range d.Inodes {
		out = append(out, n.Data)
	}
	for _, l := range d.Dir {
		out = append(out, l.Name)
	}
	for _, v := range d.Moves {
		out = append(out, v.Name, v.To)
	}
	return out
}

func shareText(some, others []string) bool {
	for _, a := range some {
		for _, b := range others {
			if a != "" && b != "" && (inside(a, b) || inside(b, a)) {
				return true
			}
		}
	}
	return false
}

func shareDisk(a, b impl.Disk) bool {
	return overlap(a.Inodes, b.Inodes) || overlap(a.Dir, b.Dir) || overlap(a.Moves, b.Moves) || shareText(diskTexts(a), diskTexts(b))
}

// checkCall does a call, holds it against the words, and looks whether the disk that was handed in was left alone.
func checkCall(t *testing.T, d impl.Disk, c diskCall) (impl.Disk, int) {
	t.Helper()
	in, before := copyDisk(d), copyDisk(d)
	c.name, c.to = strings.Clone(c.name), strings.Clone(c.to)
	out, code := c.do(in)
	want, wantCode := c.want(d)
	if code != wantCode || !sameDisk(out, want) {
		t.Fatalf("%.80v on %.300v\n = %.300v %d,\nwant %.300v %d", c, d, out, code, want, wantCode)
	}
	if !sameDisk(spare(in), spare(before)) {
		t.Fatalf("%.80v writes into %.300v", c, d)
	}
	if shareDisk(in, out) || shareText(diskTexts(out), []string{c.name, c.to}) {
		t.Fatalf("%.80v on %.300v answers old memory", c, d)
	}
	if wantRight(d) != impl.DiskOk(out) {
		t.Fatalf("%.80v on %.300v: right is %v behind it", c, d, impl.DiskOk(out))
	}
	return out, code
}

func checkCrash(t *testing.T, d impl.Disk, keep int, cuts []int) impl.Disk {
	t.Helper()
	in, before, cutsBefore := copyDisk(d), copyDisk(d), slices.Clone(cuts)
	out := impl.Crash(in, keep, cuts)
	if want := wantCrash(d, keep, cuts); !sameDisk(out, want) {
		t.Fatalf("Crash of %.300v with %d %v\n = %.300v,\nwant %.300v", d, keep, cuts, out, want)
	}
	if !sameDisk(spare(in), spare(before)) || !slices.Equal(cuts, cutsBefore) || shareDisk(in, out) {
		t.Fatalf("Crash of %.300v with %d %v writes into it or answers its memory", d, keep, cuts)
	}
	if wantRight(d) && !impl.DiskOk(out) {
		t.Fatalf("Crash of %.300v with %d %v leaves a wrong disk", d, keep, cuts)
	}
	return out
}

// checkLook holds List and Load against the words, for the names that are there and those that are handed in.
func checkLook(t *testing.T, d impl.Disk, names ...string) {
	t.Helper()
	in, before := copyDisk(d), copyDisk(d)
	var now []impl.Link
	if wantRight(d) {
		now = wantNow(d)
	}
	var want []string
	for _, l := range now {
		want = append(want, l.Name)
	}
	list := impl.List(in)
	if !slices.Equal(list, want) || shareText(list, diskTexts(in)) {
		t.Fatalf("List of %.300v = %v, want %v in new memory", d, list, want)
	}
	for _, name := range append(names, want...) {
		data, wantOk := "", false
		if at := linkAt(now, name); at >= 0 {
			i := slices.IndexFunc(d.Inodes, func(n impl.Inode) bool { return n.Id == now[at].Id })
			data, wantOk = d.Inodes[i].Data, true
		}
		got, ok := impl.Load(in, name)
		if got != data || ok != wantOk || shareText([]string{got}, diskTexts(in)) {
			t.Fatalf("Load of %q of %.300v = %.60q %v, want %.60q %v", name, d, got, ok, data, wantOk)
		}
	}
	if !sameDisk(spare(in), spare(before)) {
		t.Fatalf("List or Load writes into %.300v", d)
	}
}

// richDisk: each kind of thing that a right disk may have: a safe file, one that is renamed, one that is renamed over, one that is dropped, a new one, and one that was new and is dropped.
func richDisk() impl.Disk {
	return impl.Disk{
		Room: 30, Next: 9,
		Inodes: []impl.Inode{{Id: 1, Data: "stays", Sure: 5}, {Id: 2, Data: "moved", Sure: 3}, {Id: 3, Data: "under", Sure: 0}, {Id: 5, Data: "old", Sure: 2}, {Id: 6, Data: "new!", Sure: 1}, {Id: 8, Data: "brief", Sure: 5}},
		Dir:    []impl.Link{{Name: "a", Id: 3}, {Name: "b.1", Id: 2}, {Name: "c", Id: 5}, {Name: "safe", Id: 1}},
		Moves: []impl.Move{
			{Kind: impl.MvMake, Name: "new", Id: 6},
			{Kind: impl.MvName, Name: "b.1", To: "a"},
			{Kind: impl.MvDrop, Name: "c"},
			{Kind: impl.MvMake, Name: "c", Id: 8},
			{Kind: impl.MvDrop, Name: "c"},
		},
	}
}

// fullDisk: as many Inodes and Moves as may be, and no room behind the Data.
func fullDisk() impl.Disk {
	d := impl.Disk{Room: 20, Next: 11}
	for i := range 10 {
		d.Inodes = append(d.Inodes, impl.Inode{Id: i + 1, Data: "xy", Sure: i % 3})
		d.Dir = append(d.Dir, impl.Link{Name: "f" + string(rune('a'+i)), Id: i + 1})
	}
	for i := range 20 {
		if i%2 == 0 {
			d.Moves = append(d.Moves, impl.Move{Kind: impl.MvName, Name: "fa", To: "other"})
		} else {
			d.Moves = append(d.Moves, impl.Move{Kind: impl.MvName, Name: "other", To: "fa"})
		}
	}
	return d
}

// wrongDisk: a disk that breaks one rule.
type wrongDisk struct {
	why string
	bad impl.Disk
}

func wrongDisks() []wrongDisk {
	var out []wrongDisk
	but := func(why string, change func(d *impl.Disk)) {
		d := copyDisk(richDisk())
		change(&d)
		out = append(out, wrongDisk{why, d})
	}
	but("Room below 0", func(d *impl.Disk) { *d = impl.Disk{Room: -1, Next: 1} })
	but("Room above MaxRoom", func(d *impl.Disk) { d.Room = impl.MaxRoom + 1 })
	but("the zero Disk", func(d *impl.Disk) { *d = impl.Disk{} })
	but("Next below 0", func(d *impl.Disk) { *d = impl.Disk{Room: 1, Next: -1} })
	but("Next above MaxId", func(d *impl.Disk) { d.Next = impl.MaxId + 1 })
	but("an Id that is Next", func(d *impl.Disk) { d.Next = 8 })
	but("an Id above Next", func(d *impl.Disk) { d.Next = 7 })
	but("Id 0", func(d *impl.Disk) { d.Inodes[0].Id, d.Dir[3].Id = 0, 0 })
	but("an Id below 0", func(d *impl.Disk) { d.Inodes[0].Id, d.Dir[3].Id = -1, -1 })
	but("Ids that fall", func(d *impl.Disk) { d.Inodes[0], d.Inodes[1] = d.Inodes[1], d.Inodes[0] })
	but("two Ids alike", func(d *impl.Disk) { d.Inodes = slices.Insert(d.Inodes, 1, d.Inodes[0]) })
	but("Sure below 0", func(d *impl.Disk) { d.Inodes[2].Sure = -1 })
	but("Sure beyond the Data", func(d *impl.Disk) { d.Inodes[0].Sure = 6 })
	but("more Data than Room", func(d *impl.Disk) { d.Room = 26 })
	but("a Dir that falls", func(d *impl.Disk) { d.Dir[0], d.Dir[1] = d.Dir[1], d.Dir[0] })
	but("two Links with a Name", func(d *impl.Disk) { d.Dir[1].Name = "a"; d.Moves = append(d.Moves[:1:1], d.Moves[2:]...) })
	but("a Link whose Id no Inode has", func(d *impl.Disk) { d.Dir = append(d.Dir, impl.Link{Name: "z", Id: 4}) })
	but("a Link with Id 0", func(d *impl.Disk) { d.Dir = append(d.Dir, impl.Link{Name: "z", Id: 0}) })
	but("two Links with an Id", func(d *impl.Disk) { d.Dir = append(d.Dir, impl.Link{Name: "z", Id: 1}) })
	for _, name := range []string{"", "safe.thirteen", "Safe", "saf/e", "saf e", "saf\x00", "saf\xc3\xa9", "saf_e", "s-afe", "{", "`", ":", "/", "saf\n"} {
		but("no name in Dir: "+name, func(d *impl.Disk) {
			*d = impl.Disk{Room: 9, Next: 2, Inodes: []impl.Inode{{Id: 1}}, Dir: []impl.Link{{Name: name, Id: 1}}}
		})
		but("no name in a MvMake: "+name, func(d *impl.Disk) {
			*d = impl.Disk{Room: 9, Next: 2, Inodes: []impl.Inode{{Id: 1}}, Moves: []impl.Move{{Kind: impl.MvMake, Name: name, Id: 1}}}
		})
		but("no name in a MvName's To: "+name, func(d *impl.Disk) {
			d.Moves = append(d.Moves, impl.Move{Kind: impl.MvName, Name: "safe", To: name})
		})
	}
	for why, v := range map[string]impl.Move{
		"a Move of kind 0":                           {Kind: 0, Name: "safe"},
		"a Move of kind 4":                           {Kind: 4, Name: "safe"},
		"a Move of kind -1":                          {Kind: -1, Name: "safe"},
		"the zero Move":                              {},
		"a MvMake of a name that Dir has":            {Kind: impl.MvMake, Name: "safe", Id: 7},
		"a MvMake of a name that a Move brought":     {Kind: impl.MvMake, Name: "new", Id: 7},
		"a MvMake with a To":                         {Kind: impl.MvMake, Name: "x", To: "y", Id: 7},
		"a MvMake with Dir's Id":                     {Kind: impl.MvMake, Name: "x", Id: 1},
		"a MvMake with an Id that Dir had":           {Kind: impl.MvMake, Name: "c", Id: 5},
		"a MvMake with a MvMake's Id":                {Kind: impl.MvMake, Name: "x", Id: 6},
		"a MvMake with the Id of one that went":      {Kind: impl.MvMake, Name: "c", Id: 8},
		"a MvMake whose Id no Inode has":             {Kind: impl.MvMake, Name: "x", Id: 4},
		"a MvMake with Id 0":                         {Kind: impl.MvMake, Name: "x"},
		"a MvName of a name that isn't there":        {Kind: impl.MvName, Name: "x", To: "y"},
		"a MvName of a name that went":               {Kind: impl.MvName, Name: "b.1", To: "y"},
		"a MvName of a name that was dropped":        {Kind: impl.MvName, Name: "c", To: "y"},
		"a MvName onto itself":                       {Kind: impl.MvName, Name: "safe", To: "safe"},
		"a MvName without a To":                      {Kind: impl.MvName, Name: "safe"},
		"a MvName with an Id":                        {Kind: impl.MvName, Name: "safe", To: "y", Id: 1},
		"a MvDrop of a name that isn't there":        {Kind: impl.MvDrop, Name: "x"},
		"a MvDrop of a name that was dropped":        {Kind: impl.MvDrop, Name: "c"},
		"a MvDrop with a To":                         {Kind: impl.MvDrop, Name: "safe", To: "y"},
		"a MvDrop with an Id":                        {Kind: impl.MvDrop, Name: "safe", Id: 1},
		"a MvDrop of no name":                        {Kind: impl.MvDrop, Name: "Safe"},
		"a MvName from no name":                      {Kind: impl.MvName, Name: "", To: "y"},
		"a MvName whose To has more than 12 bytes":   {Kind: impl.MvName, Name: "safe", To: "1234567890123"},
		"a MvMake whose Name has more than 12 bytes": {Kind: impl.MvMake, Name: "1234567890123", Id: 7},
	} {
		but(why, func(d *impl.Disk) {
			if v.Id == 7 {
				d.Inodes = slices.Insert(d.Inodes, 5, impl.Inode{Id: 7})
			}
			d.Moves = append(d.Moves, v)
		})
	}
	but("Moves that fit in another order", func(d *impl.Disk) { d.Moves[2], d.Moves[3] = d.Moves[3], d.Moves[2] })
	but("an Inode that nothing has", func(d *impl.Disk) { d.Inodes = slices.Insert(d.Inodes, 3, impl.Inode{Id: 4}) })
	but("an Inode that a Link no more has", func(d *impl.Disk) { d.Dir = d.Dir[:3] })
	but("an Inode whose MvMake lacks", func(d *impl.Disk) { d.Moves = d.Moves[1:] })
	but("more than MaxInodes Inodes", func(d *impl.Disk) {
		*d = fullDisk()
		d.Next, d.Inodes, d.Dir = 12, append(d.Inodes, impl.Inode{Id: 11}), append(d.Dir, impl.Link{Name: "g", Id: 11})
	})
	but("more than MaxMoves Moves", func(d *impl.Disk) {
		*d = fullDisk()
		d.Moves = append(d.Moves, impl.Move{Kind: impl.MvDrop, Name: "fb"})
	})
	return out
}

// everyCall: names that are there, new ones and wrong ones, for each call.
func everyCall() []diskCall {
	out := []diskCall{{what: "syncdir"}}
	names := []string{"a", "b.1", "c", "safe", "new", "x", "fa", "other", "", "123456789012", "1234567890123", "Safe", "sa fe"}
	for _, name := range names {
		out = append(out, diskCall{"make", name, ""}, diskCall{"sync", name, ""}, diskCall{"drop", name, ""})
		for _, data := range []string{"", "+", "+++", "++++", "\x00\xff", strings.Repeat("z", 50)} {
			out = append(out, diskCall{"add", name, data})
		}
		for _, to := range names {
			out = append(out, diskCall{"rename", name, to})
		}
	}
	return out
}

func TestDiskConstants(t *testing.T) {
	if impl.MaxName != 12 || impl.MaxInodes != 10 || impl.MaxMoves != 20 || impl.MaxRoom != 1048576 || impl.MaxId != 1000000 {
		t.Error("the limits of chapter 4 are others")
	}
	if impl.MvMake != 1 || impl.MvName != 2 || impl.MvDrop != 3 {
		t.Error("the kinds of Moves are others")
	}
	if impl.DkOk != 0 || impl.DkBad != 1 || impl.DkNone != 2 || impl.DkThere != 3 || impl.DkFull != 4 {
		t.Error("the codes of chapter 4 are others")
	}
}

func TestNewDiskRooms(t *testing.T) {
	for room, want := range map[int]bool{-1: false, 0: true, 1: true, impl.MaxRoom: true, impl.MaxRoom + 1: false, math.MinInt: false, math.MaxInt: false} {
		d, ok := impl.NewDisk(room)
		wantDisk := impl.Disk{}
		if want {
			wantDisk = impl.Disk{Room: room, Next: 1}
		}
		if ok != want || !sameDisk(d, wantDisk) || impl.DiskOk(d) != want {
			t.Errorf("NewDisk(%d) = %v %v, want %v %v", room, d, ok, wantDisk, want)
		}
	}
}

func TestDiskOkOfRightDisks(t *testing.T) {
	right := map[string]impl.Disk{
		"rich":               richDisk(),
		"full":               fullDisk(),
		"the last Next":      {Room: 0, Next: impl.MaxId},
		"the last Id":        {Room: 0, Next: impl.MaxId, Inodes: []impl.Inode{{Id: impl.MaxId - 1}}, Dir: []impl.Link{{Name: "a", Id: impl.MaxId - 1}}},
		"all of MaxRoom":     {Room: impl.MaxRoom, Next: 2, Inodes: []impl.Inode{{Id: 1, Data: strings.Repeat("d", impl.MaxRoom)}}, Dir: []impl.Link{{Name: "a", Id: 1}}},
		"names of all bytes": {Room: 0, Next: 5, Inodes: []impl.Inode{{Id: 1}, {Id: 2}, {Id: 3}, {Id: 4}}, Dir: []impl.Link{{Name: ".", Id: 4}, {Name: "0123456789.", Id: 3}, {Name: "abcdefghijkl", Id: 2}, {Name: "mnopqrstuvwx", Id: 1}}, Moves: []impl.Move{{Kind: impl.MvName, Name: ".", To: "yz.........."}}},
		"a beginning of a name is less": {Room: 0, Next: 4, Inodes: []impl.Inode{{Id: 1}, {Id: 2}, {Id: 3}},
			Dir: []impl.Link{{Name: "a", Id: 1}, {Name: "a.", Id: 2}, {Name: "aa", Id: 3}}},
		"only a MvMake has it": {Room: 3, Next: 2, Inodes: []impl.Inode{{Id: 1, Data: "abc", Sure: 3}}, Moves: []impl.Move{{Kind: impl.MvMake, Name: "a", Id: 1}, {Kind: impl.MvDrop, Name: "a"}}},
	}
	for why, d := range right {
		if !wantRight(d) || !impl.DiskOk(d) {
			t.Errorf("%s: %.300v is right, DiskOk says %v", why, d, impl.DiskOk(d))
		}
		checkLook(t, d, "a", "zz", "", "A", "other")
	}
}

func TestDiskOkOfEachBrokenRule(t *testing.T) {
	for _, w := range wrongDisks() {
		if wantRight(w.bad) || impl.DiskOk(w.bad) {
			t.Errorf("%s: %.300v is not right, DiskOk says %v", w.why, w.bad, impl.DiskOk(w.bad))
		}
	}
}

func TestCallsOnWrongDisks(t *testing.T) {
	for _, w := range wrongDisks() {
		for _, c := range []diskCall{{"make", "x", ""}, {"make", "", ""}, {"add", "safe", ""}, {"sync", "safe", ""}, {"rename", "safe", "x"}, {"rename", "x", "x"}, {"drop", "safe", ""}, {"drop", "none", ""}, {"syncdir", "", ""}} {
			out, code := c.do(w.bad)
			if code != impl.DkBad || !reflect.DeepEqual(out, impl.Disk{}) {
				t.Errorf("%s: %v = %v %d, want DkBad with the zero Disk", w.why, c, out, code)
			}
		}
		checkLook(t, copyDisk(w.bad), "safe", "a", "")
		for _, keep := range []int{0, 1, 99} {
			if out := impl.Crash(w.bad, keep, []int{1, 2, 3}); !reflect.DeepEqual(out, impl.Disk{}) {
				t.Errorf("%s: Crash = %v, want the zero Disk", w.why, out)
			}
		}
	}
}

func TestEachCallOnRightDisks(t *testing.T) {
	last := impl.Disk{Room: 5, Next: impl.MaxId, Inodes: []impl.Inode{{Id: 7, Data: "x"}}, Dir: []impl.Link{{Name: "a", Id: 7}}}
	fewMoves := fullDisk()
	fewMoves.Moves = nil
	fewInodes := fullDisk()
	fewInodes.Inodes, fewInodes.Dir = fewInodes.Inodes[:9], fewInodes.Dir[:9]
	oneMove := fullDisk()
	oneMove.Moves, oneMove.Inodes, oneMove.Dir = oneMove.Moves[:19], oneMove.Inodes[:9], oneMove.Dir[:9]
	seen := map[string]int{}
	for _, d := range []impl.Disk{richDisk(), fullDisk(), last, fewMoves, fewInodes, oneMove, {Room: 0, Next: 1}, {Room: 3, Next: impl.MaxId - 1}} {
		for _, c := range everyCall() {
			_, code := checkCall(t, d, c)
			seen[c.what+" "+impl.Dec(code)]++
		}
	}
	for _, what := range []string{"make 0", "make 1", "make 3", "make 4", "add 0", "add 1", "add 2", "add 4", "sync 0", "sync 1", "sync 2", "rename 0", "rename 1", "rename 2", "rename 4", "drop 0", "drop 1", "drop 2", "drop 4", "syncdir 0"} {
		if seen[what] == 0 {
			t.Errorf("no call answered %s", what)
		}
	}
	if len(seen) != 20 {
		t.Errorf("codes that no call has: %v", seen)
	}
}

// The first of several reasons counts: on a disk that is full in every way, and for names that are wrong in two ways.
func TestCodesInTheirOrder(t *testing.T) {
	full := fullDisk()
	full.Next = impl.MaxId
	for c, want := range map[diskCall]int{
		{"make", "FA", ""}:            impl.DkBad,
		{"make", "fa", ""}:            impl.DkThere,
		{"make", "x", ""}:             impl.DkFull,
		{"add", "X", "y"}:             impl.DkBad,
		{"add", "x", "y"}:             impl.DkNone,
		{"add", "fa", "y"}:            impl.DkFull,
		{"add", "fa", ""}:             impl.DkOk,
		{"sync", "X", ""}:             impl.DkBad,
		{"sync", "x", ""}:             impl.DkNone,
		{"sync", "fa", ""}:            impl.DkOk,
		{"rename", "X", "y"}:          impl.DkBad,
		{"rename", "x", "Y"}:          impl.DkBad,
		{"rename", "x", "x"}:          impl.DkBad,
		{"rename", "fa", "fa"}:        impl.DkBad,
		{"rename", "fa", ""}:          impl.DkBad,
		{"rename", "x", "fa"}:         impl.DkNone,
		{"rename", "other", "fa"}:     impl.DkNone,
		{"rename", "fa", "x"}:         impl.DkFull,
		{"rename", "fa", "fb"}:        impl.DkFull,
		{"drop", "X", ""}:             impl.DkBad,
		{"drop", "x", ""}:             impl.DkNone,
		{"drop", "fa", ""}:            impl.DkFull,
		{"drop", "other", ""}:         impl.DkNone,
		{"syncdir", "", ""}:           impl.DkOk,
		{"make", "1234567890123", ""}: impl.DkBad,
		{"make", "123456789012", ""}:  impl.DkFull,
	} {
		if _, code := checkCall(t, full, c); code != want {
			t.Errorf("%v says %d, want %d", c, code, want)
		}
	}
}

func TestDiskNames(t *testing.T) {
	d, _ := impl.NewDisk(9)
	d, _ = impl.Make(d, "there")
	names := []string{"", "a", "z", "0", "9", ".", "..", "123456789012", "............", "1234567890123", ".............", strings.Repeat("a", 300)}
	for b := range 256 {
		c := string([]byte{byte(b)})
		names = append(names, c, "a"+c, c+"a", "aaaaa"+c+"aaaaaa")
	}
	for _, name := range names {
		want := impl.DkOk
		if !wantName(name) {
			want = impl.DkBad
		}
		if _, code := checkCall(t, d, diskCall{"make", name, ""}); code != want {
			t.Errorf("Make %q says %d", name, code)
		}
		if _, code := checkCall(t, d, diskCall{"rename", "there", name}); code != want {
			t.Errorf("Rename to %q says %d", name, code)
		}
		if want == impl.DkOk {
			want = impl.DkNone
		}
		for _, c := range []diskCall{{"add", name, "x"}, {"sync", name, ""}, {"drop", name, ""}, {"rename", name, "x.y"}} {
			if _, code := checkCall(t, d, c); code != want {
				t.Errorf("%v says %d", c, code)
			}
		}
		checkLook(t, d, name)
	}
}

func TestRename(t *testing.T) {
	d, _ := impl.NewDisk(20)
	for _, name := range []string{"one", "two"} {
		d, _ = impl.Make(d, name)
		d, _ = impl.Add(d, name, "of "+name)
		d, _ = impl.Sync(d, name)
	}
	d, _ = impl.SyncDir(d)
	over, code := checkCall(t, d, diskCall{"rename", "one", "two"})
	if code != impl.DkOk || !slices.Equal(impl.List(over), []string{"two"}) || len(over.Inodes) != 2 || len(over.Dir) != 2 {
		t.Fatalf("onto a name that is there: %v %d", over, code)
	}
	if s, ok := impl.Load(over, "two"); s != "of one" || !ok {
		t.Errorf("two is %q %v behind it", s, ok)
	}
	if back := checkCrash(t, over, 0, nil); !sameDisk(back, d) {
		t.Errorf("power falls ahead of it: %v, want %v", back, d)
	}
	kept, _ := checkCall(t, over, diskCall{what: "syncdir"})
	if !slices.Equal(kept.Inodes, []impl.Inode{{Id: 1, Data: "of one", Sure: 6}}) || !slices.Equal(kept.Dir, []impl.Link{{Name: "two", Id: 1}}) {
		t.Errorf("SyncDir behind it: %v", kept)
	}
	if out, code := impl.Rename(d, "one", "one"); code != impl.DkBad || !sameDisk(out, d) {
		t.Errorf("onto itself: %v %d", out, code)
	}
	if out, code := impl.Rename(d, "none", "two"); code != impl.DkNone || !sameDisk(out, d) {
		t.Errorf("from a name that isn't there: %v %d", out, code)
	}
	if out, code := impl.Rename(over, "one", "three"); code != impl.DkNone || !sameDisk(out, over) {
		t.Errorf("from a name that went: %v %d", out, code)
	}
}

// A file whose name is not safe is there while a Move has it, and no longer.
func TestInodesOfMovesAlone(t *testing.T) {
	d, _ := impl.NewDisk(20)
	d, _ = impl.Make(d, "new")
	d, _ = impl.Add(d, "new", "data")
	d, _ = impl.Sync(d, "new")
	if x := checkCrash(t, d, 0, []int{9}); len(x.Inodes) != 0 || x.Next != 2 {
		t.Errorf("its name was not safe: %v", x)
	}
	moved, _ := impl.Rename(d, "new", "moved")
	gone, _ := impl.Drop(moved, "moved")
	if len(gone.Inodes) != 1 || len(impl.List(gone)) != 0 || !impl.DiskOk(gone) {
		t.Fatalf("dropped ahead of SyncDir: %v", gone)
	}
	for keep, want := range []string{"", "new", "moved", "", ""} {
		x := checkCrash(t, gone, keep, nil)
		if want == "" && (len(x.Inodes) != 0 || len(x.Dir) != 0) {
			t.Errorf("with %d Moves: %v", keep, x)
		}
		if s, ok := impl.Load(x, want); want != "" && (s != "data" || !ok) {
			t.Errorf("with %d Moves %s is %q %v", keep, want, s, ok)
		}
	}
	if x, code := checkCall(t, gone, diskCall{what: "syncdir"}); code != impl.DkOk || len(x.Inodes) != 0 || x.Next != 2 {
		t.Errorf("SyncDir: %v %d", x, code)
	}
	again, code := checkCall(t, gone, diskCall{"make", "new", ""})
	if s, ok := impl.Load(again, "new"); code != impl.DkOk || s != "" || !ok || len(again.Inodes) != 2 {
		t.Errorf("made again: %v %d", again, code)
	}
	room, code := checkCall(t, again, diskCall{"add", "new", strings.Repeat("r", 16)})
	if code != impl.DkOk {
		t.Errorf("16 of 20 bytes: %d", code)
	}
	if _, code := checkCall(t, room, diskCall{"add", "new", "r"}); code != impl.DkFull {
		t.Errorf("what only a Move has takes room, too: %d", code)
	}
	settled, _ := impl.SyncDir(room)
	if _, code := checkCall(t, settled, diskCall{"add", "new", "rrrr"}); code != impl.DkOk {
		t.Errorf("behind SyncDir its room is free: %d", code)
	}
}

func TestMakeUntilFull(t *testing.T) {
	d, _ := impl.NewDisk(0)
	for i := range 10 {
		next, code := checkCall(t, d, diskCall{"make", "f" + impl.Dec(i), ""})
		if code != impl.DkOk {
			t.Fatalf("file %d: %d", i, code)
		}
		d = next
	}
	if _, code := checkCall(t, d, diskCall{"make", "f10", ""}); code != impl.DkFull {
		t.Errorf("an eleventh file: %d", code)
	}
	d, _ = impl.Drop(d, "f0")
	if _, code := checkCall(t, d, diskCall{"make", "f10", ""}); code != impl.DkFull {
		t.Errorf("a dropped file is there until SyncDir: %d", code)
	}
	d, _ = impl.SyncDir(d)
	if _, code := checkCall(t, d, diskCall{"make", "f10", ""}); code != impl.DkOk {
		t.Errorf("behind SyncDir: %d", code)
	}
}

func TestAddUpToMaxRoom(t *testing.T) {
	d, _ := impl.NewDisk(impl.MaxRoom)
	d, _ = impl.Make(d, "a")
	d, _ = impl.Make(d, "b")
	d, _ = checkCall(t, d, diskCall{"add", "a", strings.Repeat("a", impl.MaxRoom-1)})
	if _, code := checkCall(t, d, diskCall{"add", "b", "bb"}); code != impl.DkFull {
		t.Errorf("one byte too many: %d", code)
	}
	d, code := checkCall(t, d, diskCall{"add", "b", "b"})
	if code != impl.DkOk {
		t.Errorf("all of the room: %d", code)
	}
	checkCrash(t, d, 2, []int{impl.MaxRoom - 2, 1})
}

func TestCrashKeepsAndCuts(t *testing.T) {
	cuts := [][]int{nil, {}, {0}, {-1, -1, -1, -1, -1, -1}, {0, 1, 1, 0, 2, 1}, {9, 2, 4, 1, 1}, {9, 2, 5, 1, 3, 0, 7, 8},
		{0, 0, 3}, {0, 0, -3, 0, 2}, {math.MaxInt, math.MaxInt, math.MaxInt, math.MaxInt, math.MaxInt, math.MaxInt}, {math.MinInt, 1, math.MinInt, 1, math.MinInt, 1}}
	for _, d := range []impl.Disk{richDisk(), fullDisk(), {Room: 4, Next: 9}} {
		for keep := range len(d.Moves) + 3 {
			for _, c := range cuts {
				x := checkCrash(t, d, keep, c)
				if again := impl.Crash(x, keep, c); !sameDisk(again, x) || shareDisk(again, x) {
					t.Fatalf("a second Crash of %v = %v", x, again)
				}
			}
		}
		all := checkCrash(t, d, len(d.Moves), cuts[4])
		for _, keep := range []int{21, 1000, math.MaxInt} {
			if x := checkCrash(t, d, keep, cuts[4]); !sameDisk(x, all) {
				t.Errorf("a keep of %d is not all Moves: %v", keep, x)
			}
		}
		none := checkCrash(t, d, 0, cuts[4])
		for _, keep := range []int{-1, math.MinInt} {
			if x := impl.Crash(d, keep, cuts[4]); !sameDisk(x, none) {
				t.Errorf("a keep of %d is not no Move: %v", keep, x)
			}
		}
	}
}

func TestCrashNumbersAllInodes(t *testing.T) {
	d := impl.Disk{Room: 9, Next: 4,
		Inodes: []impl.Inode{{Id: 1, Data: "abc"}, {Id: 2, Data: "def", Sure: 1}, {Id: 3, Data: "ghi", Sure: 2}},
		Dir:    []impl.Link{{Name: "y", Id: 3}, {Name: "z", Id: 2}},
		Moves:  []impl.Move{{Kind: impl.MvMake, Name: "x", Id: 1}, {Kind: impl.MvDrop, Name: "z"}}}
	want := []impl.Disk{
		{Room: 9, Next: 4, Inodes: []impl.Inode{{Id: 2, Data: "def", Sure: 3}, {Id: 3, Data: "gh", Sure: 2}}, Dir: d.Dir},
		{Room: 9, Next: 4, Inodes: []impl.Inode{{Id: 1, Data: "a", Sure: 1}, {Id: 2, Data: "def", Sure: 3}, {Id: 3, Data: "gh", Sure: 2}}, Dir: []impl.Link{{Name: "x", Id: 1}, {Name: "y", Id: 3}, {Name: "z", Id: 2}}},
		{Room: 9, Next: 4, Inodes: []impl.Inode{{Id: 1, Data: "a", Sure: 1}, {Id: 3, Data: "gh", Sure: 2}}, Dir: []impl.Link{{Name: "x", Id: 1}, {Name: "y", Id: 3}}},
	}
	for keep, w := range want {
		if x := impl.Crash(d, keep, []int{1, 2}); !sameDisk(x, w) {
			t.Errorf("with %d Moves: %v, want %v", keep, x, w)
		}
	}
}

// dice: numbers of which the same ones come in each run.
type dice uint64

func (r *dice) roll(n int) int {
	*r = *r*6364136223846793005 + 1442695040888963407
	return int(uint64(*r)>>33) % n
}

func (r *dice) call() diskCall {
	names := []string{"a", "b", "c", "log", "log.new", "snap", "No"}
	c := diskCall{what: []string{"make", "make", "add", "add", "add", "sync", "rename", "drop", "syncdir"}[r.roll(9)], name: names[r.roll(len(names))]}
	if c.what == "add" {
		c.to = mixedText(r.roll(9), uint64(r.roll(99)))
	}
	if c.what == "rename" {
		c.to = names[r.roll(len(names))]
	}
	return c
}

func (r *dice) cuts() []int {
	var out []int
	for range r.roll(12) {
		out = append(out, r.roll(20)-2)
	}
	return out
}

// Calls in any order: each holds against the words, and power may fall behind each.
func TestDisksByAnyCalls(t *testing.T) {
	for seed := range 60 {
		r := dice(seed)
		d, _ := impl.NewDisk(10 + 20*(seed%5))
		for range 120 {
			d, _ = checkCall(t, d, r.call())
			checkLook(t, d, "a", "log", "none")
			x := checkCrash(t, d, r.roll(len(d.Moves)+2), r.cuts())
			if again := checkCrash(t, x, r.roll(3), r.cuts()); !sameDisk(again, x) {
				t.Fatalf("a second Crash of %v = %v", x, again)
			}
			if r.roll(25) == 0 {
				d = x
			}
		}
	}
}

// What was synced under a safe name is there behind any Crash, and of what was added behind it a beginning.
func TestSyncedIsThereBehindAnyCrash(t *testing.T) {
	for seed := range 40 {
		r := dice(1000 + seed)
		d, _ := impl.NewDisk(300)
		safe, all := "", ""
		d, _ = impl.Make(d, "kept")
		d, _ = impl.SyncDir(d)
		for range 60 {
			switch r.roll(4) {
			case 0:
				d, _ = impl.Sync(d, "kept")
				safe = all
			case 1:
				more := mixedText(r.roll(7), uint64(r.roll(99)))
				next, code := impl.Add(d, "kept", more)
				if code == impl.DkOk {
					d, all = next, all+more
				}
			default:
				d, _ = r.call().do(d)
			}
			for keep := range len(d.Moves) + 2 {
				got, ok := impl.Load(impl.Crash(d, keep, r.cuts()), "kept")
				if !ok || !strings.HasPrefix(got, safe) || !strings.HasPrefix(all, got) {
					t.Fatalf("kept is %q %v; safe was %q of %q", got, ok, safe, all)
				}
			}
		}
	}
}

func TestDisksOfOneCallAreApart(t *testing.T) {
	d := copyDisk(richDisk())
	for _, c := range everyCall() {
		a, _ := c.do(d)
		b, _ := c.do(d)
		if shareDisk(a, b) || !sameDisk(a, b) {
			t.Errorf("%v: two answers share memory or differ", c)
		}
	}
	if a, b := impl.Crash(d, 3, nil), impl.Crash(d, 3, nil); shareDisk(a, b) || !sameDisk(a, b) {
		t.Error("Crash: two answers share memory or differ")
	}
	if a, b := impl.List(d), impl.List(d); overlap(a, b) || shareText(a, b) {
		t.Error("List: two answers share memory")
	}
}
