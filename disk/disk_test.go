package disk_test

import (
	"bytes"
	"math"
	"strconv"
	"strings"
	"testing"

	"billhook/api"
	"billhook/disk"
)

// look is all that a disk tells of itself.
type look struct {
	log   string
	sure  int
	room  int
	slots [2]string
}

func lookAt(d *disk.Disk) look {
	return look{string(d.Log()), d.Sure(), d.Room(), [2]string{string(d.Slot(0)), string(d.Slot(1))}}
}

func wantLook(t *testing.T, what string, d *disk.Disk, want look) {
	t.Helper()
	if got := lookAt(d); got != want {
		t.Errorf("%s: %+v, want %+v", what, got, want)
	}
}

func wantErr(t *testing.T, what string, got, want api.Errno) {
	t.Helper()
	if got != want {
		t.Errorf("%s: error %d, want %d", what, got, want)
	}
}

// A step is something done with a disk.
type step func(d *disk.Disk)

func add(s string) step             { return func(d *disk.Disk) { d.Append([]byte(s)) } }
func write(slot int, s string) step { return func(d *disk.Disk) { d.Write(slot, []byte(s)) } }
func crash(keep int) step           { return func(d *disk.Disk) { d.Crash(keep) } }
func sync(d *disk.Disk)             { d.Sync() }
func wipe(d *disk.Disk)             { d.Clear() }

// behind answers a new disk behind some steps.
func behind(room int, steps ...step) *disk.Disk {
	d := disk.New(room)
	for _, s := range steps {
		s(d)
	}
	return d
}

// P3.1

func TestNew(t *testing.T) {
	for _, c := range []struct{ room, want int }{
		{0, 0}, {1, 1}, {9, 9}, {api.MaxLog - 1, api.MaxLog - 1}, {api.MaxLog, api.MaxLog},
		{api.MaxLog + 1, api.MaxLog}, {2 * api.MaxLog, api.MaxLog}, {math.MaxInt32 + 1, api.MaxLog}, {math.MaxInt, api.MaxLog},
		{-1, 0}, {-9, 0}, {-api.MaxLog, 0}, {math.MinInt, 0},
	} {
		d := disk.New(c.room)
		wantLook(t, "New "+strconv.Itoa(c.room), d, look{room: c.want})
		wantErr(t, "as much as there is room for", d.Append(make([]byte, c.want)), api.OK)
		wantErr(t, "one byte more", d.Append([]byte{1}), api.ErrFull)
		if len(d.Log()) != c.want || d.Room() != 0 {
			t.Errorf("New %d: %d bytes, room for %d", c.room, len(d.Log()), d.Room())
		}
	}
}

func TestAppend(t *testing.T) {
	d := disk.New(5)
	for _, c := range []struct {
		b    string
		e    api.Errno
		want look
	}{
		{"", api.OK, look{room: 5}},
		{"123456", api.ErrFull, look{room: 5}},
		{"ab", api.OK, look{log: "ab", room: 3}},
		{"", api.OK, look{log: "ab", room: 3}},
		{"cdef", api.ErrFull, look{log: "ab", room: 3}},
		{"\x00", api.OK, look{log: "ab\x00", room: 2}},
		{"\xff\x80", api.OK, look{log: "ab\x00\xff\x80"}},
		{"", api.OK, look{log: "ab\x00\xff\x80"}},
		{"g", api.ErrFull, look{log: "ab\x00\xff\x80"}},
		{strings.Repeat("g", api.MaxLog+1), api.ErrFull, look{log: "ab\x00\xff\x80"}},
	} {
		wantErr(t, "Append", d.Append([]byte(c.b)), c.e)
		wantLook(t, "Append", d, c.want)
	}
	wantErr(t, "Append of nil", d.Append(nil), api.OK)
	wantErr(t, "nil and no room", disk.New(0).Append(nil), api.OK)
}

func TestAppendFullLeavesWhatIsSure(t *testing.T) {
	d := behind(4, add("ab"), write(0, "x"), sync, add("c"), write(0, "y"))
	wantErr(t, "Append", d.Append([]byte("de")), api.ErrFull)
	wantLook(t, "Append", d, look{"abc", 2, 1, [2]string{"y", ""}})
	d.Crash(0)
	wantLook(t, "Crash", d, look{"ab", 2, 2, [2]string{"x", ""}})
}

func TestSync(t *testing.T) {
	d := behind(9, add("ab"), write(0, "x"), write(1, "y"))
	wantLook(t, "ahead", d, look{"ab", 0, 7, [2]string{"x", "y"}})
	d.Sync()
	wantLook(t, "Sync", d, look{"ab", 2, 7, [2]string{"x", "y"}})
	d.Append([]byte("c"))
	wantLook(t, "Append", d, look{"abc", 2, 6, [2]string{"x", "y"}})
	d.Sync()
	d.Sync()
	wantLook(t, "Sync twice", d, look{"abc", 3, 6, [2]string{"x", "y"}})
	d.Crash(-1)
	wantLook(t, "Crash", d, look{"abc", 3, 6, [2]string{"x", "y"}})
	wantLook(t, "Sync of nothing", behind(9, sync), look{room: 9})
}

func TestClear(t *testing.T) {
	for what, d := range map[string]*disk.Disk{
		"nothing":      behind(5, wipe),
		"not sure":     behind(5, add("abc"), wipe),
		"sure":         behind(5, add("abc"), sync, wipe),
		"half sure":    behind(5, add("ab"), sync, add("c"), wipe),
		"full":         behind(5, add("abcde"), sync, wipe),
		"twice":        behind(5, add("abc"), sync, wipe, wipe),
		"and Sync":     behind(5, add("abc"), sync, wipe, sync),
		"and no crash": behind(5, add("ab"), sync, add("cd"), wipe, crash(0)),
		"and a crash":  behind(5, add("ab"), sync, add("cd"), wipe, crash(9)),
		"behind one":   behind(5, add("ab"), sync, add("cd"), crash(1), wipe),
		"all was lost": behind(5, add("abcde"), crash(0), wipe),
	} {
		wantLook(t, what, d, look{room: 5})
		wantErr(t, what, d.Append([]byte("vwxyz")), api.OK)
		wantLook(t, what, d, look{log: "vwxyz"})
		d.Crash(2)
		wantLook(t, what, d, look{log: "vw", sure: 2, room: 3})
	}
}

func TestClearLeavesSlots(t *testing.T) {
	d := behind(5, write(0, "x"), sync, write(0, "y"), write(1, "z"), add("a"), wipe)
	wantLook(t, "Clear", d, look{room: 5, slots: [2]string{"y", "z"}})
	d.Crash(9)
	wantLook(t, "Clear made nothing sure", d, look{room: 5, slots: [2]string{"x", ""}})
}

// P3.2

func TestWrite(t *testing.T) {
	d := disk.New(0)
	wantErr(t, "0", d.Write(0, []byte("ab")), api.OK)
	wantLook(t, "0", d, look{slots: [2]string{"ab", ""}})
	wantErr(t, "1", d.Write(1, []byte("\x00\xff")), api.OK)
	wantLook(t, "1", d, look{slots: [2]string{"ab", "\x00\xff"}})
	wantErr(t, "fewer bytes", d.Write(0, []byte("c")), api.OK)
	wantLook(t, "fewer bytes", d, look{slots: [2]string{"c", "\x00\xff"}})
	wantErr(t, "more bytes", d.Write(0, []byte("defg")), api.OK)
	wantLook(t, "more bytes", d, look{slots: [2]string{"defg", "\x00\xff"}})
	wantErr(t, "none", d.Write(1, nil), api.OK)
	wantLook(t, "none", d, look{slots: [2]string{"defg", ""}})
	d.Sync()
	wantErr(t, "none", d.Write(0, []byte{}), api.OK)
	wantLook(t, "none", d, look{})
	d.Crash(0)
	wantLook(t, "Crash", d, look{slots: [2]string{"defg", ""}})
}

func TestWriteHasNoLimit(t *testing.T) {
	b := bytes.Repeat([]byte("ab"), api.MaxLog)
	d := disk.New(1)
	wantErr(t, "Write", d.Write(1, b), api.OK)
	if !bytes.Equal(d.Slot(1), b) || d.Room() != 1 || d.Append([]byte("c")) != api.OK {
		t.Error("a slot takes no room from the log")
	}
}

func TestNoSuchSlot(t *testing.T) {
	for _, slot := range []int{-1, 2, 3, -2, 256, 1 << 32, 1<<32 + 1, math.MinInt, math.MaxInt} {
		d := behind(3, add("a"), write(0, "x"), write(1, "y"), sync, write(1, "z"))
		wantErr(t, strconv.Itoa(slot), d.Write(slot, []byte("q")), api.ErrArg)
		if b := d.Slot(slot); len(b) != 0 {
			t.Errorf("Slot %d: %q", slot, b)
		}
		wantLook(t, strconv.Itoa(slot), d, look{"a", 1, 2, [2]string{"x", "z"}})
		d.Crash(0)
		wantLook(t, strconv.Itoa(slot), d, look{"a", 1, 2, [2]string{"x", "y"}})
	}
}

func TestLaterWriteCounts(t *testing.T) {
	d := behind(0, write(0, "a"), write(0, "b"), sync)
	wantLook(t, "Sync", d, look{slots: [2]string{"b", ""}})
	d.Crash(0)
	wantLook(t, "Crash", d, look{slots: [2]string{"b", ""}})
	write(0, "c")(d)
	write(0, "d")(d)
	d.Crash(9)
	wantLook(t, "neither was synced", d, look{slots: [2]string{"b", ""}})
	d.Sync()
	d.Crash(0)
	wantLook(t, "nor is it by a later Sync", d, look{slots: [2]string{"b", ""}})
}

func TestCrashKeep(t *testing.T) {
	for _, c := range []struct {
		keep int
		want string
	}{
		{math.MinInt, "ab"}, {-3, "ab"}, {-1, "ab"}, {0, "ab"}, {1, "abc"}, {2, "abcd"}, {3, "abcde"},
		{4, "abcde"}, {5, "abcde"}, {99, "abcde"}, {api.MaxLog + 1, "abcde"}, {math.MaxInt - 1, "abcde"}, {math.MaxInt, "abcde"},
	} {
		d := behind(9, write(0, "x"), add("ab"), sync, write(0, "y"), write(1, "z"), add("c"), add("de"), crash(c.keep))
		want := look{c.want, len(c.want), 9 - len(c.want), [2]string{"x", ""}}
		wantLook(t, "keep "+strconv.Itoa(c.keep), d, want)
		d.Crash(0)
		wantLook(t, "again", d, want)
		d.Crash(math.MaxInt)
		wantLook(t, "and again", d, want)
	}
}

func TestCrashOfNothing(t *testing.T) {
	for _, keep := range []int{math.MinInt, -1, 0, 1, math.MaxInt} {
		wantLook(t, "empty", behind(3, crash(keep)), look{room: 3})
		wantLook(t, "all sure", behind(3, add("ab"), write(1, "x"), sync, crash(keep)), look{"ab", 2, 1, [2]string{"", "x"}})
	}
	wantLook(t, "nothing was sure", behind(3, add("ab"), write(1, "x"), crash(-1)), look{room: 3})
}

func TestAppendBehindCrash(t *testing.T) {
	d := behind(4, add("ab"), sync, add("cd"), crash(1))
	wantErr(t, "too many", d.Append([]byte("xy")), api.ErrFull)
	wantErr(t, "Append", d.Append([]byte("x")), api.OK)
	wantLook(t, "Append", d, look{log: "abcx", sure: 3})
	d.Crash(0)
	wantLook(t, "Crash", d, look{log: "abc", sure: 3, room: 1})
}

func TestExample(t *testing.T) {
	wantLook(t, "1", behind(9, add("ab"), sync, add("cd"), crash(1)), look{log: "abc", sure: 3, room: 6})
}

// P3.3

func TestRoom(t *testing.T) {
	d := disk.New(api.MaxLog)
	for left := api.MaxLog; left > 0; left -= 1 << 16 {
		if d.Room() != left || len(d.Log()) != api.MaxLog-left {
			t.Fatal(d.Room(), left)
		}
		wantErr(t, "Append", d.Append(make([]byte, 1<<16)), api.OK)
	}
	d.Write(0, []byte("x"))
	d.Sync()
	if d.Room() != 0 || d.Sure() != api.MaxLog || d.Append([]byte{0}) != api.ErrFull {
		t.Error(d.Room(), d.Sure())
	}
	d.Clear()
	if d.Room() != api.MaxLog {
		t.Error(d.Room())
	}
}

func TestClone(t *testing.T) {
	d := behind(9, add("ab"), write(0, "x"), sync, add("cd"), write(0, "y"), write(1, "z"))
	ahead := look{"abcd", 2, 5, [2]string{"y", "z"}}
	c := d.Clone()
	wantLook(t, "clone", c, ahead)
	if c == d || !disk.Same(c, d) {
		t.Error("a clone is another disk, and like it")
	}
	c.Crash(1)
	wantLook(t, "clone, crashed", c, look{"abc", 3, 6, [2]string{"x", ""}})
	wantLook(t, "the first one", d, ahead)
	d.Crash(0)
	wantLook(t, "the first one, crashed", d, look{"ab", 2, 7, [2]string{"x", ""}})
	wantLook(t, "clone", c, look{"abc", 3, 6, [2]string{"x", ""}})
}

// Each goes on alone, whichever of the two is used, also where both write into the same place of their logs.
func TestCloneGoesOnAlone(t *testing.T) {
	for what, s := range map[string]step{
		"Append": add("P"), "Write": write(0, "Q"), "Write 1": write(1, "Q"), "Sync": sync, "Clear": wipe, "Crash": crash(1),
	} {
		d := behind(20, add("a"), add("b"), add("c"), write(0, "x"), sync, add("de"), write(1, "z"), add("f"))
		c := d.Clone()
		ahead := lookAt(d)
		s(c)
		wantLook(t, what+" of the clone", d, ahead)
		if lookAt(c) == ahead {
			t.Error(what, "of the clone turned nothing")
		}
		then := lookAt(c)
		add("R")(d)
		write(0, "S")(d)
		write(1, "T")(d)
		wantLook(t, what+" of the first one", c, then)
		sync(d)
		crash(0)(d)
		wipe(d)
		wantLook(t, what+" of the first one", c, then)
	}
}

func TestCloneSharesNoSpareRoom(t *testing.T) {
	d := behind(20, add("abc"), sync, add("def"), crash(1))
	c := d.Clone()
	add("C")(c)
	add("D")(d)
	wantLook(t, "the first one", d, look{log: "abcdD", sure: 4, room: 15})
	wantLook(t, "the clone", c, look{log: "abcdC", sure: 4, room: 15})
}

func TestSame(t *testing.T) {
	// Each of these has something that no other one has.
	all := []*disk.Disk{
		nil,
		disk.New(0),
		disk.New(9),
		disk.New(10),
		behind(9, add("ab")),
		behind(10, add("ab")),
		behind(9, add("ac")),
		behind(9, add("abc")),
		behind(9, add("ab"), sync),
		behind(9, add("a"), sync, add("b")),
		behind(9, add("ac"), sync),
		behind(7),
		behind(9, write(0, "x")),
		behind(9, write(0, "y")),
		behind(9, write(1, "x")),
		behind(9, write(0, "x"), write(1, "x")),
		behind(9, write(0, "x"), write(1, "y")),
		behind(9, write(0, "y"), write(1, "x")),
		behind(9, write(0, "x"), sync),
		behind(9, write(1, "x"), sync),
		behind(9, write(0, "y"), sync, write(0, "x")),
		behind(9, write(0, "x"), sync, write(0, "")),
		behind(9, write(1, "x"), sync, write(1, "")),
		behind(9, write(0, "x"), sync, write(1, "x")),
		behind(9, write(0, "xx")),
		behind(9, write(0, "\x00")),
		behind(9, add("x")),
		behind(9, add("\x00")),
		behind(9, add("ab"), write(0, "x"), sync),
	}
	for i, a := range all {
		for j, b := range all {
			if disk.Same(a, b) != (i == j) {
				t.Errorf("Same of %d and %d", i, j)
			}
			if disk.Same(a.Clone(), b) != (i == j) {
				t.Errorf("Same of a clone of %d, and %d", i, j)
			}
		}
	}
}

func TestSameByOtherWays(t *testing.T) {
	for what, two := range map[string][2]*disk.Disk{
		"bytes in parts":      {behind(9, add("ab"), add("cd")), behind(9, add("abcd"))},
		"a crash":             {behind(9, add("abcd"), crash(2)), behind(9, add("ab"), sync)},
		"cleared":             {behind(9, add("abcd"), sync, wipe), behind(9)},
		"no bytes":            {behind(9, add(""), write(0, ""), sync), behind(9)},
		"nil bytes":           {behind(9, func(d *disk.Disk) { d.Append(nil); d.Write(0, nil) }), behind(9)},
		"written twice":       {behind(9, write(0, "a"), write(0, "b")), behind(9, write(0, "b"))},
		"written, and synced": {behind(9, write(0, "a"), write(1, "b"), sync), behind(9, write(1, "b"), sync, write(0, "a"), sync)},
		"written as it was":   {behind(9, write(0, "a"), sync, write(0, "a")), behind(9, write(0, "a"), sync)},
		"errors":              {behind(2, add("abc"), write(2, "a"), write(-1, "a")), behind(2)},
		"room that is great":  {disk.New(math.MaxInt), disk.New(api.MaxLog)},
		"room that is small":  {disk.New(math.MinInt), disk.New(0)},
	} {
		if !disk.Same(two[0], two[1]) || !disk.Same(two[1], two[0]) {
			t.Error(what)
		}
	}
}

func TestSameTurnsNothing(t *testing.T) {
	a, b := behind(9, add("ab"), sync, add("c"), write(0, "x")), behind(9, write(1, "y"))
	disk.Same(a, b)
	disk.Same(a, a)
	wantLook(t, "a", a, look{"abc", 2, 6, [2]string{"x", ""}})
	wantLook(t, "b", b, look{"", 0, 9, [2]string{"", "y"}})
}

func TestNil(t *testing.T) {
	var d *disk.Disk
	wantErr(t, "Append", d.Append([]byte("a")), api.ErrState)
	wantErr(t, "Append of nothing", d.Append(nil), api.ErrState)
	wantErr(t, "Append of too much", d.Append(make([]byte, api.MaxLog+1)), api.ErrState)
	for _, slot := range []int{0, 1, 2, -1, math.MinInt, math.MaxInt} {
		wantErr(t, "Write "+strconv.Itoa(slot), d.Write(slot, []byte("a")), api.ErrState)
		if b := d.Slot(slot); len(b) != 0 {
			t.Errorf("Slot %d: %q", slot, b)
		}
	}
	d.Sync()
	d.Clear()
	d.Crash(0)
	d.Crash(math.MaxInt)
	wantLook(t, "nil", d, look{})
	if d.Clone() != nil {
		t.Error("a clone of none")
	}
	if !disk.Same(nil, nil) || disk.Same(nil, disk.New(0)) || disk.Same(disk.New(0), nil) {
		t.Error("Same of nil")
	}
}

// What is handed in, and what is answered

func TestHandedInIsNotKept(t *testing.T) {
	d := disk.New(9)
	b := []byte("abcd")
	d.Append(b[:2])
	d.Write(0, b[:2])
	d.Write(1, b[2:])
	for i := range b {
		b[i] = '#'
	}
	wantLook(t, "changed behind the call", d, look{"ab", 0, 7, [2]string{"ab", "cd"}})
	d.Sync()
	wantLook(t, "and synced", d, look{"ab", 2, 7, [2]string{"ab", "cd"}})
	d.Crash(0)
	wantLook(t, "and crashed", d, look{"ab", 2, 7, [2]string{"ab", "cd"}})
}

func TestHandedInIsNotChanged(t *testing.T) {
	b := []byte("abcdefgh")
	d := disk.New(9)
	d.Append(b[:1])
	d.Write(0, b[1:2])
	d.Append([]byte("XYZ"))
	d.Write(0, []byte("XYZ"))
	d.Sync()
	d.Append([]byte("UV"))
	d.Crash(1)
	d.Clear()
	d.Append([]byte("W"))
	if string(b) != "abcdefgh" {
		t.Errorf("%q", b)
	}
}

func TestAnswersAreNewMemory(t *testing.T) {
	d := behind(9, add("abcd"), write(0, "xy"), sync, write(1, "z"))
	want := lookAt(d)
	for range 2 {
		for _, b := range [][]byte{d.Log(), d.Slot(0), d.Slot(1)} {
			spoiled := b[:cap(b)]
			for i := range spoiled {
				spoiled[i] = '#'
			}
		}
		wantLook(t, "an answer was changed", d, want)
	}
	d.Crash(0)
	wantLook(t, "Crash", d, look{"abcd", 4, 5, [2]string{"xy", ""}})
	log, slot := d.Log(), d.Slot(0)
	d.Clear()
	d.Append([]byte("efgh"))
	d.Write(0, []byte("uv"))
	d.Sync()
	if string(log) != "abcd" || string(slot) != "xy" {
		t.Errorf("an answer was changed by later calls: %q %q", log, slot)
	}
}

// P3.4, and all of the above at once: every short history, held against a plain model of the chapter.

// model is the chapter, said once more with what is sure and what isn't kept apart.
type model struct {
	room              int
	sure, loose       string
	sureSlots, writes [2]string
	wrote             [2]bool
}

func (m *model) look() look {
	l := look{m.sure + m.loose, len(m.sure), m.room - len(m.sure) - len(m.loose), m.sureSlots}
	for i := range l.slots {
		if m.wrote[i] {
			l.slots[i] = m.writes[i]
		}
	}
	return l
}

// A move is a step of a disk and of its model.
type move struct {
	name string
	disk func(d *disk.Disk) api.Errno
	plan func(m *model) api.Errno
}

func moves() []move {
	out := []move{
		{"Sync", func(d *disk.Disk) api.Errno { d.Sync(); return api.OK }, func(m *model) api.Errno {
			*m = model{room: m.room, sure: m.sure + m.loose, sureSlots: m.look().slots}
			return api.OK
		}},
		{"Clear", func(d *disk.Disk) api.Errno { d.Clear(); return api.OK }, func(m *model) api.Errno {
			m.sure, m.loose = "", ""
			return api.OK
		}},
	}
	for _, s := range []string{"", "a", "bcd"} {
		out = append(out, move{"Append " + s, func(d *disk.Disk) api.Errno { return d.Append([]byte(s)) }, func(m *model) api.Errno {
			if len(s) > m.look().room {
				return api.ErrFull
			}
			m.loose += s
			return api.OK
		}})
	}
	for slot := -1; slot <= 2; slot++ {
		s := strings.Repeat("x", slot+1)
		out = append(out, move{"Write " + strconv.Itoa(slot), func(d *disk.Disk) api.Errno { return d.Write(slot, []byte(s)) }, func(m *model) api.Errno {
			if slot < 0 || slot > 1 {
				return api.ErrArg
			}
			m.writes[slot], m.wrote[slot] = s, true
			return api.OK
		}})
	}
	out = append(out, move{"Write 0 anew", func(d *disk.Disk) api.Errno { return d.Write(0, nil) }, func(m *model) api.Errno {
		m.writes[0], m.wrote[0] = "", true
		return api.OK
	}})
	for _, keep := range []int{-1, 0, 1, 2, math.MaxInt} {
		out = append(out, move{"Crash " + strconv.Itoa(keep), func(d *disk.Disk) api.Errno { d.Crash(keep); return api.OK }, func(m *model) api.Errno {
			stays := ""
			for i := range len(m.loose) {
				if i < keep {
					stays += m.loose[i : i+1]
				}
			}
			*m = model{room: m.room, sure: m.sure + stays, sureSlots: m.sureSlots}
			return api.OK
		}})
	}
	return out
}

// walk goes on from d and m by each move, so many moves deep. Each goes on with a clone: a clone that shares something with its like is found here, too.
func walk(t *testing.T, d *disk.Disk, m model, name string, deep int) {
	if t.Failed() || deep == 0 {
		return
	}
	for _, v := range moves() {
		c, n := d.Clone(), m
		name := name + ", " + v.name
		wantErr(t, name, v.disk(c), v.plan(&n))
		wantLook(t, name, c, n.look())
		wantLook(t, name+": the disk it was cloned from", d, m.look())
		if strings.HasPrefix(v.name, "Crash") {
			outlives(t, name, lookAt(d), lookAt(c))
		}
		walk(t, c, n, name, deep-1)
	}
}

// outlives says P3.4 of what was ahead of a crash and behind it.
func outlives(t *testing.T, name string, ahead, behind look) {
	t.Helper()
	if !strings.HasPrefix(ahead.log, behind.log) {
		t.Errorf("%s: %q is no beginning of %q", name, behind.log, ahead.log)
	}
	if !strings.HasPrefix(behind.log, ahead.log[:ahead.sure]) {
		t.Errorf("%s: %q of %q was sure", name, ahead.log[:ahead.sure], ahead.log)
	}
	if behind.sure != len(behind.log) {
		t.Errorf("%s: behind a crash %d bytes of %q are sure", name, behind.sure, behind.log)
	}
}

func TestEveryShortHistory(t *testing.T) {
	for _, room := range []int{0, 4, 9} {
		walk(t, disk.New(room), model{room: room}, "New "+strconv.Itoa(room), 4)
	}
}

// What a disk answers depends on the calls ahead on it alone: two disks used in turn don't touch one another.
func TestDisksAreApart(t *testing.T) {
	a, b := disk.New(9), disk.New(9)
	for range 3 {
		add("a")(a)
		add("b")(b)
		write(0, "x")(a)
		write(1, "y")(b)
	}
	a.Sync()
	b.Crash(1)
	wantLook(t, "a", a, look{"aaa", 3, 6, [2]string{"x", ""}})
	wantLook(t, "b", b, look{"b", 1, 8, [2]string{"", ""}})
}
