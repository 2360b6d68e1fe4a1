package wal_test

import (
	"bytes"
	"encoding/binary"
	"hash/adler32"
	"math"
	"slices"
	"strconv"
	"strings"
	"testing"

	"billhook/api"
	"billhook/disk"
	"billhook/wal"
)

const lastGen = math.MaxUint32

// frame is P4.1's frame, made by the library's means alone.
func frame(gen uint32, s string) []byte {
	b := binary.BigEndian.AppendUint32(nil, gen)
	b = binary.AppendUvarint(b, uint64(len(s)))
	b = append(b, s...)
	return binary.BigEndian.AppendUint32(b, adler32.Checksum(b))
}

// framed answers the frames of all texts, one behind the other.
func framed(gen uint32, texts ...string) []byte {
	var b []byte
	for _, s := range texts {
		b = append(b, frame(gen, s)...)
	}
	return b
}

// summed answers b with the sum of it behind it.
func summed(b ...byte) []byte {
	return binary.BigEndian.AppendUint32(slices.Clone(b), adler32.Checksum(b))
}

// texts answers rows as texts, so that nil and empty are one.
func texts(rows [][]byte) []string {
	out := []string{}
	for _, r := range rows {
		out = append(out, string(r))
	}
	return out
}

func wantTexts(t *testing.T, what string, rows [][]byte, want ...string) {
	t.Helper()
	if got := texts(rows); !slices.Equal(got, want) {
		t.Errorf("%s: %.200q, want %.200q", what, got, want)
	}
}

func wantErr(t *testing.T, what string, got, want api.Errno) {
	t.Helper()
	if got != want {
		t.Errorf("%s: error %d, want %d", what, got, want)
	}
}

// look is all that a log tells of itself, and what its disk has.
type look struct {
	gen        uint32
	kept, free int
	log        string
	sure       int
}

func wantLook(t *testing.T, what string, l *wal.Log, d *disk.Disk, want look) {
	t.Helper()
	if got := (look{l.Gen(), l.Kept(), l.Free(), string(d.Log()), d.Sure()}); got != want {
		t.Errorf("%s: %+v, want %+v", what, got, want)
	}
}

// wantSame says that a call turned neither the log nor its disk.
func wantSame(t *testing.T, what string, l *wal.Log, d *disk.Disk, call func()) {
	t.Helper()
	ahead, gen, kept := d.Clone(), l.Gen(), l.Kept()
	call()
	if !disk.Same(d, ahead) || l.Gen() != gen || l.Kept() != kept {
		t.Errorf("%s turned something", what)
	}
}

// open opens a log on d, which must be one.
func open(t *testing.T, d *disk.Disk) *wal.Log {
	t.Helper()
	l, _, _, e := wal.Open(d)
	if l == nil || e != api.OK {
		t.Fatal("Open: error", e)
	}
	return l
}

// fresh answers a new disk with room for so many bytes, and the log on it.
func fresh(t *testing.T, room int) (*disk.Disk, *wal.Log) {
	t.Helper()
	d := disk.New(room)
	return d, open(t, d)
}

// P4.1

// lengths are the edges of how many bytes a Uint has, and of a log.
func lengths() []int {
	return []int{0, 1, 2, 126, 127, 128, 129, 1<<14 - 1, 1 << 14, 1<<14 + 1, api.MaxLog - 1, api.MaxLog}
}

func generations() []uint32 {
	return []uint32{0, 1, 2, 255, 256, 1 << 16, 1<<31 - 1, 1 << 31, lastGen - 1, lastGen}
}

func TestExample(t *testing.T) {
	want := []byte{0, 0, 0, 1, 2, 'a', 'b', 0x01, 0x35, 0x00, 0xc7}
	if got := wal.Frame(1, []byte("ab")); !bytes.Equal(got, want) {
		t.Errorf("%x, want %x", got, want)
	}
	if wal.Cost(2) != 11 {
		t.Error(wal.Cost(2))
	}
}

func TestFrame(t *testing.T) {
	for _, gen := range generations() {
		for _, s := range []string{"", "a", "ab", "\x00", "\xff\xff\xff\xff", "\x00\x00\x00\x01\x02ab", strings.Repeat("x", 127), strings.Repeat("\xff", 128)} {
			want := frame(gen, s)
			if got := wal.Frame(gen, []byte(s)); !bytes.Equal(got, want) {
				t.Errorf("Frame %d %q: %x, want %x", gen, s, got, want)
			}
			if got := wal.Image(gen, []byte(s)); !bytes.Equal(got, want) {
				t.Errorf("Image %d %q: %x, want %x", gen, s, got, want)
			}
		}
	}
	for _, n := range append(lengths(), api.MaxLog+1, 3*api.MaxLog) {
		s := strings.Repeat("ab\x00", n/3+1)[:n]
		if !bytes.Equal(wal.Frame(7, []byte(s)), frame(7, s)) || !bytes.Equal(wal.Image(7, []byte(s)), frame(7, s)) {
			t.Error("of bytes:", n)
		}
	}
	if !bytes.Equal(wal.Frame(3, nil), frame(3, "")) || !bytes.Equal(wal.Image(3, nil), frame(3, "")) {
		t.Error("of nil")
	}
}

func TestCost(t *testing.T) {
	for n := range 400 {
		if got := wal.Cost(n); got != len(frame(1, strings.Repeat("x", n))) {
			t.Errorf("Cost %d: %d", n, got)
		}
	}
	for _, n := range lengths() {
		if got := wal.Cost(n); got != len(wal.Frame(lastGen, make([]byte, n))) {
			t.Errorf("Cost %d: %d", n, got)
		}
	}
	for _, n := range []int{-1, -2, -api.MaxLog, math.MinInt32, math.MinInt + 1, math.MinInt} {
		if got := wal.Cost(n); got != 9 {
			t.Errorf("Cost %d: %d, want that of 0", n, got)
		}
	}
	for _, n := range []int{api.MaxLog + 1, 2 * api.MaxLog, 1 << 21, 1 << 32, math.MaxInt - 11, math.MaxInt} {
		if got := wal.Cost(n); got != api.MaxLog+11 {
			t.Errorf("Cost %d: %d, want that of MaxLog", n, got)
		}
	}
}

func wantScan(t *testing.T, what string, log []byte, gen uint32, end int, want ...string) {
	t.Helper()
	rows, n := wal.Scan(log, gen)
	wantTexts(t, what, rows, want...)
	if n != end {
		t.Errorf("%s: %d bytes, want %d", what, n, end)
	}
}

func TestScan(t *testing.T) {
	for _, gen := range generations() {
		for _, want := range [][]string{
			{}, {""}, {"a"}, {"", ""}, {"a", "", "b"}, {"b", "a", "a"}, {"\x00", "\xff\x80"},
			{strings.Repeat("x", 127), strings.Repeat("y", 128), "z"}, {string(frame(gen, "in it"))},
		} {
			log := framed(gen, want...)
			wantScan(t, "Scan", log, gen, len(log), want...)
			wantScan(t, "of the next generation", log, gen+1, 0)
			wantScan(t, "of the one ahead", log, gen-1, 0)
			wantScan(t, "behind it the next", append(log, frame(gen+1, "n")...), gen, len(log), want...)
			wantScan(t, "behind it the one ahead, and this", slices.Concat(log, frame(gen-1, "n"), frame(gen, "m")), gen, len(log), want...)
			wantScan(t, "ahead of it another one", append(frame(gen^1<<31, "n"), log...), gen, 0)
			wantScan(t, "behind it a 0", append(log, 0), gen, len(log), want...)
			wantScan(t, "ahead of it a byte", slices.Concat([]byte{0xff}, log), gen, 0)
		}
	}
	wantScan(t, "nil", nil, 0, 0)
	wantScan(t, "nothing", []byte{}, 5, 0)
	wantScan(t, "the generation's lowest byte first", summed(1, 0, 0, 0, 1, 'a'), 1, 0)
	many := slices.Repeat([]string{"", "a", "bc"}, 2000)
	wantScan(t, "many", framed(9, many...), 9, 2000*30, many...)
}

func TestScanOfLongTexts(t *testing.T) {
	for _, n := range append(lengths(), api.MaxLog+1, 2*api.MaxLog) {
		s := strings.Repeat("q", n)
		log := framed(2, s, "a")
		wantScan(t, strconv.Itoa(n), log, 2, len(log), s, "a")
		wantScan(t, "torn", log[:len(log)-11], 2, 0)
	}
}

// A log that ends anywhere has those frames that are whole.
func TestScanOfBeginnings(t *testing.T) {
	all := []string{"", "abc", strings.Repeat("x", 130), "d"}
	log := framed(6, all...)
	for n := range len(log) + 1 {
		whole := 0
		for whole < len(all) && len(framed(6, all[:whole+1]...)) <= n {
			whole++
		}
		wantScan(t, "the first "+strconv.Itoa(n), log[:n:n], 6, len(framed(6, all[:whole]...)), all[:whole]...)
	}
}

// Each byte of a frame counts: with another one in its place, the frame and all behind it are none.
func TestScanOfSpoiltBytes(t *testing.T) {
	log := framed(6, "ab", "cde", "f")
	first := len(frame(6, "ab"))
	for at := first; at < first+len(frame(6, "cde")); at++ {
		for c := range 256 {
			spoilt := slices.Clone(log)
			spoilt[at] = byte(c)
			if c != int(log[at]) {
				wantScan(t, "byte "+strconv.Itoa(at), spoilt, 6, first, "ab")
			}
		}
	}
}

// noFrames are bytes that are no frame of generation 1, with a right sum where there is one.
func noFrames() map[string][]byte {
	return map[string][]byte{
		"a byte":                           {0},
		"half a generation":                {0, 0, 0},
		"a generation alone":               {0, 0, 0, 1},
		"a length alone":                   {0, 0, 0, 1, 2},
		"a length without its end":         {0, 0, 0, 1, 0x80},
		"a text that is cut":               {0, 0, 0, 1, 2, 'a'},
		"no sum":                           {0, 0, 0, 1, 1, 'a'},
		"half a sum":                       frame(1, "a")[:8],
		"a sum of nothing":                 append([]byte{0, 0, 0, 1, 1, 'a'}, 0, 0, 0, 1),
		"a sum the other way round":        slices.Concat(frame(1, "ab")[:7], []byte{0xc7, 0x00, 0x35, 0x01}),
		"the sum of the text alone":        binary.BigEndian.AppendUint32([]byte{0, 0, 0, 1, 1, 'a'}, adler32.Checksum([]byte("a"))),
		"a length that has a longer Uint":  summed(0, 0, 0, 1, 0x81, 0x00, 'a'),
		"a length of ten bytes, too great": summed(0, 0, 0, 1, 0xff, 0xff, 0xff, 0xff, 0xff, 0xff, 0xff, 0xff, 0xff, 0x02, 'a'),
		"the greatest length":              summed(0, 0, 0, 1, 0xff, 0xff, 0xff, 0xff, 0xff, 0xff, 0xff, 0xff, 0xff, 0x01, 'a'),
		"a length up to the sum's end":     summed(0, 0, 0, 1, 5, 'a'),
		"a length of one too many":         summed(0, 0, 0, 1, 2, 'a'),
		"a length of one too few":          summed(0, 0, 0, 1, 1, 'a', 'b'),
		"zeros":                            make([]byte, 40),
		"all bits":                         bytes.Repeat([]byte{0xff}, 40),
		"letters":                          []byte("billhook billhook billhook"),
	}
}

func TestScanOfNoFrames(t *testing.T) {
	for what, b := range noFrames() {
		wantScan(t, what, b, 1, 0)
		wantScan(t, what+", and a frame", slices.Concat(b, frame(1, "x")), 1, 0)
		ahead := framed(1, "x", "y")
		wantScan(t, what+" behind two frames", slices.Concat(ahead, b), 1, len(ahead), "x", "y")
	}
}

func wantImage(t *testing.T, what string, b []byte, gen uint32, image string, ok bool) {
	t.Helper()
	g, i, o := wal.ReadImage(b)
	if g != gen || string(i) != image || o != ok {
		t.Errorf("%s: %d %.99q %v, want %d %.99q %v", what, g, i, o, gen, image, ok)
	}
}

func TestReadImage(t *testing.T) {
	for _, gen := range generations() {
		for _, s := range []string{"", "a", "\x00\xff", strings.Repeat("x", 127), strings.Repeat("x", 128), string(frame(gen, ""))} {
			b := frame(gen, s)
			wantImage(t, "ReadImage", b, gen, s, true)
			wantImage(t, "a byte more", append(b, 0), 0, "", false)
			wantImage(t, "twice", append(b, b...), 0, "", false)
			wantImage(t, "a byte ahead", append([]byte{0}, b...), 0, "", false)
			for n := range len(b) {
				wantImage(t, "a beginning", b[:n:n], 0, "", false)
				wantImage(t, "an end", b[n+1:], 0, "", false)
			}
		}
	}
	for _, n := range append(lengths(), api.MaxLog+1, 2*api.MaxLog) {
		s := strings.Repeat("i", n)
		wantImage(t, "of bytes: "+strconv.Itoa(n), frame(4, s), 4, s, true)
	}
	for what, b := range noFrames() {
		wantImage(t, what, b, 0, "", false)
	}
	wantImage(t, "nil", nil, 0, "", false)
}

func TestReadImageOfSpoiltBytes(t *testing.T) {
	b := frame(1<<24|2, "abc")
	for at := range b {
		for c := range 256 {
			spoilt := slices.Clone(b)
			spoilt[at] = byte(c)
			if c != int(b[at]) {
				wantImage(t, "byte "+strconv.Itoa(at), spoilt, 0, "", false)
			}
		}
	}
}

// P4.2

// laid answers a disk with these slots and this log, of whose bytes the first ones are sure; the slots are just if they are to be.
func laid(slot0, slot1, log []byte, sure int, slotsSure bool) *disk.Disk {
	d := disk.New(api.MaxLog)
	if slotsSure {
		d.Write(0, slot0)
		d.Write(1, slot1)
	}
	d.Append(log[:sure])
	d.Sync()
	d.Append(log[sure:])
	if !slotsSure {
		d.Write(0, slot0)
		d.Write(1, slot1)
	}
	return d
}

func TestOpenWithoutDisk(t *testing.T) {
	l, image, rows, e := wal.Open(nil)
	if l != nil || len(image) != 0 || len(rows) != 0 || e != api.ErrArg {
		t.Error(l, image, rows, e)
	}
}

func TestOpenOfNothing(t *testing.T) {
	for _, room := range []int{0, 1, 9, api.MaxLog} {
		d := disk.New(room)
		l, image, rows, e := wal.Open(d)
		if len(image) != 0 || len(rows) != 0 || e != api.OK {
			t.Error(image, rows, e)
		}
		wantLook(t, "Open", l, d, look{free: room})
	}
}

func TestOpenTakesTheGreaterGeneration(t *testing.T) {
	bad := frame(9, "bad")
	bad[5]++
	for _, c := range []struct {
		what         string
		slot0, slot1 []byte
		gen          uint32
		image        string
	}{
		{"none", nil, nil, 0, ""},
		{"slot 0 alone", frame(3, "zero"), nil, 3, "zero"},
		{"slot 1 alone", nil, frame(3, "one"), 3, "one"},
		{"slot 0", frame(4, "zero"), frame(3, "one"), 4, "zero"},
		{"slot 1", frame(4, "zero"), frame(5, "one"), 5, "one"},
		{"generations far apart", frame(0, "zero"), frame(lastGen, "one"), lastGen, "one"},
		{"far apart the other way", frame(lastGen, "zero"), frame(1, "one"), lastGen, "zero"},
		{"across the sign", frame(1<<31, "zero"), frame(1<<31-1, "one"), 1 << 31, "zero"},
		{"alike", frame(7, "zero"), frame(7, "one"), 7, "zero"},
		{"alike, 0", frame(0, "zero"), frame(0, "one"), 0, "zero"},
		{"alike, the last", frame(lastGen, "zero"), frame(lastGen, "one"), lastGen, "zero"},
		{"generation 0 in slot 0", frame(0, "zero"), nil, 0, "zero"},
		{"generation 0 in slot 1", nil, frame(0, "one"), 0, "one"},
		{"an empty image", frame(2, ""), frame(1, "one"), 2, ""},
		{"slot 0 is none", bad, frame(1, "one"), 1, "one"},
		{"slot 1 is none", frame(1, "zero"), bad, 1, "zero"},
		{"both are none", bad, bad, 0, ""},
		{"a byte more", append(frame(8, "zero"), 0), frame(1, "one"), 1, "one"},
		{"a byte less", frame(1, "zero"), frame(8, "one")[:11], 1, "zero"},
	} {
		for _, slotsSure := range []bool{true, false} {
			log := framed(c.gen, "a", "b")
			d := laid(c.slot0, c.slot1, log, 4, slotsSure)
			l, image, rows, e := wal.Open(d)
			wantErr(t, c.what, e, api.OK)
			wantTexts(t, c.what, rows, "a", "b")
			wantLook(t, c.what, l, d, look{c.gen, 0, api.MaxLog - len(log), string(log), len(log)})
			if string(image) != c.image {
				t.Errorf("%s: %q, want %q", c.what, image, c.image)
			}
			d.Crash(0)
			if !bytes.Equal(d.Slot(0), c.slot0) || !bytes.Equal(d.Slot(1), c.slot1) {
				t.Errorf("%s: Open makes slots sure, and else leaves them: %q %q", c.what, d.Slot(0), d.Slot(1))
			}
		}
	}
}

// Rows of another generation than the image's are gone, as are bytes that are no frame.
func TestOpenScansTheLog(t *testing.T) {
	for _, c := range []struct {
		what  string
		log   []byte
		whole int
		rows  []string
	}{
		{"nothing", nil, 0, nil},
		{"all whole", framed(5, "a", "", "bc"), 30, []string{"a", "", "bc"}},
		{"of a lower generation", framed(4, "a", "b"), 0, nil},
		{"of a greater one", framed(6, "a"), 0, nil},
		{"of none", framed(0, "a"), 0, nil},
		{"a lower one behind", append(framed(5, "a"), framed(4, "b")...), 10, []string{"a"}},
		{"a lower one ahead", append(framed(4, "a"), framed(5, "b")...), 0, nil},
		{"torn", framed(5, "a", "b")[:19], 10, []string{"a"}},
		{"torn early", framed(5, "a", "b")[:11], 10, []string{"a"}},
		{"torn in the first", framed(5, "a", "b")[:9], 0, nil},
		{"and zeros", append(framed(5, "a", "b"), 0, 0, 0), 20, []string{"a", "b"}},
		{"and a frame behind them", slices.Concat(framed(5, "a"), []byte{0}, framed(5, "b")), 10, []string{"a"}},
		{"no frame", []byte("no frame at all"), 0, nil},
	} {
		for sure := range len(c.log) + 1 {
			d := laid(frame(4, "old"), frame(5, "new"), c.log, sure, true)
			l, image, rows, e := wal.Open(d)
			wantErr(t, c.what, e, api.OK)
			wantTexts(t, c.what, rows, c.rows...)
			wantLook(t, c.what, l, d, look{5, 0, api.MaxLog - c.whole, string(c.log[:c.whole]), c.whole})
			if string(image) != "new" {
				t.Errorf("%s: %q", c.what, image)
			}
		}
	}
}

// Behind an Open the log goes on where its whole frames end, and Opened anew it is the same.
func TestOpenAnew(t *testing.T) {
	d := laid(nil, frame(5, "i"), append(framed(5, "a"), 1, 2, 3), 2, true)
	l := open(t, d)
	wantErr(t, "Add", l.Add([]byte("b")), api.OK)
	l.Sync()
	ahead := d.Clone()
	for range 2 {
		again, image, rows, e := wal.Open(d)
		wantErr(t, "Open", e, api.OK)
		wantTexts(t, "Open", rows, "a", "b")
		if string(image) != "i" || again.Gen() != 5 || !disk.Same(d, ahead) {
			t.Errorf("%q %d", image, again.Gen())
		}
	}
}

func TestOpenOfAFullLog(t *testing.T) {
	d := disk.New(30)
	d.Append(framed(0, "a", "b", "c"))
	l, _, rows, _ := wal.Open(d)
	wantTexts(t, "full", rows, "a", "b", "c")
	wantLook(t, "full", l, d, look{0, 0, 0, string(framed(0, "a", "b", "c")), 30})
	d = disk.New(30)
	d.Append(append(framed(0, "a", "b"), bytes.Repeat([]byte{9}, 10)...))
	l, _, rows, _ = wal.Open(d)
	wantTexts(t, "full of others", rows, "a", "b")
	wantLook(t, "full of others", l, d, look{0, 0, 10, string(framed(0, "a", "b")), 20})
}

func TestOpenKeepsNothing(t *testing.T) {
	d, l := fresh(t, 50)
	wantErr(t, "Keep", l.Keep(20), api.OK)
	again := open(t, d)
	if again.Kept() != 0 || again.Free() != 50 || l.Kept() != 20 || l.Free() != 30 {
		t.Error(again.Kept(), again.Free(), l.Kept(), l.Free())
	}
}

// P4.3

func TestKeep(t *testing.T) {
	_, l := fresh(t, 30)
	for _, c := range []struct {
		n    int
		e    api.Errno
		kept int
	}{
		{0, api.OK, 0}, {-1, api.ErrArg, 0}, {math.MinInt, api.ErrArg, 0}, {31, api.ErrBusy, 0}, {math.MaxInt, api.ErrBusy, 0},
		{10, api.OK, 10}, {21, api.ErrBusy, 10}, {-1, api.ErrArg, 10}, {math.MaxInt, api.ErrBusy, 10}, {math.MaxInt - 9, api.ErrBusy, 10},
		{1, api.OK, 11}, {19, api.OK, 30}, {1, api.ErrBusy, 30}, {0, api.OK, 30}, {-5, api.ErrArg, 30}, {math.MaxInt, api.ErrBusy, 30},
	} {
		wantErr(t, "Keep "+strconv.Itoa(c.n), l.Keep(c.n), c.e)
		if l.Kept() != c.kept || l.Free() != 30-c.kept {
			t.Errorf("Keep %d: %d kept, %d free", c.n, l.Kept(), l.Free())
		}
	}
}

func TestLet(t *testing.T) {
	for _, c := range []struct{ n, kept int }{
		{0, 12}, {1, 11}, {5, 7}, {11, 1}, {12, 0}, {13, 0}, {api.MaxLog, 0}, {math.MaxInt, 0},
		{-1, 12}, {-12, 12}, {math.MinInt, 12},
	} {
		d, l := fresh(t, 30)
		l.Keep(12)
		l.Let(c.n)
		wantLook(t, "Let "+strconv.Itoa(c.n), l, d, look{kept: c.kept, free: 30 - c.kept})
		l.Let(0)
		l.Let(-7)
		wantLook(t, "and no more", l, d, look{kept: c.kept, free: 30 - c.kept})
	}
}

func TestKeepAndLetLeaveTheDisk(t *testing.T) {
	d, l := fresh(t, 30)
	l.Add([]byte("a"))
	ahead := d.Clone()
	l.Keep(5)
	l.Keep(50)
	l.Keep(-5)
	l.Let(3)
	l.Let(30)
	if !disk.Same(d, ahead) {
		t.Error("Keep and Let are of the log alone")
	}
}

func TestAdd(t *testing.T) {
	d, l := fresh(t, 40)
	wantErr(t, "Keep", l.Keep(9), api.OK)
	for _, c := range []struct {
		s    string
		e    api.Errno
		log  []byte
		free int
	}{
		{"abcdefghijklmnopqrstuvw", api.ErrFull, nil, 31},
		{"ab", api.OK, framed(0, "ab"), 20},
		{"abcdefghijkl", api.ErrFull, framed(0, "ab"), 20},
		{"", api.OK, framed(0, "ab", ""), 11},
		{"abc", api.ErrFull, framed(0, "ab", ""), 11},
		{strings.Repeat("x", 2*api.MaxLog), api.ErrFull, framed(0, "ab", ""), 11},
		{"cd", api.OK, framed(0, "ab", "", "cd"), 0},
		{"", api.ErrFull, framed(0, "ab", "", "cd"), 0},
	} {
		wantErr(t, "Add "+c.s[:min(len(c.s), 30)], l.Add([]byte(c.s)), c.e)
		wantLook(t, "Add", l, d, look{0, 9, c.free, string(c.log), 0})
	}
	wantErr(t, "of what is kept", l.AddKept(nil), api.OK)
	wantLook(t, "of what is kept", l, d, look{0, 0, 0, string(framed(0, "ab", "", "cd", "")), 0})
}

func TestAddFillsTheLog(t *testing.T) {
	for _, n := range []int{0, 5, 127, 128, 1 << 14, api.MaxLog - 11} {
		s := strings.Repeat("f", n)
		d, l := fresh(t, wal.Cost(n))
		wantErr(t, "Add", l.Add([]byte(s)), api.OK)
		wantLook(t, "Add", l, d, look{log: string(frame(0, s))})
		_, l = fresh(t, wal.Cost(n)-1)
		wantErr(t, "a byte too few", l.Add([]byte(s)), api.ErrFull)
		d, l = fresh(t, wal.Cost(n))
		l.Keep(1)
		wantSame(t, "a byte is kept", l, d, func() { wantErr(t, "a byte is kept", l.Add([]byte(s)), api.ErrFull) })
	}
}

func TestAddKept(t *testing.T) {
	d, l := fresh(t, 60)
	wantErr(t, "nothing kept", l.AddKept(nil), api.ErrState)
	wantErr(t, "Keep", l.Keep(30), api.OK)
	for _, c := range []struct {
		s    string
		e    api.Errno
		log  []byte
		kept int
	}{
		{"abcdefghijklmnopqrstuv", api.ErrState, nil, 30},
		{"ab", api.OK, framed(0, "ab"), 19},
		{"abcdefghijk", api.ErrState, framed(0, "ab"), 19},
		{strings.Repeat("x", 2*api.MaxLog), api.ErrState, framed(0, "ab"), 19},
		{"c", api.OK, framed(0, "ab", "c"), 9},
		{"d", api.ErrState, framed(0, "ab", "c"), 9},
		{"", api.OK, framed(0, "ab", "c", ""), 0},
		{"", api.ErrState, framed(0, "ab", "c", ""), 0},
	} {
		wantErr(t, "AddKept "+c.s[:min(len(c.s), 30)], l.AddKept([]byte(c.s)), c.e)
		wantLook(t, "AddKept", l, d, look{0, c.kept, 30, string(c.log), 0})
	}
}

// What is kept isn't there for Add, and what is free isn't there for AddKept.
func TestKeptAndFreeAreApart(t *testing.T) {
	d, l := fresh(t, 18)
	l.Keep(10)
	wantSame(t, "Add", l, d, func() { wantErr(t, "Add", l.Add(nil), api.ErrFull) })
	l.Let(2)
	wantSame(t, "AddKept", l, d, func() { wantErr(t, "AddKept", l.AddKept(nil), api.ErrState) })
	wantErr(t, "Add", l.Add([]byte("a")), api.OK)
	wantLook(t, "Add", l, d, look{0, 8, 0, string(framed(0, "a")), 0})
}

// Somebody else may fill the disk: then the log has less than it keeps.
func TestOthersFillTheDisk(t *testing.T) {
	d, l := fresh(t, 40)
	wantErr(t, "Keep", l.Keep(20), api.OK)
	d.Append(make([]byte, 15))
	wantLook(t, "15 bytes", l, d, look{0, 20, 5, string(make([]byte, 15)), 0})
	d.Append(make([]byte, 10))
	wantLook(t, "25 bytes", l, d, look{0, 20, 0, string(make([]byte, 25)), 0})
	d.Append(make([]byte, 7))
	wantSame(t, "no room", l, d, func() {
		wantErr(t, "the disk's error", l.AddKept(nil), api.ErrFull)
		wantErr(t, "more than is kept", l.AddKept(make([]byte, 12)), api.ErrState)
		wantErr(t, "Add", l.Add(nil), api.ErrFull)
		wantErr(t, "Keep", l.Keep(1), api.ErrBusy)
		wantErr(t, "Keep", l.Keep(0), api.OK)
		wantErr(t, "Keep", l.Keep(-1), api.ErrArg)
	})
	l.Let(19)
	wantLook(t, "Let", l, d, look{0, 1, 7, string(make([]byte, 32)), 0})
	d.Clear()
	wantLook(t, "Clear", l, d, look{0, 1, 39, "", 0})
}

// P4.4

func TestSync(t *testing.T) {
	d, l := fresh(t, 40)
	l.Keep(11)
	l.Add([]byte("a"))
	d.Write(1, []byte("s"))
	l.Sync()
	wantLook(t, "Sync", l, d, look{0, 11, 19, string(frame(0, "a")), 10})
	l.AddKept([]byte("bc"))
	wantLook(t, "AddKept", l, d, look{0, 0, 19, string(framed(0, "a", "bc")), 10})
	d.Crash(0)
	wantLook(t, "Crash", l, d, look{0, 0, 30, string(frame(0, "a")), 10})
	if string(d.Slot(1)) != "s" {
		t.Errorf("%q", d.Slot(1))
	}
}

func TestCheckpoint(t *testing.T) {
	d, l := fresh(t, 60)
	wantErr(t, "Keep", l.Keep(15), api.OK)
	for n, s := range []string{"first", "", "third", "fourth"} {
		gen := uint32(n + 1)
		wantErr(t, "Add", l.Add([]byte("a")), api.OK)
		l.Sync()
		wantErr(t, "Add", l.Add([]byte("b")), api.OK)
		other := d.Slot(int(gen+1) % 2)
		wantErr(t, "Checkpoint", l.Checkpoint([]byte(s)), api.OK)
		wantLook(t, "Checkpoint", l, d, look{gen: gen, kept: 15, free: 45})
		d.Crash(0)
		if !bytes.Equal(d.Slot(int(gen)%2), frame(gen, s)) || !bytes.Equal(d.Slot(int(gen+1)%2), other) {
			t.Errorf("Checkpoint %d: slots %q %q", gen, d.Slot(0), d.Slot(1))
		}
		wantErr(t, "Add", l.Add([]byte("c")), api.OK)
		wantLook(t, "Add", l, d, look{gen, 15, 35, string(frame(gen, "c")), 0})
		again, image, rows, _ := wal.Open(d.Clone())
		wantTexts(t, "Open", rows, "c")
		if string(image) != s || again.Gen() != gen {
			t.Errorf("Checkpoint %d: image %q", gen, image)
		}
	}
}

// The slot is that of the generation, whichever one the image ahead stood in.
func TestCheckpointSlot(t *testing.T) {
	for _, gen := range generations()[:9] {
		for at := range 2 {
			slots := [2][]byte{frame(0, "o"), frame(0, "o")}
			slots[at] = frame(gen, "p")
			d := laid(slots[0], slots[1], nil, 0, true)
			wantErr(t, "Checkpoint", open(t, d).Checkpoint([]byte("q")), api.OK)
			slots[(gen+1)%2] = frame(gen+1, "q")
			d.Crash(0)
			if !bytes.Equal(d.Slot(0), slots[0]) || !bytes.Equal(d.Slot(1), slots[1]) {
				t.Errorf("Checkpoint behind %d in slot %d: %q %q", gen, at, d.Slot(0), d.Slot(1))
			}
		}
	}
}

func TestCheckpointOfTooMuch(t *testing.T) {
	d, l := fresh(t, 60)
	l.Add([]byte("a"))
	l.Sync()
	l.Add([]byte("b"))
	l.Keep(7)
	big := bytes.Repeat([]byte("x"), 2*api.MaxLog)
	wantSame(t, "too much", l, d, func() {
		wantErr(t, "one byte", l.Checkpoint(big[:api.MaxLog+1]), api.ErrBig)
		wantErr(t, "many", l.Checkpoint(big), api.ErrBig)
	})
	wantErr(t, "just as many", l.Checkpoint(big[:api.MaxLog]), api.OK)
	wantLook(t, "just as many", l, d, look{gen: 1, kept: 7, free: 53})
	_, image, rows, _ := wal.Open(d)
	if !bytes.Equal(image, big[:api.MaxLog]) || len(rows) != 0 {
		t.Error(len(image), len(rows))
	}
}

func TestCheckpointOfTheLastGeneration(t *testing.T) {
	d := laid(frame(lastGen-1, "o"), nil, frame(lastGen-1, "a"), 3, true)
	l := open(t, d)
	wantErr(t, "the last one", l.Checkpoint([]byte("p")), api.OK)
	wantLook(t, "the last one", l, d, look{gen: lastGen, free: api.MaxLog})
	if !bytes.Equal(d.Slot(1), frame(lastGen, "p")) || !bytes.Equal(d.Slot(0), frame(lastGen-1, "o")) {
		t.Errorf("%q %q", d.Slot(0), d.Slot(1))
	}
	wantErr(t, "Add", l.Add([]byte("b")), api.OK)
	l.Keep(5)
	wantSame(t, "behind it", l, d, func() {
		wantErr(t, "behind it", l.Checkpoint([]byte("q")), api.ErrFull)
		wantErr(t, "of nothing", l.Checkpoint(nil), api.ErrFull)
		wantErr(t, "of too much", l.Checkpoint(make([]byte, api.MaxLog+1)), api.ErrBig)
	})
	again, image, rows, _ := wal.Open(d)
	wantTexts(t, "Open", rows, "b")
	if string(image) != "p" || again.Gen() != lastGen || again.Checkpoint(nil) != api.ErrFull {
		t.Errorf("%q %d", image, again.Gen())
	}
}

func TestNil(t *testing.T) {
	var l *wal.Log
	for _, b := range [][]byte{nil, []byte("a"), make([]byte, 2*api.MaxLog)} {
		wantErr(t, "Add", l.Add(b), api.ErrState)
		wantErr(t, "AddKept", l.AddKept(b), api.ErrState)
		wantErr(t, "Checkpoint", l.Checkpoint(b), api.ErrState)
	}
	for _, n := range []int{0, 1, -1, math.MinInt, math.MaxInt} {
		wantErr(t, "Keep", l.Keep(n), api.ErrState)
		l.Let(n)
	}
	l.Sync()
	if l.Kept() != 0 || l.Free() != 0 || l.Gen() != 0 {
		t.Error(l.Kept(), l.Free(), l.Gen())
	}
}

// What is handed in, and what is answered

func spoil(b []byte) {
	b = b[:cap(b)]
	for i := range b {
		b[i] = '#'
	}
}

func TestHandedInIsNotChanged(t *testing.T) {
	const all = "\x00\x00\x00\x01\x02abcdefghijklmnop"
	b := []byte(all)
	_, l := fresh(t, 99)
	l.Keep(11)
	wal.Frame(1, b[5:7])
	wal.Image(1, b[:0])
	wal.Scan(b[:7], 1)
	wal.ReadImage(b[:7])
	l.Add(b[:2])
	l.AddKept(b[5:7])
	l.Checkpoint(b[2:5])
	l.Add(b[:1])
	if string(b) != all {
		t.Errorf("%q", b)
	}
}

func TestHandedInIsNotKept(t *testing.T) {
	d, l := fresh(t, 99)
	l.Keep(11)
	image, a, b := []byte("image"), []byte("a"), []byte("bc")
	l.Checkpoint(image)
	l.Add(a)
	l.AddKept(b)
	spoil(image)
	spoil(a)
	spoil(b)
	_, got, rows, _ := wal.Open(d)
	wantTexts(t, "rows", rows, "a", "bc")
	if string(got) != "image" {
		t.Errorf("%q", got)
	}
}

func TestAnswersAreNewMemory(t *testing.T) {
	b := []byte("ab")
	for _, made := range [][]byte{wal.Frame(1, b), wal.Image(1, b), wal.Frame(1, nil)} {
		spoil(made)
	}
	log := framed(1, "ab", "cd")
	rows, _ := wal.Scan(log, 1)
	spoil(rows[0])
	wantTexts(t, "rows are apart", rows[1:], "cd")
	_, image, _ := wal.ReadImage(log[:11])
	spoil(image)
	if string(b) != "ab" || !bytes.Equal(log, framed(1, "ab", "cd")) {
		t.Errorf("%q %q", b, log)
	}
	rows, _ = wal.Scan(log, 1)
	spoil(log)
	wantTexts(t, "rows outlive the log", rows, "ab", "cd")
	d := laid(nil, frame(5, "new"), framed(5, "a", "b"), 3, true)
	ahead := d.Clone()
	ahead.Sync()
	_, image, rows, _ = wal.Open(d)
	spoil(image)
	spoil(rows[0])
	wantTexts(t, "rows are apart", rows[1:], "b")
	if !disk.Same(d, ahead) {
		t.Error("an answer of Open is the disk's")
	}
}

// Two logs, used in turn, don't touch one another.
func TestLogsAreApart(t *testing.T) {
	d, a := fresh(t, 50)
	c, b := fresh(t, 50)
	a.Keep(5)
	b.Checkpoint([]byte("i"))
	a.Add([]byte("a"))
	b.Add([]byte("b"))
	a.Sync()
	b.Keep(7)
	wantLook(t, "a", a, d, look{0, 5, 35, string(frame(0, "a")), 10})
	wantLook(t, "b", b, c, look{1, 7, 33, string(frame(1, "b")), 0})
}

// P4.5 and P4.6, and all of the above at once: every short history, held against a plain model of the chapter.

// model is the chapter, said once more: rows instead of bytes.
type model struct {
	room, kept int
	gen        uint32
	image      string
	rows       []string
	sure       int // so many of the rows
}

func (m *model) free() int {
	n := m.room
	for _, r := range m.rows {
		n -= len(frame(m.gen, r))
	}
	return n - m.kept
}

func (m *model) add(s string) { m.rows = append(slices.Clone(m.rows), s) }

// A move is something done with a log and with its model.
type move struct {
	name string
	log  func(l *wal.Log) api.Errno
	plan func(m *model) api.Errno
}

func moves() []move {
	out := []move{
		{"Sync", func(l *wal.Log) api.Errno { l.Sync(); return api.OK }, func(m *model) api.Errno {
			m.sure = len(m.rows)
			return api.OK
		}},
		{"Let", func(l *wal.Log) api.Errno { l.Let(4); return api.OK }, func(m *model) api.Errno {
			m.kept = max(m.kept-4, 0)
			return api.OK
		}},
		{"Checkpoint", func(l *wal.Log) api.Errno { return l.Checkpoint([]byte("im")) }, func(m *model) api.Errno {
			*m = model{room: m.room, kept: m.kept, gen: m.gen + 1, image: "im"}
			return api.OK
		}},
	}
	for _, n := range []int{-1, 9, 14} {
		out = append(out, move{"Keep " + strconv.Itoa(n), func(l *wal.Log) api.Errno { return l.Keep(n) }, func(m *model) api.Errno {
			if n < 0 {
				return api.ErrArg
			}
			if n > m.free() {
				return api.ErrBusy
			}
			m.kept += n
			return api.OK
		}})
	}
	for _, s := range []string{"", "abcd"} {
		out = append(out, move{"Add " + s, func(l *wal.Log) api.Errno { return l.Add([]byte(s)) }, func(m *model) api.Errno {
			if len(frame(0, s)) > m.free() {
				return api.ErrFull
			}
			m.add(s)
			return api.OK
		}}, move{"AddKept " + s, func(l *wal.Log) api.Errno { return l.AddKept([]byte(s)) }, func(m *model) api.Errno {
			if len(frame(0, s)) > m.kept {
				return api.ErrState
			}
			m.add(s)
			m.kept -= len(frame(0, s))
			return api.OK
		}})
	}
	return out
}

// crashes says P4.5 of each crash that may come to d now.
func crashes(t *testing.T, name string, d *disk.Disk, m model) {
	t.Helper()
	loose := len(d.Log()) - d.Sure()
	for keep := -1; keep <= loose+1; keep++ {
		c := d.Clone()
		c.Crash(keep)
		stays := slices.Clone(m.rows[:m.sure])
		left := min(max(keep, 0), loose)
		for _, r := range m.rows[m.sure:] {
			if left -= len(frame(m.gen, r)); left < 0 {
				break
			}
			stays = append(stays, r)
		}
		l, image, rows, e := wal.Open(c)
		wantErr(t, name, e, api.OK)
		wantTexts(t, name+", Crash "+strconv.Itoa(keep), rows, stays...)
		log := framed(m.gen, stays...)
		wantLook(t, name, l, c, look{m.gen, 0, m.room - len(log), string(log), len(log)})
		if string(image) != m.image {
			t.Errorf("%s: image %q", name, image)
		}
		again := c.Clone()
		again.Crash(0)
		if !disk.Same(again, c) {
			t.Errorf("%s: a crash behind an Open turns something", name)
		}
	}
}

// walk goes on from what steps lead to by each move, so many moves deep: a log can't be cloned, so each way is gone anew.
func walk(t *testing.T, room int, steps []move, deep int) {
	if t.Failed() {
		return
	}
	d, l := fresh(t, room)
	m := model{room: room}
	name := "New " + strconv.Itoa(room)
	for _, v := range steps {
		name += ", " + v.name
		wantErr(t, name, v.log(l), v.plan(&m))
	}
	sure := len(framed(m.gen, m.rows[:m.sure]...))
	wantLook(t, name, l, d, look{m.gen, m.kept, m.free(), string(framed(m.gen, m.rows...)), sure})
	crashes(t, name, d, m)
	if deep == 0 {
		return
	}
	for _, v := range moves() {
		walk(t, room, append(slices.Clone(steps), v), deep-1)
	}
}

func TestEveryShortHistory(t *testing.T) {
	for _, room := range []int{0, 20, 40} {
		walk(t, room, nil, 4)
	}
}

// A crash may come between what Checkpoint does with the disk: then there is either all that was ahead of it, or all that is behind it.
func TestCrashWithinCheckpoint(t *testing.T) {
	for keep := range 40 {
		d, l := fresh(t, 60)
		wantErr(t, "Checkpoint", l.Checkpoint([]byte("old")), api.OK)
		l.Add([]byte("a"))
		l.Sync()
		l.Add([]byte("b"))
		d.Write(0, frame(2, "new"))
		synced := d.Clone()
		d.Crash(keep)
		_, image, rows, _ := wal.Open(d)
		want := []string{"a", "b"}[:1+min(keep/10, 1)]
		wantTexts(t, "ahead of the Sync", rows, want...)
		if string(image) != "old" {
			t.Errorf("%q", image)
		}
		synced.Sync()
		synced.Crash(keep)
		l, image, rows, _ = wal.Open(synced)
		wantTexts(t, "behind it", rows)
		wantLook(t, "behind it", l, synced, look{gen: 2, free: 60})
		if string(image) != "new" {
			t.Errorf("%q", image)
		}
	}
}

// P4.6: whatever is added, kept, let and laid down in between, what is kept can be added.
func TestKeptCanBeAdded(t *testing.T) {
	want := strings.Repeat("k", 130)
	for _, room := range []int{wal.Cost(130), wal.Cost(130) + 1, 200, 500} {
		d, l := fresh(t, room)
		wantErr(t, "Keep", l.Keep(wal.Cost(130)), api.OK)
		for n := range 300 {
			l.Add(make([]byte, n%7))
			if l.Keep(n%20) == api.OK {
				l.Let(n % 20)
			}
			switch n % 50 {
			case 17:
				l.Sync()
			case 34:
				d.Crash(n / 50)
			case 49:
				l.Checkpoint([]byte("i"))
			}
			if d.Room() < l.Kept() || l.Kept() != wal.Cost(130) {
				t.Fatalf("room for %d bytes, %d kept", d.Room(), l.Kept())
			}
		}
		for l.Add(nil) == api.OK {
		}
		wantErr(t, "AddKept", l.AddKept([]byte(want)), api.OK)
		if l.Kept() != 0 || !bytes.HasSuffix(d.Log(), frame(l.Gen(), want)) {
			t.Error(l.Kept(), "bytes are kept")
		}
	}
}
