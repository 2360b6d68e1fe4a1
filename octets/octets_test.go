package octets_test

import (
	"bytes"
	"hash/adler32"
	"math"
	"strings"
	"testing"

	"billhook/octets"
)

// uints are numbers and their bytes, as P1.1 says them: both sides of each edge at which a Uint gets longer.
var uints = []struct {
	n uint64
	b string
}{
	{0, "\x00"},
	{1, "\x01"},
	{127, "\x7f"},
	{128, "\x80\x01"},
	{255, "\xff\x01"},
	{256, "\x80\x02"},
	{300, "\xac\x02"},
	{1<<14 - 1, "\xff\x7f"},
	{1 << 14, "\x80\x80\x01"},
	{1<<21 - 1, "\xff\xff\x7f"},
	{1 << 21, "\x80\x80\x80\x01"},
	{math.MaxUint32, "\xff\xff\xff\xff\x0f"},
	{1<<63 - 1, strings.Repeat("\xff", 8) + "\x7f"},
	{1 << 63, strings.Repeat("\x80", 9) + "\x01"},
	{1<<63 + 1, "\x81" + strings.Repeat("\x80", 8) + "\x01"},
	{math.MaxUint64, strings.Repeat("\xff", 9) + "\x01"},
}

// wrongUints are bytes at whose front no Uint stands.
var wrongUints = []string{
	"",
	"\x80",
	"\xff",
	"\x80\x00",
	"\xac\x82\x00",
	"\x80\x80\x80\x00",
	strings.Repeat("\x80", 8) + "\x00",
	strings.Repeat("\x80", 9),
	strings.Repeat("\x80", 9) + "\x00",
	strings.Repeat("\xff", 9) + "\x00",
	strings.Repeat("\x80", 9) + "\x02",
	strings.Repeat("\xff", 9) + "\x03",
	strings.Repeat("\xff", 9) + "\x7f",
	strings.Repeat("\x80", 9) + "\x80",
	strings.Repeat("\x80", 9) + "\x81\x00",
	strings.Repeat("\x80", 9) + "\x81\x01",
	strings.Repeat("\xff", 10) + "\x01",
}

// outside are places outside of bytes of any number that a test here has.
var outside = []int{-1, -2, -5, math.MinInt, math.MaxInt, math.MaxInt - 3, math.MaxInt - 4, 1 << 40}

var ints = []struct {
	n int64
	u uint64
}{
	{0, 0},
	{-1, 1},
	{1, 2},
	{-2, 3},
	{2, 4},
	{-3, 5},
	{63, 126},
	{-64, 127},
	{64, 128},
	{-65, 129},
	{math.MaxInt32, 1<<32 - 2},
	{math.MinInt32, 1<<32 - 1},
	{math.MaxInt64, math.MaxUint64 - 1},
	{math.MinInt64, math.MaxUint64},
	{math.MinInt64 + 1, math.MaxUint64 - 2},
}

func checkUint(t *testing.T, b []byte, at int, n uint64, next int, ok bool) {
	t.Helper()
	was := bytes.Clone(b)
	gotN, gotNext, gotOk := octets.GetUint(b, at)
	if gotN != n || gotNext != next || gotOk != ok {
		t.Errorf("GetUint(% x, %d) = %d, %d, %v, not %d, %d, %v", b, at, gotN, gotNext, gotOk, n, next, ok)
	}
	if !bytes.Equal(was, b) {
		t.Errorf("GetUint(% x, %d) changed it", was, at)
	}
}

func checkInt(t *testing.T, b []byte, at int, n int64, next int, ok bool) {
	t.Helper()
	gotN, gotNext, gotOk := octets.GetInt(b, at)
	if gotN != n || gotNext != next || gotOk != ok {
		t.Errorf("GetInt(% x, %d) = %d, %d, %v, not %d, %d, %v", b, at, gotN, gotNext, gotOk, n, next, ok)
	}
}

func checkText(t *testing.T, b []byte, at, most int, s string, next int, ok bool) {
	t.Helper()
	gotS, gotNext, gotOk := octets.GetText(b, at, most)
	if gotS != s || gotNext != next || gotOk != ok {
		t.Errorf("GetText(% x, %d, %d) = %q, %d, %v, not %q, %d, %v", b, at, most, gotS, gotNext, gotOk, s, next, ok)
	}
}

func checkWord(t *testing.T, b []byte, at int, n uint32, next int, ok bool) {
	t.Helper()
	gotN, gotNext, gotOk := octets.GetWord(b, at)
	if gotN != n || gotNext != next || gotOk != ok {
		t.Errorf("GetWord(% x, %d) = %d, %d, %v, not %d, %d, %v", b, at, gotN, gotNext, gotOk, n, next, ok)
	}
}

// P1.1: Uint, and Size of it.
func TestUint(t *testing.T) {
	for _, c := range uints {
		if got := octets.PutUint(nil, c.n); string(got) != c.b {
			t.Errorf("PutUint(nil, %d) = % x, not % x", c.n, got, c.b)
		}
		if got := octets.PutUint([]byte("ab"), c.n); string(got) != "ab"+c.b {
			t.Errorf("PutUint(ab, %d) = % x", c.n, got)
		}
		if got := octets.Size(c.n); got != len(c.b) {
			t.Errorf("Size(%d) = %d, not %d", c.n, got, len(c.b))
		}
		checkUint(t, []byte(c.b), 0, c.n, len(c.b), true)
		checkUint(t, []byte(c.b+"\x00"), 0, c.n, len(c.b), true)
		checkUint(t, []byte("\x80\x00"+c.b+"\xff"), 2, c.n, 2+len(c.b), true)
		for i := range len(c.b) {
			checkUint(t, []byte(c.b[:i]), 0, 0, 0, false)
		}
	}
}

// P1.1: what isn't as PutUint writes it.
func TestUintWrong(t *testing.T) {
	for _, s := range wrongUints {
		checkUint(t, []byte(s), 0, 0, 0, false)
		checkUint(t, []byte("\x05"+s), 1, 0, 0, false)
		checkInt(t, []byte(s), 0, 0, 0, false)
		checkInt(t, []byte("\x05"+s), 1, 0, 0, false)
		checkText(t, []byte(s), 0, math.MaxInt, "", 0, false)
		checkText(t, []byte("\x05"+s), 1, math.MaxInt, "", 0, false)
	}
}

// P1.1, P1.2: a place from 0 to how many bytes there are may be asked for, no other one.
func TestPlaces(t *testing.T) {
	eight := []byte{1, 0, 2, 0, 4, 0, 6, 0}
	for _, b := range [][]byte{nil, {}, {5}, {0, 1, 2, 3, 4}, eight} {
		places := append([]int{len(b), len(b) + 1, len(b) + 2, -len(b) - 1}, outside...)
		for _, at := range places {
			checkUint(t, b, at, 0, 0, false)
			checkInt(t, b, at, 0, 0, false)
			checkText(t, b, at, math.MaxInt, "", 0, false)
			checkWord(t, b, at, 0, 0, false)
		}
	}
	checkUint(t, eight, 6, 6, 7, true)
	checkUint(t, eight, 7, 0, 8, true)
	checkInt(t, eight, 6, 3, 7, true)
	checkInt(t, eight, 7, 0, 8, true)
	checkText(t, eight, 0, 1, "\x00", 2, true)
	checkText(t, eight, 7, 0, "", 8, true)
	// What lies ahead of the slice, and in its spare room, is not of it.
	part := eight[2:5]
	checkUint(t, part, -1, 0, 0, false)
	checkUint(t, part, 3, 0, 0, false)
	checkText(t, part, 2, math.MaxInt, "", 0, false)
	checkWord(t, part, 0, 0, 0, false)
	checkWord(t, part, -2, 0, 0, false)
}

// P1.1: Int.
func TestInt(t *testing.T) {
	for _, c := range ints {
		want := octets.PutUint([]byte("ab"), c.u)
		if got := octets.PutInt([]byte("ab"), c.n); !bytes.Equal(got, want) {
			t.Errorf("PutInt(ab, %d) = % x, not % x", c.n, got, want)
		}
		checkInt(t, want, 2, c.n, len(want), true)
		checkInt(t, append(want, 0xff), 2, c.n, len(want), true)
		for i := 2; i < len(want); i++ {
			checkInt(t, want[:i], 2, 0, 0, false)
		}
	}
}

// P1.2: Text.
func TestText(t *testing.T) {
	long := strings.Repeat("x", 127) + "\x00\xff\x80\"\n"
	for _, c := range []struct{ s, b string }{
		{"", "\x00"},
		{"a", "\x01a"},
		{"ab", "\x02ab"},
		{"\x00", "\x01\x00"},
		{"\xff\xfe\x80", "\x03\xff\xfe\x80"},
		{long[:127], "\x7f" + long[:127]},
		{long[:128], "\x80\x01" + long[:128]},
		{long, "\x84\x01" + long},
	} {
		if got := octets.PutText(nil, c.s); string(got) != c.b {
			t.Errorf("PutText(nil, %q) = % x", c.s, got)
		}
		if got := octets.PutText([]byte("z"), c.s); string(got) != "z"+c.b {
			t.Errorf("PutText(z, %q) = % x", c.s, got)
		}
		n := len(c.s)
		b := []byte("z" + c.b + "z")
		for _, most := range []int{n, n + 1, math.MaxInt} {
			checkText(t, b, 1, most, c.s, 1+len(c.b), true)
		}
		for _, most := range []int{n - 1, -1, math.MinInt} {
			checkText(t, b, 1, most, "", 0, false)
		}
		for i := range len(c.b) {
			checkText(t, []byte(c.b[:i]), 0, math.MaxInt, "", 0, false)
		}
	}
}

// P1.2: a text that would have more bytes than there are, as many as an int can't say among them.
func TestTextWrong(t *testing.T) {
	for _, n := range []uint64{4, 5, 127, 128, 1 << 31, 1<<32 + 1, 1<<63 - 1, 1 << 63, 1<<63 + 3, math.MaxUint64 - 1, math.MaxUint64} {
		b := append(octets.PutUint([]byte("abc"), n), "xyz"...)
		for _, most := range []int{3, 5, math.MaxInt, math.MinInt, -1} {
			checkText(t, b, 3, most, "", 0, false)
		}
	}
	checkText(t, []byte("\x82\x00ab"), 0, 9, "", 0, false)
}

// P1.2: Word.
func TestWord(t *testing.T) {
	for _, c := range []struct {
		n uint32
		b string
	}{
		{0, "\x00\x00\x00\x00"},
		{1, "\x00\x00\x00\x01"},
		{0x80, "\x00\x00\x00\x80"},
		{0x01020304, "\x01\x02\x03\x04"},
		{0xfffefdfc, "\xff\xfe\xfd\xfc"},
		{1 << 31, "\x80\x00\x00\x00"},
		{math.MaxUint32, "\xff\xff\xff\xff"},
	} {
		if got := octets.PutWord(nil, c.n); string(got) != c.b {
			t.Errorf("PutWord(nil, %x) = % x", c.n, got)
		}
		if got := octets.PutWord([]byte("abc"), c.n); string(got) != "abc"+c.b {
			t.Errorf("PutWord(abc, %x) = % x", c.n, got)
		}
		checkWord(t, []byte(c.b), 0, c.n, 4, true)
		checkWord(t, []byte("abcde"+c.b+"f"), 5, c.n, 9, true)
		for i := range len(c.b) {
			checkWord(t, []byte("ab"+c.b[:i]), 2, 0, 0, false)
		}
	}
}

// P1.3: Sum.
func TestSum(t *testing.T) {
	for _, c := range []struct {
		s string
		n uint32
	}{
		{"", 1},
		{"\x00", 0x00010001},
		{"\x00\x00", 0x00020001},
		{"a", 0x00620062},
		{"ab", 0x012600c4},
		{"ba", 0x012700c4},
		{"Wikipedia", 0x11e60398},
		// x stays 1, and y comes round to 0.
		{strings.Repeat("\x00", 65520), 0xfff00001},
		{strings.Repeat("\x00", 65521), 0x00000001},
	} {
		if got := octets.Sum([]byte(c.s)); got != c.n {
			t.Errorf("Sum of %d bytes = %08x, not %08x", len(c.s), got, c.n)
		}
	}
	if octets.Sum(nil) != 1 {
		t.Error("Sum(nil) isn't 1")
	}
}

// P1.3: Sum against another one that reckons it, where x and y come round.
func TestSumOther(t *testing.T) {
	// 256 bytes 255 bring x to 65281: 239 more to the last number below the modulus, 240 more to 0.
	for _, last := range []byte{238, 239, 240, 241, 255} {
		b := append(bytes.Repeat([]byte{255}, 256), last)
		if got, want := octets.Sum(b), adler32.Checksum(b); got != want {
			t.Errorf("Sum of 256 bytes 255 and %d = %08x, not %08x", last, got, want)
		}
	}
	for _, n := range []int{1, 300, 5552, 5553, 1 << 16, 1 << 20} {
		b := bytes.Repeat([]byte{255}, n)
		if got, want := octets.Sum(b), adler32.Checksum(b); got != want {
			t.Errorf("Sum of %d bytes 255 = %08x, not %08x", n, got, want)
		}
		for i := range b {
			b[i] = byte(i*i + i>>3)
		}
		was := bytes.Clone(b)
		if got, want := octets.Sum(b), adler32.Checksum(b); got != want || !bytes.Equal(b, was) {
			t.Errorf("Sum of %d mixed bytes = %08x, not %08x", n, got, want)
		}
	}
}

// samples are numbers of each length in bits: the least, the greatest, and some between.
func samples() []uint64 {
	l := []uint64{0}
	for i := range 64 {
		low := uint64(1) << i
		l = append(l, low, low|1, low|0x5555555555555555&(low-1), low|0x3333333333333333&(low-1), low<<1-1)
	}
	return l
}

// P1.4: what is put is got as it was.
func TestPutIsGot(t *testing.T) {
	for _, n := range samples() {
		for _, head := range []string{"", "\x80", "abc"} {
			b := octets.PutUint([]byte(head), n)
			checkUint(t, b, len(head), n, len(b), true)
			for _, i := range []int64{int64(n), -int64(n), int64(n >> 1), ^int64(n >> 1)} {
				b = octets.PutInt([]byte(head), i)
				checkInt(t, b, len(head), i, len(b), true)
			}
			b = octets.PutWord([]byte(head), uint32(n))
			checkWord(t, b, len(head), uint32(n), len(b), true)
		}
	}
	for n := range 400 {
		s := strings.Repeat("\x80a\x00", n)[:n]
		b := octets.PutText([]byte("abc"), s)
		checkText(t, b, 3, n, s, len(b), true)
	}
	// One behind the other.
	b := octets.PutWord(octets.PutText(octets.PutInt(octets.PutUint(nil, 300), -3), "ab"), 7)
	checkUint(t, b, 0, 300, 2, true)
	checkInt(t, b, 2, -3, 3, true)
	checkText(t, b, 3, 2, "ab", 6, true)
	checkWord(t, b, 6, 7, 10, true)
}

// P1.4: the bytes of what is got are just those that Put writes.
func TestGotIsPut(t *testing.T) {
	for i := range 1 << 16 {
		checkGot(t, []byte{byte(i >> 8), byte(i)})
		checkGot(t, []byte{byte(i>>8) | 0x80, byte(i), byte(i>>4) ^ byte(i)})
	}
	for i := range 1 << 16 {
		b := bytes.Repeat([]byte{byte(i>>8) | 0x80}, 11)
		b[7+i&3] = byte(i)
		checkGot(t, b)
	}
}

// checkGot gets a Uint, an Int and a Text of b, and puts them anew.
func checkGot(t *testing.T, b []byte) {
	t.Helper()
	n, next, ok := octets.GetUint(b, 0)
	if ok && !bytes.Equal(octets.PutUint(nil, n), b[:next]) || !ok && (n != 0 || next != 0) {
		t.Fatalf("GetUint(% x) = %d, %d, %v", b, n, next, ok)
	}
	i, next, ok := octets.GetInt(b, 0)
	if ok && !bytes.Equal(octets.PutInt(nil, i), b[:next]) || !ok && (i != 0 || next != 0) {
		t.Fatalf("GetInt(% x) = %d, %d, %v", b, i, next, ok)
	}
	s, next, ok := octets.GetText(b, 0, 5)
	if ok && !bytes.Equal(octets.PutText(nil, s), b[:next]) || !ok && (s != "" || next != 0) || len(s) > 5 {
		t.Fatalf("GetText(% x) = %q, %d, %v", b, s, next, ok)
	}
}

// P1.5: Size is how much longer a text gets.
func TestSize(t *testing.T) {
	for _, n := range samples() {
		for _, head := range []string{"", "abc"} {
			if got := len(octets.PutUint([]byte(head), n)) - len(head); got != octets.Size(n) {
				t.Errorf("PutUint of %d has %d bytes, Size says %d", n, got, octets.Size(n))
			}
		}
	}
	for _, n := range []int{0, 1, 127, 128, 129, 1<<14 - 1, 1 << 14, 1<<14 + 1} {
		s := strings.Repeat("x", n)
		if got := len(octets.PutText([]byte("ab"), s)); got != 2+octets.Size(uint64(n))+n {
			t.Errorf("PutText of %d bytes has %d, Size says %d", n, got-2, octets.Size(uint64(n))+n)
		}
	}
	for i := range 64 {
		if got := octets.Size(1 << i); got != i/7+1 {
			t.Errorf("Size(1 << %d) = %d", i, got)
		}
		if got := octets.Size(1<<i - 1); got != max(1, (i+6)/7) {
			t.Errorf("Size(1<<%d - 1) = %d", i, got)
		}
	}
}

// Rule 4: what is handed in is neither changed nor kept, its spare room included; an answer is new memory.
func TestMemory(t *testing.T) {
	puts := []func([]byte) []byte{
		func(b []byte) []byte { return octets.PutUint(b, 0) },
		func(b []byte) []byte { return octets.PutUint(b, math.MaxUint64) },
		func(b []byte) []byte { return octets.PutInt(b, 0) },
		func(b []byte) []byte { return octets.PutInt(b, math.MinInt64) },
		func(b []byte) []byte { return octets.PutText(b, "") },
		func(b []byte) []byte { return octets.PutText(b, "abcdef") },
		func(b []byte) []byte { return octets.PutWord(b, math.MaxUint32) },
	}
	for i, put := range puts {
		for _, n := range []int{0, 1, 5} {
			whole := bytes.Repeat([]byte{0xaa}, 64)
			b := whole[:n]
			one := put(b)
			was := bytes.Clone(one)
			if two := put(b); !bytes.Equal(one, two) {
				t.Errorf("put %d: % x, and then % x", i, one, two)
			}
			// A longer text is built on one twice: neither may write into the other.
			left := octets.PutUint(one, 1)
			right := octets.PutUint(one, 2)
			if left[len(one)] != 1 || right[len(one)] != 2 {
				t.Errorf("put %d: two answers share memory", i)
			}
			for j := range one {
				one[j] = 0x55
			}
			if !bytes.Equal(whole, bytes.Repeat([]byte{0xaa}, 64)) {
				t.Errorf("put %d on %d bytes: wrote into what was handed in: % x", i, n, whole)
			}
			for j := range whole {
				whole[j] = 0
			}
			if !bytes.Equal(left[:len(was)], was) {
				t.Errorf("put %d on %d bytes: shares memory", i, n)
			}
		}
	}
	b := []byte("\x02ab")
	s, _, _ := octets.GetText(b, 0, 2)
	b[1] = 'x'
	if s != "ab" {
		t.Errorf("GetText's answer changed to %q", s)
	}
}
