package value_test

import (
	"bytes"
	"math"
	"slices"
	"strconv"
	"strings"
	"testing"

	"billhook/api"
	"billhook/value"
)

// full has as many bytes as a text may have.
var full = strings.Repeat("abcdefgh", 4)

// rights are values that may be, with their bytes and their prints.
var rights = []struct {
	v        api.Value
	b, print string
}{
	{api.Value{Kind: 1, N: math.MinInt64}, "\x01" + strings.Repeat("\xff", 9) + "\x01", "-9223372036854775808"},
	{api.Value{Kind: 1, N: math.MinInt64 + 1}, "\x01\xfd" + strings.Repeat("\xff", 8) + "\x01", "-9223372036854775807"},
	{api.Value{Kind: 1, N: -100}, "\x01\xc7\x01", "-100"},
	{api.Value{Kind: 1, N: -65}, "\x01\x81\x01", "-65"},
	{api.Value{Kind: 1, N: -64}, "\x01\x7f", "-64"},
	{api.Value{Kind: 1, N: -7}, "\x01\x0d", "-7"},
	{api.Value{Kind: 1, N: -1}, "\x01\x01", "-1"},
	{api.Value{Kind: 1}, "\x01\x00", "0"},
	{api.Value{Kind: 1, N: 1}, "\x01\x02", "1"},
	{api.Value{Kind: 1, N: 2}, "\x01\x04", "2"},
	{api.Value{Kind: 1, N: 10}, "\x01\x14", "10"},
	{api.Value{Kind: 1, N: 63}, "\x01\x7e", "63"},
	{api.Value{Kind: 1, N: 64}, "\x01\x80\x01", "64"},
	{api.Value{Kind: 1, N: math.MaxInt64}, "\x01\xfe" + strings.Repeat("\xff", 8) + "\x01", "9223372036854775807"},
	{api.Value{Kind: 2}, "\x02\x00", "false"},
	{api.Value{Kind: 2, N: 1}, "\x02\x01", "true"},
	{api.Value{Kind: 3}, "\x03\x00", `""`},
	{api.Value{Kind: 3, S: " "}, "\x03\x01 ", `" "`},
	{api.Value{Kind: 3, S: "\""}, "\x03\x01\"", `"\""`},
	{api.Value{Kind: 3, S: "-7"}, "\x03\x02-7", `"-7"`},
	{api.Value{Kind: 3, S: "0"}, "\x03\x010", `"0"`},
	{api.Value{Kind: 3, S: "B"}, "\x03\x01B", `"B"`},
	{api.Value{Kind: 3, S: "\\"}, "\x03\x01\\", `"\\"`},
	{api.Value{Kind: 3, S: "\\\""}, "\x03\x02\\\"", `"\\\""`},
	{api.Value{Kind: 3, S: "a"}, "\x03\x01a", `"a"`},
	{api.Value{Kind: 3, S: "a\"b"}, "\x03\x03a\"b", `"a\"b"`},
	{api.Value{Kind: 3, S: "ab"}, "\x03\x02ab", `"ab"`},
	{api.Value{Kind: 3, S: full[:31]}, "\x03\x1f" + full[:31], `"` + full[:31] + `"`},
	{api.Value{Kind: 3, S: full}, "\x03\x20" + full, `"` + full + `"`},
	{api.Value{Kind: 3, S: "b"}, "\x03\x01b", `"b"`},
	{api.Value{Kind: 3, S: strings.Repeat("\\", 32)}, "\x03\x20" + strings.Repeat("\\", 32), `"` + strings.Repeat(`\\`, 32) + `"`},
	{api.Value{Kind: 3, S: "true"}, "\x03\x04true", `"true"`},
	{api.Value{Kind: 3, S: "~"}, "\x03\x01~", `"~"`},
}

// order is P2.2, said once more and step by step.
func order(a, b api.Value) int {
	switch {
	case a.Kind < b.Kind:
		return -1
	case a.Kind > b.Kind:
		return 1
	case a.N < b.N:
		return -1
	case a.N > b.N:
		return 1
	}
	return bytes.Compare([]byte(a.S), []byte(b.S))
}

// wrongs are values that may not be.
var wrongs = []api.Value{
	{},
	{N: 1},
	{S: "a"},
	{Kind: -1},
	{Kind: 4},
	{Kind: 4, N: 1, S: "a"},
	{Kind: 257},
	{Kind: 258, N: 1},
	{Kind: 259, S: "a"},
	{Kind: -255},
	{Kind: math.MinInt},
	{Kind: math.MaxInt},
	{Kind: 1, S: "1"},
	{Kind: 1, N: 1, S: " "},
	{Kind: 1, S: "\x00"},
	{Kind: 2, N: 2},
	{Kind: 2, N: -1},
	{Kind: 2, N: 256},
	{Kind: 2, N: 257},
	{Kind: 2, N: math.MinInt64},
	{Kind: 2, N: math.MaxInt64},
	{Kind: 2, S: "true"},
	{Kind: 2, N: 1, S: "a"},
	{Kind: 3, N: 1},
	{Kind: 3, N: -1, S: "a"},
	{Kind: 3, N: 1, S: "a"},
	{Kind: 3, S: full + "a"},
	{Kind: 3, S: full + full},
	{Kind: 3, S: strings.Repeat("\\", 33)},
	{Kind: 3, S: "\x00"},
	{Kind: 3, S: "\n"},
	{Kind: 3, S: "a\x1f"},
	{Kind: 3, S: "\x7fa"},
	{Kind: 3, S: "\x80"},
	{Kind: 3, S: "\xff"},
	{Kind: 3, S: "é"},
	{Kind: 3, S: full[:31] + "\x7f"},
}

// types are types that may be, with their zero values and their prints.
var types = []struct {
	t     api.Type
	zero  api.Value
	print string
}{
	{api.Type{Kind: 1}, api.Value{Kind: 1}, "int"},
	{api.Type{Kind: 2}, api.Value{Kind: 2}, "bool"},
	{api.Type{Kind: 3, Max: 1}, api.Value{Kind: 3}, "text 1"},
	{api.Type{Kind: 3, Max: 2}, api.Value{Kind: 3}, "text 2"},
	{api.Type{Kind: 3, Max: 6}, api.Value{Kind: 3}, "text 6"},
	{api.Type{Kind: 3, Max: 31}, api.Value{Kind: 3}, "text 31"},
	{api.Type{Kind: 3, Max: 32}, api.Value{Kind: 3}, "text 32"},
}

// wrongTypes are types that may not be.
var wrongTypes = []api.Type{
	{},
	{Max: 1},
	{Kind: -1},
	{Kind: 4},
	{Kind: 4, Max: 1},
	{Kind: 257},
	{Kind: math.MaxInt},
	{Kind: math.MinInt, Max: 1},
	{Kind: 1, Max: 1},
	{Kind: 1, Max: -1},
	{Kind: 1, Max: 32},
	{Kind: 2, Max: 1},
	{Kind: 2, Max: -1},
	{Kind: 3},
	{Kind: 3, Max: -1},
	{Kind: 3, Max: 33},
	{Kind: 3, Max: math.MaxInt},
	{Kind: 3, Max: math.MinInt},
}

// P2.1: Right.
func TestRight(t *testing.T) {
	for _, c := range rights {
		if !value.Right(c.v) {
			t.Errorf("Right(%+v) is false", c.v)
		}
	}
	for _, v := range wrongs {
		if value.Right(v) {
			t.Errorf("Right(%+v) is true", v)
		}
	}
}

// P2.1: which bytes a text may have, wherever they stand, and how many.
func TestRightBytes(t *testing.T) {
	for c := range 256 {
		want := c >= 32 && c <= 126
		one := string([]byte{byte(c)})
		for _, s := range []string{one, "a" + one, one + "a", "a" + one + "a", full[:31] + one, one + full[:31]} {
			if got := value.Right(api.Value{Kind: api.KindText, S: s}); got != want {
				t.Errorf("Right of the text %q is %v", s, got)
			}
		}
	}
	for n := range 70 {
		v := api.Value{Kind: api.KindText, S: strings.Repeat("x", n)}
		if got := value.Right(v); got != (n <= 32) {
			t.Errorf("Right of a text of %d bytes is %v", n, got)
		}
	}
}

// P2.1: RightType, Zero; P2.4: PrintType.
func TestTypes(t *testing.T) {
	for _, c := range types {
		if !value.RightType(c.t) {
			t.Errorf("RightType(%+v) is false", c.t)
		}
		if got := value.Zero(c.t); got != c.zero || !value.Right(got) || !value.Fits(got, c.t) {
			t.Errorf("Zero(%+v) = %+v", c.t, got)
		}
		if got := value.PrintType(c.t); got != c.print {
			t.Errorf("PrintType(%+v) = %q, not %q", c.t, got, c.print)
		}
	}
	for _, w := range wrongTypes {
		if value.RightType(w) {
			t.Errorf("RightType(%+v) is true", w)
		}
		if got := value.Zero(w); got != (api.Value{}) {
			t.Errorf("Zero(%+v) = %+v", w, got)
		}
		if got := value.PrintType(w); got != "" {
			t.Errorf("PrintType(%+v) = %q", w, got)
		}
	}
	for n := -3; n < 70; n++ {
		may := n >= 1 && n <= 32
		want := ""
		if may {
			want = "text " + strconv.Itoa(n)
		}
		text := api.Type{Kind: api.KindText, Max: n}
		if value.RightType(text) != may || value.PrintType(text) != want {
			t.Errorf("a text of at most %d bytes: %v, %q", n, value.RightType(text), value.PrintType(text))
		}
	}
}

// P2.1: Fits.
func TestFits(t *testing.T) {
	for _, c := range types {
		for _, r := range rights {
			want := r.v.Kind == c.t.Kind && (c.t.Kind != api.KindText || len(r.v.S) <= c.t.Max)
			if got := value.Fits(r.v, c.t); got != want {
				t.Errorf("Fits(%+v, %+v) is %v", r.v, c.t, got)
			}
		}
		for _, w := range wrongs {
			if value.Fits(w, c.t) {
				t.Errorf("Fits(%+v, %+v) is true", w, c.t)
			}
		}
	}
	for _, w := range wrongTypes {
		for _, r := range rights {
			if value.Fits(r.v, w) {
				t.Errorf("Fits(%+v, %+v) is true", r.v, w)
			}
		}
		for _, v := range wrongs {
			if value.Fits(v, w) {
				t.Errorf("Fits(%+v, %+v) is true", v, w)
			}
		}
	}
	for max := 1; max <= 32; max++ {
		for n := range 34 {
			v := value.Text(strings.Repeat("x", n))
			if got := value.Fits(v, api.Type{Kind: api.KindText, Max: max}); got != (n <= max) {
				t.Errorf("a text of %d bytes fits one of at most %d: %v", n, max, got)
			}
		}
	}
}

// P2.1: Int, Bool and Text, which take what may not be as it is.
func TestMakers(t *testing.T) {
	for _, n := range []int64{0, 1, -1, 2, 255, 256, math.MaxInt32 + 1, math.MinInt64, math.MaxInt64} {
		if got := value.Int(n); got != (api.Value{Kind: 1, N: n}) {
			t.Errorf("Int(%d) = %+v", n, got)
		}
	}
	if got := value.Bool(false); got != (api.Value{Kind: 2}) {
		t.Errorf("Bool(false) = %+v", got)
	}
	if got := value.Bool(true); got != (api.Value{Kind: 2, N: 1}) {
		t.Errorf("Bool(true) = %+v", got)
	}
	for _, s := range []string{"", "a", "a\"b", full, full + "a", "\x00\xff"} {
		if got := value.Text(s); got != (api.Value{Kind: 3, S: s}) {
			t.Errorf("Text(%q) = %+v", s, got)
		}
	}
}

// all are values of either sort.
func all() []api.Value {
	l := slices.Clone(wrongs)
	for _, c := range rights {
		l = append(l, c.v)
	}
	return l
}

// P2.2: Compare, also of values that may not be.
func TestCompare(t *testing.T) {
	for _, c := range []struct {
		a, b api.Value
		want int
	}{
		{value.Int(2), value.Int(10), -1},
		{value.Int(-10), value.Int(-2), -1},
		{value.Int(-1), value.Int(0), -1},
		{value.Int(math.MinInt64), value.Int(math.MaxInt64), -1},
		{value.Int(math.MaxInt64), value.Bool(false), -1},
		{value.Bool(false), value.Bool(true), -1},
		{value.Bool(true), value.Text(""), -1},
		{value.Text("10"), value.Text("2"), -1},
		{value.Text(""), value.Text(" "), -1},
		{value.Text("B"), value.Text("a"), -1},
		{value.Text("a"), value.Text("ab"), -1},
		{value.Text("ab"), value.Text("b"), -1},
		{value.Text("a\x7f"), value.Text("a\x80"), -1},
		{api.Value{Kind: math.MinInt}, api.Value{Kind: math.MaxInt}, -1},
		{api.Value{Kind: 1, N: 9, S: "z"}, api.Value{Kind: 2, N: 1, S: "a"}, -1},
		{api.Value{Kind: 3, N: 1, S: "z"}, api.Value{Kind: 3, N: 2, S: "a"}, -1},
		{api.Value{Kind: 1, N: 1}, api.Value{Kind: 1, N: 1, S: "a"}, -1},
		{value.Text("ab"), value.Text("ab"), 0},
		{api.Value{}, api.Value{}, 0},
	} {
		if got := value.Compare(c.a, c.b); got != c.want {
			t.Errorf("Compare(%+v, %+v) = %d", c.a, c.b, got)
		}
		if got := value.Compare(c.b, c.a); got != -c.want {
			t.Errorf("Compare(%+v, %+v) = %d", c.b, c.a, got)
		}
	}
}

// P2.2, P2.6: Compare is an order, the one that is said.
func TestOrder(t *testing.T) {
	l := all()
	slices.SortFunc(l, order)
	for i, a := range l {
		for j, b := range l {
			want := 0
			if i < j {
				want = -1
			} else if i > j {
				want = 1
			}
			if got := value.Compare(a, b); got != want {
				t.Errorf("Compare(%+v, %+v) = %d, not %d", a, b, got, want)
			}
		}
	}
}

func checkGet(t *testing.T, b []byte, at int, v api.Value, next int, ok bool) {
	t.Helper()
	was := bytes.Clone(b)
	gotV, gotNext, gotOk := value.Get(b, at)
	if gotV != v || gotNext != next || gotOk != ok {
		t.Errorf("Get(% x, %d) = %+v, %d, %v, not %+v, %d, %v", b, at, gotV, gotNext, gotOk, v, next, ok)
	}
	if !bytes.Equal(was, b) {
		t.Errorf("Get(% x, %d) changed it", was, at)
	}
}

// P2.3, P2.5: Put, and Get of it.
func TestPut(t *testing.T) {
	for _, c := range rights {
		if got := value.Put(nil, c.v); string(got) != c.b {
			t.Errorf("Put(nil, %+v) = % x, not % x", c.v, got, c.b)
		}
		if got := value.Put([]byte("ab"), c.v); string(got) != "ab"+c.b {
			t.Errorf("Put(ab, %+v) = % x", c.v, got)
		}
		checkGet(t, []byte(c.b), 0, c.v, len(c.b), true)
		checkGet(t, []byte(c.b+"\x00"), 0, c.v, len(c.b), true)
		checkGet(t, []byte("\x01"+c.b+"\xff"), 1, c.v, 1+len(c.b), true)
		for i := range len(c.b) {
			checkGet(t, []byte(c.b[:i]), 0, api.Value{}, 0, false)
			checkGet(t, []byte("\x02"+c.b[:i]), 1, api.Value{}, 0, false)
		}
	}
}

// P2.3: of what may not be nothing is put.
func TestPutWrong(t *testing.T) {
	for _, v := range wrongs {
		for _, s := range []string{"", "a", "\x01\x02"} {
			if got := value.Put([]byte(s), v); string(got) != s {
				t.Errorf("Put(% x, %+v) = % x", s, v, got)
			}
		}
	}
}

// P2.3: what Put writes of no value.
func TestGetWrong(t *testing.T) {
	for _, s := range []string{
		"",
		"\x00",
		"\x00\x00",
		"\x04\x00",
		"\x81\x00",
		"\xff\x00",
		"\x01",
		"\x01\x80",
		"\x01\x80\x00",
		"\x01" + strings.Repeat("\xff", 9) + "\x02",
		"\x01" + strings.Repeat("\xff", 10) + "\x01",
		"\x02",
		"\x02\x02",
		"\x02\x80",
		"\x02\x80\x01",
		"\x02\x81\x00",
		"\x02\xff",
		"\x03",
		"\x03\x01",
		"\x03\x02a",
		"\x03\x81\x00a",
		"\x03\x01\x00",
		"\x03\x01\x1f",
		"\x03\x01\x7f",
		"\x03\x01\x80",
		"\x03\x02a\n",
		"\x03\x21" + full + "a",
		"\x03\x40" + full + full,
		"\x03\x20" + full[:31] + "\xff",
		"\x03" + strings.Repeat("\xff", 9) + "\x01" + full,
		"\x03" + strings.Repeat("\x80", 9) + "\x01" + full,
	} {
		checkGet(t, []byte(s), 0, api.Value{}, 0, false)
		checkGet(t, []byte("\x02"+s), 1, api.Value{}, 0, false)
	}
}

// P2.3: a place outside of the bytes.
func TestGetPlaces(t *testing.T) {
	for _, b := range [][]byte{nil, {}, {1}, {2, 1}, {1, 2, 2, 1, 3, 0, 2, 0}} {
		for _, at := range []int{len(b), len(b) + 1, len(b) + 2, -1, -2, -len(b) - 1, math.MinInt, math.MaxInt, math.MaxInt - 1, 1 << 40} {
			checkGet(t, b, at, api.Value{}, 0, false)
		}
	}
	// What lies ahead of the slice, and in its spare room, is not of it.
	part := []byte{2, 1, 2, 1, 2, 1}[1:3]
	checkGet(t, part, -1, api.Value{}, 0, false)
	checkGet(t, part, 1, api.Value{}, 0, false)
	checkGet(t, part, 0, value.Int(1), 2, true)
}

// P2.3, P2.5: of any bytes, what is got is right, and put again has just those bytes; and else no value's bytes are their beginning.
func TestGetAny(t *testing.T) {
	begins := map[string]api.Value{}
	for n := range int64(1 << 14) {
		for _, v := range []api.Value{value.Int(n - 1<<13), value.Bool(n&1 == 1), value.Text(string([]byte{byte(n)})), value.Text("")} {
			if value.Right(v) {
				begins[string(value.Put(nil, v))] = v
			}
		}
	}
	b := make([]byte, 3)
	for kind := range 5 {
		for n := range 1 << 16 {
			b[0], b[1], b[2] = byte(kind), byte(n>>8), byte(n)
			v, next, ok := value.Get(b, 0)
			two, isTwo := begins[string(b[:2])]
			three, isThree := begins[string(b)]
			switch {
			case isTwo:
				checkGet(t, b, 0, two, 2, true)
			case isThree:
				checkGet(t, b, 0, three, 3, true)
			case ok || v != (api.Value{}) || next != 0:
				t.Errorf("Get(% x) = %+v, %d, %v", b, v, next, ok)
			}
		}
	}
}

// P2.4, P2.5: Print, and Parse of it.
func TestPrint(t *testing.T) {
	for _, c := range rights {
		if got := value.Print(c.v); got != c.print {
			t.Errorf("Print(%+v) = %q, not %q", c.v, got, c.print)
		}
		if got, ok := value.Parse(c.print); got != c.v || !ok {
			t.Errorf("Parse(%q) = %+v, %v", c.print, got, ok)
		}
	}
	for _, v := range wrongs {
		if got := value.Print(v); got != "" {
			t.Errorf("Print(%+v) = %q", v, got)
		}
	}
}

// P2.4: what no value is printed as.
func TestParseWrong(t *testing.T) {
	for _, s := range []string{
		"",
		" ",
		"-",
		"+",
		"+1",
		"-0",
		"00",
		"01",
		"-01",
		"--1",
		"- 1",
		" 1",
		"1 ",
		"1\n",
		"1.0",
		"1e3",
		"1_000",
		"0x1",
		"0b1",
		"9223372036854775808",
		"-9223372036854775809",
		"18446744073709551616",
		"18446744073709551615",
		strings.Repeat("9", 100),
		"٣",
		"True",
		"TRUE",
		"tru",
		"truee",
		"true ",
		" false",
		"t",
		"f",
		"falsetrue",
		"a",
		"int",
		"text 6",
		"'a'",
		"`a`",
		"\"",
		"\"\"\"",
		"\"\\\"",
		"\"\\",
		"\"a",
		"a\"",
		"\"a\"b\"",
		"\"a\" ",
		" \"a\"",
		"\"a\"\"b\"",
		"\"\\a\"",
		"\"\\n\"",
		"\"a\\\"",
		"\"\\\\\\\"",
		"\"\\\\\\\\\\\"",
		"\"\n\"",
		"\"\x00\"",
		"\"\x1f\"",
		"\"\x7f\"",
		"\"\x80\"",
		"\"é\"",
		"\"" + full + "a\"",
		"\"" + full + full + "\"",
		"\"" + strings.Repeat("\\\\", 33) + "\"",
		"\"" + strings.Repeat("\\\"", 33) + "\"",
	} {
		if got, ok := value.Parse(s); got != (api.Value{}) || ok {
			t.Errorf("Parse(%q) = %+v, %v", s, got, ok)
		}
	}
}

// strs answers all texts of at most so many of those letters.
func strs(letters string, most int) []string {
	l := []string{""}
	from := 0
	for range most {
		to := len(l)
		for _, s := range l[from:to] {
			for i := range len(letters) {
				l = append(l, s+letters[i:i+1])
			}
		}
		from = to
	}
	return l
}

// printed tells whether s is a print, read off P2.4 byte by byte.
func printed(s string) bool {
	if strings.HasPrefix(s, "\"") {
		i := 1
		for i < len(s) && s[i] != '"' {
			if s[i] == '\\' {
				i++
				if i == len(s) || s[i] != '"' && s[i] != '\\' {
					return false
				}
			} else if s[i] < 32 || s[i] > 126 {
				return false
			}
			i++
		}
		return i == len(s)-1
	}
	digits := strings.TrimPrefix(s, "-")
	if digits == "" || digits[0] == '0' && s != "0" {
		return false
	}
	for i := range len(digits) {
		if digits[i] < '0' || digits[i] > '9' {
			return false
		}
	}
	return true
}

// P2.4, P2.5: of any short text, what is parsed is right, and printed again is just that text; what isn't parsed is no print.
func TestParseAny(t *testing.T) {
	for _, s := range strs("\"\\a-+01 \x1f\x7f", 6) {
		v, ok := value.Parse(s)
		if ok != printed(s) {
			t.Errorf("Parse(%q) = %+v, %v", s, v, ok)
		}
		if ok && (!value.Right(v) || value.Print(v) != s) || !ok && v != (api.Value{}) {
			t.Errorf("Parse(%q) = %+v, %v, printed %q", s, v, ok, value.Print(v))
		}
	}
}

// P2.5: unlike values have unlike bytes, and unlike texts; what is put and printed is got and parsed.
func TestUnlike(t *testing.T) {
	var l []api.Value
	for n := range int64(300) {
		l = append(l, value.Int(n), value.Int(-n-1), value.Int(math.MaxInt64-n), value.Int(math.MinInt64+n))
	}
	for i := range 62 {
		l = append(l, value.Int(1<<i+300), value.Int(-1<<i-301))
	}
	l = append(l, value.Bool(false), value.Bool(true))
	for _, s := range strs("a\"\\0- ~", 4) {
		l = append(l, value.Text(s))
	}
	for i := range 28 {
		l = append(l, value.Text(full[:5+i]), value.Text(strings.Repeat("\"", 5+i)), value.Text(strings.Repeat("\\", 5+i)))
	}
	seen := map[api.Value]int{}
	puts, prints := map[string]int{}, map[string]int{}
	for i, v := range l {
		if was, twice := seen[v]; twice {
			t.Fatalf("values %d and %d are one: %+v", was, i, v)
		}
		seen[v] = i
		b, s := value.Put(nil, v), value.Print(v)
		if was, twice := puts[string(b)]; twice {
			t.Errorf("%+v and %+v are both % x", l[was], v, b)
		}
		if was, twice := prints[s]; twice {
			t.Errorf("%+v and %+v are both %s", l[was], v, s)
		}
		puts[string(b)], prints[s] = i, i
		checkGet(t, b, 0, v, len(b), true)
		if got, ok := value.Parse(s); got != v || !ok {
			t.Errorf("Parse(%q) = %+v, %v", s, got, ok)
		}
	}
}

// P2.3, P2.5: values that are put one behind the other are got so.
func TestRow(t *testing.T) {
	b := []byte("head")
	for _, c := range rights {
		b = value.Put(b, c.v)
	}
	at := 4
	for _, c := range rights {
		checkGet(t, b, at, c.v, at+len(c.b), true)
		at += len(c.b)
	}
	checkGet(t, b, at, api.Value{}, 0, false)
}

// Rule 4: what is handed in is neither changed nor kept, its spare room included; an answer is new memory.
func TestMemory(t *testing.T) {
	for _, v := range []api.Value{value.Int(0), value.Int(math.MinInt64), value.Bool(true), value.Text(""), value.Text(full), {}, {Kind: 3, S: "\n"}} {
		for _, n := range []int{0, 1, 5} {
			whole := bytes.Repeat([]byte{0xaa}, 64)
			b := whole[:n]
			one := value.Put(b, v)
			was := bytes.Clone(one)
			for i := range one {
				one[i] = 0x55
			}
			if !bytes.Equal(whole, bytes.Repeat([]byte{0xaa}, 64)) {
				t.Errorf("Put of %+v on %d bytes wrote into what was handed in: % x", v, n, whole)
			}
			two := value.Put(b, v)
			for i := range whole {
				whole[i] = 0
			}
			if !bytes.Equal(two, was) {
				t.Errorf("Put of %+v on %d bytes shares memory", v, n)
			}
		}
	}
	b := []byte("\x03\x02ab")
	v, _, _ := value.Get(b, 0)
	b[2] = 'x'
	if v != value.Text("ab") {
		t.Errorf("Get's answer changed to %+v", v)
	}
}
