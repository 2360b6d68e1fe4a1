package schema_test

import (
	"bytes"
	"math"
	"slices"
	"strconv"
	"strings"
	"testing"

	"billhook/api"
	"billhook/schema"
	"billhook/value"
)

// words are the language's words, none of which is a name.
var words = []string{
	"table", "rows", "proc", "let", "if", "else", "loop", "each", "in", "from", "to", "max", "rollback", "emit", "del",
	"has", "sum", "count", "int", "bool", "text", "true", "false",
}

// wrongNames are none, each for another reason.
var wrongNames = []string{
	"", " ", "A", "Ab", "aB", "1", "1a", "_", "_a", "a-b", "a b", "a.b", " a", "a ", "a\n", "\x00", "a\x00", "é", "aé", "a\xff", "\xff",
	"a;", "a\"", "abcdefghijklmnopq", "a0123456789abcde_", strings.Repeat("a", 1000),
}

var names = []string{
	"a", "z", "ab", "a0", "a9", "a_", "a__", "z_9", "acc", "balance_of_2", "abcdefghijklmnop", "a0123456789abcde", "a_______________", "zzzzzzzzzzzzzzzz",
}

// P6.1: IsName of ordinary names, of just MaxName signs too, and of what is none.
func TestIsName(t *testing.T) {
	for _, s := range names {
		if !schema.IsName(s) {
			t.Errorf("IsName(%q) is false", s)
		}
	}
	for _, s := range wrongNames {
		if schema.IsName(s) {
			t.Errorf("IsName(%q) is true", s)
		}
	}
}

// P6.1: a word of the language is no name; what is longer, shorter or written otherwise is one, if it isn't such a word, too.
func TestIsNameWords(t *testing.T) {
	if len(words) != 23 {
		t.Fatal(len(words))
	}
	for _, w := range words {
		if schema.IsName(w) {
			t.Errorf("IsName(%q) is true", w)
		}
		for _, s := range []string{w + "s", w + "_", w + "0", "a" + w, w + w, w[1:], w[:len(w)-1]} {
			if got := schema.IsName(s); got == slices.Contains(words, s) {
				t.Errorf("IsName(%q) is %v", s, got)
			}
		}
		for _, s := range []string{strings.ToUpper(w), strings.ToUpper(w[:1]) + w[1:], w + " ", " " + w} {
			if schema.IsName(s) {
				t.Errorf("IsName(%q) is true", s)
			}
		}
	}
	for _, s := range []string{"row", "tab", "min", "not", "and", "or", "do", "end", "submit", "pick", "put", "key", "string", "nil"} {
		if !schema.IsName(s) {
			t.Errorf("IsName(%q) is false", s)
		}
	}
}

// P6.1: which bytes a name may have at its front, and which behind that; how many.
func TestIsNameBytes(t *testing.T) {
	for n := range 256 {
		c := string([]byte{byte(n)})
		letter := c >= "a" && c <= "z"
		for _, s := range []string{c, c + "x", c + "x_0"} {
			if got := schema.IsName(s); got != letter {
				t.Errorf("IsName(%q) is %v", s, got)
			}
		}
		behind := letter || c >= "0" && c <= "9" || c == "_"
		for _, s := range []string{"x" + c, "x" + c + "y", "xy" + c, "x23456789abcdef" + c, "x" + c + "3456789abcdefg"} {
			if got := schema.IsName(s); got != behind {
				t.Errorf("IsName(%q) is %v", s, got)
			}
		}
	}
	for n := range 70 {
		for _, s := range []string{strings.Repeat("x", n), "x" + strings.Repeat("_", max(n-1, 0)), "x" + strings.Repeat("7", max(n-1, 0))} {
			if got := schema.IsName(s); got != (len(s) >= 1 && len(s) <= 16) {
				t.Errorf("IsName(%q) is %v", s, got)
			}
		}
	}
}

// col is a column that may be.
func col(name string) api.Col {
	return api.Col{Name: name, Type: api.Type{Kind: api.KindInt}}
}

// table is a table that may be.
func table(name string) api.Table {
	return api.Table{Name: name, Rows: 8, Cols: []api.Col{col("a"), {Name: "b", Type: api.Type{Kind: api.KindText, Max: 6}}}}
}

// tables are n tables that may be.
func tables(n int) []api.Table {
	var l []api.Table
	for i := range n {
		l = append(l, table("t"+strconv.Itoa(i)))
	}
	return l
}

// cols are n columns that may be.
func cols(n int) []api.Col {
	var l []api.Col
	for i := range n {
		l = append(l, col("c"+strconv.Itoa(i)))
	}
	return l
}

func checkCheck(t *testing.T, l []api.Table, e api.Errno, at int) {
	t.Helper()
	was := copyOf(l)
	if gotE, gotAt := schema.Check(l); gotE != e || gotAt != at {
		t.Errorf("Check(%+v) = %d, %d, not %d, %d", l, gotE, gotAt, e, at)
	}
	if !slices.EqualFunc(was, l, same) {
		t.Errorf("Check changed %+v into %+v", was, l)
	}
}

// copyOf is a copy of l that shares nothing with it.
func copyOf(l []api.Table) []api.Table {
	var out []api.Table
	for _, x := range l {
		out = append(out, api.Table{Name: x.Name, Rows: x.Rows, Cols: slices.Clone(x.Cols)})
	}
	return out
}

// same is SameTable, said once more.
func same(a, b api.Table) bool {
	if a.Name != b.Name || a.Rows != b.Rows || len(a.Cols) != len(b.Cols) {
		return false
	}
	for i := range a.Cols {
		if a.Cols[i] != b.Cols[i] {
			return false
		}
	}
	return true
}

// P6.1: Check of tables that may be, up to the limits.
func TestCheck(t *testing.T) {
	checkCheck(t, nil, api.OK, 0)
	checkCheck(t, []api.Table{}, api.OK, 0)
	for n := range 9 {
		checkCheck(t, tables(n), api.OK, 0)
	}
	for n := 1; n <= 8; n++ {
		checkCheck(t, []api.Table{{Name: "x", Rows: 1, Cols: cols(n)}}, api.OK, 0)
	}
	for _, n := range []int{1, 2, 63, 64} {
		checkCheck(t, []api.Table{{Name: "x", Rows: n, Cols: cols(1)}}, api.OK, 0)
	}
	for _, s := range names {
		checkCheck(t, []api.Table{{Name: s, Rows: 64, Cols: []api.Col{col(s)}}}, api.OK, 0)
	}
	// A column may be called as a table is, and as another table's column.
	checkCheck(t, []api.Table{{Name: "x", Rows: 1, Cols: []api.Col{col("x"), col("y")}}, {Name: "y", Rows: 1, Cols: []api.Col{col("y"), col("x")}}}, api.OK, 0)
}

// P6.1: more tables than may be, ahead of whatever else is wrong.
func TestCheckTables(t *testing.T) {
	for _, n := range []int{9, 10, 100} {
		checkCheck(t, tables(n), api.ErrBig, 0)
		checkCheck(t, make([]api.Table, n), api.ErrBig, 0)
		l := tables(n)
		l[5].Name = "t2"
		checkCheck(t, l, api.ErrBig, 0)
	}
	l := tables(8)
	l[7].Name = "t6"
	checkCheck(t, l, api.ErrName, 7)
}

// faults make a table wrong, each in one way; in the order in which Check asks.
var faults = []struct {
	e    api.Errno
	make func(*api.Table)
}{
	{api.ErrName, func(x *api.Table) { x.Name = "to" }},
	{api.ErrSize, func(x *api.Table) { x.Rows = 65 }},
	{api.ErrBig, func(x *api.Table) { x.Cols = append(slices.Clone(x.Cols), cols(9)...) }},
	{api.ErrName, func(x *api.Table) { x.Cols[0].Name = "A" }},
	{api.ErrType, func(x *api.Table) { x.Cols[0].Type.Kind = 4 }},
	{api.ErrName, func(x *api.Table) { x.Cols[1].Name = x.Cols[0].Name }},
	{api.ErrType, func(x *api.Table) { x.Cols[1].Type.Max = 33 }},
	{api.ErrName, func(x *api.Table) { x.Cols[2].Name = x.Cols[1].Name }},
	{api.ErrType, func(x *api.Table) { x.Cols[2].Type.Max = 1 }},
}

// three is a table that may be, with a column for each of the faults.
func three(name string) api.Table {
	return api.Table{Name: name, Rows: 64, Cols: []api.Col{col("a"), {Name: "b", Type: api.Type{Kind: api.KindText, Max: 32}}, {Name: "c", Type: api.Type{Kind: api.KindBool}}}}
}

// P6.1: each error, at its table; of several in one table the first one, of several tables' that of the first table.
func TestCheckFirst(t *testing.T) {
	for at := range 8 {
		for i, f := range faults {
			l := tables(8)
			l[at] = three("x")
			f.make(&l[at])
			checkCheck(t, l, f.e, at)
			checkCheck(t, l[:at+1], f.e, at)
			checkCheck(t, l[:at], api.OK, 0)
			for _, later := range faults[i:] {
				l := tables(8)
				l[at] = three("x")
				later.make(&l[at])
				f.make(&l[at])
				checkCheck(t, l, f.e, at)
			}
		}
	}
	for _, f := range faults {
		for _, g := range faults {
			l := []api.Table{three("x"), three("y"), three("z")}
			f.make(&l[1])
			g.make(&l[2])
			checkCheck(t, l, f.e, 1)
		}
	}
}

// P6.1: a table's name is none, or one ahead has it: the later one is wrong, before all else in it.
func TestCheckTableName(t *testing.T) {
	for _, s := range append(slices.Clone(wrongNames), words...) {
		checkCheck(t, []api.Table{table("x"), table(s), table("y")}, api.ErrName, 1)
		checkCheck(t, []api.Table{{Name: s}}, api.ErrName, 0)
	}
	for i := range 8 {
		for j := i + 1; j < 8; j++ {
			l := tables(8)
			l[j].Name = l[i].Name
			checkCheck(t, l, api.ErrName, j)
			l[j].Rows, l[j].Cols = 0, nil
			checkCheck(t, l, api.ErrName, j)
			l[i].Rows = 0
			checkCheck(t, l, api.ErrSize, i)
		}
	}
}

// P6.1: Rows, ahead of columns.
func TestCheckRows(t *testing.T) {
	for _, n := range []int{0, -1, 65, 66, 1 << 20, math.MinInt, math.MaxInt} {
		checkCheck(t, []api.Table{table("x"), {Name: "y", Rows: n, Cols: cols(1)}}, api.ErrSize, 1)
		checkCheck(t, []api.Table{{Name: "y", Rows: n}}, api.ErrSize, 0)
		checkCheck(t, []api.Table{{Name: "y", Rows: n, Cols: make([]api.Col, 9)}}, api.ErrSize, 0)
	}
	for n := -5; n < 100; n++ {
		e := api.OK
		if n < 1 || n > 64 {
			e = api.ErrSize
		}
		checkCheck(t, []api.Table{{Name: "x", Rows: n, Cols: cols(8)}}, e, 0)
	}
}

// P6.1: how many columns, ahead of what they are.
func TestCheckCols(t *testing.T) {
	checkCheck(t, []api.Table{{Name: "x", Rows: 1}}, api.ErrBig, 0)
	checkCheck(t, []api.Table{{Name: "x", Rows: 1, Cols: []api.Col{}}}, api.ErrBig, 0)
	checkCheck(t, []api.Table{table("y"), {Name: "x", Rows: 64}}, api.ErrBig, 1)
	for _, n := range []int{9, 10, 100} {
		checkCheck(t, []api.Table{table("y"), {Name: "x", Rows: 1, Cols: cols(n)}}, api.ErrBig, 1)
		checkCheck(t, []api.Table{{Name: "x", Rows: 1, Cols: make([]api.Col, n)}}, api.ErrBig, 0)
	}
}

// P6.1: a column's name is none, or one ahead of it in its table has it; column by column, the name ahead of the type.
func TestCheckCol(t *testing.T) {
	check := func(e api.Errno, l ...api.Col) {
		t.Helper()
		checkCheck(t, []api.Table{{Name: "x", Rows: 1, Cols: l}}, e, 0)
		checkCheck(t, []api.Table{table("y"), {Name: "x", Rows: 1, Cols: l}, {}}, e, 1)
	}
	for _, s := range append(slices.Clone(wrongNames), words...) {
		check(api.ErrName, col(s))
		check(api.ErrName, col("a"), col(s), col("b"))
		check(api.ErrName, api.Col{Name: s})
	}
	for _, k := range wrongTypes {
		wrong := api.Col{Name: "w", Type: k}
		check(api.ErrType, wrong)
		check(api.ErrType, col("a"), wrong, col("a"))
		check(api.ErrType, wrong, wrong)
		check(api.ErrName, col("w"), wrong)
		check(api.ErrName, col("A"), wrong)
	}
	for _, k := range types {
		checkCheck(t, []api.Table{{Name: "x", Rows: 1, Cols: []api.Col{{Name: "w", Type: k}}}}, api.OK, 0)
	}
	for i := range 8 {
		for j := i + 1; j < 8; j++ {
			l := cols(8)
			l[j].Name = l[i].Name
			check(api.ErrName, l...)
			check(api.ErrName, l[:j+1]...)
			l[j].Type = api.Type{}
			check(api.ErrName, l...)
			l[i].Type = api.Type{}
			check(api.ErrType, l...)
		}
	}
}

var types = []api.Type{{Kind: 1}, {Kind: 2}, {Kind: 3, Max: 1}, {Kind: 3, Max: 2}, {Kind: 3, Max: 31}, {Kind: 3, Max: 32}}

var wrongTypes = []api.Type{
	{}, {Max: 1}, {Kind: -1}, {Kind: 4}, {Kind: 4, Max: 1}, {Kind: math.MaxInt}, {Kind: 1, Max: 1}, {Kind: 1, Max: -1}, {Kind: 2, Max: 1}, {Kind: 2, Max: 32},
	{Kind: 3}, {Kind: 3, Max: -1}, {Kind: 3, Max: 33}, {Kind: 3, Max: math.MaxInt}, {Kind: 3, Max: math.MinInt},
}

func checkFind(t *testing.T, l []api.Table, name string, n int, ok bool) {
	t.Helper()
	if gotN, gotOk := schema.Find(l, name); gotN != n || gotOk != ok {
		t.Errorf("Find(%+v, %q) = %d, %v, not %d, %v", l, name, gotN, gotOk, n, ok)
	}
	// Columns are found as tables are.
	var x api.Table
	for _, a := range l {
		x.Cols = append(x.Cols, api.Col{Name: a.Name})
	}
	if gotN, gotOk := schema.Col(x, name); gotN != n || gotOk != ok {
		t.Errorf("Col(%+v, %q) = %d, %v, not %d, %v", x, name, gotN, gotOk, n, ok)
	}
}

// P6.2: Find and Col: the first one of that name, whatever it is; none.
func TestFind(t *testing.T) {
	l := tables(8)
	for i := range l {
		checkFind(t, l, "t"+strconv.Itoa(i), i, true)
		checkFind(t, l[:i], "t"+strconv.Itoa(i), 0, false)
		checkFind(t, l[i:], "t"+strconv.Itoa(i), 0, true)
	}
	for _, s := range []string{"", "t", "t8", "t00", "T0", "t0 ", " t0", "a", "b", "x", "table"} {
		checkFind(t, l, s, 0, false)
		checkFind(t, nil, s, 0, false)
		checkFind(t, []api.Table{}, s, 0, false)
	}
	twice := []api.Table{{Name: "x"}, {Name: "b"}, {Name: "a", Rows: 1}, {Name: "a"}, {Name: "b"}, {Name: "a"}}
	checkFind(t, twice, "a", 2, true)
	checkFind(t, twice, "b", 1, true)
	checkFind(t, twice, "x", 0, true)
	checkFind(t, twice, "", 0, false)
	checkFind(t, []api.Table{{Name: "a"}, {}, {Name: "If\x00"}, {}}, "", 1, true)
	checkFind(t, []api.Table{{Name: "a"}, {}, {Name: "If\x00"}, {}}, "If\x00", 2, true)
	many := tables(100)
	checkFind(t, many, "t99", 99, true)
}

// P6.2: Find asks tables for their own names alone, Col asks columns for theirs.
func TestFindOwn(t *testing.T) {
	x := api.Table{Name: "x", Rows: 1, Cols: []api.Col{col("a"), col("x2")}}
	if n, ok := schema.Find([]api.Table{x}, "a"); n != 0 || ok {
		t.Error(n, ok)
	}
	if n, ok := schema.Col(x, "x"); n != 0 || ok {
		t.Error(n, ok)
	}
	if n, ok := schema.Col(x, "x2"); n != 1 || !ok {
		t.Error(n, ok)
	}
	if n, ok := schema.Col(api.Table{Name: "x"}, "a"); n != 0 || ok {
		t.Error(n, ok)
	}
}

// typed is a table of such columns, which have no names: a row asks for types alone.
func typed(l ...api.Type) api.Table {
	var x api.Table
	for _, k := range l {
		x.Cols = append(x.Cols, api.Col{Type: k})
	}
	return x
}

// P6.2: Zero.
func TestZero(t *testing.T) {
	x := typed(append(slices.Clone(types), wrongTypes...)...)
	got := schema.Zero(x)
	if len(got) != len(x.Cols) {
		t.Fatalf("Zero has %d values", len(got))
	}
	for i, v := range got {
		want := api.Value{}
		if i < len(types) {
			want.Kind = types[i].Kind
		}
		if v != want {
			t.Errorf("the zero value of %+v is %+v", x.Cols[i].Type, v)
		}
	}
	if got := schema.Zero(typed()); len(got) != 0 {
		t.Errorf("Zero of no columns is %+v", got)
	}
	got[0] = value.Int(7)
	if again := schema.Zero(x); again[0] != value.Int(0) {
		t.Errorf("a change of what Zero answered is in the next answer: %+v", again)
	}
	if x := typed(types...); !schema.Fits(x, schema.Zero(x)) {
		t.Errorf("the zero row doesn't fit %+v", x)
	}
}

// samples are values, some of which may not be.
var samples = []api.Value{
	value.Int(0), value.Int(1), value.Int(-65), value.Int(math.MinInt64), value.Int(math.MaxInt64), value.Bool(false), value.Bool(true),
	value.Text(""), value.Text("a"), value.Text("\x01"), value.Text("ab"), value.Text("a\"b\\"), value.Text(strings.Repeat("x", 31)),
	value.Text(strings.Repeat("x", 32)), value.Text(strings.Repeat("x", 33)), {}, {Kind: 4}, {Kind: 2, N: 2}, {Kind: 1, S: "a"}, {Kind: 3, N: 1},
}

// rowsOf are all rows of n of the samples.
func rowsOf(n int) [][]api.Value {
	if n == 0 {
		return [][]api.Value{nil}
	}
	var out [][]api.Value
	for _, row := range rowsOf(n - 1) {
		for _, v := range samples {
			out = append(out, append(slices.Clone(row), v))
		}
	}
	return out
}

// some are tables of no, one, two and three columns, of types that may be or not.
func some() []api.Table {
	out := []api.Table{typed()}
	for _, a := range append(slices.Clone(types), wrongTypes...) {
		out = append(out, typed(a))
	}
	for _, a := range types {
		for _, b := range types {
			out = append(out, typed(a, b))
		}
		out = append(out, typed(a, api.Type{}), typed(api.Type{Kind: 3, Max: 33}, a))
	}
	return append(out, typed(types[0], types[1], types[3]), typed(types[5], types[2], types[0]))
}

// fits is P6.2's Fits, said once more.
func fits(x api.Table, row []api.Value) bool {
	if len(row) != len(x.Cols) {
		return false
	}
	for i := range row {
		if !value.Fits(row[i], x.Cols[i].Type) {
			return false
		}
	}
	return true
}

// P6.2: Fits, also of rows of too few or too many values.
func TestFits(t *testing.T) {
	var rows [][]api.Value
	for n := range 3 {
		rows = append(rows, rowsOf(n)...)
	}
	rows = append(rows, []api.Value{value.Int(1), value.Bool(true), value.Text("ab")}, []api.Value{value.Int(1), value.Bool(true), value.Text("abc")})
	for _, x := range some() {
		for _, row := range rows {
			if got := schema.Fits(x, row); got != fits(x, row) {
				t.Errorf("Fits(%+v, %+v) is %v", x, row, got)
			}
		}
	}
	for _, c := range []struct {
		want bool
		row  []api.Value
	}{
		{true, []api.Value{value.Int(5), value.Text("bo")}},
		{true, []api.Value{value.Int(5), value.Text("abcdef")}},
		{false, []api.Value{value.Int(5), value.Text("abcdefg")}},
		{false, []api.Value{value.Text("bo"), value.Int(5)}},
		{false, []api.Value{value.Int(5)}},
		{false, []api.Value{value.Int(5), value.Text("bo"), value.Text("")}},
		{false, []api.Value{value.Int(5), {}}},
		{false, nil},
	} {
		if got := schema.Fits(table("x"), c.row); got != c.want {
			t.Errorf("Fits(%+v) is %v", c.row, got)
		}
	}
}

func checkGet(t *testing.T, b []byte, at int, x api.Table, row []api.Value, next int, ok bool) {
	t.Helper()
	was := bytes.Clone(b)
	gotRow, gotNext, gotOk := schema.GetRow(b, at, x)
	if !slices.Equal(gotRow, row) || gotNext != next || gotOk != ok {
		t.Errorf("GetRow(% x, %d, %+v) = %+v, %d, %v, not %+v, %d, %v", b, at, x, gotRow, gotNext, gotOk, row, next, ok)
	}
	if !bytes.Equal(was, b) {
		t.Errorf("GetRow(% x, %d) changed it", was, at)
	}
}

// P6.3: PutRow and GetRow as they stand in bytes; bytes that stop within the row.
func TestPutRow(t *testing.T) {
	x := typed(types[0], types[1], types[3])
	row := []api.Value{value.Int(-3), value.Bool(true), value.Text("ab")}
	want := "\x01\x05\x02\x01\x03\x02ab"
	for _, ahead := range []string{"", "\x01", "\x03\x02ab", "xyz"} {
		got := schema.PutRow([]byte(ahead), row)
		if string(got) != ahead+want {
			t.Errorf("PutRow(% x, %+v) = % x", ahead, row, got)
		}
		n := len(ahead)
		checkGet(t, got, n, x, row, n+8, true)
		checkGet(t, []byte(ahead+want+"\x01\x02"), n, x, row, n+8, true)
		for i := range len(want) {
			checkGet(t, []byte(ahead+want[:i]), n, x, nil, 0, false)
		}
	}
	// One row behind the other.
	two := schema.PutRow(schema.PutRow(nil, row), []api.Value{value.Int(0), value.Bool(false), value.Text("")})
	checkGet(t, two, 0, x, row, 8, true)
	checkGet(t, two, 8, x, schema.Zero(x), 14, true)
	checkGet(t, two, 14, x, nil, 0, false)
}

// P6.3: PutRow of what fits no table: of a value that isn't right there is nothing.
func TestPutRowWrong(t *testing.T) {
	for _, ahead := range []string{"", "a", "\x01\x02"} {
		for _, c := range []struct {
			row  []api.Value
			want string
		}{
			{nil, ""},
			{[]api.Value{}, ""},
			{[]api.Value{{}}, ""},
			{[]api.Value{{}, {Kind: 4, N: 1}, value.Text("\n")}, ""},
			{[]api.Value{{}, value.Int(1), {Kind: 2, N: 2}, value.Bool(false), {Kind: 1, S: "a"}}, "\x01\x02\x02\x00"},
			{[]api.Value{value.Text(strings.Repeat("x", 33)), value.Text("x")}, "\x03\x01x"},
			{slices.Repeat([]api.Value{value.Bool(true)}, 20), strings.Repeat("\x02\x01", 20)},
		} {
			if got := schema.PutRow([]byte(ahead), c.row); string(got) != ahead+c.want {
				t.Errorf("PutRow(% x, %+v) = % x", ahead, c.row, got)
			}
		}
	}
}

// P6.3: a place below 0, at the end, beyond it; of no columns, too, whose row has no bytes.
func TestGetRowPlaces(t *testing.T) {
	for _, b := range [][]byte{nil, {}, {1}, {2, 1}, {2, 1, 2, 0, 2, 1}} {
		for _, at := range []int{-1, -2, -len(b) - 1, math.MinInt, len(b) + 1, len(b) + 2, 1 << 40, math.MaxInt, math.MaxInt - 1} {
			for _, x := range []api.Table{typed(), typed(types[1]), typed(types[1], types[1]), typed(wrongTypes[0])} {
				checkGet(t, b, at, x, nil, 0, false)
			}
		}
		checkGet(t, b, len(b), typed(types[1]), nil, 0, false)
		for at := range len(b) + 1 {
			checkGet(t, b, at, typed(), nil, at, true)
		}
	}
	// What lies ahead of the slice, and in its spare room, is not of it.
	part := []byte{2, 1, 2, 1, 2, 1}[2:4]
	checkGet(t, part, -2, typed(types[1]), nil, 0, false)
	checkGet(t, part, 2, typed(types[1]), nil, 0, false)
	checkGet(t, part, 0, typed(types[1], types[1]), nil, 0, false)
	checkGet(t, part, 0, typed(types[1]), []api.Value{value.Bool(true)}, 2, true)
}

// P6.3: values that are there, but don't fit the column.
func TestGetRowWrong(t *testing.T) {
	for _, c := range []struct {
		b string
		l []api.Type
	}{
		{"\x01\x02", []api.Type{types[1]}},
		{"\x02\x01", []api.Type{types[0]}},
		{"\x02\x02", []api.Type{types[1]}},
		{"\x03\x01a", []api.Type{types[0]}},
		{"\x03\x02ab", []api.Type{types[2]}},
		{"\x03\x01\n", []api.Type{types[3]}},
		{"\x03\x01a", []api.Type{{Kind: 3}}},
		{"\x03\x01a", []api.Type{{Kind: 3, Max: 33}}},
		{"\x01\x02", []api.Type{{Kind: 1, Max: 1}}},
		{"\x00", []api.Type{{}}},
		{"\x04\x00", []api.Type{{Kind: 4}}},
		{"\x01\x02\x01\x02", []api.Type{types[0], types[1]}},
		{"\x01\x02\x02\x01", []api.Type{types[1], types[0]}},
		{"\x01\x80\x00\x01\x02", []api.Type{types[0], types[0]}},
		{"\x03\x01a\x03\x02ab", []api.Type{types[3], types[2]}},
	} {
		checkGet(t, []byte(c.b), 0, typed(c.l...), nil, 0, false)
		checkGet(t, []byte("\x02\x01"+c.b+"\x01\x02"), 2, typed(c.l...), nil, 0, false)
	}
}

// P6.3, P6.4: of any bytes, what is got fits, and put again has just those bytes; where nothing is got, no row that fits has them.
func TestGetRowAny(t *testing.T) {
	signs := []byte{0, 1, 2, 3, 4, 'a', 0x80, 0xff}
	for _, x := range []api.Table{typed(), typed(types[0]), typed(types[2]), typed(types[1], types[0]), typed(types[2], types[1])} {
		begins := bytesOf(x)
		for n := range 1 << 15 {
			b := []byte{signs[n&7], signs[n>>3&7], signs[n>>6&7], signs[n>>9&7], signs[n>>12&7]}
			row, next, ok := schema.GetRow(b, 0, x)
			if ok && (!fits(x, row) || !bytes.Equal(schema.PutRow(nil, row), b[:next])) {
				t.Errorf("GetRow(% x, 0, %+v) = %+v, %d", b, x, row, next)
			}
			for to := range len(b) + 1 {
				if want, there := begins[string(b[:to])]; there && (!ok || next != to || !slices.Equal(row, want)) {
					t.Errorf("GetRow(% x, 0, %+v) = %+v, %d, %v, not %+v", b, x, row, next, ok, want)
				}
			}
		}
	}
}

// bytesOf are rows that fit x, by their bytes.
func bytesOf(x api.Table) map[string][]api.Value {
	out := map[string][]api.Value{}
	for _, row := range rowsOf(len(x.Cols)) {
		if fits(x, row) {
			out[string(schema.PutRow(nil, row))] = row
		}
	}
	return out
}

// P6.4: a row that fits, put and got, is the same; rows that fit, and are unlike, have unlike bytes, none of which is the beginning of the other's.
func TestRoundTrip(t *testing.T) {
	for _, x := range some() {
		var put [][]byte
		for _, row := range rowsOf(len(x.Cols)) {
			b := schema.PutRow([]byte("ab"), row)
			if fits(x, row) {
				checkGet(t, b, 2, x, row, len(b), true)
				put = append(put, b)
			} else {
				checkGet(t, b, 2, x, nil, 0, false)
			}
		}
		slices.SortFunc(put, bytes.Compare)
		for i := 1; i < len(put); i++ {
			if bytes.HasPrefix(put[i], put[i-1]) {
				t.Errorf("% x and % x are of unlike rows", put[i-1], put[i])
			}
		}
	}
}

// What is handed in is left as it is, its spare room too, and not kept; an answer is new memory.
func TestApart(t *testing.T) {
	for _, row := range [][]api.Value{nil, {{}}, {value.Int(5), value.Text("bo")}} {
		room := []byte("abcdefghijkl")
		was := slices.Clone(row)
		got := schema.PutRow(room[:2], row)
		for i := range got {
			got[i] = 'X'
		}
		if string(room) != "abcdefghijkl" || !slices.Equal(row, was) {
			t.Errorf("PutRow changed what it was given: %q, %+v", room, row)
		}
	}
	b := schema.PutRow(nil, []api.Value{value.Int(5), value.Text("bo")})
	row, _, _ := schema.GetRow(b, 0, table("x"))
	clear(b)
	if !slices.Equal(row, []api.Value{value.Int(5), value.Text("bo")}) {
		t.Errorf("a change of the bytes is in the row: %+v", row)
	}
}

// P6.3: Print, of tables that may not be, too.
func TestPrint(t *testing.T) {
	bal := api.Col{Name: "bal", Type: api.Type{Kind: 1}}
	who := api.Col{Name: "who", Type: api.Type{Kind: 3, Max: 6}}
	for _, c := range []struct {
		x    api.Table
		want string
	}{
		{api.Table{Name: "acc", Rows: 8, Cols: []api.Col{bal, who}}, "table acc rows 8 { bal int; who text 6; }"},
		{api.Table{Name: "t", Rows: 64, Cols: []api.Col{{Name: "ok_1", Type: api.Type{Kind: 2}}}}, "table t rows 64 { ok_1 bool; }"},
		{api.Table{Name: "t", Rows: 1, Cols: []api.Col{who, bal, who}}, "table t rows 1 { who text 6; bal int; who text 6; }"},
		{api.Table{Name: "t", Rows: 1}, "table t rows 1 { }"},
		{api.Table{}, "table  rows 0 { }"},
		{api.Table{Name: "If", Rows: -7, Cols: []api.Col{{}, {Name: "a"}}}, "table If rows -7 {  ; a ; }"},
		{api.Table{Name: "t", Rows: math.MaxInt, Cols: []api.Col{{Name: "a", Type: api.Type{Kind: 3, Max: 33}}, {Name: "b", Type: api.Type{Kind: 1, Max: 1}}}}, "table t rows 9223372036854775807 { a ; b ; }"},
		{api.Table{Name: "t", Rows: 2, Cols: cols(9)}, "table t rows 2 { c0 int; c1 int; c2 int; c3 int; c4 int; c5 int; c6 int; c7 int; c8 int; }"},
	} {
		if got := schema.Print(c.x); got != c.want {
			t.Errorf("Print(%+v) = %q, not %q", c.x, got, c.want)
		}
	}
}

// P6.3: Same, whatever the values are.
func TestSame(t *testing.T) {
	if !schema.Same(nil, nil) || !schema.Same(nil, []api.Value{}) || !schema.Same([]api.Value{}, nil) {
		t.Error("no values aren't the same as no values")
	}
	var rows [][]api.Value
	for n := range 3 {
		rows = append(rows, rowsOf(n)...)
	}
	for i, a := range rows {
		for j, b := range rows {
			if got := schema.Same(a, slices.Clone(b)); got != (i == j) {
				t.Errorf("Same(%+v, %+v) is %v", a, b, got)
			}
		}
	}
}

// P6.3: SameTable: each field counts, columns' too, in their order.
func TestSameTable(t *testing.T) {
	a, b := col("a"), api.Col{Name: "b", Type: api.Type{Kind: 3, Max: 6}}
	l := []api.Table{
		{},
		{Name: "x"},
		{Rows: 8},
		{Name: "x", Rows: 8},
		{Name: "x", Rows: 8, Cols: []api.Col{{}}},
		{Name: "x", Rows: 8, Cols: []api.Col{a}},
		{Name: "x", Rows: 8, Cols: []api.Col{b}},
		{Name: "x", Rows: 8, Cols: []api.Col{a, b}},
		{Name: "x", Rows: 8, Cols: []api.Col{b, a}},
		{Name: "x", Rows: 8, Cols: []api.Col{a, a}},
		{Name: "x", Rows: 8, Cols: []api.Col{a, b, {}}},
		{Name: "x", Rows: 9, Cols: []api.Col{a, b}},
		{Name: "X", Rows: 8, Cols: []api.Col{a, b}},
		{Name: "x", Rows: 8, Cols: []api.Col{{Name: "A", Type: a.Type}, b}},
		{Name: "x", Rows: 8, Cols: []api.Col{a, {Name: "c", Type: b.Type}}},
		{Name: "x", Rows: 8, Cols: []api.Col{{Name: "a", Type: api.Type{Kind: 2}}, b}},
		{Name: "x", Rows: 8, Cols: []api.Col{a, {Name: "b", Type: api.Type{Kind: 3, Max: 7}}}},
	}
	for i, x := range l {
		for j, y := range copyOf(l) {
			if got := schema.SameTable(x, y); got != (i == j) {
				t.Errorf("SameTable(%+v, %+v) is %v", x, y, got)
			}
		}
	}
	if !schema.SameTable(api.Table{Name: "x"}, api.Table{Name: "x", Cols: []api.Col{}}) {
		t.Error("no columns aren't the same as no columns")
	}
}
