package store_test

import (
	"math"
	"slices"
	"strconv"
	"strings"
	"testing"

	"billhook/api"
	"billhook/schema"
	"billhook/store"
	"billhook/value"
)

var (
	intType  = api.Type{Kind: api.KindInt}
	boolType = api.Type{Kind: api.KindBool}
)

func textType(most int) api.Type { return api.Type{Kind: api.KindText, Max: most} }

// pair are two tables: acc of three rows with a number and a text, and on of two rows with a truth.
func pair() []api.Table {
	return []api.Table{
		{Name: "acc", Rows: 3, Cols: []api.Col{{Name: "bal", Type: intType}, {Name: "who", Type: textType(3)}}},
		{Name: "on", Rows: 2, Cols: []api.Col{{Name: "yes", Type: boolType}}},
	}
}

// one is a table of so many rows with a number.
func one(rows int) []api.Table {
	return []api.Table{{Name: "t", Rows: rows, Cols: []api.Col{{Name: "a", Type: intType}}}}
}

func acc(n int64, s string) []api.Value { return []api.Value{value.Int(n), value.Text(s)} }
func on(b bool) []api.Value             { return []api.Value{value.Bool(b)} }
func num(n int64) []api.Value           { return []api.Value{value.Int(n)} }

func put(table int, key int64, row []api.Value) api.Change {
	return api.Change{Table: table, Key: key, Row: row}
}

func gone(table int, key int64) api.Change {
	return api.Change{Table: table, Key: key, Gone: true}
}

// say is changes as a text: that they are told as they should be, a row that is gone without values.
func say(l []api.Change) string {
	var parts []string
	for _, c := range l {
		s := strconv.Itoa(c.Table) + ":" + strconv.FormatInt(c.Key, 10) + "="
		if c.Gone {
			s += "gone"
		}
		for _, v := range c.Row {
			s += "(" + value.Print(v) + ")"
		}
		parts = append(parts, s)
	}
	return strings.Join(parts, " ")
}

func wantErr(t *testing.T, what string, got, want api.Errno) {
	t.Helper()
	if got != want {
		t.Errorf("%s: error %d, want %d", what, got, want)
	}
}

func wantAll(t *testing.T, what string, s *store.Store, want string) {
	t.Helper()
	if got := say(s.All()); got != want {
		t.Errorf("%s: rows %q, want %q", what, got, want)
	}
}

func wantChanges(t *testing.T, what string, c *store.Claim, want string) {
	t.Helper()
	if got := say(c.Changes()); got != want {
		t.Errorf("%s: changes %q, want %q", what, got, want)
	}
}

func wantFree(t *testing.T, what string, s *store.Store, want ...int) {
	t.Helper()
	for i, n := range want {
		if got := s.Free(i); got != n {
			t.Errorf("%s: table %d has %d free, want %d", what, i, got, n)
		}
	}
}

func wantHeld(t *testing.T, what string, c *store.Claim, want ...int) {
	t.Helper()
	for i, n := range want {
		if got := c.Held(i); got != n {
			t.Errorf("%s: %d of table %d are held, want %d", what, got, i, n)
		}
	}
}

// apply is Apply of changes that may be.
func apply(t *testing.T, s *store.Store, l ...api.Change) {
	t.Helper()
	for _, c := range l {
		wantErr(t, "apply "+say([]api.Change{c}), s.Apply(c), api.OK)
	}
}

// claim is a Claim that may be.
func claim(t *testing.T, s *store.Store, need ...int) *store.Claim {
	t.Helper()
	c, e := s.Claim(need)
	if e != api.OK || c == nil {
		t.Fatalf("claim of %v: %v, error %d", need, c, e)
	}
	return c
}

// filled is a store of pair with a row in each table.
func filled(t *testing.T) *store.Store {
	t.Helper()
	s := store.New(pair())
	apply(t, s, put(0, 5, acc(7, "bo")), put(1, -2, on(true)))
	return s
}

const filledRows = `0:5=(7)("bo") 1:-2=(true)`

// P7.1: New has the tables, and no rows in them; nil of tables that may not be.
func TestNew(t *testing.T) {
	for _, l := range [][]api.Table{nil, {}, one(1), one(64), pair(), append(pair(), one(64)...)} {
		s := store.New(l)
		if s == nil {
			t.Fatalf("New(%+v) is nil", l)
		}
		wantAll(t, "new", s, "")
		for i, x := range l {
			if s.Len(i) != 0 || s.Free(i) != x.Rows || s.Keys(i, math.MinInt64, math.MaxInt64) != nil {
				t.Errorf("New(%+v): table %d has %d rows, %d free", l, i, s.Len(i), s.Free(i))
			}
			for j, c := range x.Cols {
				if got := s.Cell(i, 9, j); got != value.Zero(c.Type) {
					t.Errorf("New(%+v): cell %d, %d is %v", l, i, j, got)
				}
			}
		}
		wantErr(t, "beyond the tables", s.Apply(gone(len(l), 0)), api.ErrArg)
	}
	var many, wide []api.Table
	for i := range 9 {
		x := one(1)[0]
		x.Name = "t" + strconv.Itoa(i)
		many = append(many, x)
	}
	if store.New(many[:8]) == nil {
		t.Error("eight tables are refused")
	}
	wide = one(1)
	for i := range 8 {
		wide[0].Cols = append(wide[0].Cols, api.Col{Name: "b" + strconv.Itoa(i), Type: intType})
	}
	for _, l := range [][]api.Table{
		many, wide, one(0), one(-1), one(65), append(one(1), one(1)...), {{}}, append(pair(), api.Table{Name: "x", Rows: 1}),
		{{Name: "to", Rows: 1, Cols: pair()[0].Cols}}, {{Name: "x", Rows: 1, Cols: []api.Col{{Name: "a"}}}},
	} {
		if e, _ := schema.Check(l); e == api.OK {
			t.Fatalf("%+v may be", l)
		}
		if store.New(l) != nil {
			t.Errorf("New(%+v) isn't nil", l)
		}
	}
}

// P7.1: the tables that were handed in are neither changed nor kept.
func TestNewKeepsNothing(t *testing.T) {
	l := pair()
	s := store.New(l)
	for i := range l {
		for j := range l[i].Cols {
			l[i].Cols[j] = api.Col{Name: "zzz", Type: textType(9)}
		}
		l[i] = api.Table{Name: "z", Rows: 1}
	}
	apply(t, s, put(0, 1, acc(1, "abc")), put(0, 2, acc(2, "")), put(0, 3, acc(3, "")), put(1, 1, on(true)))
	other := store.New(pair())
	apply(t, other, put(0, 1, acc(1, "abc")), put(0, 2, acc(2, "")), put(0, 3, acc(3, "")), put(1, 1, on(true)))
	if !store.Same(s, other) || !store.Same(s.Clone(), other) {
		t.Error("the store's tables changed with the caller's")
	}
	if got := s.Cell(1, 9, 0); got != value.Bool(false) {
		t.Errorf("the column's zero value is %v", got)
	}
}

// P7.1: Row and Cell, of rows that are there, and of none.
func TestRowAndCell(t *testing.T) {
	s := filled(t)
	for _, c := range []struct {
		table int
		key   int64
		row   []api.Value
	}{
		{0, 5, acc(7, "bo")}, {1, -2, on(true)},
		{0, 4, nil}, {0, 6, nil}, {0, -5, nil}, {0, -2, nil}, {1, 5, nil}, {1, 2, nil}, {0, math.MinInt64, nil}, {1, math.MaxInt64, nil},
		{-1, 5, nil}, {2, 5, nil}, {2, -2, nil}, {math.MinInt, 5, nil}, {math.MaxInt, 5, nil},
	} {
		row, ok := s.Row(c.table, c.key)
		if !schema.Same(row, c.row) || ok != (c.row != nil) {
			t.Errorf("Row(%d, %d) = %v, %v", c.table, c.key, row, ok)
		}
	}
	for _, c := range []struct {
		table int
		key   int64
		col   int
		want  api.Value
	}{
		{0, 5, 0, value.Int(7)}, {0, 5, 1, value.Text("bo")}, {1, -2, 0, value.Bool(true)},
		{0, 4, 0, value.Int(0)}, {0, 4, 1, value.Text("")}, {1, 2, 0, value.Bool(false)}, {1, 5, 0, value.Bool(false)},
		{0, math.MaxInt64, 1, value.Text("")}, {1, math.MinInt64, 0, value.Bool(false)},
		{0, 5, 2, api.Value{}}, {0, 5, -1, api.Value{}}, {0, 4, 2, api.Value{}}, {0, 4, -1, api.Value{}},
		{1, -2, 1, api.Value{}}, {1, 5, 1, api.Value{}}, {0, 5, math.MinInt, api.Value{}}, {0, 5, math.MaxInt, api.Value{}},
		{-1, 5, 0, api.Value{}}, {2, 5, 0, api.Value{}}, {math.MinInt, 5, 0, api.Value{}}, {math.MaxInt, 5, 0, api.Value{}},
	} {
		if got := s.Cell(c.table, c.key, c.col); got != c.want {
			t.Errorf("Cell(%d, %d, %d) = %v, want %v", c.table, c.key, c.col, got, c.want)
		}
	}
}

// P7.1: Keys from lo to hi, both told too, rising; none, if lo is above hi, or there is no such table. Len.
func TestKeys(t *testing.T) {
	s := store.New(append(one(64), pair()...))
	var keys []int64
	for i := range int64(60) {
		keys = append(keys, (i*37%61-30)*3)
	}
	keys = append(keys, math.MinInt64, math.MaxInt64, math.MinInt64+1, math.MaxInt64-1)
	for i, k := range keys {
		apply(t, s, put(0, k, num(k)))
		if s.Len(0) != i+1 || s.Free(0) != 63-i || s.Len(1) != 0 {
			t.Errorf("behind %d rows: %d, %d free", i+1, s.Len(0), s.Free(0))
		}
	}
	slices.Sort(keys)
	edges := []int64{math.MinInt64, math.MinInt64 + 1, -91, -90, -89, -3, -2, -1, 0, 1, 2, 3, 88, 90, 91, math.MaxInt64 - 1, math.MaxInt64}
	for _, lo := range edges {
		for _, hi := range edges {
			var want []int64
			for _, k := range keys {
				if k >= lo && k <= hi {
					want = append(want, k)
				}
			}
			if got := s.Keys(0, lo, hi); !slices.Equal(got, want) {
				t.Errorf("Keys(0, %d, %d) = %v, want %v", lo, hi, got, want)
			}
			for _, table := range []int{1, 2, 3, -1, math.MinInt, math.MaxInt} {
				if got := s.Keys(table, lo, hi); len(got) != 0 {
					t.Errorf("Keys(%d, %d, %d) = %v", table, lo, hi, got)
				}
			}
		}
	}
	for _, table := range []int{-1, 3, math.MinInt, math.MaxInt} {
		if s.Len(table) != 0 || s.Free(table) != 0 {
			t.Errorf("table %d has %d rows, %d free", table, s.Len(table), s.Free(table))
		}
	}
}

// P7.1: Apply of a new row, of one that is there, of one that goes, and of one that isn't and goes.
func TestApply(t *testing.T) {
	s := store.New(pair())
	for _, c := range []struct {
		change api.Change
		want   string
	}{
		{gone(0, 5), ""},
		{put(0, 5, acc(7, "bo")), `0:5=(7)("bo")`},
		{put(1, 5, on(false)), `0:5=(7)("bo") 1:5=(false)`},
		{put(0, -5, acc(0, "")), `0:-5=(0)("") 0:5=(7)("bo") 1:5=(false)`},
		{put(0, 5, acc(-1, "abc")), `0:-5=(0)("") 0:5=(-1)("abc") 1:5=(false)`},
		{put(0, 5, acc(-1, "abc")), `0:-5=(0)("") 0:5=(-1)("abc") 1:5=(false)`},
		{gone(0, 4), `0:-5=(0)("") 0:5=(-1)("abc") 1:5=(false)`},
		{gone(1, -5), `0:-5=(0)("") 0:5=(-1)("abc") 1:5=(false)`},
		{gone(0, -5), `0:5=(-1)("abc") 1:5=(false)`},
		{gone(0, -5), `0:5=(-1)("abc") 1:5=(false)`},
		// Of a row that goes nothing is asked of its values.
		{api.Change{Table: 0, Key: 6, Gone: true, Row: acc(1, "a")}, `0:5=(-1)("abc") 1:5=(false)`},
		{api.Change{Table: 1, Key: 5, Gone: true, Row: acc(1, "a")}, `0:5=(-1)("abc")`},
		{gone(0, 5), ""},
	} {
		what := "apply " + say([]api.Change{c.change})
		wantErr(t, what, s.Apply(c.change), api.OK)
		wantAll(t, what, s, c.want)
	}
}

// P7.1: Apply of what may not be: ErrArg, and nothing is changed.
func TestApplyWrong(t *testing.T) {
	s := filled(t)
	odd := api.Value{Kind: api.KindInt, N: 1, S: "x"}
	for _, c := range []api.Change{
		put(-1, 5, acc(1, "a")), put(2, 5, acc(1, "a")), put(math.MinInt, 5, acc(1, "a")), put(math.MaxInt, 5, acc(1, "a")),
		gone(-1, 5), gone(2, 5), gone(math.MinInt, 5), gone(math.MaxInt, 5),
		put(0, 5, nil), put(0, 5, []api.Value{}), put(0, 5, num(1)), put(0, 5, append(acc(1, "a"), value.Int(1))),
		put(0, 5, acc(1, "abcd")), put(0, 5, on(true)), put(0, 5, []api.Value{value.Text("a"), value.Int(1)}),
		put(0, 5, []api.Value{value.Bool(true), value.Text("a")}), put(0, 5, []api.Value{{}, {}}), put(0, 5, []api.Value{odd, value.Text("")}),
		put(0, 5, acc(1, "a\n")), put(1, -2, num(1)), put(1, -2, nil), put(1, 7, num(0)), put(0, 7, nil), put(1, 7, []api.Value{{Kind: api.KindBool, N: 2}}),
	} {
		wantErr(t, "apply "+say([]api.Change{c}), s.Apply(c), api.ErrArg)
		wantAll(t, "apply "+say([]api.Change{c}), s, filledRows)
		wantFree(t, "apply "+say([]api.Change{c}), s, 2, 1)
	}
}

// P7.1: Apply of one row more than Rows: ErrFull; of one that is there, or goes: OK. That it may not be comes ahead of that.
func TestApplyFull(t *testing.T) {
	for _, n := range []int{1, 2, 3, 63, 64} {
		s := store.New(append(one(n), pair()...))
		for i := range n {
			wantFree(t, "ahead of a row", s, n-i, 3, 2)
			apply(t, s, put(0, int64(i), num(1)))
		}
		was := say(s.All())
		for _, key := range []int64{-1, int64(n), math.MinInt64, math.MaxInt64} {
			wantErr(t, "one more", s.Apply(put(0, key, num(2))), api.ErrFull)
			wantErr(t, "one more that doesn't fit", s.Apply(put(0, key, on(true))), api.ErrArg)
			wantErr(t, "none", s.Apply(gone(0, key)), api.OK)
		}
		wantAll(t, "full", s, was)
		wantFree(t, "full", s, 0, 3, 2)
		apply(t, s, put(0, 0, num(2)), put(1, 9, acc(1, "")), gone(0, 0), put(0, 99, num(3)))
		wantErr(t, "one more", s.Apply(put(0, 0, num(2))), api.ErrFull)
	}
}

// P7.1: Apply asks how many rows there are, not how many are held: what is free is 0 at least.
func TestApplyHeld(t *testing.T) {
	s := store.New(one(2))
	c := claim(t, s, 2)
	wantFree(t, "all held", s, 0)
	apply(t, s, put(0, 1, num(1)))
	wantFree(t, "one more than there is", s, 0)
	apply(t, s, put(0, 2, num(1)))
	wantFree(t, "two more than there are", s, 0)
	wantErr(t, "one more than Rows", s.Apply(put(0, 3, num(1))), api.ErrFull)
	wantHeld(t, "all held", c, 2)
	if _, e := s.Claim([]int{1}); e != api.ErrBusy {
		t.Error(e)
	}
	claim(t, s, 0)
	apply(t, s, gone(0, 1))
	wantFree(t, "one more than there is", s, 0)
	c.Done([]int{1})
	wantFree(t, "all held", s, 0)
	c.Close()
	wantFree(t, "none held", s, 1)
}

// P7.1: what was applied is copied; what is answered is new memory.
func TestCopies(t *testing.T) {
	s := store.New(pair())
	row := make([]api.Value, 2, 5)
	copy(row, acc(7, "bo"))
	spare := row[:5]
	apply(t, s, put(0, 5, row), put(1, -2, on(true)))
	row[0], row[1] = value.Int(8), value.Text("zz")
	wantAll(t, "the caller's row changed", s, filledRows)
	if !slices.Equal(spare[2:], make([]api.Value, 3)) {
		t.Error("spare room was used")
	}
	clone := s.Clone()
	c := claim(t, s, 1, 1)
	wantErr(t, "set", c.Set(0, 5, 0, value.Int(7)), api.OK)
	got, _ := s.Row(0, 5)
	spoil(got)
	for _, l := range [][]api.Change{s.All(), s.Clone().All(), s.Without(c).All(), c.Changes()} {
		for i := range l {
			spoil(l[i].Row)
		}
		spoil(l)
	}
	keys := s.Keys(0, math.MinInt64, math.MaxInt64)
	spoil(keys)
	wantAll(t, "an answer changed", s, filledRows)
	wantAll(t, "an answer changed: the clone", clone, filledRows)
	wantChanges(t, "an answer changed", c, `0:5=(7)("bo")`)
	if got := s.Keys(0, math.MinInt64, math.MaxInt64); !slices.Equal(got, []int64{5}) {
		t.Errorf("an answer changed: keys %v", got)
	}
	c.Back()
	wantAll(t, "back", s, filledRows)
}

// spoil writes zero values over all of l, its spare room too.
func spoil[T any](l []T) {
	clear(l[:cap(l)])
}

// P7.1: Clone has the same rows, no claims, and goes on alone; so does the one that was cloned.
func TestClone(t *testing.T) {
	s := filled(t)
	c := claim(t, s, 2, 1)
	wantErr(t, "set", c.Set(0, 6, 1, value.Text("x")), api.OK)
	clone := s.Clone()
	const rows = `0:5=(7)("bo") 0:6=(0)("x") 1:-2=(true)`
	wantAll(t, "clone", clone, rows)
	wantFree(t, "the one that was cloned", s, 0, 0)
	wantFree(t, "clone", clone, 1, 1)
	wantHeld(t, "the one that was cloned", c, 1, 1)

	apply(t, clone, gone(0, 5), put(1, 9, on(false)), put(0, 6, acc(1, "y")))
	wantAll(t, "the clone changed", s, rows)
	other := claim(t, clone, 1, 0)
	wantErr(t, "set", other.Set(1, -2, 0, value.Bool(false)), api.OK)
	wantErr(t, "del", other.Del(0, 6), api.OK)
	wantAll(t, "the clone's claim changed it", s, rows)
	wantFree(t, "the clone's claim", s, 0, 0)

	wantErr(t, "set", c.Set(0, 5, 0, value.Int(1)), api.OK)
	wantErr(t, "del", c.Del(1, -2), api.OK)
	wantAll(t, "the one that was cloned changed", clone, `1:-2=(false) 1:9=(false)`)
	c.Back()
	wantAll(t, "back", s, filledRows)
	wantAll(t, "the one that was cloned went back", clone, `1:-2=(false) 1:9=(false)`)
	other.Back()
	wantAll(t, "the clone went back", clone, `0:6=(1)("y") 1:-2=(true) 1:9=(false)`)
	c.Close()
	wantFree(t, "the one that was cloned, with no claim", s, 2, 1)
	wantFree(t, "the clone with its claim", clone, 1, 0)
}

// P7.1: All goes table by table, by rising keys, from the least key that may be to the greatest.
func TestAll(t *testing.T) {
	s := store.New(pair())
	wantAll(t, "no rows", s, "")
	apply(t, s, put(1, math.MaxInt64, on(true)), put(0, 0, acc(1, "a")), put(0, math.MaxInt64, acc(2, "")), put(1, -1, on(false)), put(0, math.MinInt64, acc(3, "")))
	wantAll(t, "five rows", s, `0:-9223372036854775808=(3)("") 0:0=(1)("a") 0:9223372036854775807=(2)("") 1:-1=(false) 1:9223372036854775807=(true)`)
	for i, c := range s.All() {
		if c.Gone {
			t.Errorf("%d: %+v", i, c)
		}
	}
	for _, key := range []int64{math.MinInt64, math.MaxInt64} {
		x := s.Clone()
		apply(t, x, gone(0, key))
		if store.Same(s, x) {
			t.Errorf("the same without row %d", key)
		}
	}
	wantAll(t, "no tables", store.New(nil), "")
}

// P7.1: Same asks for tables and rows, not for claims.
func TestSame(t *testing.T) {
	s := filled(t)
	hold := func(t *testing.T, x *store.Store) { claim(t, x, 1, 1) }
	touch := func(t *testing.T, x *store.Store) {
		c := claim(t, x, 1, 1)
		c.Set(0, 9, 0, value.Int(1))
		c.Back()
		c.Set(0, 5, 0, value.Int(7))
		c.Set(1, -2, 0, value.Bool(true))
	}
	again := func(t *testing.T, x *store.Store) {
		apply(t, x, gone(0, 5), put(0, 6, acc(1, "")), gone(0, 6), put(0, 5, acc(7, "bo")))
	}
	for i, f := range []func(*testing.T, *store.Store){func(*testing.T, *store.Store) {}, hold, touch, again} {
		x := filled(t)
		f(t, x)
		if !store.Same(s, x) || !store.Same(x, s) || !store.Same(x, x) || !store.Same(x, x.Clone()) {
			t.Errorf("%d: not the same", i)
		}
	}
	for _, c := range []api.Change{
		gone(0, 5), gone(1, -2), put(0, 5, acc(8, "bo")), put(0, 5, acc(7, "bp")), put(0, 6, acc(7, "bo")), put(1, -2, on(false)), put(1, 0, on(false)),
	} {
		x := filled(t)
		apply(t, x, c)
		if store.Same(s, x) || store.Same(x, s) {
			t.Errorf("the same behind %s", say([]api.Change{c}))
		}
	}
	// As many rows, but at another key, or in another table.
	x, y := store.New(append(one(2), pair()[1])), store.New(append(one(2), pair()[1]))
	apply(t, x, put(0, 5, num(0)))
	apply(t, y, put(0, 6, num(0)))
	if store.Same(x, y) {
		t.Error("the same at another key")
	}
	two := append(one(2), one(2)...)
	two[1].Name = "u"
	x, y = store.New(two), store.New(two)
	apply(t, x, put(0, 5, num(0)))
	apply(t, y, put(1, 5, num(0)))
	if store.Same(x, y) {
		t.Error("the same in another table")
	}
}

// P7.1: Same of stores whose tables are others, though they have no row.
func TestSameTables(t *testing.T) {
	for i, f := range []func([]api.Table) []api.Table{
		func(l []api.Table) []api.Table { return nil },
		func(l []api.Table) []api.Table { return l[:1] },
		func(l []api.Table) []api.Table { return l[1:] },
		func(l []api.Table) []api.Table { return []api.Table{l[1], l[0]} },
		func(l []api.Table) []api.Table { return append(l, one(1)...) },
		func(l []api.Table) []api.Table { l[0].Name = "acd"; return l },
		func(l []api.Table) []api.Table { l[1].Rows = 3; return l },
		func(l []api.Table) []api.Table { l[0].Cols[1].Name = "why"; return l },
		func(l []api.Table) []api.Table { l[0].Cols[1].Type.Max = 4; return l },
		func(l []api.Table) []api.Table { l[1].Cols[0].Type = intType; return l },
		func(l []api.Table) []api.Table { l[0].Cols = l[0].Cols[:1]; return l },
	} {
		x, y := store.New(pair()), store.New(f(pair()))
		if store.Same(x, y) || store.Same(y, x) {
			t.Errorf("%d: the same", i)
		}
	}
	if !store.Same(store.New(nil), store.New([]api.Table{})) {
		t.Error("stores without tables are not the same")
	}
}

// P7.4: of a nil Store.
func TestNilStore(t *testing.T) {
	var s *store.Store
	if row, ok := s.Row(0, 1); row != nil || ok {
		t.Error("row")
	}
	if s.Cell(0, 1, 0) != (api.Value{}) || s.Keys(0, 0, 9) != nil || s.Len(0) != 0 || s.Free(0) != 0 || s.All() != nil {
		t.Error("a nil store has something")
	}
	for _, c := range []api.Change{put(0, 1, num(1)), gone(0, 1), put(-1, 1, nil), {}} {
		wantErr(t, "apply", s.Apply(c), api.ErrState)
	}
	for _, need := range [][]int{nil, {}, {0}, {1}, {-1}, make([]int, 99)} {
		if c, e := s.Claim(need); c != nil || e != api.ErrState {
			t.Errorf("Claim(%v) = %v, %d", need, c, e)
		}
	}
	full := filled(t)
	if s.Clone() != nil || s.Without() != nil || s.Without(nil, claim(t, full, 1)) != nil {
		t.Error("a nil store has a clone")
	}
	if !store.Same(nil, nil) || !store.Same(s, s.Clone()) {
		t.Error("nil stores are not the same")
	}
	for _, x := range []*store.Store{full, store.New(pair()), store.New(nil)} {
		if store.Same(nil, x) || store.Same(x, nil) {
			t.Error("nil and a store are the same")
		}
	}
}
