package store_test

import (
	"math"
	"slices"
	"testing"

	"billhook/api"
	"billhook/store"
	"billhook/value"
)

// P7.2: Claim holds what is needed; what is lacking is 0.
func TestClaim(t *testing.T) {
	for _, x := range []struct {
		need []int
		held [2]int
	}{
		{nil, [2]int{}}, {[]int{}, [2]int{}}, {[]int{0}, [2]int{}}, {[]int{0, 0}, [2]int{}},
		{[]int{1}, [2]int{1, 0}}, {[]int{0, 1}, [2]int{0, 1}}, {[]int{2}, [2]int{2, 0}}, {[]int{2, 1}, [2]int{2, 1}}, {[]int{1, 1}, [2]int{1, 1}},
	} {
		s := filled(t)
		was := slices.Clone(x.need)
		c := claim(t, s, x.need...)
		if !slices.Equal(was, x.need) {
			t.Errorf("Claim changed %v into %v", was, x.need)
		}
		wantHeld(t, "claim", c, x.held[0], x.held[1])
		wantFree(t, "claim", s, 2-x.held[0], 1-x.held[1])
		wantAll(t, "claim", s, filledRows)
		wantChanges(t, "claim", c, "")
		for _, table := range []int{-1, 2, 3, math.MinInt, math.MaxInt} {
			wantHeld(t, "no such table", c)
			if got := c.Held(table); got != 0 {
				t.Errorf("%d of table %d are held", got, table)
			}
		}
	}
}

// P7.2: Claim with a need that is longer than the tables, or has a number below 0 (ErrArg), or more than is free (ErrBusy): in that order; nothing is held.
func TestClaimWrong(t *testing.T) {
	s := filled(t)
	for _, x := range []struct {
		need []int
		e    api.Errno
	}{
		{[]int{0, 0, 0}, api.ErrArg}, {[]int{1, 1, 1}, api.ErrArg}, {[]int{9, 9, 9}, api.ErrArg}, {make([]int, 99), api.ErrArg},
		{[]int{-1}, api.ErrArg}, {[]int{0, -1}, api.ErrArg}, {[]int{-1, 9}, api.ErrArg}, {[]int{9, -1}, api.ErrArg}, {[]int{math.MinInt}, api.ErrArg},
		{[]int{3}, api.ErrBusy}, {[]int{0, 2}, api.ErrBusy}, {[]int{2, 2}, api.ErrBusy}, {[]int{3, 1}, api.ErrBusy}, {[]int{3, 2}, api.ErrBusy},
		{[]int{math.MaxInt}, api.ErrBusy}, {[]int{2, math.MaxInt}, api.ErrBusy}, {[]int{math.MaxInt, math.MaxInt}, api.ErrBusy},
	} {
		if c, e := s.Claim(x.need); c != nil || e != x.e {
			t.Errorf("Claim(%v) = %v, %d, want error %d", x.need, c, e, x.e)
		}
		wantFree(t, "a claim was refused", s, 2, 1)
	}
	none := store.New(nil)
	claim(t, none)
	if c, e := none.Claim([]int{0}); c != nil || e != api.ErrArg {
		t.Errorf("of no table: %v, %d", c, e)
	}
}

// P7.2: a Claim of just what is free, beside other claims; of one more.
func TestClaimFree(t *testing.T) {
	for rows := range 4 {
		for ahead := range 4 - rows {
			s := store.New(one(3))
			for i := range rows {
				apply(t, s, put(0, int64(i), num(1)))
			}
			a := claim(t, s, ahead)
			free := 3 - rows - ahead
			wantFree(t, "beside a claim", s, free)
			if c, e := s.Claim([]int{free + 1}); c != nil || e != api.ErrBusy {
				t.Errorf("%d rows, %d held: one more than is free: %v, %d", rows, ahead, c, e)
			}
			b := claim(t, s, free)
			wantFree(t, "all held", s, 0)
			wantHeld(t, "the first", a, ahead)
			wantHeld(t, "the second", b, free)
			claim(t, s, 0)
			claim(t, s)
			b.Close()
			wantFree(t, "the second closed", s, free)
			claim(t, s, free)
		}
	}
}

// P7.2: Set of a row that is there: its cell alone is another one, and nothing is taken.
func TestSet(t *testing.T) {
	s := filled(t)
	c := claim(t, s)
	for _, x := range []struct {
		table, col int
		key        int64
		v          api.Value
		want       string
	}{
		{0, 0, 5, value.Int(8), `0:5=(8)("bo") 1:-2=(true)`},
		{0, 1, 5, value.Text("abc"), `0:5=(8)("abc") 1:-2=(true)`},
		{0, 1, 5, value.Text(""), `0:5=(8)("") 1:-2=(true)`},
		{1, 0, -2, value.Bool(false), `0:5=(8)("") 1:-2=(false)`},
		{1, 0, -2, value.Bool(false), `0:5=(8)("") 1:-2=(false)`},
		{0, 0, 5, value.Int(math.MinInt64), `0:5=(-9223372036854775808)("") 1:-2=(false)`},
	} {
		wantErr(t, "set", c.Set(x.table, x.key, x.col, x.v), api.OK)
		wantAll(t, "set", s, x.want)
		wantHeld(t, "set", c, 0, 0)
		wantFree(t, "set", s, 2, 1)
	}
}

// P7.2: Set of a row that isn't there adds a zero row first, which takes one of those that are held; ErrFull, if none is.
func TestSetAdds(t *testing.T) {
	s := filled(t)
	c := claim(t, s, 2, 0)
	wantErr(t, "first", c.Set(0, 9, 1, value.Text("x")), api.OK)
	wantAll(t, "first", s, `0:5=(7)("bo") 0:9=(0)("x") 1:-2=(true)`)
	wantHeld(t, "first", c, 1, 0)
	wantFree(t, "first", s, 0, 1)
	wantErr(t, "the same row", c.Set(0, 9, 0, value.Int(3)), api.OK)
	wantErr(t, "second", c.Set(0, math.MinInt64, 0, value.Int(0)), api.OK)
	const full = `0:-9223372036854775808=(0)("") 0:5=(7)("bo") 0:9=(3)("x") 1:-2=(true)`
	wantAll(t, "second", s, full)
	wantHeld(t, "second", c, 0, 0)
	wantErr(t, "third", c.Set(0, 1, 0, value.Int(0)), api.ErrFull)
	// Though the other table has room, none of it is held.
	wantErr(t, "of the other table", c.Set(1, 1, 0, value.Bool(true)), api.ErrFull)
	wantErr(t, "what doesn't fit", c.Set(0, 1, 0, value.Bool(true)), api.ErrArg)
	wantErr(t, "no such column", c.Set(0, 1, 2, value.Int(0)), api.ErrArg)
	wantErr(t, "of a row that is there", c.Set(0, 9, 0, value.Int(3)), api.OK)
	wantAll(t, "refused", s, full)
	wantHeld(t, "refused", c, 0, 0)
	wantFree(t, "refused", s, 0, 1)
	wantChanges(t, "refused", c, `0:-9223372036854775808=(0)("") 0:9=(3)("x")`)
}

// P7.2: a Set that adds a row with nothing held, on a table with room; what others hold doesn't help.
func TestSetNotHeld(t *testing.T) {
	s := store.New(one(3))
	other := claim(t, s, 1)
	c := claim(t, s)
	wantErr(t, "nothing held", c.Set(0, 1, 0, value.Int(1)), api.ErrFull)
	wantAll(t, "nothing held", s, "")
	wantChanges(t, "nothing held", c, "")
	wantFree(t, "nothing held", s, 2)
	wantErr(t, "the other one", other.Set(0, 1, 0, value.Int(1)), api.OK)
	wantFree(t, "the other one", s, 2)
}

// P7.2: Set of no such column or table, or of a value that doesn't fit: ErrArg, and nothing is changed.
func TestSetWrong(t *testing.T) {
	s := filled(t)
	c := claim(t, s, 1, 1)
	for _, x := range []struct {
		table, col int
		key        int64
		v          api.Value
	}{
		{-1, 0, 5, value.Int(1)}, {2, 0, 5, value.Int(1)}, {math.MinInt, 0, 5, value.Int(1)}, {math.MaxInt, 0, 5, value.Int(1)},
		{0, -1, 5, value.Int(1)}, {0, 2, 5, value.Int(1)}, {0, math.MinInt, 5, value.Int(1)}, {0, math.MaxInt, 5, value.Int(1)},
		{1, 1, -2, value.Bool(true)}, {1, -1, -2, value.Bool(true)}, {0, 2, 9, value.Int(1)}, {1, 1, 9, value.Bool(true)},
		{0, 0, 5, value.Text("a")}, {0, 0, 5, value.Bool(true)}, {0, 0, 5, api.Value{}}, {0, 0, 5, api.Value{Kind: api.KindInt, S: "x"}},
		{0, 1, 5, value.Int(1)}, {0, 1, 5, value.Text("abcd")}, {0, 1, 5, value.Text("\x7f")}, {0, 1, 9, value.Text("abcd")},
		{1, 0, -2, value.Int(1)}, {1, 0, -2, api.Value{Kind: api.KindBool, N: 2}}, {1, 0, 9, value.Int(1)},
	} {
		wantErr(t, "set", c.Set(x.table, x.key, x.col, x.v), api.ErrArg)
		wantAll(t, "set", s, filledRows)
		wantHeld(t, "set", c, 1, 1)
		wantFree(t, "set", s, 1, 0)
		wantChanges(t, "set", c, "")
	}
}

// P7.2: Del takes the row away, and one more is held; then a Set of the same row takes it again.
func TestDel(t *testing.T) {
	s := filled(t)
	c := claim(t, s)
	wantErr(t, "del", c.Del(0, 5), api.OK)
	wantAll(t, "del", s, `1:-2=(true)`)
	wantHeld(t, "del", c, 1, 0)
	wantFree(t, "del", s, 2, 1)
	wantErr(t, "once more", c.Del(0, 5), api.ErrNone)
	wantHeld(t, "once more", c, 1, 0)
	wantErr(t, "set", c.Set(0, 5, 1, value.Text("z")), api.OK)
	// Nothing is left of what it was ahead of the Del.
	wantAll(t, "set", s, `0:5=(0)("z") 1:-2=(true)`)
	wantHeld(t, "set", c, 0, 0)
	wantFree(t, "set", s, 2, 1)
	wantErr(t, "another row", c.Set(0, 6, 0, value.Int(1)), api.ErrFull)
	wantErr(t, "del", c.Del(0, 5), api.OK)
	wantErr(t, "another row", c.Set(0, 6, 0, value.Int(1)), api.OK)
	wantAll(t, "another row", s, `0:6=(1)("") 1:-2=(true)`)
	wantErr(t, "del", c.Del(1, -2), api.OK)
	wantErr(t, "del", c.Del(0, 6), api.OK)
	wantAll(t, "all gone", s, "")
	wantHeld(t, "all gone", c, 1, 1)
	wantFree(t, "all gone", s, 2, 1)
}

// P7.2: Del of no such table (ErrArg), and of no row (ErrNone): nothing is changed.
func TestDelWrong(t *testing.T) {
	s := filled(t)
	c := claim(t, s, 1)
	for _, x := range []struct {
		table int
		key   int64
		e     api.Errno
	}{
		{-1, 5, api.ErrArg}, {2, 5, api.ErrArg}, {math.MinInt, 5, api.ErrArg}, {math.MaxInt, 5, api.ErrArg},
		{0, 4, api.ErrNone}, {0, -2, api.ErrNone}, {1, 5, api.ErrNone}, {1, 2, api.ErrNone}, {0, math.MinInt64, api.ErrNone}, {1, math.MaxInt64, api.ErrNone},
	} {
		wantErr(t, "del", c.Del(x.table, x.key), x.e)
		wantAll(t, "del", s, filledRows)
		wantHeld(t, "del", c, 1, 0)
		wantFree(t, "del", s, 1, 1)
		wantChanges(t, "del", c, "")
	}
}

// P7.3: Changes are of each row that was touched, once, as it is now, table by table, by rising keys; also of one that is as it was.
func TestChanges(t *testing.T) {
	s := filled(t)
	c := claim(t, s, 1, 1)
	for _, x := range []struct {
		do   func() api.Errno
		want string
	}{
		{func() api.Errno { return c.Set(1, 7, 0, value.Bool(false)) }, `1:7=(false)`},
		{func() api.Errno { return c.Set(0, 5, 0, value.Int(7)) }, `0:5=(7)("bo") 1:7=(false)`},
		{func() api.Errno { return c.Del(1, -2) }, `0:5=(7)("bo") 1:-2=gone 1:7=(false)`},
		{func() api.Errno { return c.Set(0, -9, 1, value.Text("q")) }, `0:-9=(0)("q") 0:5=(7)("bo") 1:-2=gone 1:7=(false)`},
		{func() api.Errno { return c.Del(0, -9) }, `0:-9=gone 0:5=(7)("bo") 1:-2=gone 1:7=(false)`},
		{func() api.Errno { return c.Set(0, 5, 1, value.Text("")) }, `0:-9=gone 0:5=(7)("") 1:-2=gone 1:7=(false)`},
		{func() api.Errno { return c.Del(0, 5) }, `0:-9=gone 0:5=gone 1:-2=gone 1:7=(false)`},
		{func() api.Errno { return c.Set(0, 5, 0, value.Int(1)) }, `0:-9=gone 0:5=(1)("") 1:-2=gone 1:7=(false)`},
	} {
		wantErr(t, x.want, x.do(), api.OK)
		wantChanges(t, "step", c, x.want)
	}
}

// P7.3: Changes of many rows; of rows that Apply changed, which alone touches nothing.
func TestChangesMany(t *testing.T) {
	s := store.New(append(pair(), one(64)...))
	c := claim(t, s, 1, 1, 40)
	want := ""
	for i := range int64(40) {
		wantErr(t, "set", c.Set(2, i*17%40-20, 0, value.Int(i)), api.OK)
	}
	for i := range int64(40) {
		row, _ := s.Row(2, i-20)
		want += " " + say([]api.Change{put(2, i-20, row)})
	}
	wantChanges(t, "many", c, want[1:])
	c.Done([]int{1, 1})
	wantChanges(t, "done", c, "")
	apply(t, s, put(0, 5, acc(7, "bo")))
	wantErr(t, "set", c.Set(0, 5, 0, value.Int(2)), api.OK)
	apply(t, s, put(0, 5, acc(3, "x")), put(0, 4, acc(5, "y")), put(2, 1, num(1)), gone(2, 0))
	wantChanges(t, "applied", c, `0:5=(3)("x")`)
	apply(t, s, gone(0, 5))
	wantChanges(t, "applied", c, `0:5=gone`)
	c.Back()
	wantChanges(t, "back", c, "")
	if row, _ := s.Row(0, 5); !slices.Equal(row, acc(7, "bo")) {
		t.Errorf("back: %v", row)
	}
}

// P7.3, P7.5: Back, of rows that were changed, added, taken away, and several of these one behind the other.
func TestBack(t *testing.T) {
	s := filled(t)
	c := claim(t, s, 2, 1)
	was := s.Clone()
	c.Back()
	wantHeld(t, "back of nothing", c, 2, 1)
	for i, do := range []func(){
		func() {},
		func() { c.Set(0, 5, 0, value.Int(8)); c.Set(0, 5, 0, value.Int(9)); c.Set(0, 5, 1, value.Text("")) },
		func() { c.Set(0, 6, 0, value.Int(8)); c.Set(0, 6, 1, value.Text("a")) },
		func() { c.Del(0, 5) },
		func() { c.Del(0, 5); c.Set(0, 5, 0, value.Int(1)) },
		func() { c.Del(0, 5); c.Set(0, 5, 0, value.Int(1)); c.Del(0, 5) },
		func() { c.Set(0, 6, 0, value.Int(8)); c.Del(0, 6) },
		func() { c.Set(0, 6, 0, value.Int(8)); c.Del(0, 6); c.Set(0, 6, 0, value.Int(9)) },
		func() { c.Set(0, 5, 0, value.Int(8)); c.Del(0, 5); c.Del(1, -2); c.Set(1, 3, 0, value.Bool(true)) },
		func() {
			c.Set(0, 1, 0, value.Int(8))
			c.Set(0, 2, 0, value.Int(8))
			c.Del(0, 5)
			c.Set(0, 3, 0, value.Int(8))
		},
		func() { c.Set(0, 1, 0, value.Bool(true)); c.Del(0, 1); c.Del(7, 1) },
	} {
		do()
		c.Back()
		if !store.Same(s, was) {
			t.Errorf("%d: back, and %s", i, say(s.All()))
		}
		wantHeld(t, "back", c, 2, 1)
		wantFree(t, "back", s, 0, 0)
		wantChanges(t, "back", c, "")
		c.Back()
		wantAll(t, "back once more", s, filledRows)
	}
}

// P7.3: a Back behind a Done comes back to the Done, not to the making; so does one behind a Back.
func TestBackBehindDone(t *testing.T) {
	s := filled(t)
	c := claim(t, s, 2, 1)
	c.Set(0, 6, 0, value.Int(6))
	c.Del(1, -2)
	c.Done([]int{1, 2})
	const done = `0:5=(7)("bo") 0:6=(6)("")`
	wantAll(t, "done", s, done)
	wantHeld(t, "done", c, 1, 2)
	c.Back()
	wantAll(t, "back behind done", s, done)
	wantHeld(t, "back behind done", c, 1, 2)
	c.Del(0, 6)
	c.Set(0, 5, 0, value.Int(1))
	c.Set(1, -2, 0, value.Bool(false))
	c.Back()
	wantAll(t, "back of what came behind", s, done)
	wantHeld(t, "back of what came behind", c, 1, 2)
	c.Set(0, 8, 0, value.Int(8))
	c.Done([]int{0, 1})
	wantHeld(t, "done", c, 0, 1)
	wantFree(t, "done", s, 0, 1)
	c.Del(0, 6)
	wantHeld(t, "del", c, 1, 1)
	c.Back()
	wantAll(t, "back", s, `0:5=(7)("bo") 0:6=(6)("") 0:8=(8)("")`)
	wantHeld(t, "back", c, 0, 1)
	wantFree(t, "back", s, 0, 1)
}

// P7.3: Done holds no more than is needed; what is lacking, or below 0, is 0; what is needed beyond what is held, or beyond the tables, isn't got.
func TestDone(t *testing.T) {
	for _, x := range []struct {
		need []int
		held [2]int
	}{
		{nil, [2]int{0, 0}}, {[]int{}, [2]int{0, 0}}, {[]int{0}, [2]int{0, 0}}, {[]int{1}, [2]int{1, 0}}, {[]int{2}, [2]int{2, 0}}, {[]int{3}, [2]int{2, 0}},
		{[]int{0, 1}, [2]int{0, 1}}, {[]int{1, 2}, [2]int{1, 1}}, {[]int{9, 9}, [2]int{2, 1}}, {[]int{math.MaxInt, math.MaxInt}, [2]int{2, 1}},
		{[]int{-1, 1}, [2]int{0, 1}}, {[]int{1, -1}, [2]int{1, 0}}, {[]int{math.MinInt, math.MinInt}, [2]int{0, 0}},
		{[]int{2, 1, 5}, [2]int{2, 1}}, {[]int{1, 0, -5, 9}, [2]int{1, 0}},
	} {
		s := filled(t)
		c := claim(t, s, 2, 1)
		was := slices.Clone(x.need)
		c.Done(x.need)
		if !slices.Equal(was, x.need) {
			t.Errorf("Done changed %v into %v", was, x.need)
		}
		wantHeld(t, "done", c, x.held[0], x.held[1])
		wantFree(t, "done", s, 2-x.held[0], 1-x.held[1])
		wantAll(t, "done", s, filledRows)
		// What a Del gave is held as well, till the Done.
		c.Del(0, 5)
		wantHeld(t, "del", c, x.held[0]+1, x.held[1])
		c.Done(x.need)
		n := 0
		if len(x.need) > 0 {
			n = min(max(x.need[0], 0), x.held[0]+1)
		}
		wantHeld(t, "del, and done", c, n, x.held[1])
		wantFree(t, "del, and done", s, 3-n, 1-x.held[1])
		c.Back()
		wantAll(t, "for good", s, `1:-2=(true)`)
		wantHeld(t, "for good", c, n, x.held[1])
	}
}

// P7.3: the caller may change need behind a Claim, and behind a Done.
func TestNeedIsNotKept(t *testing.T) {
	s := store.New(one(3))
	need := []int{2}
	c, _ := s.Claim(need)
	need[0] = 0
	wantHeld(t, "claim", c, 2)
	c.Set(0, 1, 0, value.Int(1))
	c.Back()
	wantHeld(t, "back", c, 2)
	need[0] = 1
	c.Done(need)
	need[0] = 0
	c.Set(0, 1, 0, value.Int(1))
	c.Back()
	wantHeld(t, "back", c, 1)
}

// P7.3: Close leaves what was changed, and holds nothing; whatever is done to the claim behind that does nothing.
func TestClose(t *testing.T) {
	s := filled(t)
	c := claim(t, s, 2, 1)
	c.Set(0, 6, 0, value.Int(6))
	c.Del(1, -2)
	c.Close()
	for range 2 {
		const rows = `0:5=(7)("bo") 0:6=(6)("")`
		look := func(what string) {
			t.Helper()
			wantAll(t, what, s, rows)
			wantAll(t, what+", without", s.Without(c), rows)
			wantFree(t, what, s, 1, 2)
			wantHeld(t, what, c, 0, 0, 0)
			wantChanges(t, what, c, "")
		}
		look("close")
		for _, x := range []struct {
			table, col int
			key        int64
			v          api.Value
		}{{0, 0, 5, value.Int(1)}, {0, 0, 9, value.Int(1)}, {0, 9, 5, value.Int(1)}, {-1, 0, 5, value.Int(1)}, {0, 0, 5, value.Bool(true)}, {0, 0, 0, api.Value{}}} {
			wantErr(t, "set", c.Set(x.table, x.key, x.col, x.v), api.ErrState)
			look("set")
		}
		for _, table := range []int{0, 1, 2, -1} {
			for _, key := range []int64{5, 6, 9} {
				wantErr(t, "del", c.Del(table, key), api.ErrState)
				look("del")
			}
		}
		c.Back()
		look("back")
		c.Done(nil)
		look("done")
		c.Done([]int{5, 5, 5})
		look("done")
		if c.Held(-1) != 0 || c.Held(math.MaxInt) != 0 {
			t.Error("held")
		}
		c.Close()
		look("close")
		// Others come and go as if it had never been.
		other := claim(t, s, 1, 2)
		other.Close()
	}
}

// P7.3: Close of a claim behind a Back leaves nothing of it.
func TestCloseBehindBack(t *testing.T) {
	s := filled(t)
	c := claim(t, s, 2, 1)
	c.Set(0, 6, 0, value.Int(6))
	c.Back()
	c.Close()
	wantAll(t, "close", s, filledRows)
	wantFree(t, "close", s, 2, 1)
}

// P7.3: Without is a clone in which what some claims touched is as it was, since their making, Done or Back; the store itself stays.
func TestWithout(t *testing.T) {
	s := filled(t)
	a, b := claim(t, s, 1, 0), claim(t, s, 1, 1)
	if x := s.Without(); !store.Same(x, s) || x == s || x.Free(0) != 2 || x.Free(1) != 1 {
		t.Error("without nothing")
	}
	wantAll(t, "nothing touched", s.Without(a, b), filledRows)
	a.Set(0, 5, 0, value.Int(8))
	a.Set(0, 5, 1, value.Text("z"))
	a.Set(0, 1, 0, value.Int(1))
	b.Del(1, -2)
	b.Set(1, 3, 0, value.Bool(true))
	b.Set(0, 2, 0, value.Int(2))
	b.Del(0, 2)
	b.Set(0, 2, 0, value.Int(3))
	const now = `0:1=(1)("") 0:2=(3)("") 0:5=(8)("z") 1:3=(true)`
	for i, x := range []struct {
		l    []*store.Claim
		want string
	}{
		{nil, now}, {[]*store.Claim{nil}, now}, {[]*store.Claim{nil, nil}, now},
		{[]*store.Claim{a}, `0:2=(3)("") 0:5=(7)("bo") 1:3=(true)`},
		{[]*store.Claim{a, a}, `0:2=(3)("") 0:5=(7)("bo") 1:3=(true)`},
		{[]*store.Claim{b}, `0:1=(1)("") 0:5=(8)("z") 1:-2=(true)`},
		{[]*store.Claim{nil, b}, `0:1=(1)("") 0:5=(8)("z") 1:-2=(true)`},
		{[]*store.Claim{a, b}, filledRows}, {[]*store.Claim{b, a}, filledRows}, {[]*store.Claim{b, nil, a, b}, filledRows},
	} {
		w := s.Without(x.l...)
		if got := say(w.All()); got != x.want {
			t.Errorf("%d: %q, want %q", i, got, x.want)
		}
		wantFree(t, "a clone has no claims", w, 3-w.Len(0), 2-w.Len(1))
		w.Apply(put(0, 5, acc(0, "")))
		w.Apply(gone(1, 3))
		wantAll(t, "the store", s, now)
		wantHeld(t, "the first", a, 0, 0)
		wantHeld(t, "the second", b, 0, 1)
		wantFree(t, "the store", s, 0, 0)
	}
	wantChanges(t, "the first", a, `0:1=(1)("") 0:5=(8)("z")`)
	a.Done(nil)
	wantAll(t, "one is done", s.Without(a, b), `0:1=(1)("") 0:5=(8)("z") 1:-2=(true)`)
	a.Set(0, 5, 0, value.Int(9))
	wantAll(t, "since the last Done", s.Without(a), `0:1=(1)("") 0:2=(3)("") 0:5=(8)("z") 1:3=(true)`)
	b.Back()
	wantAll(t, "one is back", s.Without(b), `0:1=(1)("") 0:5=(9)("z") 1:-2=(true)`)
	a.Close()
	wantAll(t, "one is closed", s.Without(a, b), `0:1=(1)("") 0:5=(9)("z") 1:-2=(true)`)
}

// P7.3: what a claim on another store touched isn't touched in this one.
func TestWithoutForeign(t *testing.T) {
	s := filled(t)
	clone := s.Clone()
	c := claim(t, s, 1, 1)
	c.Set(0, 5, 0, value.Int(8))
	c.Set(1, 9, 0, value.Bool(true))
	apply(t, clone, put(0, 5, acc(9, "")), put(1, 9, on(true)))
	wantAll(t, "a clone", clone.Without(c), `0:5=(9)("") 1:-2=(true) 1:9=(true)`)
	small := store.New(one(1))
	apply(t, small, put(0, 5, num(1)))
	wantAll(t, "other tables", small.Without(c), "0:5=(1)")
	wantAll(t, "no tables", store.New(nil).Without(c), "")
}

// P7.4: of a nil Claim.
func TestNilClaim(t *testing.T) {
	var c *store.Claim
	wantErr(t, "set", c.Set(0, 1, 0, value.Int(1)), api.ErrState)
	wantErr(t, "set of nothing", c.Set(-1, 1, -1, api.Value{}), api.ErrState)
	wantErr(t, "del", c.Del(0, 1), api.ErrState)
	wantErr(t, "del of nothing", c.Del(-1, 1), api.ErrState)
	c.Back()
	c.Done(nil)
	c.Done([]int{1})
	c.Close()
	if c.Changes() != nil || c.Held(0) != 0 || c.Held(-1) != 0 {
		t.Error("a nil claim has something")
	}
	s := filled(t)
	wantAll(t, "without", s.Without(c), filledRows)
}

// P7.6: who holds so many rows can add them, whatever others do.
func TestHeldCanBeAdded(t *testing.T) {
	s := store.New(one(64))
	var l []*store.Claim
	for n := 1; n <= 10; n++ {
		l = append(l, claim(t, s, n))
	}
	wantFree(t, "all claims", s, 9)
	greedy := claim(t, s, 9)
	for i := range int64(9) {
		wantErr(t, "greedy", greedy.Set(0, -1-i, 0, value.Int(i)), api.OK)
	}
	for i, c := range l {
		for j := range i + 1 {
			wantErr(t, "held", c.Set(0, int64(100*i+j), 0, value.Int(1)), api.OK)
		}
		wantErr(t, "not held", c.Set(0, int64(100*i+i+1), 0, value.Int(1)), api.ErrFull)
	}
	if s.Len(0) != 64 || s.Free(0) != 0 {
		t.Errorf("%d rows, %d free", s.Len(0), s.Free(0))
	}
	for i, c := range l {
		c.Back()
		wantHeld(t, "back", c, i+1)
	}
	if s.Len(0) != 9 || s.Free(0) != 0 {
		t.Errorf("%d rows, %d free", s.Len(0), s.Free(0))
	}
}

// Example 1.
func TestExample(t *testing.T) {
	s := store.New(one(2))
	c := claim(t, s, 1)
	wantFree(t, "claim", s, 1)
	wantErr(t, "set", c.Set(0, 5, 0, value.Int(3)), api.OK)
	wantHeld(t, "set", c, 0)
	c.Back()
	wantHeld(t, "back", c, 1)
	wantAll(t, "back", s, "")
}
