package store

import (
	"cmp"
	"maps"
	"slices"

	"billhook/api"
	"billhook/schema"
	"billhook/value"
)

// Claim is rows that somebody may add, and what they changed.
type Claim struct {
	store   *Store               // nil, when it is closed
	held    []int                // of each table
	first   []int                // what was held when nothing was touched yet
	touched map[spot][]api.Value // what was there ahead of the first touch; nil: no row
}

// spot is where a row stands, or none.
type spot struct {
	table int
	key   int64
}

// change answers the row there as a change; nil: there is none.
func (at spot) change(row []api.Value) api.Change {
	return api.Change{Table: at.table, Key: at.key, Gone: row == nil, Row: slices.Clone(row)}
}

// Claim answers a claim that holds so many rows of each table.
func (s *Store) Claim(need []int) (*Claim, api.Errno) {
	if s == nil {
		return nil, api.ErrState
	}
	if len(need) > len(s.shelves) || slices.ContainsFunc(need, func(n int) bool { return n < 0 }) {
		return nil, api.ErrArg
	}
	for i, n := range need {
		if n > s.Free(i) {
			return nil, api.ErrBusy
		}
	}
	c := &Claim{store: s, held: make([]int, len(s.shelves)), touched: map[spot][]api.Value{}}
	for i, n := range need {
		c.hold(i, n)
	}
	c.begin()
	return c, api.OK
}

// open tells whether there is a claim, and it isn't closed.
func (c *Claim) open() bool {
	return c != nil && c.store != nil
}

// hold has n rows of the table held.
func (c *Claim) hold(table, n int) {
	c.store.shelves[table].held += n - c.held[table]
	c.held[table] = n
}

// begin makes what is there, and is held, what Back comes back to.
func (c *Claim) begin() {
	clear(c.touched)
	c.first = slices.Clone(c.held)
}

// touch has the row there; nil: none.
func (c *Claim) touch(at spot, row []api.Value) {
	f := c.store.shelves[at.table]
	if _, again := c.touched[at]; !again {
		c.touched[at], _ = f.rows.Get(at.key)
	}
	f.lay(at.key, row)
}

// each goes over what was touched, table by table, by rising keys, with what was there.
func (c *Claim) each(do func(at spot, was []api.Value)) {
	spots := slices.SortedFunc(maps.Keys(c.touched), func(a, b spot) int {
		return cmp.Or(cmp.Compare(a.table, b.table), cmp.Compare(a.key, b.key))
	})
	for _, at := range spots {
		do(at, c.touched[at])
	}
}

// Set makes v the cell's value, in a row that is added, if there is none.
func (c *Claim) Set(table int, key int64, col int, v api.Value) api.Errno {
	if !c.open() {
		return api.ErrState
	}
	f := c.store.shelf(table)
	if !f.hasCol(col) || !value.Fits(v, f.table.Cols[col].Type) {
		return api.ErrArg
	}
	row, there := c.store.Row(table, key)
	if !there {
		if c.held[table] == 0 {
			return api.ErrFull
		}
		c.hold(table, c.held[table]-1)
		row = schema.Zero(f.table)
	}
	row[col] = v
	c.touch(spot{table, key}, row)
	return api.OK
}

// Del takes the row away; one more is held for it.
func (c *Claim) Del(table int, key int64) api.Errno {
	if !c.open() {
		return api.ErrState
	}
	f := c.store.shelf(table)
	if f == nil {
		return api.ErrArg
	}
	if _, there := f.rows.Get(key); !there {
		return api.ErrNone
	}
	c.touch(spot{table, key}, nil)
	c.hold(table, c.held[table]+1)
	return api.OK
}

// Changes answers what was touched, as it is now.
func (c *Claim) Changes() []api.Change {
	if !c.open() {
		return nil
	}
	var l []api.Change
	c.each(func(at spot, _ []api.Value) {
		row, _ := c.store.Row(at.table, at.key)
		l = append(l, at.change(row))
	})
	return l
}

// Back makes all that was touched, and all that is held, as it was.
func (c *Claim) Back() {
	if !c.open() {
		return
	}
	c.each(c.store.back)
	for i, n := range c.first {
		c.hold(i, n)
	}
	c.begin()
}

// Done leaves all that was touched as it is, and holds no more of each table than is needed.
func (c *Claim) Done(need []int) {
	if !c.open() {
		return
	}
	for i, n := range c.held {
		most := 0
		if i < len(need) {
			most = max(need[i], 0)
		}
		c.hold(i, min(n, most))
	}
	c.begin()
}

// Held answers how many rows of the table are held.
func (c *Claim) Held(table int) int {
	if !c.open() || table < 0 || table >= len(c.held) {
		return 0
	}
	return c.held[table]
}

// Close is Done with nothing held; the claim does nothing any more.
func (c *Claim) Close() {
	if !c.open() {
		return
	}
	c.Done(nil)
	*c = Claim{}
}
