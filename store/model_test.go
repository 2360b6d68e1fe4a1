package store_test

import (
	"maps"
	"math"
	"slices"
	"strconv"
	"strings"
	"testing"

	"billhook/api"
	"billhook/store"
	"billhook/value"
)

// A model is a store said once more, in the plainest way: rows in a map, and of each claim all that it did, to be undone one by one from the last on.
type model struct {
	tables []api.Table
	rows   map[place]string
	claims []*modelClaim
	over   bool // Apply came between a claim's calls: it asks for no claim
}

type place struct {
	table int
	key   int64
}

type modelClaim struct {
	held, first []int
	did         []undo
	closed      bool
}

// undo is what was there ahead of one touch; "": no row.
type undo struct {
	at  place
	was string
}

func (m *model) count(table int) int {
	n := 0
	for at := range m.rows {
		if at.table == table {
			n++
		}
	}
	return n
}

func (m *model) holding(table int) int {
	n := 0
	for _, c := range m.claims {
		n += c.held[table]
	}
	return n
}

func (m *model) free(table int) int {
	return max(0, m.tables[table].Rows-m.count(table)-m.holding(table))
}

// foreign tells whether another claim than i touched what is there: nothing is promised then.
func (m *model) foreign(i int, at place) bool {
	for j, c := range m.claims {
		if j != i && slices.ContainsFunc(c.did, func(u undo) bool { return u.at == at }) {
			return true
		}
	}
	return false
}

func (m *model) put(at place, row string) {
	if row == "" {
		delete(m.rows, at)
		return
	}
	m.rows[at] = row
}

func (m *model) claim(need []int) api.Errno {
	for i, n := range need {
		if n > m.free(i) {
			return api.ErrBusy
		}
	}
	held := append(slices.Clone(need), make([]int, len(m.tables)-len(need))...)
	m.claims = append(m.claims, &modelClaim{held: held, first: slices.Clone(held)})
	return api.OK
}

func (m *model) set(i int, at place, n int64) api.Errno {
	c := m.claims[i]
	if c.closed {
		return api.ErrState
	}
	was := m.rows[at]
	if was == "" {
		if c.held[at.table] == 0 {
			return api.ErrFull
		}
		c.held[at.table]--
	}
	c.did = append(c.did, undo{at, was})
	m.rows[at] = "(" + strconv.FormatInt(n, 10) + ")"
	return api.OK
}

func (m *model) del(i int, at place) api.Errno {
	c := m.claims[i]
	if c.closed {
		return api.ErrState
	}
	was := m.rows[at]
	if was == "" {
		return api.ErrNone
	}
	c.did = append(c.did, undo{at, was})
	delete(m.rows, at)
	c.held[at.table]++
	return api.OK
}

func (m *model) undoAll(i int) {
	c := m.claims[i]
	for _, u := range slices.Backward(c.did) {
		m.put(u.at, u.was)
	}
}

func (m *model) back(i int) {
	c := m.claims[i]
	m.undoAll(i)
	c.did, c.held = nil, slices.Clone(c.first)
}

func (m *model) done(i int, need []int) {
	c := m.claims[i]
	for j := range c.held {
		if j >= len(need) {
			c.held[j] = 0
		} else {
			c.held[j] = min(c.held[j], need[j])
		}
	}
	c.did, c.first = nil, slices.Clone(c.held)
}

func (m *model) apply(c api.Change) api.Errno {
	at := place{c.Table, c.Key}
	m.over = m.over || len(m.claims) > 0
	if c.Gone {
		delete(m.rows, at)
		return api.OK
	}
	if m.rows[at] == "" {
		if m.count(c.Table) >= m.tables[c.Table].Rows {
			return api.ErrFull
		}
	}
	m.rows[at] = "(" + value.Print(c.Row[0]) + ")"
	return api.OK
}

// all is what say tells of a store with these rows.
func (m *model) all() string {
	return strings.Join(m.told(slices.Collect(maps.Keys(m.rows))), " ")
}

// told is what say tells of the rows in those places, in order.
func (m *model) told(l []place) []string {
	slices.SortFunc(l, func(a, b place) int {
		if a.table != b.table {
			return a.table - b.table
		}
		return int(a.key - b.key)
	})
	var parts []string
	for _, at := range slices.Compact(l) {
		row := m.rows[at]
		if row == "" {
			row = "gone"
		}
		parts = append(parts, strconv.Itoa(at.table)+":"+strconv.FormatInt(at.key, 10)+"="+row)
	}
	return parts
}

// changes is what say tells of the claim's Changes.
func (m *model) changes(i int) string {
	var l []place
	for _, u := range m.claims[i].did {
		l = append(l, u.at)
	}
	return strings.Join(m.told(l), " ")
}

// without is what say tells of a store Without those claims.
func (m *model) without(l ...int) string {
	w := &model{tables: m.tables, rows: maps.Clone(m.rows), claims: m.claims}
	for _, i := range l {
		w.undoAll(i)
	}
	return w.all()
}

// A run is a store, and the model that it is held against.
type run struct {
	t      *testing.T
	what   []string
	s      *store.Store
	claims []*store.Claim
	m      *model
}

func newRun(t *testing.T, tables []api.Table) *run {
	return &run{t: t, s: store.New(tables), m: &model{tables: tables, rows: map[place]string{}}}
}

func (r *run) did(what string, got, want api.Errno) {
	r.what = append(r.what, what)
	if got != want {
		r.t.Fatalf("%s: error %d, want %d", strings.Join(r.what, ", "), got, want)
	}
}

// look holds all that the store tells against the model.
func (r *run) look() {
	want := func(what, got, want string) {
		if got != want {
			r.t.Fatalf("%s: %s: %q, want %q", strings.Join(r.what, ", "), what, got, want)
		}
	}
	number := func(what string, got, n int) {
		if got != n {
			r.t.Fatalf("%s: %s: %d, want %d", strings.Join(r.what, ", "), what, got, n)
		}
	}
	all := r.m.all()
	want("all", say(r.s.All()), all)
	for i, x := range r.m.tables {
		number("rows", r.s.Len(i), r.m.count(i))
		number("free", r.s.Free(i), r.m.free(i))
		number("keys", len(r.s.Keys(i, math.MinInt64, math.MaxInt64)), r.m.count(i))
		if !r.m.over && r.s.Len(i)+r.m.holding(i) > x.Rows {
			r.t.Fatalf("%s: more than Rows", strings.Join(r.what, ", "))
		}
	}
	for i, c := range r.claims {
		for j, n := range r.m.claims[i].held {
			number("held", c.Held(j), n)
		}
		want("changes", say(c.Changes()), r.m.changes(i))
		want("without", say(r.s.Without(c).All()), r.m.without(i))
	}
	if len(r.claims) > 1 {
		want("without two", say(r.s.Without(r.claims[:2]...).All()), r.m.without(0, 1))
		want("without two, the other way", say(r.s.Without(r.claims[1], r.claims[0]).All()), r.m.without(0, 1))
	}
	want("all, behind that", say(r.s.All()), all)
}

// A move is something done with a run.
type move func(r *run)

func claims(need ...int) move {
	return func(r *run) {
		c, e := r.s.Claim(need)
		r.did("claim", e, r.m.claim(need))
		if c != nil {
			r.claims = append(r.claims, c)
		}
	}
}

// has tells whether the claim i may be asked to touch the place.
func (r *run) has(i int, at place) bool {
	return i < len(r.claims) && !r.m.foreign(i, at)
}

func sets(i, table int, key, n int64) move {
	return func(r *run) {
		if r.has(i, place{table, key}) {
			r.did("set "+strconv.Itoa(i), r.claims[i].Set(table, key, 0, value.Int(n)), r.m.set(i, place{table, key}, n))
		}
	}
}

func dels(i, table int, key int64) move {
	return func(r *run) {
		if r.has(i, place{table, key}) {
			r.did("del "+strconv.Itoa(i), r.claims[i].Del(table, key), r.m.del(i, place{table, key}))
		}
	}
}

func backs(i int) move {
	return func(r *run) {
		if i < len(r.claims) {
			r.claims[i].Back()
			r.m.back(i)
			r.did("back "+strconv.Itoa(i), api.OK, api.OK)
		}
	}
}

func dones(i int, need ...int) move {
	return func(r *run) {
		if i < len(r.claims) {
			r.claims[i].Done(need)
			r.m.done(i, need)
			r.did("done "+strconv.Itoa(i), api.OK, api.OK)
		}
	}
}

func closes(i int) move {
	return func(r *run) {
		if i < len(r.claims) {
			r.claims[i].Close()
			r.m.done(i, nil)
			r.m.claims[i].closed = true
			r.did("close "+strconv.Itoa(i), api.OK, api.OK)
		}
	}
}

func applies(c api.Change) move {
	return func(r *run) {
		r.did("apply "+say([]api.Change{c}), r.s.Apply(c), r.m.apply(c))
	}
}

// P7.1 to P7.6: every history of four calls, or of three, behind two beginnings, against the model.
func TestHistories(t *testing.T) {
	moves := []move{
		claims(1), claims(2),
		sets(0, 0, 1, 5), sets(0, 0, 2, 6), sets(1, 0, 2, 7), sets(1, 0, 3, 8),
		dels(0, 0, 1), dels(0, 0, 3), dels(1, 0, 2), dels(1, 0, 3),
		backs(0), backs(1), dones(0), dones(0, 1), dones(1, 1), closes(0), closes(1),
	}
	for i, begin := range [][]move{
		{applies(put(0, 1, num(1))), claims(1), claims(1)},
		{applies(put(0, 3, num(1))), applies(put(0, 1, num(2))), claims(0), claims(1)},
	} {
		walk(4-i, moves, begin, func(l []move) {
			r := newRun(t, one(3))
			for _, do := range l {
				do(r)
			}
			r.look()
		})
	}
}

// P7.1 to P7.3: every history of four calls, Apply among them.
func TestHistoriesWithApply(t *testing.T) {
	moves := []move{
		claims(1), sets(0, 0, 1, 5), sets(0, 0, 2, 6), dels(0, 0, 1), backs(0), dones(0, 1), closes(0),
		applies(put(0, 1, num(7))), applies(put(0, 2, num(8))), applies(put(0, 3, num(9))), applies(gone(0, 1)), applies(gone(0, 2)),
	}
	for _, rows := range []int{1, 2} {
		walk(4, moves, []move{claims(1)}, func(l []move) {
			r := newRun(t, one(rows))
			for _, do := range l {
				do(r)
			}
			r.look()
		})
	}
}

// walk tells each history of n moves behind those of l.
func walk(n int, moves, l []move, tell func([]move)) {
	if n == 0 {
		tell(l)
		return
	}
	for _, x := range moves {
		walk(n-1, moves, append(l[:len(l):len(l)], x), tell)
	}
}

// P7.1 to P7.6: long histories on three tables, by a rule that is the same each time, looked at behind every call.
func TestLongHistories(t *testing.T) {
	tables := append(one(5), append(one(2), one(20)...)...)
	tables[1].Name, tables[2].Name = "u", "v"
	for seed := range uint64(60) {
		r := newRun(t, tables)
		state := seed*2862933555777941757 + 3037000493
		pick := func(n int) int {
			state = state*6364136223846793005 + 1442695040888963407
			return int(state>>33) % n
		}
		for range 150 {
			table, key := pick(3), int64(pick(6)*7-14)
			i := 0
			if len(r.claims) > 0 {
				i = pick(len(r.claims))
			}
			switch n := pick(40); {
			case n < 3:
				claims([]int{pick(3), pick(2), pick(6)}[:pick(4)]...)(r)
			case n < 20:
				sets(i, table, key, int64(pick(9)))(r)
			case n < 28:
				dels(i, table, key)(r)
			case n < 31:
				backs(i)(r)
			case n < 34:
				dones(i, []int{pick(3), pick(3), pick(9)}[:pick(4)]...)(r)
			case n < 35:
				closes(i)(r)
			case n < 37 && seed%2 == 1:
				applies(put(table, key, num(int64(pick(9)))))(r)
			case n < 39 && seed%2 == 1:
				applies(gone(table, key))(r)
			}
			r.look()
		}
	}
}
