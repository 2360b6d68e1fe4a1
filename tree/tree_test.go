package tree_test

import (
	"math"
	"math/rand"
	"slices"
	"strconv"
	"testing"

	"billhook/tree"
)

const (
	lowest  = math.MinInt64
	highest = math.MaxInt64
)

type ints = tree.Tree[int]

// pair is a thing and its key.
type pair struct {
	key int64
	val int
}

// told answers what a loop over a Range tells.
func told(x *ints, lo, hi int64) []pair {
	out := []pair{}
	for k, v := range x.Range(lo, hi) {
		out = append(out, pair{k, v})
	}
	return out
}

// model is the chapter, said once more: things in a list, by rising keys.
type model []pair

func (m model) find(key int64) (int, bool) {
	return slices.BinarySearchFunc(m, key, func(p pair, key int64) int {
		switch {
		case p.key < key:
			return -1
		case p.key > key:
			return 1
		}
		return 0
	})
}

func (m model) get(key int64) (int, bool) {
	at, ok := m.find(key)
	if !ok {
		return 0, false
	}
	return m[at].val, true
}

func (m *model) put(key int64, v int) (int, bool) {
	at, ok := m.find(key)
	if !ok {
		*m = slices.Insert(*m, at, pair{key, v})
		return 0, false
	}
	was := (*m)[at].val
	(*m)[at].val = v
	return was, true
}

func (m *model) del(key int64) (int, bool) {
	at, ok := m.find(key)
	if !ok {
		return 0, false
	}
	was := (*m)[at].val
	*m = slices.Delete(*m, at, at+1)
	return was, true
}

// within answers those from lo to hi, by looking at each.
func (m model) within(lo, hi int64) []pair {
	out := []pair{}
	for _, p := range m {
		if p.key >= lo && p.key <= hi {
			out = append(out, p)
		}
	}
	return out
}

func power(n, e int) int {
	out := 1
	for range e {
		out *= n
	}
	return out
}

// mayBeDeep tells whether a tree of n things may be so deep, as P5.3 says: a leaf that is the root has from 1 to 8; each level more has at least 2 parts at the root, 4 anywhere else, and at most 8.
func mayBeDeep(n, depth int) bool {
	if n == 0 || depth < 1 {
		return n == 0 && depth == 0
	}
	return n <= power(8, depth) && (depth == 1 || n >= 2*power(4, depth-1))
}

// wantTree says P5.3 and P5.6 of a tree of n things, as far as they are told.
func wantTree(t *testing.T, what string, x *ints, n int) {
	t.Helper()
	depth := x.Depth()
	if x.Len() != n || !x.Right() || !mayBeDeep(n, depth) {
		t.Fatalf("%s: %d things, depth %d, right %v; want %d things", what, x.Len(), depth, x.Right(), n)
	}
	if n > 0 && power(4, depth-1) > n {
		t.Fatalf("%s: %d things, depth %d", what, n, depth)
	}
}

func wantGot(t *testing.T, what string, v int, ok bool, want int, wantOk bool) {
	t.Helper()
	if v != want || ok != wantOk {
		t.Fatalf("%s: %d, %v, want %d, %v", what, v, ok, want, wantOk)
	}
}

func wantPairs(t *testing.T, what string, got, want []pair) {
	t.Helper()
	if !slices.Equal(got, want) {
		t.Fatalf("%s: %v, want %v", what, got, want)
	}
}

// wantEdges says P5.2 of the first and the last thing.
func wantEdges(t *testing.T, what string, x *ints, m model) {
	t.Helper()
	for _, last := range []bool{false, true} {
		var want pair
		if len(m) > 0 && last {
			want = m[len(m)-1]
		} else if len(m) > 0 {
			want = m[0]
		}
		k, v, ok := x.Edge(last)
		if k != want.key || v != want.val || ok != (len(m) > 0) {
			t.Fatalf("%s: Edge(%v): %d, %d, %v, want %v", what, last, k, v, ok, want)
		}
	}
}

// wantAll says that x has just what m has, whichever way it is asked.
func wantAll(t *testing.T, what string, x *ints, m model) {
	t.Helper()
	wantTree(t, what, x, len(m))
	wantEdges(t, what, x, m)
	wantPairs(t, what, told(x, lowest, highest), m.within(lowest, highest))
	for _, p := range m {
		for _, key := range []int64{p.key - 1, p.key, p.key + 1} {
			v, ok := x.Get(key)
			want, wantOk := m.get(key)
			wantGot(t, what+": Get "+strconv.FormatInt(key, 10), v, ok, want, wantOk)
		}
	}
}

// both is a tree and its model, to which the same is done.
type both struct {
	*ints
	m model
}

func (b *both) put(t *testing.T, key int64, v int) {
	t.Helper()
	got, ok := b.Put(key, v)
	want, wantOk := b.m.put(key, v)
	wantGot(t, "Put "+strconv.FormatInt(key, 10), got, ok, want, wantOk)
}

func (b *both) del(t *testing.T, key int64) {
	t.Helper()
	got, ok := b.Delete(key)
	want, wantOk := b.m.del(key)
	wantGot(t, "Delete "+strconv.FormatInt(key, 10), got, ok, want, wantOk)
}

func (b *both) clone() *both {
	return &both{b.Clone(), slices.Clone(b.m)}
}

// built answers a tree with those keys, put in that order; what is at a key tells how many were put ahead of it.
func built(t *testing.T, keys []int64) *both {
	t.Helper()
	b := &both{ints: &ints{}}
	for i, k := range keys {
		b.put(t, k, i+1)
	}
	return b
}

// upTo answers n keys, 10 apart, rising.
func upTo(n int) []int64 {
	var out []int64
	for i := range n {
		out = append(out, int64(10*i))
	}
	return out
}

func backward(keys []int64) []int64 {
	out := slices.Clone(keys)
	slices.Reverse(out)
	return out
}

// outward begins in the middle, and goes to both sides in turn.
func outward(keys []int64) []int64 {
	var out []int64
	for lo, hi := len(keys)/2-1, len(keys)/2; lo >= 0 || hi < len(keys); lo, hi = lo-1, hi+1 {
		if lo >= 0 {
			out = append(out, keys[lo])
		}
		if hi < len(keys) {
			out = append(out, keys[hi])
		}
	}
	return out
}

// strided takes each seventh, then those behind these, and so on.
func strided(keys []int64) []int64 {
	var out []int64
	for from := range min(7, len(keys)) {
		for i := from; i < len(keys); i += 7 {
			out = append(out, keys[i])
		}
	}
	return out
}

func shuffled(seed int64) func([]int64) []int64 {
	return func(keys []int64) []int64 {
		out := slices.Clone(keys)
		rand.New(rand.NewSource(seed)).Shuffle(len(out), func(i, j int) { out[i], out[j] = out[j], out[i] })
		return out
	}
}

// orders are ways to go over keys.
func orders() []func([]int64) []int64 {
	inward := func(keys []int64) []int64 { return backward(outward(keys)) }
	return []func([]int64) []int64{slices.Clone[[]int64], backward, outward, inward, strided, shuffled(1), shuffled(2)}
}

func TestExample(t *testing.T) {
	x := &ints{}
	for k := int64(1); k <= 9; k++ {
		x.Put(k, 1)
	}
	if x.Depth() != 2 || !x.Right() {
		t.Error("of nine:", x.Depth(), x.Right())
	}
	x.Delete(9)
	x.Delete(8)
	// Two leaves have at least eight keys: so it is one.
	if x.Depth() != 1 || !x.Right() || x.Len() != 7 {
		t.Error("of seven:", x.Depth(), x.Right(), x.Len())
	}
}

// P5.1

func TestZeroTree(t *testing.T) {
	var x ints
	for _, key := range []int64{lowest, -1, 0, 1, highest} {
		v, ok := x.Get(key)
		wantGot(t, "Get", v, ok, 0, false)
		v, ok = x.Delete(key)
		wantGot(t, "Delete", v, ok, 0, false)
	}
	wantAll(t, "the zero Tree", &x, nil)
	wantAll(t, "its Clone", x.Clone(), nil)
	v, ok := x.Put(5, 7)
	wantGot(t, "Put", v, ok, 0, false)
	wantAll(t, "of one", &x, model{{5, 7}})
}

func TestPutGetDelete(t *testing.T) {
	b := &both{ints: new(ints)}
	for _, key := range []int64{5, 3, 5, 9, 3, 5} {
		b.put(t, key, int(key)+b.Len())
		wantAll(t, "Put", b.ints, b.m)
	}
	for _, key := range []int64{4, 5, 5, 2, 10, 3, 3, 9, 9} {
		b.del(t, key)
		wantAll(t, "Delete", b.ints, b.m)
	}
	if b.Len() != 0 {
		t.Error(b.Len())
	}
}

// A key that is there already gets the new value, and that alone is another one.
func TestPutAnew(t *testing.T) {
	for _, n := range []int{1, 8, 9, 40, 300} {
		b := built(t, upTo(n))
		for i, key := range strided(upTo(n)) {
			b.put(t, key, -i)
			v, ok := b.Get(key)
			wantGot(t, "Get", v, ok, -i, true)
		}
		wantAll(t, "put anew", b.ints, b.m)
	}
}

// A zero value is there like any other one.
func TestZeroValueIsThere(t *testing.T) {
	x := &ints{}
	v, ok := x.Put(1, 0)
	wantGot(t, "Put", v, ok, 0, false)
	v, ok = x.Get(1)
	wantGot(t, "Get", v, ok, 0, true)
	v, ok = x.Put(1, 0)
	wantGot(t, "Put anew", v, ok, 0, true)
	wantAll(t, "of one", x, model{{1, 0}})
	v, ok = x.Delete(1)
	wantGot(t, "Delete", v, ok, 0, true)
	v, ok = x.Delete(1)
	wantGot(t, "Delete twice", v, ok, 0, false)
}

func TestDeleteOfNone(t *testing.T) {
	for n := range 80 {
		b := built(t, shuffled(int64(n))(upTo(n)))
		depth := b.Depth()
		for i := -1; i <= n; i++ {
			b.del(t, int64(10*i)+5)
			b.del(t, int64(10*i)-1)
		}
		b.del(t, lowest)
		b.del(t, highest)
		wantAll(t, "of "+strconv.Itoa(n), b.ints, b.m)
		if b.Depth() != depth {
			t.Error("another depth of", n)
		}
	}
}

// edgeKeys are the smallest and the largest int64, and those about the numbers at which another kind of number would end.
func edgeKeys() []int64 {
	return []int64{
		lowest, lowest + 1, lowest + 2, math.MinInt32 - 1, math.MinInt32, -1 << 31, -256, -129, -128, -2, -1,
		0, 1, 2, 127, 128, 255, 256, math.MaxInt32, math.MaxInt32 + 1, math.MaxUint32, 1 << 32, 1<<53 + 1, highest - 2, highest - 1, highest,
	}
}

func TestEdgeKeys(t *testing.T) {
	for _, order := range orders() {
		keys := order(edgeKeys())
		b := built(t, keys)
		wantAll(t, "of edges", b.ints, b.m)
		for _, lo := range keys {
			for _, hi := range keys {
				wantPairs(t, "Range", told(b.ints, lo, hi), b.m.within(lo, hi))
			}
		}
		for _, key := range order(keys) {
			b.del(t, key)
			wantAll(t, "fewer edges", b.ints, b.m)
		}
	}
}

// The smallest and the largest one alone, and among many, of which they are the edges.
func TestSmallestAndLargest(t *testing.T) {
	for n := range 40 {
		b := built(t, upTo(n))
		b.put(t, highest, 1)
		b.put(t, lowest, 2)
		wantAll(t, "both", b.ints, b.m)
		wantPairs(t, "the smallest", told(b.ints, lowest, lowest), []pair{{lowest, 2}})
		wantPairs(t, "the largest", told(b.ints, highest, highest), []pair{{highest, 1}})
		wantPairs(t, "the wrong way", told(b.ints, highest, lowest), nil)
		b.del(t, lowest)
		b.del(t, highest)
		wantAll(t, "neither", b.ints, b.m)
	}
}

// P5.2

func TestRange(t *testing.T) {
	for _, n := range []int{0, 1, 2, 7, 8, 9, 16, 17, 40, 64, 65, 80} {
		b := built(t, shuffled(int64(n))(upTo(n)))
		for lo := int64(-6); lo <= int64(10*n); lo += 4 {
			for hi := int64(-7); hi <= int64(10*n)+3; hi += 3 {
				wantPairs(t, "Range", told(b.ints, lo, hi), b.m.within(lo, hi))
			}
		}
	}
}

func TestRangeOfOneKey(t *testing.T) {
	b := built(t, outward(upTo(100)))
	for lo := int64(-5); lo < 1005; lo++ {
		wantPairs(t, "Range", told(b.ints, lo, lo), b.m.within(lo, lo))
	}
}

// A Range whose lo is above its hi has nothing, be they ever so near, and be there keys between them.
func TestRangeTheWrongWay(t *testing.T) {
	for n := range 70 {
		b := built(t, upTo(n))
		for _, c := range [][2]int64{{highest, lowest}, {0, -1}, {1, 0}, {10, 0}, {10, 9}, {300, 20}, {highest, 0}, {0, lowest}, {-1, lowest}} {
			wantPairs(t, "lo above hi", told(b.ints, c[0], c[1]), nil)
		}
		wantAll(t, "behind it", b.ints, b.m)
	}
}

// A loop that is left early asks for no more, and the next one begins at the front.
func TestRangeLeftEarly(t *testing.T) {
	b := built(t, strided(upTo(90)))
	all := b.Range(lowest, highest)
	for n := 1; n <= 90; n++ {
		got := []pair{}
		for k, v := range all {
			got = append(got, pair{k, v})
			if len(got) == n {
				break
			}
		}
		wantPairs(t, "left early", got, b.m[:n])
	}
	rounds := 0
	all(func(int64, int) bool {
		rounds++
		return false
	})
	if rounds != 1 {
		t.Error(rounds, "rounds of a loop that was left in its first one")
	}
	wantAll(t, "behind it", b.ints, b.m)
}

// What a loop tells is as it is when the loop is begun, not when Range was called.
func TestRangeIsBegunByItsLoop(t *testing.T) {
	b := &both{ints: &ints{}}
	all, some := b.Range(lowest, highest), b.Range(95, 105)
	look := func(what string) {
		t.Helper()
		got := []pair{}
		for k, v := range all {
			got = append(got, pair{k, v})
		}
		wantPairs(t, what, got, b.m.within(lowest, highest))
		got = []pair{}
		for k, v := range some {
			got = append(got, pair{k, v})
		}
		wantPairs(t, what, got, b.m.within(95, 105))
	}
	look("of nothing")
	for i, key := range shuffled(3)(upTo(40)) {
		b.put(t, key, i)
		look("one more")
	}
	b.put(t, 100, -1)
	look("another value")
	for _, key := range shuffled(4)(upTo(40)) {
		b.del(t, key)
		look("one fewer")
	}
}

// changes are what a loop's body may do with the tree, at the key it is told.
func changes() map[string]func(t *testing.T, b *both, key int64) {
	clean := func(t *testing.T, b *both, _ int64) {
		t.Helper()
		for len(b.m) > 0 {
			b.del(t, b.m[len(b.m)/2].key)
		}
	}
	return map[string]func(t *testing.T, b *both, key int64){
		"deletes the key":        func(t *testing.T, b *both, key int64) { b.del(t, key) },
		"deletes the next":       func(t *testing.T, b *both, key int64) { b.del(t, key+10) },
		"deletes the last":       func(t *testing.T, b *both, _ int64) { k, _, _ := b.Edge(true); b.del(t, k) },
		"deletes the first":      func(t *testing.T, b *both, _ int64) { k, _, _ := b.Edge(false); b.del(t, k) },
		"deletes all":            clean,
		"puts the key anew":      func(t *testing.T, b *both, key int64) { b.put(t, key, -2) },
		"puts the next anew":     func(t *testing.T, b *both, key int64) { b.put(t, key+10, -3) },
		"puts one behind it":     func(t *testing.T, b *both, key int64) { b.put(t, key+1, -4) },
		"puts one ahead of it":   func(t *testing.T, b *both, key int64) { b.put(t, key-1, -5) },
		"puts many":              func(t *testing.T, b *both, key int64) { b.put(t, 7*key%9973+3, -6); b.put(t, -3*key-1, -7) },
		"deletes all, puts some": func(t *testing.T, b *both, key int64) { clean(t, b, 0); b.put(t, key, -8); b.put(t, key+10, -9) },
	}
}

func TestRangeWhoseBodyChangesTheTree(t *testing.T) {
	for what, change := range changes() {
		for _, n := range []int{1, 5, 9, 40, 100} {
			for _, c := range [][2]int64{{lowest, highest}, {0, int64(10*n) - 10}, {13, 222}} {
				b := built(t, shuffled(int64(n))(upTo(n)))
				want, got := b.m.within(c[0], c[1]), []pair{}
				for k, v := range b.Range(c[0], c[1]) {
					got = append(got, pair{k, v})
					change(t, b, k)
				}
				wantPairs(t, what, got, want)
				wantAll(t, what, b.ints, b.m)
			}
		}
	}
}

// A loop in a loop's body is begun later, and sees what was changed till then.
func TestRangeWithinRange(t *testing.T) {
	b := built(t, upTo(30))
	all := b.Range(lowest, highest)
	outer := []pair{}
	want := b.m.within(lowest, highest)
	for k, v := range all {
		outer = append(outer, pair{k, v})
		b.del(t, k)
		b.put(t, k+5, v)
		inner := []pair{}
		for k, v := range all {
			inner = append(inner, pair{k, v})
		}
		wantPairs(t, "inner", inner, b.m)
	}
	wantPairs(t, "outer", outer, want)
}

func TestEdge(t *testing.T) {
	for _, order := range orders() {
		b := &both{ints: &ints{}}
		for i, key := range order(upTo(90)) {
			b.put(t, key, i)
			wantEdges(t, "Put", b.ints, b.m)
		}
		for _, key := range order(upTo(90)) {
			b.del(t, key)
			wantEdges(t, "Delete", b.ints, b.m)
		}
	}
}

// A clone has the same, and neither turns when the other one is changed.
func TestClone(t *testing.T) {
	for n := range 90 {
		a := built(t, shuffled(int64(n))(upTo(n)))
		c := a.clone()
		wantAll(t, "Clone", c.ints, a.m)
		for i, key := range strided(upTo(n)) {
			switch i % 3 {
			case 0:
				c.del(t, key)
				a.put(t, key, -i)
			case 1:
				c.put(t, key, i+1000)
				a.put(t, key+5, i)
			default:
				c.put(t, key+3, i)
				a.del(t, key)
			}
		}
		c.put(t, -7, 1)
		a.put(t, -8, 2)
		wantAll(t, "the tree", a.ints, a.m)
		wantAll(t, "its clone", c.ints, c.m)
	}
}

// Whichever of the two is changed first, and till nothing is left: the other one stays as it was.
func TestCloneStays(t *testing.T) {
	for _, n := range []int{1, 8, 9, 33, 200} {
		a := built(t, upTo(n))
		first, second := a.clone(), a.clone()
		again := second.clone()
		for _, key := range backward(upTo(n)) {
			a.del(t, key)
			first.put(t, key+1, 0)
			second.put(t, key, -1)
		}
		wantAll(t, "deleted", a.ints, nil)
		wantAll(t, "put beside", first.ints, first.m)
		wantAll(t, "put anew", second.ints, second.m)
		wantAll(t, "a clone's clone", again.ints, again.m)
		for i := range n {
			v, ok := again.Get(int64(10 * i))
			wantGot(t, "a clone's clone", v, ok, i+1, true)
		}
	}
}

// What V shares, a clone shares.
func TestCloneShares(t *testing.T) {
	x := &tree.Tree[*int]{}
	for k := range 20 {
		x.Put(int64(k), &k)
	}
	c := x.Clone()
	for k := range 20 {
		p, _ := x.Get(int64(k))
		if q, ok := c.Get(int64(k)); !ok || p != q {
			t.Error(k, p, q)
		}
	}
	other := 99
	c.Put(3, &other)
	if p, _ := x.Get(3); *p != 3 {
		t.Error(*p)
	}
}

// P5.3 and P5.6

func TestMayBeDeep(t *testing.T) {
	for _, c := range []struct {
		n, depth int
		want     bool
	}{
		{0, 0, true}, {0, 1, false}, {1, 0, false}, {1, 1, true}, {8, 1, true}, {9, 1, false}, {7, 2, false}, {8, 2, true},
		{64, 2, true}, {65, 2, false}, {31, 3, false}, {32, 3, true}, {512, 3, true}, {513, 3, false}, {127, 4, false}, {128, 4, true},
	} {
		if mayBeDeep(c.n, c.depth) != c.want {
			t.Error(c)
		}
	}
}

// Trees grow and shrink in each two orders.
func TestOrders(t *testing.T) {
	keys := upTo(150)
	for _, in := range orders() {
		for _, out := range orders() {
			b := &both{ints: &ints{}}
			for i, key := range in(keys) {
				b.put(t, key, i)
				wantTree(t, "Put", b.ints, i+1)
			}
			wantAll(t, "all", b.ints, b.m)
			for i, key := range out(keys) {
				b.del(t, key)
				wantTree(t, "Delete", b.ints, len(keys)-i-1)
				if i%40 == 0 {
					wantAll(t, "fewer", b.ints, b.m)
				}
			}
			wantAll(t, "none", b.ints, nil)
		}
	}
}

// From trees of each size, each step there is: each key put anew and deleted, and one put in and deleted in each gap.
func TestEveryStep(t *testing.T) {
	for n := range 75 {
		for seed, order := range orders() {
			b := built(t, order(upTo(n)))
			for i := range n + 1 {
				for _, key := range []int64{int64(10 * i), int64(10*i) - 5} {
					more, fewer := b.clone(), b.clone()
					more.put(t, key, -1)
					fewer.del(t, key)
					wantTree(t, "Put", more.ints, len(more.m))
					wantTree(t, "Delete", fewer.ints, len(fewer.m))
					if (i+seed)%9 == 0 {
						wantAll(t, "Put", more.ints, more.m)
						wantAll(t, "Delete", fewer.ints, fewer.m)
					}
				}
			}
		}
	}
}

const wide = 1 << 40 // room for more keys than are ever put between two

// grown answers the first tree that is so deep, by keys far apart, rising or falling.
func grown(t *testing.T, depth int, way int64) *both {
	t.Helper()
	b := &both{ints: &ints{}}
	for i := int64(1); b.Depth() < depth; i++ {
		b.put(t, way*i*wide, int(i))
		wantTree(t, "grown", b.ints, len(b.m))
	}
	return b
}

// fill puts in as much as there is room for without another level: between each two keys, as long as the tree gets no deeper by it.
func fill(t *testing.T, b *both) *both {
	t.Helper()
	depth := b.Depth()
	for room := true; room; {
		room = false
		for at := 0; at < len(b.m); at++ {
			next := b.m[at].key + wide
			if at+1 < len(b.m) {
				next = b.m[at+1].key
			}
			more := b.clone()
			more.put(t, (b.m[at].key+next)/2, at)
			wantTree(t, "filled", more.ints, len(more.m))
			if more.Depth() == depth && len(more.m) > len(b.m) {
				b, room = more, true
			}
		}
	}
	return b
}

// thin deletes as much as can be spared without a level less.
func thin(t *testing.T, b *both) *both {
	t.Helper()
	depth := b.Depth()
	for spared := true; spared; {
		spared = false
		for at := 0; at < len(b.m); at++ {
			fewer := b.clone()
			fewer.del(t, b.m[at].key)
			wantTree(t, "thinned", fewer.ints, len(fewer.m))
			if fewer.Depth() == depth {
				b, spared = fewer, true
			}
		}
	}
	return b
}

// Nodes that are as full, and then as empty, as they get: if one had more than 8 or less than 4, the depth would tell.
func TestFullAndThin(t *testing.T) {
	for depth := 1; depth <= 3; depth++ {
		for _, way := range []int64{1, -1} {
			small := grown(t, depth, way)
			wantAll(t, "thin", thin(t, small).ints, thin(t, small).m)
			full := fill(t, small)
			wantAll(t, "full", full.ints, full.m)
			low := thin(t, full)
			wantAll(t, "full, then thin", low.ints, low.m)
			high := fill(t, low)
			wantAll(t, "full anew", high.ints, high.m)
		}
	}
}

func TestDepthOfMany(t *testing.T) {
	const many = 30000
	for _, order := range orders() {
		x := &ints{}
		keys := order(upTo(many))
		for i, key := range keys {
			x.Put(key, i)
			if depth := x.Depth(); !mayBeDeep(i+1, depth) {
				t.Fatal(i+1, depth)
			}
		}
		wantTree(t, "many", x, many)
		for i, key := range order(keys) {
			x.Delete(key)
			if depth := x.Depth(); !mayBeDeep(many-i-1, depth) {
				t.Fatal(many-i-1, depth)
			}
			if i%5000 == 0 {
				wantTree(t, "fewer", x, many-i-1)
			}
		}
	}
}

// Behind the Delete of its last thing a tree is as a zero one, and goes on like one.
func TestDeleteOfTheLast(t *testing.T) {
	b := &both{ints: &ints{}}
	for n := 1; n <= 40; n++ {
		for i, key := range shuffled(int64(n))(upTo(n)) {
			b.put(t, key, i)
		}
		wantAll(t, "anew", b.ints, b.m)
		for _, key := range shuffled(int64(-n))(upTo(n)) {
			b.del(t, key)
		}
		wantAll(t, "nothing", b.ints, nil)
		wantAll(t, "its clone", b.Clone(), nil)
		b.del(t, 0)
		wantAll(t, "nothing, still", b.ints, nil)
	}
}

// P5.4

func TestNil(t *testing.T) {
	var x *ints
	for range 2 {
		for _, key := range []int64{lowest, -1, 0, 1, highest} {
			v, ok := x.Put(key, 5)
			wantGot(t, "Put", v, ok, 0, false)
			v, ok = x.Get(key)
			wantGot(t, "Get", v, ok, 0, false)
			v, ok = x.Delete(key)
			wantGot(t, "Delete", v, ok, 0, false)
		}
		wantEdges(t, "nil", x, nil)
		for _, c := range [][2]int64{{lowest, highest}, {0, 0}, {1, -1}, {highest, lowest}} {
			wantPairs(t, "Range", told(x, c[0], c[1]), nil)
		}
		if x.Len() != 0 || x.Depth() != 0 || !x.Right() || x.Clone() != nil {
			t.Error(x.Len(), x.Depth(), x.Right(), x.Clone())
		}
	}
}

// P5.5

// spreads are ways to make keys of small numbers.
func spreads() []func(n int) int64 {
	return []func(n int) int64{
		func(n int) int64 { return int64(n) },
		func(n int) int64 { return lowest + int64(n) },
		func(n int) int64 { return highest - int64(n) },
		func(n int) int64 { return int64(n-100) << 55 },
		func(n int) int64 { return int64(uint64(n+1) * 0x9e3779b97f4a7c15) },
	}
}

// Long histories, that grow and shrink by turns, held against the model step by step.
func TestLongHistories(t *testing.T) {
	for seed, spread := range spreads() {
		r := rand.New(rand.NewSource(int64(seed)))
		b := &both{ints: &ints{}}
		for step := range 12000 {
			key := spread(r.Intn(200))
			if r.Intn(10) < 3+step/1000%2*4 {
				b.del(t, key)
			} else {
				b.put(t, key, step)
			}
			wantTree(t, "a step", b.ints, len(b.m))
			v, ok := b.Get(key)
			want, wantOk := b.m.get(key)
			wantGot(t, "Get", v, ok, want, wantOk)
			lo, hi := spread(r.Intn(200)), spread(r.Intn(200))
			wantPairs(t, "Range", told(b.ints, lo, hi), b.m.within(lo, hi))
			if step%100 == 0 {
				wantAll(t, "all", b.ints, b.m)
			}
		}
	}
}

// Two trees, used in turn, don't touch one another.
func TestTreesAreApart(t *testing.T) {
	a, b := &both{ints: &ints{}}, &both{ints: &ints{}}
	for i, key := range shuffled(5)(upTo(200)) {
		a.put(t, key, i)
		b.put(t, -key, i)
		if i%3 == 0 {
			a.del(t, int64(10*i))
			b.del(t, key)
		}
	}
	wantAll(t, "a", a.ints, a.m)
	wantAll(t, "b", b.ints, b.m)
}

// Things are of any type: zero values are that type's.

func TestTexts(t *testing.T) {
	x := &tree.Tree[string]{}
	for k := range 50 {
		if was, ok := x.Put(int64(k), strconv.Itoa(k)); was != "" || ok {
			t.Error(k, was, ok)
		}
	}
	if was, ok := x.Put(7, "seven"); was != "7" || !ok {
		t.Error(was, ok)
	}
	if was, ok := x.Delete(7); was != "seven" || !ok {
		t.Error(was, ok)
	}
	if v, ok := x.Get(7); v != "" || ok {
		t.Error(v, ok)
	}
	if k, v, ok := x.Edge(true); k != 49 || v != "49" || !ok {
		t.Error(k, v, ok)
	}
	if k, v, ok := new(tree.Tree[string]).Edge(true); k != 0 || v != "" || ok {
		t.Error(k, v, ok)
	}
}

func TestNothingsAndAnythings(t *testing.T) {
	marks := &tree.Tree[struct{}]{}
	things := &tree.Tree[any]{}
	lists := &tree.Tree[[]int]{}
	for k := range int64(30) {
		marks.Put(k, struct{}{})
		things.Put(k, nil)
		lists.Put(k, []int{int(k)})
	}
	if _, ok := marks.Get(29); !ok || marks.Len() != 30 || !marks.Right() {
		t.Error(ok, marks.Len())
	}
	if v, ok := things.Get(3); v != nil || !ok {
		t.Error(v, ok)
	}
	if v, ok := things.Put(3, things); v != nil || !ok {
		t.Error(v, ok)
	}
	if v, ok := things.Delete(3); v != any(things) || !ok {
		t.Error(v, ok)
	}
	if v, ok := lists.Delete(5); !slices.Equal(v, []int{5}) || !ok {
		t.Error(v, ok)
	}
	if v, ok := lists.Get(5); v != nil || ok {
		t.Error(v, ok)
	}
}
