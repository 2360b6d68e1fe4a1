package tree

import "slices"

// How many keys a leaf may have, and how many parts an inner node. The root may have fewer.
const (
	least = 4
	most  = 8
)

// node is a leaf, that has keys and at each of them a value, or an inner node, that has parts and between each two of them a key.
type node[V any] struct {
	keys  []int64
	vals  []V
	parts []*node[V]
}

// thing is a value and where it is.
type thing[V any] struct {
	key int64
	val V
}

func (n *node[V]) leaf() bool {
	return len(n.parts) == 0
}

// size answers how many there are of what least and most are said of.
func (n *node[V]) size() int {
	if n.leaf() {
		return len(n.keys)
	}
	return len(n.parts)
}

// place answers which part the key lies in, if it lies in any.
func (n *node[V]) place(key int64) int {
	at, same := slices.BinarySearch(n.keys, key)
	if same {
		// A key between two parts may lie in the one behind it, not in the one ahead.
		return at + 1
	}
	return at
}

// get answers what is at the key.
func (n *node[V]) get(key int64) (V, bool) {
	if !n.leaf() {
		return n.parts[n.place(key)].get(key)
	}
	at, ok := slices.BinarySearch(n.keys, key)
	if !ok {
		var none V
		return none, false
	}
	return n.vals[at], true
}

// put puts v at the key, and answers what was there. The node may have one too many then.
func (n *node[V]) put(key int64, v V) (V, bool) {
	if n.leaf() {
		return n.putHere(key, v)
	}
	at := n.place(key)
	was, ok := n.parts[at].put(key, v)
	if n.parts[at].size() > most {
		n.split(at)
	}
	return was, ok
}

// putHere is put for a leaf.
func (n *node[V]) putHere(key int64, v V) (V, bool) {
	at, ok := slices.BinarySearch(n.keys, key)
	if ok {
		was := n.vals[at]
		n.vals[at] = v
		return was, true
	}
	n.keys = slices.Insert(n.keys, at, key)
	n.vals = slices.Insert(n.vals, at, v)
	var none V
	return none, false
}

// take takes away what is at the key, and answers it. The node may have one too few then.
func (n *node[V]) take(key int64) (V, bool) {
	if n.leaf() {
		return n.takeHere(key)
	}
	at := n.place(key)
	was, ok := n.parts[at].take(key)
	if n.parts[at].size() < least {
		n.fill(at)
	}
	return was, ok
}

// takeHere is take for a leaf.
func (n *node[V]) takeHere(key int64) (V, bool) {
	at, ok := slices.BinarySearch(n.keys, key)
	if !ok {
		var none V
		return none, false
	}
	was := n.vals[at]
	n.keys = slices.Delete(n.keys, at, at+1)
	n.vals = slices.Delete(n.vals, at, at+1)
	return was, true
}

// fill gives the part at that place, which has too little, what a part beside it has, all or some of it.
func (n *node[V]) fill(at int) {
	at = max(at-1, 0)
	n.join(at)
	if n.parts[at].size() > most {
		n.split(at)
	}
}

// join makes one of the part at that place and the one behind it.
func (n *node[V]) join(at int) {
	ahead, behind := n.parts[at], n.parts[at+1]
	if !ahead.leaf() {
		ahead.keys = append(ahead.keys, n.keys[at])
	}
	ahead.keys = append(ahead.keys, behind.keys...)
	ahead.vals = append(ahead.vals, behind.vals...)
	ahead.parts = append(ahead.parts, behind.parts...)
	n.keys = slices.Delete(n.keys, at, at+1)
	n.parts = slices.Delete(n.parts, at+1, at+2)
}

// split makes two of the part at that place, which has too much.
func (n *node[V]) split(at int) {
	key, behind := n.parts[at].halve()
	n.keys = slices.Insert(n.keys, at, key)
	n.parts = slices.Insert(n.parts, at+1, behind)
}

// halve takes the half behind off the node, and answers it, and the key that is to stand between the two.
func (n *node[V]) halve() (int64, *node[V]) {
	half := n.size() / 2
	behind := &node[V]{}
	if n.leaf() {
		n.keys, behind.keys = cut(n.keys, half)
		n.vals, behind.vals = cut(n.vals, half)
		return behind.keys[0], behind
	}
	n.parts, behind.parts = cut(n.parts, half)
	n.keys, behind.keys = cut(n.keys, half)
	// Between so many parts there is one key fewer: the one between the halves is left over.
	between := n.keys[half-1]
	n.keys = n.keys[:half-1]
	return between, behind
}

// cut answers what l has ahead of at, and what it has from there on, as a list of its own.
func cut[T any](l []T, at int) (ahead, behind []T) {
	behind = slices.Clone(l[at:])
	return slices.Delete(l, at, len(l)), behind
}

// things answers l, and behind it those things whose key is from lo to hi.
func (n *node[V]) things(l []thing[V], lo, hi int64) []thing[V] {
	if !n.leaf() {
		for at := n.place(lo); at <= n.place(hi); at++ {
			l = n.parts[at].things(l, lo, hi)
		}
		return l
	}
	at, _ := slices.BinarySearch(n.keys, lo)
	for ; at < len(n.keys) && n.keys[at] <= hi; at++ {
		l = append(l, thing[V]{n.keys[at], n.vals[at]})
	}
	return l
}

// edge answers the first thing and its key, or the last one.
func (n *node[V]) edge(last bool) (int64, V) {
	at := 0
	if last {
		at = n.size() - 1
	}
	if n.leaf() {
		return n.keys[at], n.vals[at]
	}
	return n.parts[at].edge(last)
}

// depth answers how many nodes lie on the way from this one to its first leaf.
func (n *node[V]) depth() int {
	if n.leaf() {
		return 1
	}
	return 1 + n.parts[0].depth()
}

// right tells whether the node has at least few and not too many, all its leaves lie so deep, its parts are right, and its keys in order.
func (n *node[V]) right(few, depth int) bool {
	if n.size() < few || n.size() > most || n.leaf() != (depth == 1) {
		return false
	}
	if n.leaf() {
		return len(n.vals) == len(n.keys) && rising(n.keys)
	}
	for _, p := range n.parts {
		if !p.right(least, depth-1) {
			return false
		}
	}
	return len(n.keys) == len(n.parts)-1 && n.between()
}

// between tells whether each key lies above all of the part ahead of it, and not above any of the part behind it. The parts must be right.
func (n *node[V]) between() bool {
	for at, key := range n.keys {
		ahead, _ := n.parts[at].edge(true)
		behind, _ := n.parts[at+1].edge(false)
		if ahead >= key || behind < key {
			return false
		}
	}
	return true
}

// rising tells whether each of the keys is above the one ahead of it.
func rising(keys []int64) bool {
	for at := 1; at < len(keys); at++ {
		if keys[at] <= keys[at-1] {
			return false
		}
	}
	return true
}

// clone answers a node with the same in it, down to the leaves.
func (n *node[V]) clone() *node[V] {
	c := &node[V]{keys: slices.Clone(n.keys), vals: slices.Clone(n.vals)}
	for _, p := range n.parts {
		c.parts = append(c.parts, p.clone())
	}
	return c
}
