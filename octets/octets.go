// Package octets has numbers and texts as bytes: layer 1, see shared/doc/01-octets.md.
package octets

const (
	groupBits = 7              // bits of a number that one byte of a Uint has
	more      = 1 << groupBits // set in each byte of a Uint but the last one
	mostBytes = 10             // so many groups hold 64 bits
	mostTenth = 1              // nine groups leave one bit of the 64
	wordBytes = 4
	sumModulo = 65521 // the greatest prime below 2^16: Adler's
)

// PutUint answers b with n behind it, seven bits in a byte, the lowest first.
func PutUint(b []byte, n uint64) []byte {
	out := apart(b)
	last := Size(n) - 1
	for i := range last {
		out = append(out, byte(n>>(groupBits*i))|more)
	}
	return append(out, byte(n>>(groupBits*last)))
}

// PutInt answers b with n behind it. The sign is the lowest bit, so that numbers near 0 are short on both sides of it.
func PutInt(b []byte, n int64) []byte {
	return PutUint(b, uint64(n)<<1^uint64(n>>63))
}

// PutText answers b with how many bytes s has, and these, behind it.
func PutText(b []byte, s string) []byte {
	return append(PutUint(b, uint64(len(s))), s...)
}

// PutWord answers b with the four bytes of n behind it, the highest first.
func PutWord(b []byte, n uint32) []byte {
	return append(apart(b), byte(n>>24), byte(n>>16), byte(n>>8), byte(n))
}

// apart answers b without its spare room: what is appended to it goes into new memory, and none of the caller's is written to.
func apart(b []byte) []byte {
	return b[:len(b):len(b)]
}

// GetUint reads from at on what PutUint writes.
func GetUint(b []byte, at int) (n uint64, next int, ok bool) {
	if at < 0 || at > len(b) {
		return 0, 0, false
	}
	rest := b[at:]
	for i := range min(len(rest), mostBytes) {
		c := rest[i]
		n |= uint64(c&^more) << (groupBits * i)
		if c < more {
			if !mayEnd(c, i) {
				return 0, 0, false
			}
			return n, at + i + 1, true
		}
	}
	return 0, 0, false
}

// mayEnd tells whether a Uint may end with c as its byte i. With a last byte 0 one number would have several forms, and a tenth byte over its most has bits that no number has room for.
func mayEnd(c byte, i int) bool {
	if i == mostBytes-1 && c > mostTenth {
		return false
	}
	return c != 0 || i == 0
}

// GetInt reads from at on what PutInt writes.
func GetInt(b []byte, at int) (n int64, next int, ok bool) {
	u, next, ok := GetUint(b, at)
	return int64(u>>1) ^ -int64(u&1), next, ok
}

// GetText reads from at on what PutText writes, of at most so many bytes.
func GetText(b []byte, at, most int) (s string, next int, ok bool) {
	n, from, ok := GetUint(b, at)
	// Held against the bytes that there are first: a greater number need not fit an int.
	if !ok || n > uint64(len(b)-from) || int(n) > most {
		return "", 0, false
	}
	next = from + int(n)
	return string(b[from:next]), next, true
}

// GetWord reads from at on what PutWord writes.
func GetWord(b []byte, at int) (n uint32, next int, ok bool) {
	if at < 0 || at > len(b)-wordBytes {
		return 0, 0, false
	}
	for i := range wordBytes {
		n = n<<8 | uint32(b[at+i])
	}
	return n, at + wordBytes, true
}

// Sum answers Adler's sum of b.
func Sum(b []byte) uint32 {
	x, y := uint32(1), uint32(0)
	for i := range len(b) {
		x = (x + uint32(b[i])) % sumModulo
		y = (y + x) % sumModulo
	}
	return y<<16 | x
}

// Size answers how many bytes PutUint of n has.
func Size(n uint64) int {
	size := 1
	for n >= more {
		n >>= groupBits
		size++
	}
	return size
}
