// Package sum is layer 2: see shared/doc/02-sum.md.
package sum

// Poly is what the sum is reckoned with.
const Poly = 0x82F63B78

// Of: the sum of parts, one behind the other.
func Of(parts ...[]byte) uint32 {
	n := ^uint32(0)
	for _, p := range parts {
		for _, x := range p {
			n = halve(n ^ uint32(x))
		}
	}
	return ^n
}

// halve: a number is halved eight times, once for each bit of a byte.
func halve(n uint32) uint32 {
	for range 8 {
		out := n & 1
		n >>= 1
		if out == 1 {
			n ^= Poly
		}
	}
	return n
}
