package names

// Letters: how many letters a text has, and at which byte each begins.
func Letters(s string) (int, []int) {
	var l []int
	for i := range s {
		l = append(l, i)
	}
	return len(l), l
}

// Less: does one name stand ahead of another?
func Less(a, b string) bool {
	other := []rune(b)
	n := 0
	for _, c := range a {
		if n == len(other) {
			return false
		}
		if c != other[n] {
			return c < other[n]
		}
		n++
	}
	// Bytes that are no letters are all alike, so texts of the same letters may still be two.
	return n < len(other) || a < b
}
