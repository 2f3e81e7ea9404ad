package oracle

import (
	"slices"

	"agora/base"
)

// place tells where a server stands among the table's, if it is one of them.
func (t *Table) place(server string) (int, bool) {
	if t == nil {
		return 0, false
	}
	at := slices.Index(t.servers, server)
	return at, at >= 0
}

// twice tells whether a name stands twice.
func twice(names []string) bool {
	for i, name := range names {
		if slices.Contains(names[:i], name) {
			return true
		}
	}
	return false
}

// number tells a thing's number; a new one has the next.
func number[K comparable](m map[K]int, k K) int {
	n, ok := m[k]
	if !ok {
		n = len(m) + 1
		m[k] = n
	}
	return n
}

// letters tells a number as letters, of its eight bytes, the highest one first.
func letters(n int) string {
	var b [8]byte
	for i := range b {
		b[i] = byte(uint64(n) >> (56 - 8*i))
	}
	return base.Encode(b[:])
}
