package ident

import "strings"

// letterOr tells a closure that asks whether a byte is a small letter, a digit, or one of the others.
func letterOr(others string) func(byte) bool {
	return func(c byte) bool {
		return 'a' <= c && c <= 'z' || '0' <= c && c <= '9' || strings.IndexByte(others, c) >= 0
	}
}

// fits tells whether s has 1 to most letters, all of a kind. Bytes will do: a letter of several bytes has none that is of a kind here.
func fits(s string, most int, kind func(byte) bool) bool {
	if len(s) < 1 || len(s) > most {
		return false
	}
	for i := range len(s) {
		if !kind(s[i]) {
			return false
		}
	}
	return true
}
