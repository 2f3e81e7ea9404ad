package base

import "agora/api"

const alphabet = "ABCDEFGHIJKLMNOPQRSTUVWXYZabcdefghijklmnopqrstuvwxyz0123456789+/"

// lettersOf tells how many letters a group of up to three bytes has.
func lettersOf(n int) int {
	if n == 0 {
		return 0
	}
	return n + 1
}

// bytesOf tells how many bytes a group of up to four letters has; one letter alone has none.
func bytesOf(n int) int { return max(n-1, 0) }

// spread tells the four letters of three bytes.
func spread(three [3]byte) [4]byte {
	bits := uint32(three[0])<<16 | uint32(three[1])<<8 | uint32(three[2])
	return [4]byte{alphabet[bits>>18&63], alphabet[bits>>12&63], alphabet[bits>>6&63], alphabet[bits&63]}
}

// gather tells the three bytes of four letters, of which those at the end may be wanting: they count as nought.
func gather(four [4]byte) [3]byte {
	var bits uint32
	for _, c := range four {
		n, _ := number(c)
		bits = bits<<6 | n
	}
	return [3]byte{byte(bits >> 16), byte(bits >> 8), byte(bits)}
}

// number tells a letter's number, if it is one of the alphabet's.
func number(c byte) (uint32, bool) {
	switch {
	case 'A' <= c && c <= 'Z':
		return uint32(c - 'A'), true
	case 'a' <= c && c <= 'z':
		return uint32(c-'a') + 26, true
	case '0' <= c && c <= '9':
		return uint32(c-'0') + 52, true
	case c == '+':
		return 62, true
	case c == '/':
		return 63, true
	}
	return 0, false
}

// fault tells the first error of a text, and its place.
func fault(s string) (api.Errno, int) {
	for i := range len(s) {
		if _, ok := number(s[i]); !ok {
			return api.ErrBase, i
		}
	}
	if len(s)%4 == 1 {
		return api.ErrSize, len(s)
	}
	if spare(s) != 0 {
		return api.ErrBits, len(s) - 1
	}
	return api.OK, 0
}

// spare tells the bits of the last letter that no byte has.
func spare(s string) uint32 {
	var mask uint32
	switch len(s) % 4 {
	case 0:
		return 0
	case 2:
		mask = 15
	case 3:
		mask = 3
	}
	last, _ := number(s[len(s)-1])
	return last & mask
}
