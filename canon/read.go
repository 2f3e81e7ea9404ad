package canon

import (
	"unicode/utf8"

	"agora/api"
)

// The letters that stand for others only as two of them.
const (
	firstHigh = 0xD800
	firstLow  = 0xDC00
	lastLow   = 0xDFFF
	firstPair = 0x10000
)

// reader goes through a text from the front. Once something fails, err and place tell what and where, and nothing more is read.
type reader struct {
	text  string
	at    int
	err   api.Errno
	place int
}

func (r *reader) fail(err api.Errno, place int) { r.err, r.place = err, place }

// peek tells the next byte, or 0 at the end: no text goes on with the letter 0 either, and the place is right for both.
func (r *reader) peek() byte { return r.byteAt(r.at) }

func (r *reader) byteAt(i int) byte {
	if i < len(r.text) {
		return r.text[i]
	}
	return 0
}

func (r *reader) blanks() {
	for c := r.peek(); c == ' ' || c == '\t' || c == '\n' || c == '\r'; c = r.peek() {
		r.at++
	}
}

// take goes past a byte if it is that one.
func (r *reader) take(c byte) bool {
	if r.peek() != c {
		return false
	}
	r.at++
	return true
}

// must goes past a byte that has to be that one.
func (r *reader) must(c byte) bool {
	if r.take(c) {
		return true
	}
	r.fail(api.ErrJson, r.at)
	return false
}

// whole reads one value that is all of the text.
func (r *reader) whole() (api.Json, bool) {
	r.blanks()
	j, ok := r.value(1)
	if !ok {
		return api.Json{}, false
	}
	r.blanks()
	if r.at < len(r.text) {
		r.fail(api.ErrTail, r.at)
		return api.Json{}, false
	}
	return j, true
}

// value reads a value that stands that deep. Whether it is too deep is asked at its first sign, whatever comes behind that.
func (r *reader) value(deep int) (api.Json, bool) {
	c := r.peek()
	if !begins(c) {
		r.fail(api.ErrJson, r.at)
		return api.Json{}, false
	}
	if deep > api.MaxDepth {
		r.fail(api.ErrDeep, r.at)
		return api.Json{}, false
	}
	switch c {
	case 'n':
		return api.Json{Kind: api.JNull}, r.word("null")
	case 't':
		return api.Json{Kind: api.JBool, Int: 1}, r.word("true")
	case 'f':
		return api.Json{Kind: api.JBool}, r.word("false")
	case '"':
		s, ok := r.quoted()
		return api.Json{Kind: api.JText, Text: s}, ok
	case '[':
		return r.list(deep)
	case '{':
		return r.pairs(deep)
	}
	return r.number()
}

func begins(c byte) bool {
	switch c {
	case '[', '{', '"', 'n', 't', 'f', '-':
		return true
	}
	return isDigit(c)
}

func isDigit(c byte) bool { return '0' <= c && c <= '9' }

func (r *reader) word(s string) bool {
	for i := range len(s) {
		if !r.must(s[i]) {
			return false
		}
	}
	return true
}

func (r *reader) number() (api.Json, bool) {
	begin := r.at
	negative := r.take('-')
	if !isDigit(r.peek()) {
		r.fail(api.ErrJson, r.at)
		return api.Json{}, false
	}
	n := r.digits()
	c := r.peek()
	if n > api.MaxInt || c == '.' || c == 'e' || c == 'E' {
		r.fail(api.ErrInt, begin)
		return api.Json{}, false
	}
	if negative {
		n = -n
	}
	return api.Json{Kind: api.JInt, Int: n}, true
}

// digits reads a number's digits, of which a 0 ahead is the only one. A number that is past MaxInt grows no more, so that it stays an int64.
func (r *reader) digits() int64 {
	if r.take('0') {
		return 0
	}
	var n int64
	for isDigit(r.peek()) {
		if n <= api.MaxInt {
			n = n*10 + int64(r.peek()-'0')
		}
		r.at++
	}
	return n
}

func (r *reader) list(deep int) (api.Json, bool) {
	j := api.Json{Kind: api.JList}
	r.at++
	r.blanks()
	if r.take(']') {
		return j, true
	}
	for {
		r.blanks()
		v, ok := r.value(deep + 1)
		if !ok {
			return api.Json{}, false
		}
		j.List = append(j.List, v)
		r.blanks()
		if r.take(']') {
			return j, true
		}
		if !r.must(',') {
			return api.Json{}, false
		}
	}
}

func (r *reader) pairs(deep int) (api.Json, bool) {
	r.at++
	r.blanks()
	if r.take('}') {
		return api.Json{Kind: api.JMap}, true
	}
	var keys []string
	var list []api.Json
	stood := map[string]struct{}{}
	for {
		r.blanks()
		key, ok := r.key(stood)
		if !ok {
			return api.Json{}, false
		}
		v, ok := r.value(deep + 1)
		if !ok {
			return api.Json{}, false
		}
		keys, list = append(keys, key), append(list, v)
		r.blanks()
		if r.take('}') {
			return mapOf(keys, list), true
		}
		if !r.must(',') {
			return api.Json{}, false
		}
	}
}

// key reads a key that did not stand yet, and goes on to its value.
func (r *reader) key(stood map[string]struct{}) (string, bool) {
	begin := r.at
	if r.peek() != '"' {
		r.fail(api.ErrJson, r.at)
		return "", false
	}
	s, ok := r.quoted()
	if !ok {
		return "", false
	}
	if _, twice := stood[s]; twice {
		r.fail(api.ErrTwice, begin)
		return "", false
	}
	stood[s] = struct{}{}
	r.blanks()
	if !r.must(':') {
		return "", false
	}
	r.blanks()
	return s, true
}

func (r *reader) quoted() (string, bool) {
	r.at++
	var out []byte
	for {
		c := r.peek()
		switch {
		case c == '"':
			r.at++
			return string(out), true
		case c == '\\':
			l, ok := r.escape()
			if !ok {
				return "", false
			}
			out = utf8.AppendRune(out, l)
		case c < 32:
			r.fail(api.ErrJson, r.at)
			return "", false
		default:
			out = append(out, c)
			r.at++
		}
	}
}

// escape reads the letter that a \ and what is behind it say.
func (r *reader) escape() (rune, bool) {
	var l rune
	switch c := r.byteAt(r.at + 1); c {
	case '"', '\\', '/':
		l = rune(c)
	case 'b':
		l = 8
	case 'f':
		l = 12
	case 'n':
		l = 10
	case 'r':
		l = 13
	case 't':
		l = 9
	case 'u':
		return r.coded()
	default:
		r.fail(api.ErrJson, r.at+1)
		return 0, false
	}
	r.at += 2
	return l, true
}

// coded reads a letter, or two that are one, written as \u and digits. A half that stands alone is told at its own \, whatever stands where the other half should be.
func (r *reader) coded() (rune, bool) {
	first, digits := r.hexAt(r.at + 2)
	if digits < 4 {
		r.fail(api.ErrJson, r.at+2+digits)
		return 0, false
	}
	if first < firstHigh || first > lastLow {
		r.at += 6
		return first, true
	}
	second, ok := r.lowAt(r.at + 6)
	if first >= firstLow || !ok {
		r.fail(api.ErrJson, r.at)
		return 0, false
	}
	r.at += 12
	return firstPair + (first-firstHigh)<<10 + (second - firstLow), true
}

// lowAt tells the second half of a letter that is written at a place, if there is one.
func (r *reader) lowAt(i int) (rune, bool) {
	if r.byteAt(i) != '\\' || r.byteAt(i+1) != 'u' {
		return 0, false
	}
	l, digits := r.hexAt(i + 2)
	return l, digits == 4 && firstLow <= l && l <= lastLow
}

// hexAt tells the number that up to four digits of radix 16 at a place say, and how many they are.
func (r *reader) hexAt(i int) (rune, int) {
	var n rune
	for k := range 4 {
		d, ok := hexDigit(r.byteAt(i + k))
		if !ok {
			return n, k
		}
		n = n<<4 + d
	}
	return n, 4
}

func hexDigit(c byte) (rune, bool) {
	switch {
	case isDigit(c):
		return rune(c - '0'), true
	case 'a' <= c && c <= 'f':
		return rune(c-'a') + 10, true
	case 'A' <= c && c <= 'F':
		return rune(c-'A') + 10, true
	}
	return 0, false
}
