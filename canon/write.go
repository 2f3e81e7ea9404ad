package canon

import (
	"strconv"

	"agora/api"
)

const hexDigits = "0123456789abcdef"

// writer gathers the bytes of a value that is good and in order.
type writer struct{ out []byte }

// long tells whether there are more bytes than may be.
func (w *writer) long() bool { return len(w.out) > api.MaxBytes }

// put adds nothing once there are too many: a value that is far too long takes no more memory than one that is a little too long.
func (w *writer) put(s string) {
	if !w.long() {
		w.out = append(w.out, s...)
	}
}

func (w *writer) value(j api.Json) {
	switch j.Kind {
	case api.JNull:
		w.put("null")
	case api.JBool:
		w.put(strconv.FormatBool(j.Int == 1))
	case api.JInt:
		w.put(strconv.FormatInt(j.Int, 10))
	case api.JText:
		w.text(j.Text)
	case api.JList:
		w.list(j.List)
	case api.JMap:
		w.pairs(j.Keys, j.List)
	}
}

func (w *writer) list(l []api.Json) {
	w.put("[")
	for i, j := range l {
		w.comma(i)
		w.value(j)
	}
	w.put("]")
}

func (w *writer) pairs(keys []string, l []api.Json) {
	w.put("{")
	for i, j := range l {
		w.comma(i)
		w.text(keys[i])
		w.put(":")
		w.value(j)
	}
	w.put("}")
}

// comma stands ahead of every one but the first.
func (w *writer) comma(i int) {
	if i > 0 {
		w.put(",")
	}
}

func (w *writer) text(s string) {
	w.put(`"`)
	for _, l := range s {
		w.put(escaped(l))
	}
	w.put(`"`)
}

// escaped tells how a letter stands in a text.
func escaped(l rune) string {
	switch l {
	case '"':
		return `\"`
	case '\\':
		return `\\`
	case 8:
		return `\b`
	case 9:
		return `\t`
	case 10:
		return `\n`
	case 12:
		return `\f`
	case 13:
		return `\r`
	}
	if l < 32 {
		return `\u00` + hexDigits[l>>4:l>>4+1] + hexDigits[l&15:l&15+1]
	}
	return string(l)
}
