package frame

import (
	"bytes"
	"fmt"
	"math/rand"
	"slices"
	"testing"

	"agora/api"
)

// rights tells right messages, by chance and of all kinds.
func rights(r *rand.Rand, n int) []api.Message {
	var l []api.Message
	for _, kind := range all() {
		l = append(l, bare(kind), rich(kind), greatest(kind))
	}
	for len(l) < n {
		if m := chanceMessage(r); modelRight(m) {
			l = append(l, m)
		}
	}
	return l
}

// TestBothWays (17.4): what is encoded is decoded as it was, contents in order, and that has the same bytes.
func TestBothWays(t *testing.T) {
	for _, m := range rights(rand.New(rand.NewSource(174)), 3000) {
		b, err := Encode(m)
		got, wrong := Decode(b)
		if err != api.OK || wrong != api.OK || shown(got) != shown(arranged(m)) || !Right(got) {
			t.Fatalf("%s became %s, errors %d and %d", shown(m), shown(got), err, wrong)
		}
		again, err := Encode(got)
		if !bytes.Equal(again, b) || err != api.OK {
			t.Fatalf("%.300q became %.300q, error %d", b, again, err)
		}
	}
}

// TestSpoiltBytes (17.3, 17.4): bytes that are changed by chance are none, or those of a right message, but for order and blanks.
func TestSpoiltBytes(t *testing.T) {
	r := rand.New(rand.NewSource(175))
	signs := []byte(`{}[]:,"\ 0123456789-+.eE!$@abtruefalsn` + "\t\n\x00\x01\x1f\x80\xff")
	read, refused := 0, 0
	for _, m := range rights(r, 300) {
		if len(m.Events) > 4 {
			m.Events = m.Events[:2]
		}
		was := model(shorter(m))
		for range 100 {
			b := slices.Clone(was)
			for range 1 + r.Intn(3) {
				at := r.Intn(len(b))
				switch r.Intn(4) {
				case 0:
					b[at] = byte(r.Intn(256))
				case 1:
					b[at] = signs[r.Intn(len(signs))]
				case 2:
					b = slices.Insert(b, at, signs[r.Intn(len(signs))])
					lengthen(b, r.Intn(2))
				case 3:
					b = slices.Delete(b, at, min(at+1+r.Intn(3), len(b)))
					b = append(b, ' ')
				}
			}
			got, err := Decode(b)
			if err != api.OK {
				none(t, "spoilt", b)
				refused++
				continue
			}
			again, wrong := Encode(got)
			if wrong != api.OK || !Right(got) || sorted(again) != sorted(b) {
				t.Fatalf("%q: %s, again %q, error %d", b, shown(got), again, wrong)
			}
			reads(t, "its own bytes", again, got)
			read++
		}
	}
	if read < 300 || refused < 3000 {
		t.Error("too few:", read, refused)
	}
}

// lengthen makes the first part one byte longer.
func lengthen(b []byte, by int) {
	if len(b) > 1 {
		b[1] += byte(by)
	}
}

// sorted tells the bytes of a message's parts that are no blanks, sorted: what blanks and order do not change.
func sorted(b []byte) string {
	var l []byte
	for len(b) > 1 {
		n := int(b[0])<<8 + int(b[1])
		part := b[2 : 2+n]
		b = b[2+n:]
		part = bytes.Map(func(r rune) rune {
			if r == ' ' || r == '\t' || r == '\n' || r == '\r' {
				return -1
			}
			return r
		}, part)
		slices.Sort(part)
		l = append(append(l, part...), '|')
	}
	return string(l)
}

// TestBeginnings (17.4): no bytes of a message are the beginning of another one's, but for events more.
func TestBeginnings(t *testing.T) {
	r := rand.New(rand.NewSource(176))
	l := rights(r, 400)
	for _, kind := range all() {
		for n := range 5 {
			if m := rich(kind); may(kind, n) {
				m.Events = several(n)
				l = append(l, m)
			}
		}
	}
	var coded [][]byte
	for _, m := range l {
		b, _ := Encode(m)
		coded = append(coded, b)
	}
	begun := 0
	for i, a := range coded {
		for k, b := range coded {
			if len(a) >= len(b) || !bytes.HasPrefix(b, a) {
				continue
			}
			begun++
			m, o := arranged(l[i]), arranged(l[k])
			if len(o.Events) <= len(m.Events) {
				t.Fatalf("%s and %s", shown(m), shown(o))
			}
			if o.Events = o.Events[:len(m.Events)]; shown(m) != shown(o) {
				t.Fatalf("%s and %s", shown(m), shown(o))
			}
		}
	}
	if begun < 20 {
		t.Error("too few:", begun)
	}
}

// TestApart (17.4): messages that are not the same have other bytes.
func TestApart(t *testing.T) {
	seen := map[string]string{}
	for _, m := range rights(rand.New(rand.NewSource(177)), 2000) {
		b, _ := Encode(m)
		s := shown(arranged(m))
		if was, ok := seen[string(b)]; ok && was != s {
			t.Fatalf("%s and %s", s, was)
		}
		seen[string(b)] = s
	}
	if len(seen) < 500 {
		t.Error("too few:", len(seen))
	}
}

// TestWithinLinks (17.1, 17.2): a message's bytes come through a piece as they are.
func TestWithinLinks(t *testing.T) {
	for i, m := range rights(rand.New(rand.NewSource(178)), 300) {
		b, _ := Encode(m)
		frame, err := EncodeLink(api.Link{Seq: int64(i), Data: b})
		l, wrong := DecodeLink(frame)
		if err != api.OK || wrong != api.OK || l.Seq != int64(i) {
			t.Fatal(err, wrong, l.Seq)
		}
		reads(t, fmt.Sprint("message ", i), l.Data, m)
	}
}
