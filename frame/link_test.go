package frame

import (
	"bytes"
	"encoding/binary"
	"fmt"
	"math"
	"math/rand"
	"strings"
	"testing"

	"agora/api"
)

// linkModel tells the bytes of a link, if it has some, by Go's own writer.
func linkModel(l api.Link) []byte {
	b := []byte{1}
	if l.Ack {
		b[0] = 2
	}
	return append(binary.BigEndian.AppendUint64(b, uint64(l.Seq)), l.Data...)
}

func sameLink(a, b api.Link) bool {
	return a.Ack == b.Ack && a.Seq == b.Seq && bytes.Equal(a.Data, b.Data)
}

// linked holds both calls to a link that has bytes.
func linked(t *testing.T, what string, l api.Link) {
	t.Helper()
	b, err := EncodeLink(l)
	if !bytes.Equal(b, linkModel(l)) || err != api.OK {
		t.Errorf("%s: %.60q, error %d", what, b, err)
	}
	if again, err := DecodeLink(b); !sameLink(again, l) || err != api.OK {
		t.Errorf("%s: became %v %d, %d bytes, error %d", what, again.Ack, again.Seq, len(again.Data), err)
	}
}

// unlinked holds EncodeLink to a link that has no bytes.
func unlinked(t *testing.T, what string, l api.Link) {
	t.Helper()
	if b, err := EncodeLink(l); err != api.ErrFrame || len(b) > 0 {
		t.Errorf("%s: %.60q, error %d", what, b, err)
	}
}

// noLink holds bytes to be no link's.
func noLink(t *testing.T, what string, b []byte) {
	t.Helper()
	if l, err := DecodeLink(b); err != api.ErrFrame || !sameLink(l, api.Link{}) {
		t.Errorf("%s: %.60q: %v %d, %d bytes, error %d", what, b, l.Ack, l.Seq, len(l.Data), err)
	}
}

// TestLinkByHand (17.1): bytes by hand, the chapter's example first.
func TestLinkByHand(t *testing.T) {
	for _, c := range []struct {
		link  api.Link
		bytes string
	}{
		{api.Link{Seq: 3}, "\x01\x00\x00\x00\x00\x00\x00\x00\x03"},
		{api.Link{Seq: 0, Data: []byte("a")}, "\x01\x00\x00\x00\x00\x00\x00\x00\x00a"},
		{api.Link{Seq: 258, Data: []byte("xy\x00")}, "\x01\x00\x00\x00\x00\x00\x00\x01\x02xy\x00"},
		{api.Link{Seq: 0x0102030405060708, Data: []byte{1, 2}}, "\x01\x01\x02\x03\x04\x05\x06\x07\x08\x01\x02"},
		{api.Link{Seq: math.MaxInt64, Data: []byte{255}}, "\x01\x7f\xff\xff\xff\xff\xff\xff\xff\xff"},
		{api.Link{Ack: true}, "\x02\x00\x00\x00\x00\x00\x00\x00\x00"},
		{api.Link{Ack: true, Seq: 65535}, "\x02\x00\x00\x00\x00\x00\x00\xff\xff"},
		{api.Link{Ack: true, Seq: math.MaxInt64}, "\x02\x7f\xff\xff\xff\xff\xff\xff\xff"},
	} {
		if b, err := EncodeLink(c.link); string(b) != c.bytes || err != api.OK {
			t.Errorf("%+v: %q, error %d", c.link, b, err)
		}
		if l, err := DecodeLink([]byte(c.bytes)); !sameLink(l, c.link) || err != api.OK {
			t.Errorf("%q: %+v, error %d", c.bytes, l, err)
		}
	}
}

// TestLinkNumbers (17.1): from 0 to the greatest number, each byte of it; none below 0.
func TestLinkNumbers(t *testing.T) {
	for bit := range 63 {
		for _, n := range []int64{1 << bit, 1<<bit - 1, math.MaxInt64 - 1<<bit} {
			linked(t, fmt.Sprint("piece ", n), api.Link{Seq: n, Data: []byte("ab")})
			linked(t, fmt.Sprint("ack ", n), api.Link{Ack: true, Seq: n})
		}
	}
	for _, n := range []int64{-1, -2, -256, math.MinInt64, math.MinInt64 + 1} {
		for _, l := range []api.Link{{Seq: n}, {Seq: n, Data: []byte("ab")}, {Ack: true, Seq: n}, {Ack: true, Seq: n, Data: []byte("a")}} {
			unlinked(t, fmt.Sprintf("%+v", l), l)
			noLink(t, fmt.Sprintf("bytes of %+v", l), linkModel(l))
		}
	}
}

// TestLinkData (17.1): of no bytes, of MaxPiece bytes, not of one more; none of an acknowledgement.
func TestLinkData(t *testing.T) {
	for _, n := range []int{0, 1, 2, 255, 256, 70000, api.MaxPiece - 1, api.MaxPiece} {
		linked(t, fmt.Sprint(n, " bytes"), api.Link{Seq: 5, Data: []byte(strings.Repeat("x", n))})
	}
	for _, n := range []int{api.MaxPiece + 1, api.MaxPiece + 2, 2 * api.MaxPiece} {
		l := api.Link{Seq: 5, Data: make([]byte, n)}
		unlinked(t, fmt.Sprint(n, " bytes"), l)
		noLink(t, fmt.Sprint(n, " bytes"), linkModel(l))
	}
	for _, n := range []int{1, 2, 8, api.MaxPiece, api.MaxPiece + 1} {
		l := api.Link{Ack: true, Seq: 5, Data: make([]byte, n)}
		unlinked(t, fmt.Sprint("an acknowledgement, and bytes: ", n), l)
		noLink(t, fmt.Sprint("an acknowledgement, and bytes: ", n), linkModel(l))
	}
}

// TestNoLink (17.1): bytes that are cut off, and those that begin with another byte.
func TestNoLink(t *testing.T) {
	noLink(t, "nil", nil)
	for _, l := range []api.Link{{Seq: 3, Data: []byte("abc")}, {Ack: true, Seq: 3}} {
		b := linkModel(l)
		for n := range 9 {
			noLink(t, fmt.Sprint("cut at ", n), b[:n])
		}
		for first := range 256 {
			if first != 1 && first != 2 {
				noLink(t, "another first byte", append([]byte{byte(first)}, b[1:]...))
			}
		}
		for high := 128; high < 256; high++ {
			noLink(t, "below 0", append([]byte{b[0], byte(high)}, b[2:]...))
		}
	}
	for first := range 256 {
		noLink(t, "one byte", []byte{byte(first)})
	}
}

// TestLinksByChance (17.1): what bytes tell has just these bytes; what none tell has none.
func TestLinksByChance(t *testing.T) {
	r := rand.New(rand.NewSource(171))
	counts := map[string]int{}
	for range 20000 {
		b := make([]byte, r.Intn(14))
		r.Read(b)
		if len(b) > 1 && r.Intn(5) > 0 {
			b[0], b[1] = byte(r.Intn(4)), byte(r.Intn(160))
		}
		l, err := DecodeLink(b)
		switch {
		case len(b) >= 9 && b[1] < 128 && (b[0] == 1 || b[0] == 2 && len(b) == 9):
			want := api.Link{Ack: b[0] == 2, Seq: int64(binary.BigEndian.Uint64(b[1:9])), Data: b[9:]}
			again, wrong := EncodeLink(l)
			if err != api.OK || wrong != api.OK || !sameLink(l, want) || !bytes.Equal(again, b) {
				t.Fatalf("%q: %+v, error %d, again %q", b, l, err, again)
			}
			counts[fmt.Sprint("link ", b[0])]++
		default:
			noLink(t, "by chance", b)
			counts["none"]++
		}
	}
	for _, c := range []string{"link 1", "link 2", "none"} {
		if counts[c] < 100 {
			t.Error("too few:", counts)
		}
	}
}
