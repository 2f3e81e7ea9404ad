package score

import (
	"bytes"
	"fmt"
	"math"
	"testing"

	"agora/api"
)

// TestNew (18.1): how many peers there may be, how much room, and which limit.
func TestNew(t *testing.T) {
	for _, c := range []struct {
		n, room, limit int
		want           api.Errno
	}{
		{1, 1, 1, api.OK}, {3, 2, 3, api.OK}, {api.MaxServers, api.MaxQueue, math.MaxInt, api.OK},
		{0, 1, 1, api.ErrArg}, {2, 1, 1, api.OK}, {api.MaxServers - 1, 1, 1, api.OK}, {api.MaxServers, 1, 1, api.OK}, {api.MaxServers + 1, 1, 1, api.ErrArg},
		{1, 0, 1, api.ErrArg}, {1, 2, 1, api.OK}, {1, api.MaxQueue - 1, 1, api.OK}, {1, api.MaxQueue, 1, api.OK}, {1, api.MaxQueue + 1, 1, api.ErrArg},
		{1, 1, 0, api.ErrArg}, {1, 1, 2, api.OK}, {1, 1, api.MaxQueue + 1, api.OK}, {1, 1, 1 << 40, api.OK}, {1, 1, math.MaxInt - 1, api.OK}, {1, 1, math.MaxInt, api.OK},
		{-1, 1, 1, api.ErrArg}, {1, -1, 1, api.ErrArg}, {1, 1, -1, api.ErrArg}, {0, 0, 0, api.ErrArg}, {-1, -1, -1, api.ErrArg},
		{math.MinInt, 1, 1, api.ErrArg}, {1, math.MinInt, 1, api.ErrArg}, {1, 1, math.MinInt, api.ErrArg},
		{math.MaxInt, 1, 1, api.ErrArg}, {1, math.MaxInt, 1, api.ErrArg}, {1<<32 + 1, 1, 1, api.ErrArg}, {1, 1<<32 + 1, 1, api.ErrArg},
		{0, 1, math.MaxInt, api.ErrArg}, {1, 0, math.MaxInt, api.ErrArg}, {api.MaxServers + 1, api.MaxQueue + 1, 1, api.ErrArg},
	} {
		b, err := New(c.n, c.room, c.limit)
		if err != c.want || (b != nil) != (err == api.OK) {
			t.Errorf("%d, %d, %d: error %d, board %v", c.n, c.room, c.limit, err, b != nil)
		}
	}
}

// TestNewIsEmpty (18.1): of a new board all n are peers, no other one is; no frame waits, nobody was blamed.
func TestNewIsEmpty(t *testing.T) {
	for _, n := range []int{1, 2, 3, 7, api.MaxServers} {
		b := board(t, n, 2, 1)
		for peer := range n {
			stands(t, "new", b, peer, 0, false, 0)
		}
		if b.Total() != 0 {
			t.Errorf("%d in all", b.Total())
		}
		tells(t, "new", b, "")
		for peer := range n {
			offer(t, b, peer, "x")
		}
		for _, peer := range strangers(n) {
			if err := b.Offer(peer, []byte("x")); err != api.ErrArg {
				t.Errorf("%d peers: offer by %d: error %d", n, peer, err)
			}
		}
		if b.Total() != n {
			t.Errorf("%d peers, %d in all", n, b.Total())
		}
	}
}

// TestOfferPeers (18.1): -1 and n are no peers, 0 and n - 1 are.
func TestOfferPeers(t *testing.T) {
	for _, c := range []struct {
		n, peer int
		want    api.Errno
	}{
		{1, -1, api.ErrArg}, {1, 0, api.OK}, {1, 1, api.ErrArg},
		{3, -1, api.ErrArg}, {3, 0, api.OK}, {3, 1, api.OK}, {3, 2, api.OK}, {3, 3, api.ErrArg}, {3, -3, api.ErrArg},
		{api.MaxServers, 0, api.OK}, {api.MaxServers, api.MaxServers - 1, api.OK}, {api.MaxServers, api.MaxServers, api.ErrArg},
		{3, math.MaxInt, api.ErrArg}, {3, math.MinInt, api.ErrArg}, {3, 1 << 32, api.ErrArg}, {3, 1<<32 + 1, api.ErrArg},
	} {
		b := board(t, c.n, 1, 1)
		if err := b.Offer(c.peer, []byte("x")); err != c.want {
			t.Errorf("%d peers, offer by %d: error %d, not %d", c.n, c.peer, err, c.want)
		}
		taken := 0
		if c.want == api.OK {
			taken = 1
		}
		if b.Waiting(c.peer) != taken || b.Total() != taken {
			t.Errorf("%d peers, offer by %d: %d waiting, %d in all", c.n, c.peer, b.Waiting(c.peer), b.Total())
		}
	}
}

// TestOfferFull (18.1): room frames wait, no more; a frame that is taken off makes room for one.
func TestOfferFull(t *testing.T) {
	for _, room := range []int{1, 2, 3, 10, api.MaxQueue - 1, api.MaxQueue} {
		what := fmt.Sprint("room ", room)
		b := board(t, 2, room, 1)
		offer(t, b, 1, counted("b", room-1)...)
		offer(t, b, 1, "last")
		for range 3 {
			if err := b.Offer(1, []byte("more")); err != api.ErrFull {
				t.Errorf("%s: one more: error %d", what, err)
			}
			stands(t, what, b, 1, 0, false, room)
		}
		// The other one has room of its own.
		offer(t, b, 0, "a0")
		tells(t, what, b, "0 a0", "1 "+append(counted("b", room-1), "last")[0])
		offer(t, b, 1, "behind")
		if err := b.Offer(1, nil); err != api.ErrFull {
			t.Errorf("%s: one more again: error %d", what, err)
		}
		l := told(t, b)
		if len(l) != room || l[room-1] != "1 behind" {
			t.Errorf("%s: %d told", what, len(l))
		}
	}
}

// TestOfferLong (18.1): frames of no bytes, of as many as may be, and of more.
func TestOfferLong(t *testing.T) {
	for _, c := range []struct {
		long int
		want api.Errno
	}{{0, api.OK}, {1, api.OK}, {api.MaxPiece - 1, api.OK}, {api.MaxPiece, api.OK}, {api.MaxPiece + 1, api.ErrLong}, {api.MaxPiece + 2, api.ErrLong}, {2 * api.MaxPiece, api.ErrLong}} {
		frame := bytes.Repeat([]byte("m"), c.long)
		b := board(t, 2, 1, 1)
		if err := b.Offer(1, frame); err != c.want {
			t.Fatalf("%d bytes: error %d, not %d", c.long, err, c.want)
		}
		turn, ok := b.Next()
		if ok != (c.want == api.OK) || ok && (turn.Peer != 1 || !bytes.Equal(turn.Frame, frame)) {
			t.Errorf("%d bytes: told %v, peer %d, %d bytes", c.long, ok, turn.Peer, len(turn.Frame))
		}
	}
}

// TestOfferIsLast (18.1): a frame is the last one of its queue, behind those that wait; the same frame may wait twice.
func TestOfferIsLast(t *testing.T) {
	b := board(t, 1, 5, 1)
	offer(t, b, 0, "a", "b", "a")
	tells(t, "first", b, "0 a")
	offer(t, b, 0, "", "c")
	tells(t, "then", b, "0 b", "0 a")
	offer(t, b, 0, "d", "a", "")
	ends(t, "at last", b, "0 ", "0 c", "0 d", "0 a", "0 ")
}

// TestOfferOut (18.1): who is out is refused, for good, whatever is offered.
func TestOfferOut(t *testing.T) {
	b := board(t, 3, 2, 2)
	offer(t, b, 1, "a")
	b.Blame(1, 1)
	offer(t, b, 1, "b")
	b.Blame(1, 1)
	for range 3 {
		for _, frame := range [][]byte{nil, {}, []byte("x"), make([]byte, api.MaxPiece), make([]byte, api.MaxPiece+1)} {
			if err := b.Offer(1, frame); err != api.ErrDenied {
				t.Errorf("%d bytes: error %d", len(frame), err)
			}
			stands(t, "out", b, 1, 2, true, 0)
		}
		tells(t, "out", b, "")
	}
}

// TestOfferErrors (18.1, R2): of several errors the one that the chapter names first: no peer, out, full, too long.
func TestOfferErrors(t *testing.T) {
	long := make([]byte, api.MaxPiece+1)
	for _, c := range []struct {
		what  string
		peer  int
		out   bool
		full  bool
		frame []byte
		want  api.Errno
	}{
		{"nothing wrong", 0, false, false, nil, api.OK},
		{"long", 0, false, false, long, api.ErrLong},
		{"full", 0, false, true, nil, api.ErrFull},
		{"full, long", 0, false, true, long, api.ErrFull},
		{"out", 0, true, false, nil, api.ErrDenied},
		{"out, long", 0, true, false, long, api.ErrDenied},
		{"out, was full", 0, true, true, nil, api.ErrDenied},
		{"out, was full, long", 0, true, true, long, api.ErrDenied},
		{"no peer", 2, false, false, nil, api.ErrArg},
		{"no peer, long", 2, false, false, long, api.ErrArg},
		{"no peer, full", 2, false, true, nil, api.ErrArg},
		{"no peer, all out", -1, true, true, nil, api.ErrArg},
		{"no peer, all out, long", -1, true, true, long, api.ErrArg},
	} {
		b := board(t, 2, 1, 1)
		for peer := range 2 {
			if c.full {
				offer(t, b, peer, "f")
			}
			if c.out {
				b.Blame(peer, 1)
			}
		}
		was := looks(b, 2)
		if err := b.Offer(c.peer, c.frame); err != c.want {
			t.Errorf("%s: error %d, not %d", c.what, err, c.want)
		}
		if c.want != api.OK {
			same(t, c.what, b, 2, was)
		}
	}
}
