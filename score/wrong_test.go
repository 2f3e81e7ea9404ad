package score

import (
	"fmt"
	"math"
	"testing"

	"agora/api"
)

// TestBareBoards (R1, 18.3): a nil board, and one that New did not make, takes nothing, and tells nothing.
func TestBareBoards(t *testing.T) {
	long := make([]byte, api.MaxPiece+1)
	for i, b := range bare() {
		what := fmt.Sprint("board ", i)
		for range 2 {
			for _, peer := range append(strangers(3), 0, 1, 2, api.MaxServers-1) {
				// Nothing else that is wrong is told ahead of this.
				for _, frame := range [][]byte{nil, {}, []byte("x"), long[:api.MaxPiece], long} {
					if err := b.Offer(peer, frame); err != api.ErrArg {
						t.Errorf("%s: offer by %d of %d bytes: error %d", what, peer, len(frame), err)
					}
				}
				for _, by := range []int{0, 1, -1, math.MaxInt, math.MinInt} {
					if b.Blame(peer, by) {
						t.Errorf("%s: %d is out", what, peer)
					}
				}
				stands(t, what, b, peer, 0, false, 0)
			}
			tells(t, what, b, "", "")
			if b.Total() != 0 {
				t.Errorf("%s: %d in all", what, b.Total())
			}
		}
	}
}

// TestRefusedOffers (18.1, R2): what is refused changes nothing: no place in a queue, no turn, no score.
func TestRefusedOffers(t *testing.T) {
	long := make([]byte, api.MaxPiece+1)
	for _, c := range []struct {
		what  string
		peer  int
		frame []byte
		want  api.Errno
	}{
		{"no peer", 3, []byte("x"), api.ErrArg}, {"no peer", -1, []byte("x"), api.ErrArg},
		{"out", 1, []byte("x"), api.ErrDenied}, {"full", 0, []byte("x"), api.ErrFull}, {"long", 2, long, api.ErrLong},
	} {
		b := offered(t, 2, 2, []string{"a0", "a1"}, []string{"b0"}, []string{"c0"})
		b.Blame(1, 2)
		b.Blame(2, 1)
		was := looks(b, 3)
		for range 3 {
			if err := b.Offer(c.peer, c.frame); err != c.want {
				t.Errorf("%s: error %d, not %d", c.what, err, c.want)
			}
			same(t, c.what, b, 3, was)
		}
		ends(t, c.what, b, "0 a0", "2 c0", "0 a1")
		for range 3 {
			b.Offer(c.peer, c.frame)
		}
	}
	// The turn is behind who was told last, whoever was refused since.
	b := offered(t, 1, 1, []string{"a"}, []string{"b"}, nil)
	tells(t, "first", b, "0 a")
	b.Offer(1, []byte("full"))
	b.Offer(2, long)
	b.Offer(3, nil)
	offer(t, b, 0, "a2")
	ends(t, "behind 0", b, "1 b", "0 a2")
}

// TestWrongBlames (18.3): by below 0 counts as 0: it makes no score less, and nobody is heard again.
func TestWrongBlames(t *testing.T) {
	for _, by := range []int{0, -1, -2, -5, -1000, math.MinInt, math.MinInt + 1, -1 << 32, -1<<32 - 1} {
		b := offered(t, 2, 5, []string{"a", "b"}, []string{"c"}, []string{"d"})
		b.Blame(0, 4)
		b.Blame(1, 7)
		was := looks(b, 3)
		for range 3 {
			if b.Blame(0, by) || !b.Blame(1, by) || b.Blame(2, by) {
				t.Errorf("by %d: another one is out", by)
			}
			same(t, fmt.Sprint("by ", by), b, 3, was)
		}
		if err := b.Offer(1, nil); err != api.ErrDenied {
			t.Errorf("by %d: error %d", by, err)
		}
		if !b.Blame(0, 1) {
			t.Errorf("by %d, then 1: not out", by)
		}
		ends(t, fmt.Sprint("by ", by), b, "2 d")
	}
}

// TestBlameOut (18.3): who is out may be blamed again: it is out, its score is the limit.
func TestBlameOut(t *testing.T) {
	for _, limit := range []int{1, 3, math.MaxInt} {
		b := board(t, 2, 1, limit)
		b.Blame(1, limit)
		for _, by := range []int{0, 1, limit, -limit, math.MaxInt, math.MinInt} {
			if !b.Blame(1, by) {
				t.Errorf("limit %d, by %d: not out", limit, by)
			}
			stands(t, fmt.Sprintf("limit %d, by %d", limit, by), b, 1, limit, true, 0)
			stands(t, "the other one", b, 0, 0, false, 0)
		}
	}
}
