package window

import (
	"fmt"
	"math"
	"strings"
	"testing"

	"agora/api"
)

// TestNewReceiver (16.2): which windows may be.
func TestNewReceiver(t *testing.T) {
	for _, wide := range []int{1, 2, 3, api.MaxWindow - 1, api.MaxWindow} {
		holds(t, "new", receiver(t, wide), 0, 0)
	}
	for _, wide := range []int{0, -1, api.MaxWindow + 1, api.MaxQueue, math.MaxInt, math.MinInt} {
		if r, err := NewReceiver(wide); err != api.ErrArg || r != nil {
			t.Errorf("wide %d: error %d, %v", wide, err, r)
		}
	}
}

// TestExampleOfReceiver (16.2): the chapter's example.
func TestExampleOfReceiver(t *testing.T) {
	r := receiver(t, 2)
	tells(t, "1", r.Take(piece(1, "b")))
	holds(t, "behind 1", r, 0, 1)
	tells(t, "0", r.Take(piece(0, "a")), "a", "b")
	holds(t, "behind 0", r, 2, 0)
}

// step is a piece that comes, what is told then, which number is wanted, and how many are kept.
type step struct {
	seq  int64
	data string
	told string // with blanks between
	want int64
	kept int
}

// walk lets pieces come one by one.
func walk(t *testing.T, wide int, steps ...step) {
	t.Helper()
	r := receiver(t, wide)
	for i, s := range steps {
		what := fmt.Sprintf("wide %d, step %d, piece %d %.20q", wide, i, s.seq, s.data)
		tells(t, what, r.Take(piece(s.seq, s.data)), strings.Fields(s.told)...)
		holds(t, what, r, s.want, s.kept)
	}
}

// TestTakeInOrder (16.2): each is told at once.
func TestTakeInOrder(t *testing.T) {
	for _, wide := range []int{1, 2, api.MaxWindow} {
		walk(t, wide, step{0, "a", "a", 1, 0}, step{1, "b", "b", 2, 0}, step{2, "c", "c", 3, 0}, step{3, "a", "a", 4, 0})
	}
}

// TestTakeOutside (16.2): what is below the wanted number, or wide or more above it, is not kept, and told never.
func TestTakeOutside(t *testing.T) {
	walk(t, 1, step{1, "b", "", 0, 0}, step{2, "c", "", 0, 0}, step{-1, "z", "", 0, 0}, step{0, "a", "a", 1, 0}, step{0, "a", "", 1, 0}, step{2, "c", "", 1, 0}, step{1, "b", "b", 2, 0}, step{1, "b", "", 2, 0}, step{0, "a", "", 2, 0}, step{2, "c", "c", 3, 0})
	walk(t, 3,
		step{3, "d", "", 0, 0}, step{4, "e", "", 0, 0}, step{-1, "z", "", 0, 0},
		step{2, "c", "", 0, 1}, // wide - 1 above the wanted one
		step{3, "d", "", 0, 1}, step{0, "a", "a", 1, 1},
		step{3, "d", "", 1, 2}, step{4, "e", "", 1, 2}, step{0, "a", "", 1, 2},
		step{1, "b", "b c d", 4, 0}, step{3, "x", "", 4, 0}, step{7, "x", "", 4, 0}, step{6, "g", "", 4, 1}, step{4, "e", "e", 5, 1}, step{4, "x", "", 5, 1}, step{5, "f", "f g", 7, 0},
	)
	for _, wide := range []int64{1, 2, 5, api.MaxWindow} {
		r := receiver(t, int(wide))
		for want := range int64(70) {
			for _, n := range append(farNumbers(), want-1, want-2, want+wide, want+wide+1, -want-1, want-wide-1) {
				tells(t, "outside", r.Take(piece(n, "x")))
				holds(t, fmt.Sprintf("wide %d, piece %d", wide, n), r, want, 0)
			}
			tells(t, "wanted", r.Take(piece(want, "w")), "w")
		}
	}
}

// TestTakeEdge (16.2): the farthest piece of a window is kept, at every wanted number, and told behind all ahead of it.
func TestTakeEdge(t *testing.T) {
	for _, wide := range []int64{2, 3, 17, api.MaxWindow} {
		r := receiver(t, int(wide))
		for round := range int64(5) {
			first := round * wide
			for n := first + wide - 1; n > first; n-- {
				tells(t, "early", r.Take(piece(n, fmt.Sprint(n))))
				holds(t, "early", r, first, int(first+wide-n))
			}
			told := r.Take(piece(first, fmt.Sprint(first)))
			if len(told) != int(wide) {
				t.Fatalf("wide %d: %d told", wide, len(told))
			}
			for i, b := range told {
				if string(b) != fmt.Sprint(first+int64(i)) {
					t.Errorf("wide %d: %q at %d", wide, b, i)
				}
			}
			holds(t, "round", r, first+wide, 0)
		}
	}
}

// TestTakeTwice (16.2): a second piece of a number that is kept, or was told, changes nothing, whatever its bytes are.
func TestTakeTwice(t *testing.T) {
	walk(t, 4,
		step{2, "c", "", 0, 1}, step{2, "c", "", 0, 1}, step{2, "x", "", 0, 1}, step{2, "", "", 0, 1},
		step{1, "b", "", 0, 2}, step{1, "y", "", 0, 2}, step{2, "z", "", 0, 2},
		step{0, "a", "a b c", 3, 0}, step{0, "x", "", 3, 0}, step{2, "x", "", 3, 0}, step{1, "x", "", 3, 0},
		step{3, "d", "d", 4, 0}, step{3, "d", "", 4, 0},
	)
	// A piece of no bytes is kept as others are.
	r := receiver(t, 2)
	r.Take(api.Piece{Seq: 1})
	r.Take(piece(1, "x"))
	holds(t, "empty", r, 0, 1)
	tells(t, "empty", r.Take(piece(0, "a")), "a", "")
}

// TestTakeGaps (16.2): what fills a gap is told with what is kept behind it, as far as the next gap.
func TestTakeGaps(t *testing.T) {
	walk(t, 8,
		step{1, "b", "", 0, 1}, step{2, "c", "", 0, 2}, step{4, "e", "", 0, 3}, step{7, "h", "", 0, 4},
		step{0, "a", "a b c", 3, 2}, step{6, "g", "", 3, 3}, step{3, "d", "d e", 5, 2}, step{8, "i", "", 5, 3}, step{5, "f", "f g h i", 9, 0},
		step{10, "k", "", 9, 1}, step{9, "j", "j k", 11, 0},
	)
	walk(t, 3, step{2, "c", "", 0, 1}, step{0, "a", "a", 1, 1}, step{3, "d", "", 1, 2}, step{1, "b", "b c d", 4, 0})
}

// TestTakeLong (16.2): a piece has no bytes, or as many as MaxPiece; one that has more is not kept.
func TestTakeLong(t *testing.T) {
	most := strings.Repeat("m", api.MaxPiece)
	r := receiver(t, 3)
	for _, n := range []int64{0, 1, 2} {
		tells(t, "too long", r.Take(piece(n, most+"m")))
		holds(t, "too long", r, 0, 0)
	}
	tells(t, "longest, early", r.Take(piece(1, most)))
	tells(t, "too long, again", r.Take(piece(1, most+most)))
	holds(t, "longest, early", r, 0, 1)
	tells(t, "none", r.Take(piece(0, "")), "", most)
	tells(t, "too long, wanted", r.Take(piece(2, most+"m")))
	holds(t, "too long, wanted", r, 2, 0)
	tells(t, "longest", r.Take(piece(2, most)), most)
	holds(t, "longest", r, 3, 0)
}

// TestTakeNothingTellsNothing (16.2): a piece that is not kept lets nothing be told, however much is kept.
func TestTakeNothingTellsNothing(t *testing.T) {
	r := receiver(t, 4)
	r.Take(piece(1, "b"))
	r.Take(piece(3, "d"))
	for _, p := range []api.Piece{piece(-1, "x"), piece(4, "x"), piece(5, "x"), piece(1, "x"), piece(3, "x"), piece(0, strings.Repeat("m", api.MaxPiece+1))} {
		tells(t, "nothing", r.Take(p))
		holds(t, "nothing", r, 0, 2)
	}
	tells(t, "at last", r.Take(piece(0, "a")), "a", "b")
	holds(t, "at last", r, 2, 1)
}
