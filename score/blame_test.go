package score

import (
	"fmt"
	"math"
	"testing"

	"agora/api"
)

// TestChapterBlame (18.3): the chapter's example.
func TestChapterBlame(t *testing.T) {
	b := board(t, 3, 2, 2)
	if !b.Blame(0, 5) {
		t.Error("not out")
	}
	stands(t, "blamed", b, 0, 2, true, 0)
}

// TestBlame (18.3): a score is as much more as is told, limit at most; at the limit the peer is out.
func TestBlame(t *testing.T) {
	const most, least = math.MaxInt, math.MinInt
	for _, c := range []struct {
		limit    int
		by       []int
		score    int
		out      bool
		wasAhead bool // out ahead of the last blame
	}{
		{1, []int{0}, 0, false, false}, {1, []int{-1}, 0, false, false}, {1, []int{1}, 1, true, false}, {1, []int{2}, 1, true, false}, {1, []int{most}, 1, true, false}, {1, []int{least}, 0, false, false},
		{2, []int{1}, 1, false, false}, {2, []int{1, 0}, 1, false, false}, {2, []int{1, -1}, 1, false, false}, {2, []int{1, 1}, 2, true, false}, {2, []int{1, 2}, 2, true, false}, {2, []int{1, most}, 2, true, false}, {2, []int{1, least}, 1, false, false},
		{10, []int{9}, 9, false, false}, {10, []int{10}, 10, true, false}, {10, []int{11}, 10, true, false},
		{10, []int{4, 5}, 9, false, false}, {10, []int{4, 6}, 10, true, false}, {10, []int{4, 7}, 10, true, false}, {10, []int{4, -4, 5}, 9, false, false}, {10, []int{4, -9, 6}, 10, true, false},
		{10, []int{10, 0}, 10, true, true}, {10, []int{10, -1}, 10, true, true}, {10, []int{10, -10}, 10, true, true}, {10, []int{10, 1}, 10, true, true}, {10, []int{10, most}, 10, true, true}, {10, []int{99, least}, 10, true, true},
		{most, []int{1}, 1, false, false}, {most, []int{most - 1}, most - 1, false, false}, {most, []int{most}, most, true, false},
		{most, []int{most - 1, 0}, most - 1, false, false}, {most, []int{most - 1, least}, most - 1, false, false}, {most, []int{most - 1, 1}, most, true, false}, {most, []int{most - 1, 2}, most, true, false}, {most, []int{most - 1, most}, most, true, false},
		{most, []int{7, most - 8}, most - 1, false, false}, {most, []int{7, most - 7}, most, true, false}, {most, []int{7, most - 6}, most, true, false}, {most, []int{most, most}, most, true, true},
		{most - 1, []int{most}, most - 1, true, false}, {most - 1, []int{most - 2, 1}, most - 1, true, false}, {1 << 32, []int{1<<32 - 1}, 1<<32 - 1, false, false}, {1 << 32, []int{1<<32 + 5}, 1 << 32, true, false},
	} {
		what := fmt.Sprintf("limit %d, by %d", c.limit, c.by)
		b := offered(t, 3, c.limit, []string{"a"}, []string{"b", "c", "d"}, []string{"e"})
		for i, by := range c.by {
			last := i == len(c.by)-1
			if last && b.Out(1) != c.wasAhead {
				t.Errorf("%s: out ahead: %v", what, b.Out(1))
			}
			if out := b.Blame(1, by); out != b.Out(1) || last && out != c.out {
				t.Errorf("%s: blamed by %d: out %v, then %v", what, by, out, b.Out(1))
			}
		}
		waiting := 3
		if c.out {
			waiting = 0
		}
		stands(t, what, b, 1, c.score, c.out, waiting)
		stands(t, what, b, 0, 0, false, 1)
		stands(t, what, b, 2, 0, false, 1)
		if b.Total() != 2+waiting {
			t.Errorf("%s: %d in all", what, b.Total())
		}
	}
}

// TestBlameLeft (18.3): what is left to the limit, one less, and one more.
func TestBlameLeft(t *testing.T) {
	for _, limit := range []int{1, 2, 3, 7, 1000, math.MaxInt} {
		for _, first := range []int{0, 1, limit / 2, limit - 2, limit - 1} {
			if first < 0 || first >= limit {
				continue
			}
			left := limit - first
			for _, c := range []struct {
				by, score int
				out       bool
			}{{left - 1, limit - 1, false}, {left, limit, true}, {max(left, left+1), limit, true}} {
				b := board(t, 2, 1, limit)
				b.Blame(1, first)
				stands(t, "first", b, 1, first, false, 0)
				what := fmt.Sprintf("limit %d, score %d, by %d", limit, first, c.by)
				if out := b.Blame(1, c.by); out != c.out {
					t.Errorf("%s: out %v", what, out)
				}
				stands(t, what, b, 1, c.score, c.out, 0)
			}
		}
	}
}

// TestBlameOneByOne (18.3): a peer is heard as long as its score is below the limit.
func TestBlameOneByOne(t *testing.T) {
	for _, limit := range []int{1, 2, 3, 10, 1000} {
		b := board(t, 2, 1, limit)
		for score := range limit {
			stands(t, "below", b, 0, score, false, b.Waiting(0))
			if err := b.Offer(0, []byte("x")); err != api.OK {
				t.Fatalf("limit %d, score %d: error %d", limit, score, err)
			}
			tells(t, "below", b, "0 x")
			if out := b.Blame(0, 1); out != (score+1 == limit) {
				t.Errorf("limit %d, score %d and one more: out %v", limit, score, out)
			}
		}
		stands(t, "at", b, 0, limit, true, 0)
		if err := b.Offer(0, []byte("x")); err != api.ErrDenied {
			t.Errorf("limit %d: error %d", limit, err)
		}
	}
}

// TestBlameDrops (18.3): who is out has an empty queue, at once; who is not keeps its frames.
func TestBlameDrops(t *testing.T) {
	b := offered(t, 5, 3, counted("a", 5), counted("b", 5), counted("c", 2))
	tells(t, "first", b, "0 a0", "1 b0")
	if b.Blame(0, 2) || b.Total() != 10 {
		t.Errorf("%d in all", b.Total())
	}
	tells(t, "still heard", b, "2 c0", "0 a1")
	if !b.Blame(0, 1) || b.Total() != 5 || b.Waiting(0) != 0 {
		t.Errorf("%d in all, %d waiting", b.Total(), b.Waiting(0))
	}
	ends(t, "without it", b, "1 b1", "2 c1", "1 b2", "1 b3", "1 b4")
}

// TestNoPeer (18.3): of what is no peer 0, false, 0; blaming it is nothing.
func TestNoPeer(t *testing.T) {
	for _, n := range []int{1, 3, api.MaxServers} {
		b := board(t, n, 2, 1)
		for peer := range n {
			offer(t, b, peer, "x")
		}
		b.Blame(0, 1)
		was := looks(b, n)
		for _, peer := range strangers(n) {
			what := fmt.Sprintf("%d peers", n)
			stands(t, what, b, peer, 0, false, 0)
			for _, by := range []int{0, 1, -1, math.MaxInt, math.MinInt} {
				if b.Blame(peer, by) {
					t.Errorf("%s: %d is out", what, peer)
				}
				stands(t, what, b, peer, 0, false, 0)
				same(t, what, b, n, was)
			}
		}
	}
}

// TestTotal (18.3): how many frames wait in all, whoever offered them.
func TestTotal(t *testing.T) {
	b := board(t, api.MaxServers, 3, 1)
	for peer := range api.MaxServers {
		offer(t, b, peer, counted("f", peer%4)...)
	}
	const all = api.MaxServers / 4 * (0 + 1 + 2 + 3)
	if b.Total() != all {
		t.Errorf("%d in all, not %d", b.Total(), all)
	}
	if b.Blame(3, 1); b.Total() != all-3 {
		t.Errorf("one is out: %d in all", b.Total())
	}
	if len(told(t, b)) != all-3 {
		t.Error("other frames are told")
	}
}
