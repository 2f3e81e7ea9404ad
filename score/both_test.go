package score

import (
	"fmt"
	"math/rand"
	"slices"
	"strconv"
	"testing"

	"agora/api"
)

// fair counts, peer by peer, how many others' frames were told since its first one that waits became the first.
type fair struct {
	others []int
	worst  int
}

// heard takes a turn to account: who waits goes on waiting behind it, and who was told does not.
func (f *fair) heard(b *Board, peer int) {
	for p := range f.others {
		if p == peer || b.Waiting(p) == 0 {
			f.others[p] = 0
			continue
		}
		f.others[p]++
		f.worst = max(f.worst, f.others[p])
	}
}

// TestHeardSoon (18.4): whatever is offered between turns, a peer that offers is heard behind at most n - 1 others' frames, and its own in their order.
func TestHeardSoon(t *testing.T) {
	r := rand.New(rand.NewSource(184))
	for _, n := range []int{1, 2, 3, 5, 9, api.MaxServers} {
		b, f := board(t, n, 6, 1), fair{others: make([]int, n)}
		put, got := make([]int, n), make([]int, n)
		for range 40 * n {
			for range r.Intn(4) {
				peer := r.Intn(n)
				if b.Offer(peer, []byte(strconv.Itoa(put[peer]))) == api.OK {
					put[peer]++
				}
			}
			turn, ok := b.Next()
			if !ok {
				continue
			}
			if string(turn.Frame) != strconv.Itoa(got[turn.Peer]) {
				t.Fatalf("%d peers: of %d %s is told, not %d", n, turn.Peer, turn.Frame, got[turn.Peer])
			}
			got[turn.Peer]++
			f.heard(b, turn.Peer)
		}
		if f.worst > n-1 {
			t.Errorf("%d peers: one is heard behind %d others' frames", n, f.worst)
		}
		if f.worst < n/2 {
			t.Errorf("%d peers: but %d others' frames ahead: these peers offer too little", n, f.worst)
		}
	}
}

// TestHeardAmongFloods (18.4): where all others offer as much as they can, all the time, one that offers a row of frames is heard each n turns.
func TestHeardAmongFloods(t *testing.T) {
	for _, n := range []int{1, 2, 3, 8} {
		for one := range n {
			for ahead := range 2 * n {
				b := board(t, n, 5, 1)
				flood := func() {
					for peer := range n {
						for peer != one && b.Offer(peer, []byte("flood")) == api.OK {
						}
					}
				}
				flood()
				for range ahead {
					b.Next()
					flood()
				}
				offer(t, b, one, counted("x", 4)...)
				var at []int
				for turn := range 4 * n {
					if x, ok := b.Next(); !ok || x.Peer == one {
						if string(x.Frame) != fmt.Sprint("x", len(at)) {
							t.Fatalf("told %q", x.Frame)
						}
						at = append(at, turn)
					}
					flood()
				}
				if len(at) != 4 || at[0] > n-1 || at[1] != at[0]+n || at[2] != at[1]+n || at[3] != at[2]+n {
					t.Errorf("%d peers, %d among floods, %d turns ahead: told at turns %d", n, one, ahead, at)
				}
			}
		}
	}
}

// TestBounds (18.4): no queue has more than room, no score is more than limit, whatever is done; who is out stays out, with an empty queue and the limit as its score.
func TestBounds(t *testing.T) {
	r := rand.New(rand.NewSource(185))
	for range 200 {
		n, room, limit := 1+r.Intn(5), 1+r.Intn(4), 1+r.Intn(30)
		b, out, full := board(t, n, room, limit), make([]bool, n), 0
		for range 150 {
			peer := r.Intn(n)
			switch r.Intn(4) {
			case 0, 1:
				err := b.Offer(peer, []byte("x"))
				if out[peer] != (err == api.ErrDenied) {
					t.Fatalf("out %v: error %d", out[peer], err)
				}
				if err == api.ErrFull {
					full++
				}
			case 2:
				if turn, ok := b.Next(); ok && out[turn.Peer] {
					t.Fatalf("%d is out, and told", turn.Peer)
				}
			case 3:
				out[peer] = b.Blame(peer, r.Intn(4)-1) || out[peer]
			}
			for p := range n {
				if b.Waiting(p) > room || b.Score(p) > limit || b.Out(p) != out[p] || out[p] != (b.Score(p) == limit) || out[p] && b.Waiting(p) != 0 {
					t.Fatalf("room %d, limit %d: %d waiting, score %d, out %v, was out %v", room, limit, b.Waiting(p), b.Score(p), b.Out(p), out[p])
				}
			}
			if b.Total() > n*room {
				t.Fatalf("%d in all", b.Total())
			}
		}
		if full == 0 && room == 1 {
			t.Error("no queue was ever full")
		}
	}
}

// TestAllAreOut (18.4): a board all of whose peers are out tells nothing, and takes nothing.
func TestAllAreOut(t *testing.T) {
	for _, n := range []int{1, 2, api.MaxServers} {
		b := board(t, n, 3, 4)
		for peer := range n {
			offer(t, b, peer, counted("f", 3)...)
		}
		for peer := range n {
			if b.Total() != 3*(n-peer) || !b.Blame(peer, 4) {
				t.Errorf("%d in all", b.Total())
			}
		}
		for peer := range n {
			if err := b.Offer(peer, nil); err != api.ErrDenied {
				t.Errorf("error %d", err)
			}
			stands(t, "all are out", b, peer, 4, true, 0)
		}
		tells(t, "all are out", b, "", "")
	}
}

// TestPeersAreApart (18.4): what one peer offers, and is blamed for, changes nothing of the others, nor the order in which they are told.
func TestPeersAreApart(t *testing.T) {
	r := rand.New(rand.NewSource(186))
	const n, room, limit = 4, 3, 5
	for one := range n {
		for range 100 {
			with, without := board(t, n, room, limit), board(t, n, room, limit)
			for range 40 {
				peer, by, text := r.Intn(n), r.Intn(3), strconv.Itoa(r.Intn(100))
				boards := []*Board{with, without}
				if peer == one {
					boards = boards[:1]
				}
				blamed := r.Intn(5) == 0
				for _, b := range boards {
					if blamed {
						b.Blame(peer, by)
					} else {
						b.Offer(peer, []byte(text))
					}
				}
			}
			for peer := range n {
				if peer != one {
					stands(t, "others", with, peer, without.Score(peer), without.Out(peer), without.Waiting(peer))
				}
			}
			others := slices.DeleteFunc(told(t, with), func(turn string) bool { return turn[0] == strconv.Itoa(one)[0] })
			ends(t, fmt.Sprintf("without %d", one), without, others...)
			if t.Failed() {
				return
			}
		}
	}
}

// TestBoardsAreApart (18.4): what is done to one board changes nothing of another one.
func TestBoardsAreApart(t *testing.T) {
	a, b := offered(t, 2, 2, []string{"a0", "a1"}, []string{"b0"}), offered(t, 2, 2, []string{"c0"}, []string{"d0", "d1"})
	was := looks(b, 2)
	tells(t, "one", a, "0 a0")
	a.Blame(1, 2)
	offer(t, a, 0, "a2")
	same(t, "the other one", b, 2, was)
	ends(t, "the other one", b, "0 c0", "1 d0", "1 d1")
	ends(t, "one", a, "0 a1", "0 a2")
}
