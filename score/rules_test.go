package score

import (
	"bytes"
	"fmt"
	"math/rand"
	"runtime"
	"slices"
	"strconv"
	"sync"
	"testing"

	"agora/api"
)

// TestLongRow (R1): very many frames, through queues that stay full.
func TestLongRow(t *testing.T) {
	const n, all = api.MaxServers, 400000
	b := board(t, n, api.MaxQueue, 1)
	put, got := make([]int, n), make([]int, n)
	for i := range all {
		for peer := range n {
			if i == 0 || peer == i%n {
				for b.Offer(peer, []byte(strconv.Itoa(put[peer]))) == api.OK {
					put[peer]++
				}
			}
		}
		turn, ok := b.Next()
		if !ok || turn.Peer != i%n || string(turn.Frame) != strconv.Itoa(got[turn.Peer]) {
			t.Fatalf("turn %d: %v, peer %d, %s", i, ok, turn.Peer, turn.Frame)
		}
		got[turn.Peer]++
	}
	if b.Total() != n*(api.MaxQueue-1) {
		t.Errorf("%d in all", b.Total())
	}
}

// heap tells how many bytes are had.
func heap() uint64 {
	var m runtime.MemStats
	runtime.GC()
	runtime.ReadMemStats(&m)
	return m.HeapAlloc
}

// TestToldIsLetGo: of what is told nothing is had any more, be the queue empty or not.
func TestToldIsLetGo(t *testing.T) {
	const n = 40
	frame := make([]byte, api.MaxPiece)
	was := heap()
	b := board(t, 2, n+1, 1)
	for range n {
		b.Offer(1, frame)
	}
	offer(t, b, 1, "last")
	if had := heap(); had < was+(n-4)*api.MaxPiece {
		t.Fatalf("%d bytes became %d: frames that wait are not had", was, had)
	}
	for range n {
		b.Next()
	}
	if had := heap(); had > was+4*api.MaxPiece {
		t.Errorf("%d bytes became %d", was, had)
	}
	ends(t, "at last", b, "1 last")
}

// TestOutCostsNothing (18.4): of who is out no frame is had any more, nor of what it offers since.
func TestOutCostsNothing(t *testing.T) {
	const n = 40
	frame := make([]byte, api.MaxPiece)
	was := heap()
	b := board(t, 2, n, 1)
	for range n {
		b.Offer(1, frame)
	}
	offer(t, b, 0, "a")
	b.Blame(1, 1)
	for range n {
		b.Offer(1, frame)
	}
	if had := heap(); had > was+4*api.MaxPiece {
		t.Errorf("%d bytes became %d", was, had)
	}
	ends(t, "at last", b, "0 a")
}

// TestEmptyListsAreTheSame (R3): no bytes may be nil, or a list of length 0; it is a frame all the same.
func TestEmptyListsAreTheSame(t *testing.T) {
	for _, none := range [][]byte{nil, {}, []byte("x")[:0]} {
		b := board(t, 2, 2, 1)
		for _, peer := range []int{1, 0, 1} {
			if err := b.Offer(peer, none); err != api.OK {
				t.Fatalf("error %d", err)
			}
		}
		if err := b.Offer(1, none); err != api.ErrFull {
			t.Errorf("full: error %d", err)
		}
		ends(t, "frames without bytes", b, "0 ", "1 ", "1 ")
	}
}

// TestHandedInIsNotChanged (R4): bytes, and what lies behind their end.
func TestHandedInIsNotChanged(t *testing.T) {
	for _, text := range []string{"", "a", "some more letters"} {
		data := roomy(text)
		was := string(data[:cap(data)])
		b := board(t, 2, 3, 2)
		for range 4 {
			b.Offer(0, data)
			b.Offer(1, data)
			b.Offer(2, data)
		}
		for range 3 {
			turn, _ := b.Next()
			_ = append(turn.Frame, "more"...)
			spoil(turn.Frame)
		}
		b.Blame(1, 2)
		b.Offer(1, data)
		if string(data[:cap(data)]) != was {
			t.Errorf("%q became %q", was, data[:cap(data)])
		}
	}
}

// TestHandedInIsNotKept (R4): what is changed afterwards by who handed it in changes nothing in what is told.
func TestHandedInIsNotKept(t *testing.T) {
	b := board(t, 2, 4, 1)
	data := roomy("....")
	for i, text := range []string{"zero", "once", "then", "last"} {
		copy(data, text)
		if err := b.Offer(i%2, data); err != api.OK {
			t.Fatalf("error %d", err)
		}
		spoil(data)
	}
	turn, _ := b.Next()
	spoil(data)
	if turn.Peer != 0 || string(turn.Frame) != "zero" {
		t.Errorf("told %d %q", turn.Peer, turn.Frame)
	}
	ends(t, "spoilt behind", b, "1 once", "0 then", "1 last")
}

// TestHandedOutIsNew (R4): who writes over what was told, or puts something behind it, changes nothing that is told later, or was ahead.
func TestHandedOutIsNew(t *testing.T) {
	// All are the same bytes, one memory handed in again and again.
	data := bytes.Repeat([]byte("abc"), 5)
	b := board(t, 3, 4, 1)
	for range 4 {
		for peer := range 3 {
			b.Offer(peer, data)
		}
	}
	var turns []api.Turn
	for i := range 12 {
		turn, ok := b.Next()
		if !ok || turn.Peer != i%3 || string(turn.Frame) != string(data) {
			t.Fatalf("turn %d: %v, peer %d, %q", i, ok, turn.Peer, turn.Frame)
		}
		if i%2 == 0 {
			_ = append(turn.Frame, "######"...)
			spoil(turn.Frame)
			b.Offer(turn.Peer, data)
		} else {
			turns = append(turns, turn)
		}
	}
	for _, turn := range turns {
		if string(turn.Frame) != string(data) {
			t.Errorf("peer %d: became %q", turn.Peer, turn.Frame)
		}
	}
	if b.Total() != 6 || len(told(t, b)) != 6 {
		t.Error("others wait")
	}
}

// run does a row of things by chance, and tells all that is answered.
func run(seed int64) []string {
	r := rand.New(rand.NewSource(seed))
	n := 1 + r.Intn(9)
	b, err := New(n, 1+r.Intn(5), 1+r.Intn(20))
	l := []string{fmt.Sprint(err)}
	for range 200 {
		peer := r.Intn(n+2) - 1
		switch r.Intn(6) {
		case 0, 1, 2:
			l = append(l, fmt.Sprint(b.Offer(peer, []byte(strconv.Itoa(r.Intn(100))))))
		case 3, 4:
			turn, ok := b.Next()
			l = append(l, fmt.Sprint(turn.Peer, string(turn.Frame), ok))
		case 5:
			l = append(l, fmt.Sprint(b.Blame(peer, r.Intn(4)-1)))
		}
		l = append(l, looks(b, n)...)
	}
	return l
}

// TestSameEachTime (R5): of the same row of things the same comes, beside others, too.
func TestSameEachTime(t *testing.T) {
	var want [20][]string
	for i := range want {
		want[i] = run(int64(i))
	}
	var wait sync.WaitGroup
	for range 4 {
		for i := range want {
			wait.Go(func() {
				if got := run(int64(i)); !slices.Equal(got, want[i]) {
					t.Errorf("run %d is another one", i)
				}
			})
		}
	}
	wait.Wait()
}

// TestAskingChangesNothing (R5): what is asked again, in whatever order, is answered alike, and takes no turn.
func TestAskingChangesNothing(t *testing.T) {
	b := offered(t, 3, 4, []string{"a0", "a1"}, []string{"b0"}, []string{"c0"})
	tells(t, "first", b, "0 a0")
	b.Blame(1, 3)
	b.Blame(2, 4)
	was := looks(b, 3)
	for range 5 {
		same(t, "asked again", b, 3, was)
		if !b.Out(2) || b.Waiting(1) != 1 || b.Score(1) != 3 || b.Total() != 2 || b.Score(2) != 4 {
			t.Error("another answer")
		}
	}
	ends(t, "behind all that was asked", b, "1 b0", "0 a1")
}
