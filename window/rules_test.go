package window

import (
	"fmt"
	"math/rand"
	"runtime"
	"slices"
	"strconv"
	"strings"
	"sync"
	"testing"

	"agora/api"
)

// TestLongRow (R1): very many pieces, one behind the other.
func TestLongRow(t *testing.T) {
	const n = 200000
	s, r := sender(t, api.MaxWindow, api.MaxQueue), receiver(t, api.MaxWindow)
	told, sent := 0, 0
	for told < n {
		for sent < n && s.Push([]byte(strconv.Itoa(sent))) == api.OK {
			sent++
		}
		for _, p := range s.Out() {
			for _, b := range r.Take(p) {
				if string(b) != strconv.Itoa(told) {
					t.Fatalf("%s at %d", b, told)
				}
				told++
			}
		}
		if s.Ack(r.Want()) == 0 {
			t.Fatalf("%d told, no more are done", told)
		}
	}
	holds(t, "at last", r, n, 0)
	shows(t, "at last", s, n, 0)
}

// TestLongPieces (R1): as many pieces as may be under way, of as many bytes as may be.
func TestLongPieces(t *testing.T) {
	s, r := sender(t, api.MaxWindow, 0), receiver(t, api.MaxWindow)
	for i := range api.MaxWindow {
		push(t, s, strings.Repeat(string(rune('A'+i%50)), api.MaxPiece))
	}
	out := s.Out()
	for i := range api.MaxWindow - 1 {
		if told := r.Take(out[api.MaxWindow-1-i]); len(told) != 0 {
			t.Fatalf("%d told", len(told))
		}
	}
	holds(t, "all but one", r, 0, api.MaxWindow-1)
	told := r.Take(out[0])
	if len(told) != api.MaxWindow {
		t.Fatalf("%d told", len(told))
	}
	for i, b := range told {
		if len(b) != api.MaxPiece || b[0] != out[i].Data[0] || b[api.MaxPiece-1] != b[0] {
			t.Errorf("%d: %d bytes", i, len(b))
		}
	}
	if s.Ack(r.Want()) != api.MaxWindow || s.Left() != 0 {
		t.Errorf("%d left", s.Left())
	}
}

// heap tells how many bytes are had.
func heap() uint64 {
	var m runtime.MemStats
	runtime.GC()
	runtime.ReadMemStats(&m)
	return m.HeapAlloc
}

// TestDoneIsLetGo: of what is done, or told, nothing is had any more.
func TestDoneIsLetGo(t *testing.T) {
	const n = 40
	was := heap()
	s, r := sender(t, api.MaxWindow, 0), receiver(t, api.MaxWindow)
	data := make([]byte, api.MaxPiece)
	for i := range n {
		s.Push(data)
		r.Take(api.Piece{Seq: int64(n - i), Data: data})
	}
	if had := heap(); had < was+2*n*api.MaxPiece {
		t.Fatalf("%d bytes became %d: pieces that are not done, or not told, are not had", was, had)
	}
	s.Ack(n - 1)
	r.Take(api.Piece{})
	if had := heap(); had > was+8*api.MaxPiece {
		t.Errorf("%d bytes became %d", was, had)
	}
	shows(t, "all but one", s, n-1, 1, string(data))
	holds(t, "all", r, n+1, 0)
}

// TestEmptyListsAreTheSame (R3): no bytes may be nil, or a list of length 0.
func TestEmptyListsAreTheSame(t *testing.T) {
	for _, none := range [][]byte{nil, {}, []byte("x")[:0]} {
		s, r := pushed(t, 2, 2, "a"), receiver(t, 3)
		if err := s.Push(none); err != api.OK {
			t.Fatalf("error %d", err)
		}
		push(t, s, "c")
		shows(t, "sender", s, 0, 3, "a", "")
		tells(t, "early", r.Take(api.Piece{Seq: 1, Data: none}))
		holds(t, "early", r, 0, 1)
		tells(t, "wanted", r.Take(piece(0, "a")), "a", "")
		tells(t, "at once", r.Take(api.Piece{Seq: 2, Data: none}), "")
		holds(t, "at once", r, 3, 0)
	}
	if l := sender(t, 1, 0).Out(); len(l) != 0 {
		t.Errorf("%d pieces of nothing", len(l))
	}
}

// TestHandedInIsNotChanged (R4): bytes, and what lies behind their end.
func TestHandedInIsNotChanged(t *testing.T) {
	for _, text := range []string{"", "a", "some more letters"} {
		data := roomy(text)
		was := string(data[:cap(data)])
		s, r := sender(t, 2, 1), receiver(t, 3)
		for range 5 {
			s.Push(data)
		}
		for _, p := range s.Out() {
			spoil(p.Data)
		}
		s.Ack(1)
		for _, n := range []int64{2, 2, 1, 3, -1, 0, 0} {
			for _, b := range r.Take(api.Piece{Seq: n, Data: data}) {
				spoil(b)
			}
		}
		if string(data[:cap(data)]) != was {
			t.Errorf("%q became %q", was, data[:cap(data)])
		}
		holds(t, text, r, 3, 0)
	}
}

// TestHandedInIsNotKept (R4): what is changed afterwards by who handed it in changes nothing.
func TestHandedInIsNotKept(t *testing.T) {
	s, r := sender(t, 3, 1), receiver(t, 4)
	data := roomy("....")
	for i, text := range []string{"zero", "once", "then", "last"} {
		copy(data, text)
		if err := s.Push(data); err != api.OK {
			t.Fatalf("error %d", err)
		}
		if i > 0 {
			tells(t, text, r.Take(api.Piece{Seq: int64(i), Data: data}))
		}
		spoil(data)
		shows(t, text, s, 0, i+1, []string{"zero", "once", "then", "last"}[:min(i+1, 3)]...)
	}
	copy(data, "zero")
	told := r.Take(api.Piece{Seq: 0, Data: data})
	spoil(data)
	tells(t, "spoilt behind", told, "zero", "once", "then", "last")
	s.Ack(1)
	shows(t, "at last", s, 1, 3, "once", "then", "last")
}

// TestHandedOutIsNew (R4): who writes over what was told, or puts something behind it, changes nothing, in the thing or in another answer.
func TestHandedOutIsNew(t *testing.T) {
	s := pushed(t, 3, 3, counted(5)...)
	other := s.Out()
	for i := range 3 {
		one := s.Out()
		spoil(one[i].Data)
		_ = append(one[i].Data[:0], "something long"...)
		one[i].Seq = 99
		_ = append(one[:i], piece(77, "x"))
		shows(t, "written over", s, 0, 5, "p0", "p1", "p2")
	}
	alike(t, "another answer", other, numbered(0, counted(3)))
	one := s.Out()
	for i := range one {
		// No piece lies in the memory of the one ahead.
		_ = append(one[i].Data, "######"...)
		spoil(one[i].Data)
		alike(t, "the rest", one[i+1:], numbered(int64(i+1), counted(3)[i+1:]))
	}
	r := receiver(t, 4)
	for _, n := range []int64{3, 2, 1} {
		r.Take(piece(n, fmt.Sprint("p", n)))
	}
	told := r.Take(piece(0, "p0"))
	for i := range told {
		_ = append(told[i], "######"...)
		spoil(told[i])
		tells(t, "the rest", told[i+1:], counted(4)[i+1:]...)
	}
	tells(t, "later", r.Take(piece(4, "p4")), "p4")
	holds(t, "later", r, 5, 0)
}

// TestSentIsApart (R4): a piece that is told by a sender may be taken by several receivers, and be written over by each.
func TestSentIsApart(t *testing.T) {
	s, a, b := pushed(t, 2, 0, "a", "b"), receiver(t, 2), receiver(t, 2)
	out := s.Out()
	for _, r := range []*Receiver{a, b} {
		tells(t, "early", r.Take(out[1]))
	}
	told := a.Take(out[0])
	tells(t, "one", told, "a", "b")
	spoil(told[0])
	spoil(told[1])
	alike(t, "the pieces", out, numbered(0, []string{"a", "b"}))
	tells(t, "the other one", b.Take(out[0]), "a", "b")
	shows(t, "sender", s, 0, 2, "a", "b")
}

// run does a row of things by chance, and tells all that is answered.
func run(seed int64) []string {
	r := rand.New(rand.NewSource(seed))
	wide := 1 + r.Intn(9)
	s, _ := NewSender(wide, r.Intn(9))
	o, _ := NewReceiver(wide)
	var l []string
	for range 200 {
		n := o.Want() - 2 + r.Int63n(int64(wide)+4)
		switch r.Intn(4) {
		case 0, 1:
			l = append(l, fmt.Sprint(s.Push([]byte(strconv.Itoa(r.Intn(100))))))
		case 2:
			l = append(l, fmt.Sprint(s.Ack(n)))
		case 3:
			l = append(l, fmt.Sprint(texts(o.Take(piece(n, strconv.Itoa(r.Intn(100)))))))
		}
		l = append(l, fmt.Sprint(lines(s.Out()), s.Base(), s.Left(), o.Want(), o.Kept()))
	}
	return l
}

// TestSameEachTime (R5): of the same row of things the same comes, beside others, too.
func TestSameEachTime(t *testing.T) {
	var want [20][]string
	for i := range want {
		want[i] = run(int64(i))
	}
	var wait sync.WaitGroup
	for range 4 {
		for i := range want {
			wait.Go(func() {
				if got := run(int64(i)); !slices.Equal(got, want[i]) {
					t.Errorf("run %d is another one", i)
				}
			})
		}
	}
	wait.Wait()
}

// TestAskingChangesNothing (R5): what is asked again, in whatever order, is answered alike.
func TestAskingChangesNothing(t *testing.T) {
	s, r := pushed(t, 3, 3, counted(6)...), receiver(t, 3)
	s.Ack(2)
	r.Take(piece(1, "b"))
	for range 5 {
		shows(t, "sender", s, 2, 4, "p2", "p3", "p4")
		holds(t, "receiver", r, 0, 1)
		if s.Left() != 4 || s.Base() != 2 || r.Kept() != 1 || r.Want() != 0 {
			t.Error("another answer")
		}
	}
	push(t, s, "p6")
	tells(t, "receiver", r.Take(piece(0, "a")), "a", "b")
	shows(t, "one more", s, 2, 5, "p2", "p3", "p4")
}
