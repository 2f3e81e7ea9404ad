package choose

import (
	"fmt"
	"math"
	"math/rand"
	"slices"
	"strconv"
	"strings"
	"testing"

	"agora/api"
	"agora/room"
)

// headed tells a small room with heads, each told as a depth and the letter that its name begins with; and their places.
func headed(t *testing.T, text string) (*house, []int) {
	t.Helper()
	h := small(t)
	var places []int
	for _, s := range strings.Fields(text) {
		depth, err := strconv.ParseInt(s[:len(s)-1], 10, 64)
		if err != nil {
			t.Fatal(err)
		}
		places = append(places, h.head(depth, lettered(s[len(s)-1:])))
	}
	if len(places) > 0 {
		equal(t, text, h.Heads(), places)
	}
	return h, places
}

// chosen tells which of the heads places are, by their numbers 0, 1, ..
func chosen(heads, places []int) []int {
	var l []int
	for _, i := range places {
		l = append(l, slices.Index(heads, i))
	}
	return l
}

// TestPrevsExample (15, Examples): three heads of the depths 5, 3, 4, most 2: the second and the third one.
func TestPrevsExample(t *testing.T) {
	h, heads := headed(t, "5a 3b 4c")
	is(t, "most 2", chosen(heads, Prevs(h.Room, 2)), "1 2")
	equal(t, "as places", Prevs(h.Room, 2), heads[1:])
}

// TestPrevs (15.1): of the least Depth first, then of the least name, byte by byte; told rising.
func TestPrevs(t *testing.T) {
	for _, c := range []struct {
		heads string
		most  int
		want  string
	}{
		{"2a", 1, "0"},
		{"2a", 2, "0"},
		{"5a 3b 4c", 1, "1"},
		{"5a 3b 4c", 3, "0 1 2"},
		{"5a 3b 4c", 4, "0 1 2"},
		{"5a 3b 4c", api.MaxPrev, "0 1 2"},
		{"5a 3b 4c", api.MaxPrev + 1, "0 1 2"},
		{"5a 3b 4c", math.MaxInt, "0 1 2"},
		// Depths count ahead of names.
		{"4a 3z", 1, "1"},
		{"3z 4a", 1, "0"},
		{"6a 5b 4c 3d 2e", 2, "3 4"},
		{"2e 3d 4c 5b 6a", 2, "0 1"},
		{"2a 9b 3c 8d 4e 7f", 3, "0 2 4"},
		// As numbers, not as letters; of all 64 bits.
		{"10a 9b", 1, "1"},
		{"100a 20b 3c", 2, "1 2"},
		{"4294967297a 5b", 1, "1"},
		{"5a 4294967296b", 1, "0"},
		{"1099511627776a 1099511627775b", 1, "1"},
		{"1099511627776b 1099511627776a 2147483648c", 2, "1 2"},
		// Of one depth names count, byte by byte.
		{"3c 3a 3b", 1, "1"},
		{"3c 3a 3b", 2, "1 2"},
		{"3b 3c 3a", 2, "0 2"},
		{"3a 3Z", 1, "1"},
		{"3Z 3a", 1, "0"},
		{"30 3A", 1, "0"},
		{"3A 39", 1, "1"},
		{"30 3+ 3/", 2, "1 2"},
		{"3z 3a 3Z 3A 39 30 3/ 3+", 1, "7"},
		{"3z 3a 3Z 3A 39 30 3/ 3+", 4, "4 5 6 7"},
		{"3z 3a 3Z 3A 39 30 3/ 3+", 7, "1 2 3 4 5 6 7"},
		// Both: of those whose depth is the last that counts, the names tell.
		{"4b 3z 4a 2y", 3, "1 2 3"},
		{"4a 3z 4b 2y", 3, "0 1 3"},
		{"5a 4z 4y 4x 2b", 3, "2 3 4"},
	} {
		h, heads := headed(t, c.heads)
		is(t, fmt.Sprintf("%s, most %d", c.heads, c.most), chosen(heads, Prevs(h.Room, c.most)), c.want)
	}
}

// TestPrevsByLastLetter (15.1): names that are unlike in their last letter alone, or in one midway.
func TestPrevsByLastLetter(t *testing.T) {
	for _, c := range [][2]string{{lettered("AAAAAAAAAAI"), lettered("AAAAAAAAAAE")}, {lettered("zzzzzzzzzzw"), lettered("zzzzzzzzzzs")}, {lettered("AAAAAb"), lettered("AAAAAB")}, {lettered("b"), lettered("a/z")}} {
		h := small(t)
		h.head(3, c[0])
		less := h.head(3, c[1])
		equal(t, c[1], Prevs(h.Room, 1), []int{less})
	}
}

// TestPrevsNone (15.1): most below 1: none; of a room without heads none either.
func TestPrevsNone(t *testing.T) {
	two, _ := headed(t, "3a 3b")
	denied := empty(t)
	denied.bad(message(ann))
	for _, h := range []*house{two, begun(t), forked(t), empty(t), denied} {
		for _, most := range []int{0, -1, -2, -20, math.MinInt, math.MinInt + 1} {
			equal(t, fmt.Sprint("most ", most), Prevs(h.Room, most), nil)
		}
	}
	for _, r := range append(bare(), nil, empty(t).Room, denied.Room) {
		for _, most := range []int{0, 1, 2, api.MaxPrev, math.MaxInt, -1} {
			equal(t, fmt.Sprint("no heads, most ", most), Prevs(r, most), nil)
		}
	}
}

// TestPrevsMany (15.1): as many heads as MaxPrev, one more, and very many; what Prevs tells is not bounded but by most.
func TestPrevsMany(t *testing.T) {
	h := small(t)
	for i := range 30 {
		h.puts(lettered(string(rune('a'+(i*7)%26))+strconv.Itoa(i/26)), message(ann), 1)
		for _, most := range []int{1, 2, i, i + 1, i + 2, api.MaxPrev, api.MaxPrev + 1, math.MaxInt} {
			got, want := Prevs(h.Room, most), modelPrevs(h.Room, most)
			equal(t, fmt.Sprintf("%d heads, most %d", i+1, most), got, want)
			if len(got) != min(i+1, most) || !slices.IsSorted(got) {
				t.Errorf("%d heads, most %d: %v", i+1, most, got)
			}
		}
	}
}

// TestPrevsFollowHeads (15.1): heads alone count: neither what is followed, nor what is denied, however old it is.
func TestPrevsFollowHeads(t *testing.T) {
	h := begun(t)
	equal(t, "one head", Prevs(h.Room, 5), []int{5})
	h.bad(with(message(bob), func(e *api.Event) { e.Prev = h.names(0) }))
	equal(t, "one head, and a denied one", Prevs(h.Room, 5), []int{5})
	old := h.put(message(ann), 1)
	equal(t, "an old one", Prevs(h.Room, 1), []int{old})
	equal(t, "both", Prevs(h.Room, 2), []int{5, old})
	h.put(message(ann), old)
	equal(t, "what follows it", Prevs(h.Room, 1), []int{8})
	h.put(message(ann), 5, 8)
	equal(t, "merged", Prevs(h.Room, 9), []int{9})
}

// TestPrevsByChance (15.1): as the chapter's words gone through one by one, in rooms by chance.
func TestPrevsByChance(t *testing.T) {
	r := rand.New(rand.NewSource(151))
	several := 0
	for range 60 {
		h := chance(t, r, r.Intn(35))
		n := len(h.Heads())
		for most := -1; most < n+3; most++ {
			equal(t, fmt.Sprint("most ", most), Prevs(h.Room, most), modelPrevs(h.Room, most))
		}
		if t.Failed() {
			t.Fatalf("%v", look(h.Room))
		}
		if n > 3 {
			several++
		}
	}
	if several < 20 {
		t.Error("too few of several heads:", several)
	}
}

// TestPrevsLeavesHeads (15.1, R4): asking changes nothing, nor does who writes over what was told.
func TestPrevsLeavesHeads(t *testing.T) {
	h, heads := headed(t, "5a 3b 4c")
	was := look(h.Room)
	for _, most := range []int{1, 2, 3, 9} {
		l := Prevs(h.Room, most)
		for i := range l[:cap(l)] {
			l[:cap(l)][i] = -7
		}
	}
	equal(t, "again", Prevs(h.Room, 2), heads[1:])
	unchanged(t, "asked", h.Room, was)
	var r *room.Room
	equal(t, "nil", Prevs(r, 2), nil)
}
