package order

import (
	"math"
	"math/rand"
	"testing"
)

// TestApartExample (9.2): the chapter's own.
func TestApartExample(t *testing.T) {
	equal(t, "example", Apart(rows(t, "1 2|2 3")), []int{1, 3})
}

// TestRows (9.2): rows of several lengths; one that stands twice in a row is in one row still; rising, each once.
func TestRows(t *testing.T) {
	for _, c := range []struct{ rows, union, common, apart string }{
		{"1 2|2 3", "1 2 3", "2", "1 3"},
		{"3 1 1|1 2|5 1", "1 2 3 5", "1", "2 3 5"},
		{"1 2 3", "1 2 3", "1 2 3", ""},
		{"3 2 1", "1 2 3", "1 2 3", ""},
		{"2 1 2 2 3 1", "1 2 3", "1 2 3", ""},
		{"5 5 5", "5", "5", ""},
		{"", "", "", ""},
		{"|", "", "", ""},
		{"||", "", "", ""},
		{"1|", "1", "", "1"},
		{"|1", "1", "", "1"},
		{"1 2||1 2", "1 2", "", "1 2"},
		{"1 2|1 2|", "1 2", "", "1 2"},
		{"1 1|", "1", "", "1"},
		{"1 1|2", "1 2", "", "1 2"},
		{"1 1|2 2", "1 2", "", "1 2"},
		{"1 2 1|3", "1 2 3", "", "1 2 3"},
		{"1 1 1|2|3", "1 2 3", "", "1 2 3"},
		{"1 2 1 2|1 2 1", "1 2", "1 2", ""},
		{"1 2|2 1", "1 2", "1 2", ""},
		{"1 2|1 2|1 2", "1 2", "1 2", ""},
		{"1|2|3", "1 2 3", "", "1 2 3"},
		{"1 2|2 3|3 1", "1 2 3", "", "1 2 3"},
		{"1 2 3|2 3|3", "1 2 3", "3", "1 2"},
		{"3|2 3|1 2 3", "1 2 3", "3", "1 2"},
		{"9 7 5|5 6 7|8 7 6 5", "5 6 7 8 9", "5 7", "6 8 9"},
		{"0|0 1", "0 1", "0", "1"},
		{"0 0|1", "0 1", "", "0 1"},
		{"0|0", "0", "0", ""},
		{"-1 0 1|1 -1", "-1 0 1", "-1 1", "0"},
		{"10 9 100|100 9", "9 10 100", "9 100", "10"},
		{"1|1 1|1 1 1|2 1", "1 2", "1", "2"},
		{"4 3 2 1 0|0", "0 1 2 3 4", "0", "1 2 3 4"},
	} {
		l := rows(t, c.rows)
		equal(t, "union of "+c.rows, Union(l), row(t, c.union))
		equal(t, "common of "+c.rows, Common(l), row(t, c.common))
		equal(t, "apart of "+c.rows, Apart(l), row(t, c.apart))
	}
}

// TestNoRows (9.2): nothing, without rows.
func TestNoRows(t *testing.T) {
	for _, l := range [][][]int{nil, {}, {nil}, {{}}, {nil, {}}, {{}, nil, nil}} {
		equal(t, "union", Union(l), nil)
		equal(t, "common", Common(l), nil)
		equal(t, "apart", Apart(l), nil)
	}
}

// TestAnyNumber (9.2, R6): the least and the greatest numbers stand where they belong.
func TestAnyNumber(t *testing.T) {
	l := [][]int{
		{math.MaxInt, 0, math.MinInt, -1, math.MaxInt},
		{math.MinInt, math.MaxInt - 1, 1 << 32, 0, math.MinInt},
		{0, math.MinInt, math.MinInt + 1, -1 << 32, math.MaxInt},
	}
	equal(t, "union", Union(l), []int{math.MinInt, math.MinInt + 1, -1 << 32, -1, 0, 1 << 32, math.MaxInt - 1, math.MaxInt})
	equal(t, "common", Common(l), []int{math.MinInt, 0})
	equal(t, "apart", Apart(l), []int{math.MinInt + 1, -1 << 32, -1, 1 << 32, math.MaxInt - 1, math.MaxInt})
}

// TestRowsModel (9.2): of chance rows as the chapter's words gone through one by one.
func TestRowsModel(t *testing.T) {
	r := rand.New(rand.NewSource(92))
	for range 3000 {
		l := chanceRows(r, 6)
		equal(t, "union", Union(l), those(l, func(int) bool { return true }))
		equal(t, "common", Common(l), those(l, func(x int) bool { return inAll(l, x) }))
		equal(t, "apart", Apart(l), those(l, func(x int) bool { return !inAll(l, x) }))
		if t.Failed() {
			t.Fatalf("rows %v", l)
		}
	}
}
