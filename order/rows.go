package order

import "slices"

// inside tells whether all parents are things.
func inside(parents [][]int) bool {
	for _, row := range parents {
		for _, p := range row {
			if p < 0 || p >= len(parents) {
				return false
			}
		}
	}
	return true
}

// edges tells how many parents each thing waits for, and who waits for it. A parent that stands twice is counted twice on both sides, and so is waited for but once.
func edges(parents [][]int) ([]int, [][]int) {
	waits := make([]int, len(parents))
	children := make([][]int, len(parents))
	for i, row := range parents {
		waits[i] = len(row)
		for _, p := range row {
			children[p] = append(children[p], i)
		}
	}
	return waits, children
}

// count is how many rows a number stands in, and the last of them, so that a row counts it but once.
type count struct{ rows, last int }

// counted tells of each number how many rows it stands in.
func counted(rows [][]int) map[int]count {
	counts := map[int]count{}
	for i, row := range rows {
		for _, x := range row {
			c := counts[x]
			if c.rows == 0 || c.last != i {
				counts[x] = count{rows: c.rows + 1, last: i}
			}
		}
	}
	return counts
}

// within tells the numbers that stand in no fewer rows than least, and in no more than most.
func within(rows [][]int, least, most int) []int {
	var told []int
	for x, c := range counted(rows) {
		if c.rows >= least && c.rows <= most {
			told = append(told, x)
		}
	}
	// A map has no order of its own.
	slices.Sort(told)
	return told
}
