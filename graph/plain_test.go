package graph

import (
	"maps"
	"slices"
)

// Graphs are held here against tables: of each two numbers it stands there whether one leads to the other, and what is to come next in
// an order is looked for anew each time, from the least node on.

const (
	most  = 1<<63 - 1
	least = -1 << 63
)

// table is what links say of all numbers that stand in them.
type table struct {
	numbers      []int // rising
	node         []bool
	reads, leads [][]bool
}

// tabled are links as a table.
func tabled(l []Links) *table {
	met := map[int]bool{}
	for _, x := range l {
		met[x.At] = true
		for _, r := range x.Reads {
			met[r] = true
		}
	}
	t := &table{numbers: slices.Sorted(maps.Keys(met))}
	t.node = make([]bool, len(t.numbers))
	for range t.numbers {
		t.reads = append(t.reads, make([]bool, len(t.numbers)))
	}
	for _, x := range l {
		at := t.row(x.At)
		t.node[at] = true
		for _, r := range x.Reads {
			t.reads[at][t.row(r)] = true
		}
	}
	t.lead()
	return t
}

// row is where a number stands; -1, if it doesn't.
func (t *table) row(n int) int { return slices.Index(t.numbers, n) }

// lead tells what leads to what: by way of none first, then of one number more each time.
func (t *table) lead() {
	for _, row := range t.reads {
		t.leads = append(t.leads, slices.Clone(row))
	}
	for by := range t.numbers {
		for _, row := range t.leads {
			if row[by] {
				for to, ok := range t.leads[by] {
					row[to] = row[to] || ok
				}
			}
		}
	}
}

// named are the nodes of which something holds, rising.
func (t *table) named(is func(i int) bool) []int {
	var l []int
	for i, n := range t.numbers {
		if t.node[i] && is(i) {
			l = append(l, n)
		}
	}
	return l
}

func (t *table) nodes() []int { return t.named(func(int) bool { return true }) }

func (t *table) cyclic() []int { return t.named(func(i int) bool { return t.leads[i][i] }) }

func (t *table) hang(on []int) []int {
	return t.named(func(i int) bool {
		return slices.ContainsFunc(on, func(n int) bool {
			j := t.row(n)
			return j >= 0 && t.leads[i][j]
		})
	})
}

// order takes the first one of those that may come, again and again.
func (t *table) order() []int {
	told := make([]bool, len(t.numbers))
	var l []int
	for {
		next := t.named(func(i int) bool { return !told[i] && !t.leads[i][i] && t.free(i, told) })
		if len(next) == 0 {
			return l
		}
		l = append(l, next[0])
		told[t.row(next[0])] = true
	}
}

// free tells whether nothing that a node reads is still to be told.
func (t *table) free(i int, told []bool) bool {
	for j, ok := range t.reads[i] {
		if ok && t.node[j] && !t.leads[j][j] && !told[j] {
			return false
		}
	}
	return true
}

// judged is which error links are to have.
func judged(l []Links) int {
	times := map[int]int{}
	twice := 0
	for _, x := range l {
		for _, n := range append([]int{x.At}, x.Reads...) {
			if n < 0 || n > 1023 {
				return 1
			}
		}
		times[x.At]++
		if times[x.At] == 2 {
			twice = 5
		}
	}
	return twice
}
