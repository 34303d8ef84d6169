package history

import (
	"fmt"
	"maps"
	"slices"

	"gridiron/api"
	"gridiron/arena"
)

// Histories are held here against commits that have been told all their ancestors when they were made: those of their parents, and
// themselves. What an arena is to have behind a call is what a second one has, in which the same nodes are put by themselves.

const (
	greatest = 1<<63 - 1
	least    = -1 << 63
)

// commit is what is to be told of one, but of its handle.
type commit struct {
	number, sheet int
	parents       []int
	past          map[int]bool // the handles of its ancestors
}

// world is an arena, and what of its handles are commits', and tries'.
type world struct {
	*arena.Arena
	tries   map[int]bool
	commits map[int]*commit
}

// node is that of a commit, as the document has it.
func node(number, sheet int, parents ...int) arena.Node {
	return arena.Node{Kind: 4, Nums: []int{number}, Refs: append([]int{sheet}, parents...)}
}

// may tells whether there can be such a commit.
func (w *world) may(number, sheet int, parents []int) bool {
	for _, p := range parents {
		if w.commits[p] == nil || w.commits[p].number >= number {
			return false
		}
	}
	return number > 0 && w.tries[sheet] && len(parents) <= 2
}

// commit is what Commit comes to.
func (w *world) commit(number, sheet int, parents ...int) (int, api.Errno) {
	if !w.may(number, sheet, parents) {
		return 0, api.ErrArg
	}
	l, e := w.Put(node(number, sheet, parents...))
	if e != api.OK {
		return 0, e
	}
	c := &commit{number, sheet, slices.Clone(parents), map[int]bool{l[0]: true}}
	for _, p := range parents {
		maps.Copy(c.past, w.commits[p].past)
	}
	w.commits[l[0]] = c
	return l[0], api.OK
}

// lay puts a node by itself; if it is a commit's, it is one.
func (w *world) lay(n arena.Node) (int, api.Errno) {
	if n.Kind == 4 && n.Text == "" && len(n.Nums) == 1 && len(n.Refs) > 0 && w.may(n.Nums[0], n.Refs[0], n.Refs[1:]) {
		return w.commit(n.Nums[0], n.Refs[0], n.Refs[1:]...)
	}
	l, e := w.Put(n)
	if e != api.OK {
		return 0, e
	}
	return l[0], e
}

// sweep lets all go that isn't reached.
func (w *world) sweep(roots []int) {
	w.Sweep(roots...)
	live := map[int]bool{0: true}
	for _, h := range w.Live() {
		live[h] = true
	}
	maps.DeleteFunc(w.tries, func(h int, _ bool) bool { return !live[h] })
	maps.DeleteFunc(w.commits, func(h int, _ *commit) bool { return !live[h] })
}

// log is what Log comes to: of all that are left the one that comes first, again and again.
func (w *world) log(h int) []int {
	if w.commits[h] == nil {
		return nil
	}
	left := maps.Clone(w.commits[h].past)
	var l []int
	for len(left) > 0 {
		first := 0
		for x := range left {
			if first == 0 || w.ahead(x, first) {
				first = x
			}
		}
		l = append(l, first)
		delete(left, first)
	}
	return l
}

// ahead tells whether one commit comes ahead of another one.
func (w *world) ahead(g, h int) bool {
	m, n := w.commits[g].number, w.commits[h].number
	return m > n || m == n && g < h
}

// base is what Base comes to.
func (w *world) base(g, h int) (int, api.Errno) {
	if w.commits[g] == nil || w.commits[h] == nil {
		return 0, api.ErrArg
	}
	for _, x := range w.log(g) {
		if w.commits[h].past[x] {
			return x, api.OK
		}
	}
	return 0, api.ErrNone
}

// reading are all nodes of an arena, as texts.
func reading(a *arena.Arena) map[int]string {
	l := map[int]string{}
	for _, h := range a.Live() {
		n, _ := a.Get(h)
		l[h] = fmt.Sprintf("%d %v %v %q", n.Kind, n.Refs, n.Nums, n.Text)
	}
	return l
}
