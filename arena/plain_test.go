package arena

import (
	"maps"
	"slices"

	"gridiron/api"
)

// The arena is held here against one that is a table of nodes by handles, in which all is looked for from the first handle on,
// and in which a list is put into a copy of the table.

const (
	most  = 1<<63 - 1
	least = -1 << 63
)

// plain is an arena as a table.
type plain struct {
	room  int
	nodes map[int]Node
}

// plainly is an empty one.
func plainly(room int) *plain { return &plain{room, map[int]Node{}} }

// same tells whether nodes are equal.
func same(m, n Node) bool {
	return m.Kind == n.Kind && m.Text == n.Text && slices.Equal(m.Refs, n.Refs) && slices.Equal(m.Nums, n.Nums)
}

// sound tells whether a Ref of the node at i of a list is one.
func (p *plain) sound(r, i int) bool {
	if _, ok := p.nodes[r]; ok || r == 0 {
		return true
	}
	for j := range i {
		if r == -(j + 1) {
			return true
		}
	}
	return false
}

// handle is that of a node that the table has, or the least one that has none.
func (p *plain) handle(nodes map[int]Node, n Node) int {
	free := 0
	for h := p.room; h > 0; h-- {
		if m, ok := nodes[h]; !ok {
			free = h
		} else if same(m, n) {
			return h
		}
	}
	return free
}

func (p *plain) put(l ...Node) ([]int, api.Errno) {
	for i, n := range l {
		for _, r := range n.Refs {
			if !p.sound(r, i) {
				return nil, api.ErrArg
			}
		}
	}
	nodes, handles := maps.Clone(p.nodes), []int{}
	for _, n := range l {
		n.Refs, n.Nums = slices.Clone(n.Refs), slices.Clone(n.Nums)
		for i, r := range n.Refs {
			if r < 0 {
				n.Refs[i] = handles[-r-1]
			}
		}
		h := p.handle(nodes, n)
		if h == 0 {
			return nil, api.ErrFull
		}
		nodes[h] = n
		handles = append(handles, h)
	}
	p.nodes = nodes
	return handles, api.OK
}

func (p *plain) get(h int) (Node, api.Errno) {
	if n, ok := p.nodes[h]; ok {
		return n, api.OK
	}
	return Node{}, api.ErrNone
}

func (p *plain) live() []int { return slices.Sorted(maps.Keys(p.nodes)) }

// reach takes to the roots what one of them refers to, till there is no more.
func (p *plain) reach(roots ...int) []int {
	has := map[int]bool{}
	for _, h := range roots {
		if _, ok := p.nodes[h]; ok {
			has[h] = true
		}
	}
	for grown := true; grown; {
		ahead := len(has)
		for _, h := range slices.Collect(maps.Keys(has)) {
			for _, r := range p.nodes[h].Refs {
				if r != 0 {
					has[r] = true
				}
			}
		}
		grown = len(has) > ahead
	}
	return slices.Sorted(maps.Keys(has))
}

func (p *plain) sweep(roots ...int) (int, api.Errno) {
	for _, h := range roots {
		if _, ok := p.nodes[h]; !ok && h != 0 {
			return 0, api.ErrNone
		}
	}
	stays, went := p.reach(roots...), 0
	for _, h := range p.live() {
		if !slices.Contains(stays, h) {
			delete(p.nodes, h)
			went++
		}
	}
	return went, api.OK
}
