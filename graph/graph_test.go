package graph

import (
	"fmt"
	"math/rand/v2"
	"slices"
	"testing"

	"gridiron/api"
)

// made is a graph of links.
func made(t *testing.T, l ...Links) *Graph {
	t.Helper()
	g, e := New(l...)
	if e != api.OK || g == nil {
		t.Fatalf("%v: %v %d", l, g, e)
	}
	return g
}

// wants holds a list that was answered.
func wants(t *testing.T, what string, is, want []int) {
	t.Helper()
	if !slices.Equal(is, want) {
		t.Fatalf("%s: %v, want %v", what, is, want)
	}
}

// reads holds all that is told of a graph, but what hangs on what.
func reads(t *testing.T, g *Graph, nodes, cyclic, order []int) {
	t.Helper()
	wants(t, "nodes", g.Nodes(), nodes)
	wants(t, "cyclic", g.Cyclic(), cyclic)
	wants(t, "order", g.Order(), order)
}

// holds holds a graph of links against its table; what hangs is asked of these numbers.
func holds(t *testing.T, l []Links, asked ...[]int) {
	t.Helper()
	g, p := made(t, l...), tabled(l)
	cyclic := p.cyclic()
	reads(t, g, p.nodes(), cyclic, p.order())
	for _, on := range asked {
		wants(t, fmt.Sprintf("%v: on %v", l, on), g.Hang(on...), p.hang(on))
	}
	behind(t, g, l)
	reads(t, g, p.nodes(), cyclic, p.order())
}

// behind holds what P12.2 says of a graph.
func behind(t *testing.T, g *Graph, l []Links) {
	t.Helper()
	spot := map[int]int{}
	for i, n := range g.Order() {
		if _, ok := spot[n]; ok {
			t.Fatalf("%v: %d stands twice in the order", l, n)
		}
		spot[n] = i
	}
	round := map[int]bool{}
	for _, n := range g.Cyclic() {
		round[n] = true
	}
	for _, x := range l {
		at, ok := spot[x.At]
		if ok == round[x.At] {
			t.Fatalf("%v: %d in the order: %v, on a cycle: %v", l, x.At, ok, round[x.At])
		}
		if slices.Contains(g.Hang(x.At), x.At) != round[x.At] {
			t.Fatalf("%v: %d hangs on itself, or does not, as it is on a cycle: %v", l, x.At, round[x.At])
		}
		for _, r := range x.Reads {
			if i, told := spot[r]; ok && told && i >= at {
				t.Fatalf("%v: %d isn't behind %d", l, x.At, r)
			}
		}
	}
	if len(spot)+len(round) != len(l) {
		t.Fatalf("%v: %d in the order, %d on cycles", l, len(spot), len(round))
	}
}

// subsets are all lists of some of these numbers, as they come.
func subsets(l []int) [][]int {
	all := [][]int{nil}
	for _, n := range l {
		for _, s := range slices.Clone(all) {
			all = append(all, append(slices.Clone(s), n))
		}
	}
	return all
}

// count are the numbers from one to another one, that stands behind them.
func count(from, to int) []int {
	var l []int
	for n := from; n < to; n++ {
		l = append(l, n)
	}
	return l
}

// turned is a list from its end on.
func turned[T any](l []T) []T {
	m := slices.Clone(l)
	slices.Reverse(m)
	return m
}

// shuffled is a list in any order.
func shuffled[T any](r *rand.Rand, l []T) []T {
	m := slices.Clone(l)
	r.Shuffle(len(m), func(i, j int) { m[i], m[j] = m[j], m[i] })
	return m
}

// P12.1, P12.2: what the document names, each handed in rising, falling, and in any order
func TestNamed(t *testing.T) {
	r := rand.New(rand.NewPCG(12, 1))
	for _, x := range []struct {
		name                 string
		l                    []Links
		nodes, cyclic, order []int
	}{
		{"no links at all", nil, nil, nil, nil},
		{"one that reads nothing", []Links{{At: 5}}, []int{5}, nil, []int{5}},
		{"an empty list", []Links{{At: 5, Reads: []int{}}}, []int{5}, nil, []int{5}},
		{"one that reads itself", []Links{{5, []int{5}}}, []int{5}, []int{5}, nil},
		{"one that reads itself, and others", []Links{{4, nil}, {5, []int{4, 5, 6}}, {6, nil}}, []int{4, 5, 6}, []int{5}, []int{4, 6}},
		{"what is no node", []Links{{5, []int{6}}}, []int{5}, nil, []int{5}},
		{"what is no node, by two", []Links{{5, []int{6}}, {7, []int{5, 6}}}, []int{5, 7}, nil, []int{5, 7}},
		{"a number twice", []Links{{3, nil}, {5, []int{3, 3}}}, []int{3, 5}, nil, []int{3, 5}},
		{"a number twice, that comes later", []Links{{3, []int{5, 4, 5}}, {5, nil}}, []int{3, 5}, nil, []int{5, 3}},
		{"itself twice", []Links{{5, []int{5, 5}}}, []int{5}, []int{5}, nil},
		{"what is no node, twice", []Links{{5, []int{9, 9}}, {6, []int{9, 9, 5}}}, []int{5, 6}, nil, []int{5, 6}},
		{"0", []Links{{0, nil}}, []int{0}, nil, []int{0}},
		{"1023", []Links{{1023, nil}}, []int{1023}, nil, []int{1023}},
		{"0 by 1023", []Links{{0, nil}, {1023, []int{0}}}, []int{0, 1023}, nil, []int{0, 1023}},
		{"1023 by 0", []Links{{0, []int{1023}}, {1023, nil}}, []int{0, 1023}, nil, []int{1023, 0}},
		{"0 and 1023, that read each other", []Links{{0, []int{1023}}, {1023, []int{0}}}, []int{0, 1023}, []int{0, 1023}, nil},
		{"0 and 1023, by themselves", []Links{{0, []int{0}}, {1023, []int{1023}}}, []int{0, 1023}, []int{0, 1023}, nil},
		{"two that read each other", []Links{{5, []int{6}}, {6, []int{5}}}, []int{5, 6}, []int{5, 6}, nil},
		{"into a cycle", []Links{{3, []int{5}}, {5, []int{6}}, {6, []int{5}}, {9, []int{3, 6}}}, []int{3, 5, 6, 9}, []int{5, 6}, []int{3, 9}},
		{"into a cycle, from one that comes later", []Links{{3, []int{9}}, {5, []int{6}}, {6, []int{5}}, {9, []int{5}}}, []int{3, 5, 6, 9}, []int{5, 6}, []int{9, 3}},
		{"out of a cycle", []Links{{3, nil}, {5, []int{3, 6}}, {6, []int{5, 9}}, {9, []int{3}}}, []int{3, 5, 6, 9}, []int{5, 6}, []int{3, 9}},
		{"by way of a cycle", []Links{{3, []int{5}}, {5, []int{6}}, {6, []int{5, 9}}, {9, nil}}, []int{3, 5, 6, 9}, []int{5, 6}, []int{3, 9}},
		{"two cycles", []Links{{1, []int{2}}, {2, []int{1}}, {5, []int{6}}, {6, []int{5}}}, []int{1, 2, 5, 6}, []int{1, 2, 5, 6}, nil},
		{"two cycles, one to the other", []Links{{1, []int{2}}, {2, []int{1, 5}}, {5, []int{6}}, {6, []int{5}}}, []int{1, 2, 5, 6}, []int{1, 2, 5, 6}, nil},
		{"two cycles, one to the other, by way of one", []Links{{1, []int{2}}, {2, []int{1, 4}}, {4, []int{6}}, {5, []int{6}}, {6, []int{5}}}, []int{1, 2, 4, 5, 6}, []int{1, 2, 5, 6}, []int{4}},
		{"two cycles, one to the other, by way of some", []Links{{1, []int{2}}, {2, []int{1}}, {3, []int{4, 1}}, {4, []int{7}}, {5, []int{6, 3}}, {6, []int{5}}, {7, []int{2}}}, []int{1, 2, 3, 4, 5, 6, 7}, []int{1, 2, 5, 6}, []int{7, 4, 3}},
		{"two cycles that have one in common", []Links{{1, []int{2}}, {2, []int{1, 3}}, {3, []int{2}}, {4, []int{1}}}, []int{1, 2, 3, 4}, []int{1, 2, 3}, []int{4}},
		{"a cycle, and a way beside it", []Links{{1, []int{2, 3}}, {2, []int{4}}, {3, []int{4}}, {4, []int{1}}}, []int{1, 2, 3, 4}, []int{1, 2, 3, 4}, nil},
		{"two ways that meet", []Links{{1, []int{2, 3}}, {2, []int{4}}, {3, []int{4}}, {4, nil}}, []int{1, 2, 3, 4}, nil, []int{4, 2, 3, 1}},
		{"a lesser one later", []Links{{1, []int{7}}, {4, nil}, {7, nil}}, []int{1, 4, 7}, nil, []int{4, 7, 1}},
		{"a lesser one free again", []Links{{1, []int{4}}, {4, nil}, {7, nil}}, []int{1, 4, 7}, nil, []int{4, 1, 7}},
		{"two lesser ones free again", []Links{{1, []int{3}}, {2, []int{4}}, {3, []int{4}}, {4, nil}, {7, nil}}, []int{1, 2, 3, 4, 7}, nil, []int{4, 2, 3, 1, 7}},
		{"free by the last one of two", []Links{{1, []int{4, 7}}, {4, nil}, {5, nil}, {7, nil}, {8, nil}}, []int{1, 4, 5, 7, 8}, nil, []int{4, 5, 7, 1, 8}},
		{"a free one ahead of a line", []Links{{1, []int{2}}, {2, []int{3}}, {3, nil}, {0, []int{1}}, {4, nil}}, []int{0, 1, 2, 3, 4}, nil, []int{3, 2, 1, 0, 4}},
	} {
		for _, l := range [][]Links{x.l, turned(x.l), shuffled(r, x.l), shuffled(r, x.l)} {
			t.Run(x.name, func(t *testing.T) {
				reads(t, made(t, l...), x.nodes, x.cyclic, x.order)
				holds(t, l, subsets(x.nodes)...)
			})
		}
	}
}

// P12.1: what hangs on what
func TestHang(t *testing.T) {
	g := made(t, Links{7, []int{3, 9, 3}}, Links{3, []int{5}}, Links{5, []int{3}}, Links{2, []int{8, 7}}, Links{8, nil}, Links{1, []int{1}}, Links{0, []int{2, 1}}, Links{1023, []int{1022, 0}})
	for _, x := range []struct{ on, want []int }{
		{nil, nil}, // on none
		{[]int{}, nil},
		{[]int{9}, []int{0, 2, 7, 1023}}, // on what is only read
		{[]int{1022}, []int{1023}},
		{[]int{1023}, nil}, // on a node that nobody reads
		{[]int{500}, nil},  // on a number that stands nowhere
		{[]int{8}, []int{0, 2, 1023}},
		{[]int{0}, []int{1023}},
		{[]int{2}, []int{0, 1023}},
		{[]int{7}, []int{0, 2, 1023}},
		{[]int{1}, []int{0, 1, 1023}},          // on a node on a cycle
		{[]int{3}, []int{0, 2, 3, 5, 7, 1023}}, // on one of a cycle of two
		{[]int{5}, []int{0, 2, 3, 5, 7, 1023}},
		{[]int{3, 5}, []int{0, 2, 3, 5, 7, 1023}}, // on several
		{[]int{1022, 1}, []int{0, 1, 1023}},
		{[]int{8, 1022}, []int{0, 2, 1023}},
		{[]int{2, 7}, []int{0, 2, 1023}}, // on a node, and one that hangs on it
		{[]int{7, 2}, []int{0, 2, 1023}},
		{[]int{1023, 8, 500}, []int{0, 2, 1023}},
		{[]int{8, 8}, []int{0, 2, 1023}}, // on a number twice
		{[]int{3, 3, 3}, []int{0, 2, 3, 5, 7, 1023}},
		{[]int{-1}, nil}, // on what may stand in no links
		{[]int{1024}, nil},
		{[]int{-1024, 1 << 32, 1<<32 + 8, most, least, ^8, -8}, nil},
		{[]int{least, 8, most, -1, 1024}, []int{0, 2, 1023}},
	} {
		wants(t, fmt.Sprintf("on %v", x.on), g.Hang(x.on...), x.want)
	}
	wants(t, "on all", g.Hang(count(0, 1024)...), []int{0, 1, 2, 3, 5, 7, 1023})
	wants(t, "nodes", g.Nodes(), []int{0, 1, 2, 3, 5, 7, 8, 1023})
	wants(t, "of none", made(t).Hang(0, 5), nil)
}

// P12.1: numbers that may stand in no links, and numbers at which two stand
func TestErrors(t *testing.T) {
	for _, x := range []struct {
		l    []Links
		want api.Errno
	}{
		{[]Links{{At: 1024}}, api.ErrArg},
		{[]Links{{At: -1}}, api.ErrArg},
		{[]Links{{At: most}}, api.ErrArg},
		{[]Links{{At: least}}, api.ErrArg},
		{[]Links{{At: 1 << 32}}, api.ErrArg},
		{[]Links{{5, []int{1024}}}, api.ErrArg},
		{[]Links{{5, []int{-1}}}, api.ErrArg},
		{[]Links{{5, []int{most}}}, api.ErrArg},
		{[]Links{{5, []int{least}}}, api.ErrArg},
		{[]Links{{5, []int{1 << 32}}}, api.ErrArg},
		{[]Links{{5, []int{1, 2, 1024}}}, api.ErrArg}, // at each spot of a list
		{[]Links{{5, []int{1, -1, 2}}}, api.ErrArg},
		{[]Links{{5, []int{-1, 1, 2}}}, api.ErrArg},
		{[]Links{{At: 1024}, {At: 1}, {At: 2}}, api.ErrArg},
		{[]Links{{At: 1}, {At: 1024}, {At: 2}}, api.ErrArg},
		{[]Links{{At: 1}, {At: 2}, {At: 1024}}, api.ErrArg},
		{[]Links{{At: 1}, {At: 2}, {3, []int{-1}}}, api.ErrArg},
		{[]Links{{At: 1}, {At: 1}}, api.ErrTwice},
		{[]Links{{At: 0}, {At: 0}}, api.ErrTwice},
		{[]Links{{At: 1023}, {At: 1023}}, api.ErrTwice},
		{[]Links{{1, []int{2}}, {1, []int{3}}}, api.ErrTwice},
		{[]Links{{1, []int{2}}, {1, []int{2}}}, api.ErrTwice},
		{[]Links{{At: 1}, {At: 2}, {At: 1}}, api.ErrTwice},
		{[]Links{{At: 2}, {At: 1}, {At: 1}}, api.ErrTwice},
		{[]Links{{At: 1}, {At: 1}, {At: 1}}, api.ErrTwice},
		{[]Links{{At: 1}, {At: 1}, {At: -1}}, api.ErrArg}, // what may not be is told ahead of what stands there twice
		{[]Links{{At: -1}, {At: -1}}, api.ErrArg},
		{[]Links{{At: 1}, {1, []int{1024}}}, api.ErrArg},
		{[]Links{{At: 1}, {At: 1}, {2, []int{1024}}}, api.ErrArg},
		{[]Links{{At: 1}, {2, []int{1}}, {3, []int{1}}}, api.OK},
		{[]Links{{1023, []int{0, 1023}}, {0, []int{0, 1023}}}, api.OK},
	} {
		g, e := New(x.l...)
		if e != x.want || (g == nil) == (e == api.OK) {
			t.Errorf("%v: %v %d, want %d", x.l, g, e, x.want)
		}
	}
}

// P1: a nil graph has nothing
func TestNil(t *testing.T) {
	var g *Graph
	for _, l := range [][]int{g.Nodes(), g.Cyclic(), g.Order(), g.Hang(), g.Hang(0), g.Hang(-1, 1024)} {
		if len(l) != 0 {
			t.Errorf("nil: %v", l)
		}
	}
}

// lined is a line: each node reads the one that is so much on, if there is one.
func lined(on int) []Links {
	var l []Links
	for n := range 1024 {
		x := Links{At: n}
		if n+on >= 0 && n+on < 1024 {
			x.Reads = []int{n + on}
		}
		l = append(l, x)
	}
	return l
}

// P12.1, P12.2: all 1024 nodes in one line, either way
func TestLine(t *testing.T) {
	r := rand.New(rand.NewPCG(12, 2))
	up, down := lined(-1), lined(1)
	for _, l := range [][]Links{up, turned(up), shuffled(r, up)} {
		g := made(t, l...)
		reads(t, g, count(0, 1024), nil, count(0, 1024))
		behind(t, g, l)
		for _, n := range []int{0, 1, 511, 1022, 1023} {
			wants(t, fmt.Sprintf("up, on %d", n), g.Hang(n), count(n+1, 1024))
			wants(t, fmt.Sprintf("up, on %d and 700", n), g.Hang(n, 700), count(min(n, 700)+1, 1024))
		}
	}
	for _, l := range [][]Links{down, turned(down), shuffled(r, down)} {
		g := made(t, l...)
		reads(t, g, count(0, 1024), nil, turned(count(0, 1024)))
		behind(t, g, l)
		for _, n := range []int{0, 1, 511, 1022, 1023} {
			wants(t, fmt.Sprintf("down, on %d", n), g.Hang(n), count(0, n))
			wants(t, fmt.Sprintf("down, on 700 and %d", n), g.Hang(700, n), count(0, max(n, 700)))
		}
	}
}

// P12.1, P12.2: all 1024 nodes in one cycle, and in one but for one node
func TestRound(t *testing.T) {
	r := rand.New(rand.NewPCG(12, 3))
	for _, on := range []int{1, -1} {
		l := lined(on)
		for i := range l {
			l[i].Reads = []int{(i + on + 1024) % 1024}
		}
		for _, l := range [][]Links{l, turned(l), shuffled(r, l)} {
			g := made(t, l...)
			reads(t, g, count(0, 1024), count(0, 1024), nil)
			behind(t, g, l)
			for _, n := range []int{0, 1, 1022, 1023} {
				wants(t, "on one", g.Hang(n), count(0, 1024))
			}
			wants(t, "on none", g.Hang(), nil)
			wants(t, "on a number that is none", g.Hang(-1, 1024), nil)
		}
	}
	l := lined(1)
	l[1022].Reads = []int{0}
	reads(t, made(t, l...), count(0, 1024), count(0, 1023), []int{1023})
	l[1022].Reads, l[1023].Reads = []int{0, 1023}, []int{2}
	reads(t, made(t, l...), count(0, 1024), count(0, 1024), nil)
	l[1022].Reads = []int{0}
	reads(t, made(t, l...), count(0, 1024), count(0, 1023), []int{1023})
}

// P12.1, P12.2: nodes that read all others, all numbers, all lesser ones, all greater ones
func TestAll(t *testing.T) {
	all := count(0, 1024)
	var others, everything, lesser, greater, one []Links
	for n := range 1024 {
		others = append(others, Links{n, slices.Concat(all[:n], all[n+1:])})
		everything = append(everything, Links{n, all})
		lesser = append(lesser, Links{n, all[:n]})
		greater = append(greater, Links{n, all[n+1:]})
		one = append(one, Links{At: n})
	}
	for _, l := range [][]Links{others, everything} {
		g := made(t, l...)
		reads(t, g, all, all, nil)
		wants(t, "on one", g.Hang(511), all)
	}
	g := made(t, lesser...)
	reads(t, g, all, nil, all)
	wants(t, "on one", g.Hang(511), all[512:])
	g = made(t, greater...)
	reads(t, g, all, nil, turned(all))
	wants(t, "on one", g.Hang(511), all[:511])
	for _, n := range []int{0, 511, 1023} {
		l := slices.Clone(one)
		l[n] = others[n]
		g := made(t, l...)
		reads(t, g, all, nil, append(slices.Clone(others[n].Reads), n))
		wants(t, "on all", g.Hang(all...), []int{n})
		wants(t, "on itself", g.Hang(n), nil)
		l[n] = everything[n]
		g = made(t, l...)
		reads(t, g, all, []int{n}, others[n].Reads)
		wants(t, "on itself", g.Hang(n), []int{n})
	}
	wants(t, "only one stands there", made(t, everything[7]).Cyclic(), []int{7})
}

// P12.1, P12.2: all graphs of up to two nodes that read any of five numbers, of three that read any of four, and of four that read each other
func TestSmall(t *testing.T) {
	five := []int{0, 31, 32, 500, 1023}
	asked := subsets(five)
	for _, nodes := range asked {
		if len(nodes) <= 2 {
			every(nodes, asked, func(l []Links) { holds(t, l, asked...) })
		}
	}
	four := []int{9, 3, 1023, 0}
	asked = subsets(four)
	for _, nodes := range asked {
		if len(nodes) == 3 {
			every(nodes, asked, func(l []Links) { holds(t, l, asked...) })
		}
	}
	every(four, asked, func(l []Links) { holds(t, l, []int{9}, []int{1023, 3}) })
}

// every calls for all links by which each of these nodes reads one of these lists.
func every(nodes []int, lists [][]int, call func([]Links)) {
	l := make([]Links, len(nodes))
	var fill func(i int)
	fill = func(i int) {
		if i == len(nodes) {
			call(l)
			return
		}
		for _, reads := range lists {
			l[i] = Links{nodes[i], reads}
			fill(i + 1)
		}
	}
	fill(0)
}

// random are links of so many nodes out of the first so many numbers, by which each reads up to so many.
func random(r *rand.Rand, nodes, numbers, most int) []Links {
	var l []Links
	for _, at := range r.Perm(numbers)[:nodes] {
		x := Links{At: at}
		for range r.IntN(most + 1) {
			x.Reads = append(x.Reads, r.IntN(numbers))
		}
		l = append(l, x)
	}
	return l
}

// lists are lists of numbers at random, some of them none's.
func lists(r *rand.Rand, n, numbers int) [][]int {
	var l [][]int
	for range n {
		var on []int
		for range r.IntN(4) {
			on = append(on, r.IntN(numbers+4)-2)
		}
		l = append(l, on)
	}
	return l
}

// P12.2: graphs at random, of few nodes and of many, with few reads and with many
func TestRandom(t *testing.T) {
	r := rand.New(rand.NewPCG(12, 4))
	for _, x := range []struct{ times, nodes, numbers, most int }{
		{3000, 8, 10, 1}, {3000, 8, 10, 2}, {3000, 8, 10, 4}, {500, 8, 1024, 3}, {500, 40, 40, 1}, {500, 40, 45, 2}, {300, 40, 40, 40}, {30, 200, 300, 1}, {30, 200, 200, 3},
		{2, 1024, 1024, 1}, {2, 1024, 1024, 2}, {1, 1024, 1024, 20}, {1, 700, 1024, 300},
	} {
		for range x.times {
			holds(t, random(r, x.nodes, x.numbers, x.most), lists(r, 5, x.numbers)...)
		}
	}
}

// P12.2: graphs at random that have no cycles, but for some: what is read comes ahead in an order that nobody tells
func TestLayers(t *testing.T) {
	r := rand.New(rand.NewPCG(12, 5))
	for range 1500 {
		at := r.Perm(1024)[:12]
		var l []Links
		for i, n := range at {
			x := Links{At: n}
			for range r.IntN(4) {
				x.Reads = append(x.Reads, at[r.IntN(i+1)])
			}
			if r.IntN(8) > 0 {
				x.Reads = slices.DeleteFunc(x.Reads, func(m int) bool { return m == n })
			}
			l = append(l, x)
		}
		back := r.IntN(12)
		l[back].Reads = append(l[back].Reads, at[r.IntN(12)])
		holds(t, shuffled(r, l), lists(r, 3, 1024)...)
	}
}

// P12.1: New at random, with numbers that may stand in no links, and numbers twice
func TestJudged(t *testing.T) {
	r := rand.New(rand.NewPCG(12, 6))
	met := map[api.Errno]int{}
	for range 20000 {
		l := random(r, 4, 12, 2)
		for i := range l {
			if r.IntN(8) == 0 {
				l[i].At = l[r.IntN(4)].At
			}
			if r.IntN(16) == 0 {
				l[i].At = []int{-1, 1024, 0, 1023}[r.IntN(4)]
			}
			if r.IntN(12) == 0 {
				l[i].Reads = append(l[i].Reads, []int{-1, 1024, 0, 1023}[r.IntN(4)])
			}
		}
		want := api.Errno(judged(l))
		g, e := New(l...)
		if e != want || (g == nil) == (want == api.OK) {
			t.Fatalf("%v: %v %d, want %d", l, g, e, want)
		}
		met[e]++
	}
	if len(met) != 3 || min(met[api.OK], met[api.ErrArg], met[api.ErrTwice]) < 500 {
		t.Errorf("errors: %v", met)
	}
}

// Rule 4: links that are changed behind New are their owner's, and so are answers
func TestOwned(t *testing.T) {
	l := []Links{{1, []int{2, 7}}, {2, []int{7, 3, 3}}, {3, []int{9}}, {7, []int{7}}, {8, nil}}
	nodes, cyclic, order, hang := []int{1, 2, 3, 7, 8}, []int{7}, []int{3, 2, 1, 8}, []int{1, 2, 3}
	g := made(t, l...)
	same := func() {
		t.Helper()
		reads(t, g, nodes, cyclic, order)
		wants(t, "on 9", g.Hang(9), hang)
		wants(t, "on 3", g.Hang(3), []int{1, 2})
	}
	same()
	for i := range l {
		for j := range l[i].Reads {
			l[i].Reads[j] = i
		}
		l[i] = Links{At: 1000}
	}
	same()
	for _, call := range []func() []int{g.Nodes, g.Cyclic, g.Order, func() []int { return g.Hang(9) }} {
		answer := call()
		answer = answer[:cap(answer)]
		for i := range answer {
			answer[i] = 8
		}
		same()
	}
}

// Rule 4: two graphs of the same links share nothing, and no two answers do
func TestApart(t *testing.T) {
	l := []Links{{1, []int{2}}, {2, []int{3, 3}}, {3, nil}, {7, []int{7}}}
	g, h := made(t, l...), made(t, l...)
	first := [][]int{g.Nodes(), g.Cyclic(), g.Order(), g.Hang(3)}
	second := [][]int{g.Nodes(), g.Cyclic(), g.Order(), g.Hang(3)}
	want := [][]int{{1, 2, 3, 7}, {7}, {3, 2, 1}, {1, 2}}
	for i := range first {
		for j := range first[i] {
			first[i][j] = -5
		}
		for j := i + 1; j < len(first); j++ {
			wants(t, "another answer", first[j], want[j])
		}
		wants(t, "a second answer", second[i], want[i])
	}
	reads(t, h, want[0], want[1], want[2])
}

// Rule 4: what is handed in stays as it is, and what lies behind its length is neither read nor written
func TestArguments(t *testing.T) {
	numbers := []int{7, 3, 3, 5, 1024, -1, 2}
	links := []Links{{1, numbers[:4]}, {3, numbers[1:2]}, {5, numbers[:0]}, {5, nil}, {At: -1}}
	g := made(t, links[:3]...)
	reads(t, g, []int{1, 3, 5}, []int{3}, []int{5, 1})
	wants(t, "what was read", numbers, []int{7, 3, 3, 5, 1024, -1, 2})
	if x := links[0]; x.At != 1 || !slices.Equal(x.Reads, numbers[:4]) || links[1].At != 3 || links[2].At != 5 || links[3].At != 5 || links[4].At != -1 {
		t.Errorf("links: %v", links)
	}
	on := []int{5, 3, 5, 7, 3, 1}
	wants(t, "on 5", g.Hang(on[:1]...), []int{1})
	wants(t, "on 5, 3, 5", g.Hang(on[:3]...), []int{1, 3})
	wants(t, "on none", g.Hang(on[:0]...), nil)
	wants(t, "what was asked", on, []int{5, 3, 5, 7, 3, 1})
}

// P2: what is told hangs on the links alone: not on the order in which they come, nor on what is asked ahead of it
func TestAgain(t *testing.T) {
	r := rand.New(rand.NewPCG(12, 7))
	for range 200 {
		l := random(r, 30, 40, 3)
		g := made(t, l...)
		nodes, cyclic, order, hang := g.Nodes(), g.Cyclic(), g.Order(), g.Hang(3, 17)
		for range 4 {
			m := shuffled(r, l)
			for i := range m {
				m[i].Reads = shuffled(r, append(slices.Clone(m[i].Reads), m[i].Reads...))
			}
			h := made(t, m...)
			wants(t, "hang", h.Hang(17, 3, 17), hang)
			wants(t, "order", h.Order(), order)
			reads(t, h, nodes, cyclic, order)
			wants(t, "hang", h.Hang(3, 17), hang)
			reads(t, g, nodes, cyclic, order)
		}
	}
}

// Within the bound: a node that reads a number again and again, and what hangs on a number again and again
func TestMany(t *testing.T) {
	long := make([]int, 1<<20)
	for i := range long {
		long[i] = i % 3
	}
	g := made(t, Links{5, long}, Links{2, nil}, Links{1, []int{2}})
	reads(t, g, []int{1, 2, 5}, nil, []int{2, 1, 5})
	wants(t, "on many", g.Hang(long...), []int{1, 5})
}
