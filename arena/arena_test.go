package arena

import (
	"fmt"
	"math/rand/v2"
	"slices"
	"strings"
	"testing"

	"gridiron/api"
)

// made is an empty arena.
func made(t *testing.T, room int) *Arena {
	t.Helper()
	a, e := New(room)
	if a == nil || e != api.OK || a.Len() != 0 || a.Room() != room || len(a.Live()) != 0 {
		t.Fatalf("a room of %d: %v %d", room, a, e)
	}
	return a
}

// short is so much of a list as can be read.
func short[T any](l []T) string { return fmt.Sprintf("%.300s", fmt.Sprint(l)) }

// puts holds the handles of a list that is put.
func puts(t *testing.T, a *Arena, want []int, l ...Node) {
	t.Helper()
	if is, e := a.Put(l...); e != api.OK || !slices.Equal(is, want) {
		t.Fatalf("%s: %s %d, want %s", short(l), short(is), e, short(want))
	}
}

// refuses holds that a list isn't put, and that nothing of it is.
func refuses(t *testing.T, a *Arena, want api.Errno, l ...Node) {
	t.Helper()
	ahead, read := a.Live(), reading(a)
	if is, e := a.Put(l...); e != want || len(is) != 0 {
		t.Errorf("%s: %s %d, want %d", short(l), short(is), e, want)
	}
	if !slices.Equal(a.Live(), ahead) || a.Len() != len(ahead) || !slices.EqualFunc(reading(a), read, same) {
		t.Errorf("%s: %s, was %s", short(l), short(a.Live()), short(ahead))
	}
}

// reads holds the node of a handle.
func reads(t *testing.T, a *Arena, h int, want Node) {
	t.Helper()
	if n, e := a.Get(h); e != api.OK || !same(n, want) {
		t.Errorf("%d: %s %d, want %s", h, short([]Node{n}), e, short([]Node{want}))
	}
}

// lacks holds that handles are not live.
func lacks(t *testing.T, a *Arena, l ...int) {
	t.Helper()
	for _, h := range l {
		if n, e := a.Get(h); e != api.ErrNone || !same(n, Node{}) {
			t.Errorf("%d: %v %d", h, n, e)
		}
	}
}

// has holds which handles are live.
func has(t *testing.T, a *Arena, want ...int) {
	t.Helper()
	if l := a.Live(); !slices.Equal(l, want) || a.Len() != len(want) {
		t.Errorf("live: %s, %d, want %s", short(l), a.Len(), short(want))
	}
}

// sweeps holds how many nodes go, and which stay.
func sweeps(t *testing.T, a *Arena, want int, stay []int, roots ...int) {
	t.Helper()
	if n, e := a.Sweep(roots...); n != want || e != api.OK {
		t.Errorf("from %s: %d %d, want %d", short(roots), n, e, want)
	}
	has(t, a, stay...)
}

// reading are all live nodes, by their handles.
func reading(a *Arena) []Node {
	var l []Node
	for _, h := range a.Live() {
		n, _ := a.Get(h)
		l = append(l, n)
	}
	return l
}

// refer is a node that refers to others.
func refer(refs ...int) Node { return Node{Kind: 9, Refs: refs} }

// some are nodes that refer to none, of so many kinds.
func some(n int) []Node {
	var l []Node
	for i := range n {
		l = append(l, Node{Kind: i})
	}
	return l
}

// to are the numbers from 1 to n.
func to(n int) []int {
	var l []int
	for i := range n {
		l = append(l, i+1)
	}
	return l
}

// wrong are handles that no arena here has.
func wrong() []int {
	return []int{-1, -2, 1000, 65536, 65537, 1 << 32, 1<<32 + 1, -1 << 32, most, most - 1, least, least + 1}
}

// P9.1: rooms that there can be, the least and the greatest of them too, and such as there can't be
func TestNew(t *testing.T) {
	for _, room := range []int{0, 1, 2, 1000, api.MaxNodes - 1, api.MaxNodes} {
		made(t, room)
	}
	for _, room := range []int{-1, -2, api.MaxNodes + 1, 1 << 32, 1<<32 + 1, most, least, -api.MaxNodes} {
		if a, e := New(room); a != nil || e != api.ErrArg {
			t.Errorf("%d: %v %d", room, a, e)
		}
	}
}

// P9.1: nodes are put in order, get the least handles, and read as they were
func TestPut(t *testing.T) {
	a := made(t, 10)
	puts(t, a, nil)
	puts(t, a, nil, []Node{}...)
	has(t, a)
	x, y := Node{Kind: 1, Text: "x"}, Node{Kind: -7, Nums: []int{5, least, most, 0}, Text: "\x00\xff y"}
	puts(t, a, []int{1, 2}, x, y)
	puts(t, a, []int{3}, Node{Refs: []int{2, 0, 1, 2}})
	puts(t, a, []int{4}, Node{})
	has(t, a, 1, 2, 3, 4)
	reads(t, a, 1, x)
	reads(t, a, 2, y)
	reads(t, a, 3, Node{Refs: []int{2, 0, 1, 2}})
	reads(t, a, 4, Node{})
	lacks(t, a, append(wrong(), 0, 5, 6, 10, 11)...)
	if a.Room() != 10 {
		t.Errorf("room: %d", a.Room())
	}
}

// P9.1: a Ref is a handle, none, or a node of the list, ahead of its own, and stands for that one's handle
func TestRefs(t *testing.T) {
	a := made(t, 20)
	puts(t, a, []int{1, 2, 3, 4}, Node{Kind: 1}, refer(-1), refer(-2, -1, 0, -2), refer(-3, -1))
	reads(t, a, 2, refer(1))
	reads(t, a, 3, refer(2, 1, 0, 2))
	reads(t, a, 4, refer(3, 1))
	puts(t, a, []int{5, 6, 2, 7}, Node{Kind: 2}, refer(-1, 4, 1), refer(1), refer(-3, -2, 4))
	reads(t, a, 6, refer(5, 4, 1))
	reads(t, a, 7, refer(2, 6, 4)) // -3 is the third one, which was there
	puts(t, a, []int{8}, refer(7))
	puts(t, a, []int{9}, refer(0))
	puts(t, a, []int{10}, refer(0, 0))
	puts(t, a, []int{11}, Node{Nums: []int{-1, 99, least}}) // Nums are no Refs
	reads(t, a, 11, Node{Nums: []int{-1, 99, least}})
}

// P9.1: a node that is equal to a live one is that one, be it from ahead of the call, or of the same list, its Refs being handles
func TestEqual(t *testing.T) {
	a := made(t, 4)
	puts(t, a, []int{1, 1, 2, 1}, Node{Kind: 1}, Node{Kind: 1}, refer(-1), Node{Kind: 1})
	puts(t, a, []int{2, 2, 2}, refer(1), refer(1), refer(1))
	puts(t, a, []int{1, 2, 3, 2, 3}, Node{Kind: 1}, refer(-1), refer(-2, -1), refer(-1), refer(2, 1))
	puts(t, a, []int{1, 1, 2}, Node{Kind: 1}, Node{Kind: 1}, refer(-2)) // by another node of the list that is the same
	has(t, a, 1, 2, 3)
	puts(t, a, []int{4}, Node{Refs: []int{}, Nums: []int{}})
	puts(t, a, []int{4, 4, 4}, Node{}, Node{Refs: []int{}}, Node{Nums: []int{}}) // none, and no list at all
	puts(t, a, []int{3, 2, 1, 4}, refer(2, 1), refer(1), Node{Kind: 1}, Node{})  // in a full arena, too
	reads(t, a, 4, Node{})
}

// P9.1: nodes that differ in one thing are two, whatever that is
func TestDiffer(t *testing.T) {
	a := made(t, 1000)
	puts(t, a, to(30), some(30)...)
	l := []Node{
		{Kind: -1}, {Kind: 30}, {Kind: most}, {Kind: least}, {Kind: 1 << 32}, {Kind: 256},
		{Kind: 1, Text: "1"}, {Kind: 1, Text: " "}, {Kind: 1, Text: "1 "}, {Kind: 1, Text: "\x00"}, {Kind: 1, Text: "x"}, {Kind: 1, Text: "X"}, {Kind: 1, Text: "x\x00"}, {Kind: 111},
		{Kind: 1, Refs: []int{1}}, {Kind: 1, Nums: []int{1}}, {Kind: 1, Refs: []int{1}, Nums: []int{1}}, {Kind: 1, Refs: []int{1, 1}}, {Kind: 1, Nums: []int{1, 1}}, {Kind: 1, Refs: []int{1}, Text: "1"}, {Kind: 1, Nums: []int{1}, Text: "1"},
		{Kind: 1, Refs: []int{0}}, {Kind: 1, Nums: []int{0}}, {Kind: 1, Refs: []int{0, 0}}, {Kind: 1, Refs: []int{0, 1}}, {Kind: 1, Refs: []int{1, 0}}, {Kind: 1, Nums: []int{0, 0}}, {Kind: 1, Nums: []int{0, 1}}, {Kind: 1, Nums: []int{1, 0}},
		{Kind: 1, Refs: []int{12}}, {Kind: 1, Refs: []int{1, 2}}, {Kind: 1, Refs: []int{2, 1}}, {Kind: 1, Refs: []int{21}}, {Kind: 1, Refs: []int{11, 1}}, {Kind: 1, Refs: []int{1, 11}}, {Kind: 1, Refs: []int{1, 1, 1}}, {Kind: 1, Refs: []int{1}, Nums: []int{11}}, {Kind: 1, Refs: []int{11}, Nums: []int{1}}, {Kind: 1, Refs: []int{1, 1}, Nums: []int{1}}, {Kind: 1, Refs: []int{1}, Nums: []int{1, 1}},
		{Kind: 1, Nums: []int{12}}, {Kind: 1, Nums: []int{1, 2}}, {Kind: 1, Nums: []int{2, 1}}, {Kind: 1, Nums: []int{-1}}, {Kind: 1, Nums: []int{1, -1}}, {Kind: 1, Nums: []int{1 - 1<<32}}, {Kind: 1, Nums: []int{257}}, {Kind: 1, Nums: []int{1<<32 + 1}}, {Kind: 1, Nums: []int{most}}, {Kind: 1, Nums: []int{least}}, {Kind: 1, Nums: []int{most - 1}}, {Kind: 1, Nums: []int{1, 0, 0, 0, 0, 0, 0, 0}},
		{Kind: 1, Text: strings.Repeat("x", 5000)}, {Kind: 1, Text: strings.Repeat("x", 5001)}, {Kind: 1, Text: strings.Repeat("x", 4999) + "y"}, {Kind: 1, Nums: make([]int, 5000)}, {Kind: 1, Nums: make([]int, 5001)}, {Kind: 1, Refs: make([]int, 5000)}, {Kind: 1, Refs: make([]int, 5001)},
	}
	want := to(30 + len(l))[30:]
	puts(t, a, want, l...)
	puts(t, a, want, l...)
	for i, n := range l {
		reads(t, a, want[i], n)
	}
}

// P9.1: a Ref that is none of these is told, wherever it stands, and then nothing is put
func TestWrongRefs(t *testing.T) {
	a := made(t, 20)
	puts(t, a, to(5), some(5)...)
	sweeps(t, a, 1, []int{1, 2, 4, 5}, 1, 2, 4, 5)
	for _, r := range append(wrong(), 3, 6, 7, 20, 21) {
		refuses(t, a, api.ErrArg, refer(r))
		refuses(t, a, api.ErrArg, refer(1, 0, r))
		refuses(t, a, api.ErrArg, refer(r, 1))
		refuses(t, a, api.ErrArg, refer(r), Node{Kind: 50}, Node{Kind: 51})
		if r != -1 && r != -2 { // which are the list's here
			refuses(t, a, api.ErrArg, Node{Kind: 50}, Node{Kind: 51}, refer(r))
			refuses(t, a, api.ErrArg, Node{Kind: 50}, refer(-1), refer(-2, -1, 1, 2, 4, 5, 0, r))
		}
	}
	for _, l := range [][]Node{
		{refer(-1)}, {refer(-2), {Kind: 50}}, {{Kind: 50}, refer(-2)}, {{Kind: 50}, refer(-1), refer(-3)}, {{Kind: 50}, refer(-3), {Kind: 51}}, {{Kind: 50}, refer(-1, -2)}, {{Kind: 50}, {Kind: 51}, refer(-4, -1)},
		{{Kind: 50}, refer(3)}, {{Kind: 50}, refer(6)}, {{Kind: 0}, refer(-1), refer(6)}, // what the list lays wasn't live ahead of it
	} {
		refuses(t, a, api.ErrArg, l...)
	}
	puts(t, a, []int{3, 6, 7}, Node{Kind: 50}, refer(-1), refer(5)) // the last handle
	puts(t, a, []int{8}, refer(7))
}

// P9.1: what is wrong is told ahead of what has no room, though it stand behind it
func TestWrongAndFull(t *testing.T) {
	a := made(t, 2)
	puts(t, a, []int{1}, Node{Kind: 1})
	refuses(t, a, api.ErrArg, Node{Kind: 2}, Node{Kind: 3}, Node{Kind: 4}, refer(2))
	refuses(t, a, api.ErrArg, Node{Kind: 2}, Node{Kind: 3}, refer(-3))
	refuses(t, a, api.ErrFull, Node{Kind: 2}, Node{Kind: 3}, refer(-2))
	a = made(t, 0)
	refuses(t, a, api.ErrArg, refer(-1))
	refuses(t, a, api.ErrArg, refer(1))
	refuses(t, a, api.ErrFull, refer(0))
}

// P9.1: rooms of 0, of 1, and of few: what fits just so, and what doesn't fit as a whole
func TestRoom(t *testing.T) {
	a := made(t, 0)
	puts(t, a, nil)
	refuses(t, a, api.ErrFull, Node{})
	refuses(t, a, api.ErrFull, Node{}, Node{})
	sweeps(t, a, 0, nil)
	sweeps(t, a, 0, nil, 0, 0)
	a = made(t, 1)
	refuses(t, a, api.ErrFull, Node{}, Node{Kind: 1})
	puts(t, a, []int{1}, Node{Kind: 1})
	refuses(t, a, api.ErrFull, Node{})
	refuses(t, a, api.ErrFull, Node{Kind: 1}, Node{})
	puts(t, a, []int{1, 1, 1}, Node{Kind: 1}, Node{Kind: 1}, Node{Kind: 1})
	sweeps(t, a, 1, nil)
	puts(t, a, []int{1}, Node{})
	a = made(t, 5)
	refuses(t, a, api.ErrFull, some(6)...)
	puts(t, a, []int{1, 2}, some(2)...)
	refuses(t, a, api.ErrFull, some(6)...)
	refuses(t, a, api.ErrFull, refer(1), refer(2), refer(-1), refer(-2))
	puts(t, a, []int{3, 3, 1, 4, 3, 5}, refer(1), refer(1), Node{}, refer(2), refer(1), refer(-1)) // 6, of which 3 are new
	has(t, a, 1, 2, 3, 4, 5)
	reads(t, a, 5, refer(3))
	refuses(t, a, api.ErrFull, Node{Kind: 1}, refer(1), refer(5))
}

// P9.1: behind a list that doesn't fit, all goes on as if it had not been
func TestUndone(t *testing.T) {
	a, b := made(t, 6), made(t, 6)
	for _, x := range []*Arena{a, b} {
		puts(t, x, to(6), some(6)...)
		sweeps(t, x, 3, []int{1, 3, 5}, 1, 3, 5)
	}
	refuses(t, a, api.ErrFull, refer(1), refer(3), refer(-2), refer(-3))
	for _, x := range []*Arena{a, b} {
		puts(t, x, []int{2, 4}, refer(3), refer(-1))
		refuses(t, x, api.ErrFull, refer(1), refer(2, 2))
		puts(t, x, []int{6}, refer(2, 2))
		sweeps(t, x, 3, []int{2, 3, 6}, 6, 2)
	}
	refuses(t, a, api.ErrFull, some(6)...)
	for _, x := range []*Arena{a, b} {
		puts(t, x, []int{1, 4, 5}, some(2)[1], Node{Kind: 40}, Node{Kind: 41})
	}
}

// P9.1: the greatest room, filled at once, and one by one; what fits just so, and what doesn't
func TestMost(t *testing.T) {
	all := some(api.MaxNodes)
	a := made(t, api.MaxNodes)
	if l, e := a.Put(some(api.MaxNodes + 1)...); len(l) != 0 || e != api.ErrFull || a.Len() != 0 {
		t.Errorf("one too many: %d %d", a.Len(), e)
	}
	if l, e := a.Put(append(slices.Clone(all), Node{Kind: 7}, Node{Kind: 65535})...); !slices.Equal(l, append(to(api.MaxNodes), 8, 65536)) || e != api.OK {
		t.Errorf("all: %d %d", a.Len(), e)
	}
	for _, n := range []Node{{Kind: -1}, {Kind: api.MaxNodes}, refer(65536)} {
		if l, e := a.Put(n); len(l) != 0 || e != api.ErrFull || a.Len() != api.MaxNodes {
			t.Errorf("%v: %d %d", n, l, e)
		}
	}
	puts(t, a, []int{65536}, Node{Kind: 65535})
	sweeps(t, a, api.MaxNodes-2, []int{1, 65535}, 65535, 1)
	b := made(t, api.MaxNodes)
	for i, n := range all {
		if l, e := b.Put(n); e != api.OK || !slices.Equal(l, []int{i + 1}) {
			t.Fatalf("%v: %v %d", n, l, e)
		}
	}
	has(t, b, to(api.MaxNodes)...)
}

// P9.1: a new node gets the least handle that is not live, behind a sweep too
func TestLeast(t *testing.T) {
	a := made(t, 12)
	puts(t, a, to(8), some(8)...)
	sweeps(t, a, 4, []int{2, 4, 7, 8}, 2, 4, 7, 8)
	puts(t, a, []int{1, 3, 5, 6, 9, 10}, Node{Kind: 20}, Node{Kind: 21}, Node{Kind: 22}, Node{Kind: 23}, Node{Kind: 24}, Node{Kind: 25})
	sweeps(t, a, 2, []int{1, 2, 3, 4, 6, 7, 8, 9}, 1, 2, 3, 4, 6, 7, 8, 9)
	puts(t, a, []int{5}, Node{Kind: 30})
	puts(t, a, []int{10}, Node{Kind: 31})
	puts(t, a, []int{11}, Node{Kind: 32})
	sweeps(t, a, 1, []int{1, 2, 3, 4, 5, 6, 7, 8, 9, 10}, 1, 2, 3, 4, 5, 6, 7, 8, 9, 10)
	sweeps(t, a, 1, []int{1, 2, 3, 4, 5, 6, 7, 8, 10}, 1, 2, 3, 4, 5, 6, 7, 8, 10)
	sweeps(t, a, 1, []int{1, 2, 4, 5, 6, 7, 8, 10}, 1, 2, 4, 5, 6, 7, 8, 10) // the least one of two that went apart
	puts(t, a, []int{3, 9, 11, 12}, Node{Kind: 40}, Node{Kind: 41}, Node{Kind: 42}, Node{Kind: 43})
	sweeps(t, a, 12, nil)
	puts(t, a, []int{1, 2}, Node{Kind: 43}, Node{Kind: 42})
}

// P9.1: a node that went is no live one: its like gets a handle as any new one does
func TestSwept(t *testing.T) {
	a := made(t, 5)
	puts(t, a, to(4), some(4)...)
	sweeps(t, a, 3, []int{4}, 4)
	lacks(t, a, 1, 2, 3)
	puts(t, a, []int{1, 2, 4}, Node{Kind: 2}, Node{Kind: 0}, Node{Kind: 3})
	reads(t, a, 1, Node{Kind: 2})
	reads(t, a, 2, Node{})
	refuses(t, a, api.ErrArg, refer(3))
	puts(t, a, []int{3}, Node{Kind: 1})
}

// web puts a node that is referred to on two ways, one that is referred to twice, and some that are not.
func web(t *testing.T) *Arena {
	t.Helper()
	a := made(t, 9)
	puts(t, a, to(8), Node{Kind: 1}, refer(-1), refer(-1, 0, -1), refer(-2, -3), Node{Kind: 2}, refer(-5), refer(-4, -6, 0), refer(0))
	return a
}

// P9.1: what is reached from handles: these, and what is referred to; roots that are not live are none
func TestReach(t *testing.T) {
	a := web(t)
	for _, x := range []struct{ roots, want []int }{
		{nil, nil}, {[]int{}, nil}, {[]int{0}, nil}, {[]int{0, 0}, nil}, {[]int{1}, []int{1}}, {[]int{2}, []int{1, 2}}, {[]int{3}, []int{1, 3}}, {[]int{4}, []int{1, 2, 3, 4}}, {[]int{5}, []int{5}}, {[]int{6}, []int{5, 6}}, {[]int{7}, []int{1, 2, 3, 4, 5, 6, 7}}, {[]int{8}, []int{8}},
		{[]int{4, 4}, []int{1, 2, 3, 4}}, {[]int{6, 2}, []int{1, 2, 5, 6}}, {[]int{8, 0, 1}, []int{1, 8}}, {[]int{7, 8}, to(8)}, {[]int{8, 7, 6, 5, 4, 3, 2, 1}, to(8)}, {[]int{9}, nil}, {[]int{9, 2, 10}, []int{1, 2}}, {wrong(), nil}, {append(wrong(), 6), []int{5, 6}},
	} {
		if l := a.Reach(x.roots...); !slices.Equal(l, x.want) {
			t.Errorf("from %v: %v, want %v", x.roots, l, x.want)
		}
		has(t, a, to(8)...)
	}
}

// P9.1: from which nodes go: from none, from 0, from one root twice, from nodes that refer to one on two ways; and a second time
func TestSweep(t *testing.T) {
	for _, x := range []struct {
		roots []int
		went  int
		stay  []int
	}{
		{nil, 8, nil}, {[]int{0}, 8, nil}, {[]int{0, 0}, 8, nil}, {[]int{1}, 7, []int{1}}, {[]int{4, 4}, 4, []int{1, 2, 3, 4}}, {[]int{2, 3}, 5, []int{1, 2, 3}}, {[]int{7}, 1, to(7)}, {[]int{8, 0, 7}, 0, to(8)}, {[]int{8}, 7, []int{8}}, {[]int{0, 6, 0, 3, 6}, 4, []int{1, 3, 5, 6}},
	} {
		a := web(t)
		read := map[int]Node{}
		for _, h := range a.Live() {
			read[h], _ = a.Get(h)
		}
		for i := range 3 {
			sweeps(t, a, x.went*(1-min(i, 1)), x.stay, x.roots...)
			for h, n := range read {
				if slices.Contains(x.stay, h) {
					reads(t, a, h, n)
				} else {
					lacks(t, a, h)
				}
			}
		}
	}
}

// P9.1: a root that is neither 0 nor live is told, and then no node goes
func TestWrongRoots(t *testing.T) {
	a := web(t)
	sweeps(t, a, 1, to(7), 7)
	for _, r := range append(wrong(), 8, 9, 10) {
		for _, roots := range [][]int{{r}, {1, r}, {r, 1}, {0, r}, {r, r}, {7, 0, 1, r}} {
			if n, e := a.Sweep(roots...); n != 0 || e != api.ErrNone {
				t.Errorf("from %v: %d %d", roots, n, e)
			}
			has(t, a, to(7)...)
			reads(t, a, 7, refer(4, 6, 0))
		}
	}
}

// P1: on a nil arena, and on one that nobody made, every call ends; on the nil one with ErrArg, ahead of all else
func TestNil(t *testing.T) {
	var none *Arena
	for _, l := range [][]Node{nil, {{}}, {refer(-1)}, {refer(1)}} {
		if is, e := none.Put(l...); len(is) != 0 || e != api.ErrArg {
			t.Errorf("Put %v: %v %d", l, is, e)
		}
	}
	for _, h := range append(wrong(), 0, 1) {
		if n, e := none.Get(h); !same(n, Node{}) || e != api.ErrArg {
			t.Errorf("Get %d: %v %d", h, n, e)
		}
		if n, e := none.Sweep(h); n != 0 || e != api.ErrArg {
			t.Errorf("Sweep %d: %d %d", h, n, e)
		}
		if l := none.Reach(h); len(l) != 0 {
			t.Errorf("Reach %d: %v", h, l)
		}
	}
	if n, e := none.Sweep(); n != 0 || e != api.ErrArg || none.Len() != 0 || none.Room() != 0 || len(none.Live()) != 0 || len(none.Reach()) != 0 {
		t.Errorf("nil: %d %d", n, e)
	}
	var bare Arena
	refuses(t, &bare, api.ErrFull, Node{})
	lacks(t, &bare, append(wrong(), 0, 1)...)
	sweeps(t, &bare, 0, nil, 0)
	if bare.Room() != 0 || len(bare.Reach(1)) != 0 {
		t.Errorf("bare: %d", bare.Room())
	}
}

// P1: long chains, and one node that is referred to very often, are gone through
func TestLong(t *testing.T) {
	a := made(t, api.MaxNodes)
	chain := []Node{{Kind: 1}}
	for i := range api.MaxNodes - 2 {
		chain = append(chain, refer(-i-1))
	}
	puts(t, a, to(api.MaxNodes-1), chain...)
	often := refer(slices.Repeat([]int{-1, 0, api.MaxNodes - 1}, 100000)...)
	often.Refs[0] = 0
	for i, r := range often.Refs {
		if r < 0 {
			often.Refs[i] = 3
		}
	}
	puts(t, a, []int{api.MaxNodes}, often)
	reads(t, a, api.MaxNodes, often)
	if l := a.Reach(api.MaxNodes); !slices.Equal(l, to(api.MaxNodes)) {
		t.Errorf("all: %d", len(l))
	}
	sweeps(t, a, 0, to(api.MaxNodes), api.MaxNodes)
	sweeps(t, a, api.MaxNodes-1000, to(1000), 1000)
	sweeps(t, a, 0, to(1000), slices.Repeat([]int{1000, 0, 5}, 100000)...)
}

// Rule 4: what is handed in is neither written nor kept, and behind its length nothing is looked at; what is answered is new
func TestMemory(t *testing.T) {
	a := made(t, 9)
	behind := []int{-1, 77, 78}
	l := make([]Node, 2, 4)
	l[0], l[1] = Node{Kind: 1, Nums: []int{4, 5, 6}[:1]}, Node{Kind: 2, Refs: behind[:1], Nums: []int{8}}
	l[:3][2] = refer(5)
	puts(t, a, []int{1, 2}, l...)
	if !same(l[0], Node{Kind: 1, Nums: []int{4}}) || !same(l[1], Node{Kind: 2, Refs: []int{-1}, Nums: []int{8}}) || !same(l[:3][2], refer(5)) || !slices.Equal(behind, []int{-1, 77, 78}) || !slices.Equal(l[0].Nums[:3], []int{4, 5, 6}) {
		t.Errorf("written: %v %v", l[:3], behind)
	}
	l[0].Nums[0], l[1].Refs[0], l[1].Nums[0] = 99, 99, 99
	n := l[:1]
	n[0].Kind = 50
	reads(t, a, 1, Node{Kind: 1, Nums: []int{4}})
	reads(t, a, 2, Node{Kind: 2, Refs: []int{1}, Nums: []int{8}})
	x, _ := a.Get(2)
	x.Refs[0], x.Nums[0] = 55, 55
	_, _ = append(x.Refs, 56), append(x.Nums, 57)
	reads(t, a, 2, Node{Kind: 2, Refs: []int{1}, Nums: []int{8}})
	puts(t, a, []int{2}, Node{Kind: 2, Refs: []int{1}, Nums: []int{8}})
	live, reach := a.Live(), a.Reach(2)
	live[0], reach[0] = 44, 44
	has(t, a, 1, 2)
	roots := []int{2, 0, 9, 9}[:2]
	reach = a.Reach(roots...)
	if !slices.Equal(roots[:4], []int{2, 0, 9, 9}) || !slices.Equal(reach, []int{1, 2}) {
		t.Errorf("roots: %v %v", roots[:4], reach)
	}
	sweeps(t, a, 0, []int{1, 2}, roots...)
	if !slices.Equal(roots[:4], []int{2, 0, 9, 9}) {
		t.Errorf("roots: %v", roots[:4])
	}
	h, _ := a.Put(Node{Kind: 3})
	h[0] = 1
	reads(t, a, 3, Node{Kind: 3})
}

// tossed is a node of the kinds that are met often, its Refs mostly ones that may stand at i of a list.
func tossed(r *rand.Rand, live []int, room, i int) Node {
	n := Node{Kind: r.IntN(3), Text: strings.Repeat("a", r.IntN(3))}
	for range r.IntN(4) {
		switch k := r.IntN(40); {
		case k == 0:
			n.Refs = append(n.Refs, r.IntN(room+3)-i-2)
		case k < 8:
			n.Refs = append(n.Refs, 0)
		case k < 20 && i > 0:
			n.Refs = append(n.Refs, -1-r.IntN(i))
		case len(live) > 0:
			n.Refs = append(n.Refs, live[r.IntN(len(live))])
		}
	}
	for range max(0, r.IntN(4)-2) {
		n.Nums = append(n.Nums, r.IntN(3)-1)
	}
	return n
}

// P9.1, P9.2, P2: any calls on arenas of little room are answered as a table answers; and two arenas answer alike
func TestTable(t *testing.T) {
	r := rand.New(rand.NewPCG(9, 1))
	met := map[api.Errno]int{}
	went, kept := 0, 0
	for range 300 {
		room := r.IntN(40)
		a, b, p := made(t, room), made(t, room), plainly(room)
		for range 60 {
			if r.IntN(4) > 0 {
				var l []Node
				for i := range r.IntN(6) {
					l = append(l, tossed(r, p.live(), room, i))
				}
				ahead := len(p.nodes)
				want, e := p.put(l...)
				is, f := a.Put(l...)
				also, g := b.Put(l...)
				if !slices.Equal(is, want) || e != f || !slices.Equal(also, want) || e != g {
					t.Fatalf("%v: %v %d, %v %d, want %v %d", l, is, f, also, g, want, e)
				}
				met[e]++
				if e == api.OK && len(p.nodes) < ahead+len(l) {
					kept++
				}
			} else {
				var roots []int
				for range r.IntN(6) {
					roots = append(roots, r.IntN(room+1))
				}
				if r.IntN(5) > 0 {
					roots = slices.DeleteFunc(roots, func(h int) bool { _, ok := p.nodes[h]; return !ok })
				}
				reach := p.reach(roots...)
				if l := a.Reach(roots...); !slices.Equal(l, reach) {
					t.Fatalf("from %v: %v, want %v", roots, l, reach)
				}
				want, e := p.sweep(roots...)
				is, f := a.Sweep(roots...)
				also, g := b.Sweep(roots...)
				if is != want || e != f || also != want || e != g {
					t.Fatalf("from %v: %d %d, %d %d, want %d %d", roots, is, f, also, g, want, e)
				}
				met[e]++
				went += want
			}
			if !slices.Equal(a.Live(), p.live()) || a.Len() != len(p.nodes) || a.Room() != room {
				t.Fatalf("live: %v, want %v", a.Live(), p.live())
			}
			for h := range room + 2 {
				n, e := a.Get(h)
				if m, f := p.get(h); e != f || !same(m, n) {
					t.Fatalf("%d: %v %d, want %v %d", h, n, e, m, f)
				}
			}
		}
	}
	if met[api.OK] < 5000 || met[api.ErrArg] < 200 || met[api.ErrFull] < 1000 || met[api.ErrNone] < 200 || went < 5000 || kept < 500 {
		t.Errorf("met: %v, went %d, known %d", met, went, kept)
	}
}

// P9.2: in arenas of many nodes that refer to each other just what is reached stays behind a Sweep, each as it was, till the next one
func TestStays(t *testing.T) {
	r := rand.New(rand.NewPCG(9, 2))
	for _, room := range []int{500, 5000, api.MaxNodes} {
		a := made(t, room)
		laid := map[int]Node{}
		for round := range 4 {
			for a.Len() < room*9/10 {
				n := Node{Kind: round, Nums: []int{a.Len()}, Text: "n"}
				for range r.IntN(3) {
					n.Refs = append(n.Refs, max(0, a.Len()-r.IntN(20)))
				}
				n.Refs = slices.DeleteFunc(n.Refs, func(h int) bool { _, ok := laid[h]; return h > 0 && !ok })
				l, e := a.Put(n)
				if e != api.OK || len(l) != 1 {
					t.Fatalf("%v: %d", n, e)
				}
				if m, ok := laid[l[0]]; ok && !same(m, n) {
					t.Fatalf("%d: %v was %v", l[0], n, m)
				}
				laid[l[0]] = n
			}
			var roots []int
			for range 1 + r.IntN(3) {
				roots = append(roots, 1+r.IntN(room/2))
			}
			roots = slices.DeleteFunc(roots, func(h int) bool { _, ok := laid[h]; return !ok })
			held(t, a, laid, roots)
		}
	}
}

// held sweeps, and holds what is live, and how it reads, against what was laid.
func held(t *testing.T, a *Arena, laid map[int]Node, roots []int) {
	t.Helper()
	ahead, stay := a.Len(), a.Reach(roots...)
	if len(stay) == 0 || len(stay) == ahead {
		t.Fatalf("from %v: %d of %d", roots, len(stay), ahead)
	}
	sweeps(t, a, ahead-len(stay), stay, roots...)
	stays := map[int]bool{}
	for _, h := range stay {
		stays[h] = true
	}
	for h, n := range laid {
		if !stays[h] {
			lacks(t, a, h)
			delete(laid, h)
			continue
		}
		reads(t, a, h, n)
		for _, x := range n.Refs {
			if x != 0 && !stays[x] {
				t.Fatalf("%d: %v, of which %d went", h, n, x)
			}
		}
	}
	if len(laid) != len(stay) {
		t.Errorf("%d live, %d known", len(stay), len(laid))
	}
	for _, h := range roots {
		if !stays[h] {
			t.Errorf("the root %d went", h)
		}
	}
}
