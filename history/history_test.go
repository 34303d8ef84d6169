package history

import (
	"fmt"
	"maps"
	"math/rand/v2"
	"slices"
	"strconv"
	"strings"
	"testing"

	"gridiron/api"
	"gridiron/arena"
	"gridiron/trie"
)

// made is an empty arena.
func made(t *testing.T, room int) *arena.Arena {
	t.Helper()
	a, e := arena.New(room)
	if e != api.OK {
		t.Fatalf("a room of %d: %d", room, e)
	}
	return a
}

// builds is the handle of entries' trie.
func builds(t *testing.T, a *arena.Arena, l ...trie.Entry) int {
	t.Helper()
	h, e := trie.Build(a, l...)
	if e != api.OK {
		t.Fatalf("%v: %d", l, e)
	}
	return h
}

// leaf is the handle of a trie that has nothing but a text at a key.
func leaf(t *testing.T, a *arena.Arena, key int) int {
	t.Helper()
	return builds(t, a, trie.Entry{Key: key, Text: "x"})
}

// lays puts a node as it is.
func lays(t *testing.T, a *arena.Arena, n arena.Node) int {
	t.Helper()
	l, e := a.Put(n)
	if e != api.OK {
		t.Fatalf("%v: %d", n, e)
	}
	return l[0]
}

// commits holds that there is such a commit then, and how its node is.
func commits(t *testing.T, a *arena.Arena, number, sheet int, parents ...int) int {
	t.Helper()
	h, e := Commit(a, number, sheet, parents...)
	if e != api.OK {
		t.Fatalf("%d of %d, %v: %d", number, sheet, parents, e)
	}
	n, _ := a.Get(h)
	if n.Kind != 4 || n.Text != "" || !slices.Equal(n.Nums, []int{number}) || !slices.Equal(n.Refs, append([]int{sheet}, parents...)) {
		t.Fatalf("%d of %d, %v: %v", number, sheet, parents, n)
	}
	return h
}

// fails holds that there is no such commit, and with which error.
func fails(t *testing.T, a *arena.Arena, want api.Errno, number, sheet int, parents ...int) {
	t.Helper()
	ahead := reading(a)
	if h, e := Commit(a, number, sheet, parents...); h != 0 || e != want {
		t.Errorf("%d of %d, %v: %d %d, want %d", number, sheet, parents, h, e, want)
	}
	stays(t, a, ahead)
}

// stays holds that an arena has just what it had.
func stays(t *testing.T, a *arena.Arena, ahead map[int]string) {
	t.Helper()
	if is := reading(a); !maps.Equal(is, ahead) {
		t.Fatalf("nodes: %v, were %v", is, ahead)
	}
}

// tells holds what is told of a commit.
func tells(t *testing.T, a *arena.Arena, h int, c *commit, log []int) {
	t.Helper()
	if n := Number(a, h); !Is(a, h) || n != c.number {
		t.Fatalf("%d: %v, %d, want %d", h, Is(a, h), n, c.number)
	}
	if s, e := Sheet(a, h); s != c.sheet || e != api.OK {
		t.Fatalf("%d: sheet: %d %d, want %d", h, s, e, c.sheet)
	}
	if l := Parents(a, h); !slices.Equal(l, c.parents) {
		t.Fatalf("%d: parents: %v, want %v", h, l, c.parents)
	}
	if l := Log(a, h); !slices.Equal(l, log) {
		t.Fatalf("%d: log: %v, want %v", h, l, log)
	}
	bases(t, a, h, h, h, api.OK)
}

// bases holds the base of two handles, in both orders.
func bases(t *testing.T, a *arena.Arena, g, h, want int, f api.Errno) {
	t.Helper()
	for _, x := range [][2]int{{g, h}, {h, g}} {
		if b, e := Base(a, x[0], x[1]); b != want || e != f {
			t.Fatalf("base of %d, %d: %d %d, want %d %d", x[0], x[1], b, e, want, f)
		}
	}
}

// silent holds that nothing is told of a handle, as it is no commit's.
func silent(t *testing.T, a *arena.Arena, h int) {
	t.Helper()
	if n, l := Number(a, h), Parents(a, h); Is(a, h) || n != 0 || len(l) != 0 {
		t.Fatalf("%d: %v, %d, %v", h, Is(a, h), n, l)
	}
	if s, e := Sheet(a, h); s != 0 || e != api.ErrArg {
		t.Fatalf("%d: sheet: %d %d", h, s, e)
	}
	if l := Log(a, h); len(l) != 0 {
		t.Fatalf("%d: log: %v", h, l)
	}
}

// lacks holds that a handle is no commit's, whatever is asked; good is one's.
func lacks(t *testing.T, a *arena.Arena, h, good int) {
	t.Helper()
	ahead := reading(a)
	silent(t, a, h)
	for _, g := range []int{good, h, 0, -1} {
		bases(t, a, h, g, 0, api.ErrArg)
	}
	stays(t, a, ahead)
	fails(t, a, api.ErrArg, greatest, 0, h)
	fails(t, a, api.ErrArg, greatest, 0, good, h)
	fails(t, a, api.ErrArg, greatest, 0, h, good)
}

// never are handles that no arena has.
func never() []int {
	return []int{0, -1, -2, -3, -4, 65536, 65537, 1 << 32, 1<<32 + 1, 1<<32 + 2, -1 << 32, greatest, greatest - 1, least, least + 1}
}

// P15.1: commits of none, one and two parents, of twice the same one; sheets that are none, a leaf, a bucket, forks; numbers from 1 to the greatest
func TestCommit(t *testing.T) {
	a := made(t, 200)
	x, y, z, w := trie.Entry{Key: 0, Text: "x"}, trie.Entry{Key: 25, Text: "y"}, trie.Entry{Key: 576, Text: "z"}, trie.Entry{Key: 5, Text: "w"}
	for _, s := range []int{0, builds(t, a, x), builds(t, a, x, y), builds(t, a, x, w), builds(t, a, x, z), builds(t, a, x, y, z, w)} {
		one := commits(t, a, 1, s)
		tells(t, a, one, &commit{number: 1, sheet: s}, []int{one})
		two := commits(t, a, 2, s, one)
		tells(t, a, two, &commit{number: 2, sheet: s, parents: []int{one}}, []int{two, one})
		bare := commits(t, a, 2, 0, one, one)
		tells(t, a, bare, &commit{number: 2, parents: []int{one, one}}, []int{bare, one})
		three := commits(t, a, 3, s, two, bare)
		tells(t, a, three, &commit{number: 3, sheet: s, parents: []int{two, bare}}, []int{three, min(two, bare), max(two, bare), one})
		back := commits(t, a, 3, s, bare, two)
		tells(t, a, back, &commit{number: 3, sheet: s, parents: []int{bare, two}}, []int{back, min(two, bare), max(two, bare), one})
		far := commits(t, a, 1<<40, s, one, three)
		tells(t, a, far, &commit{number: 1 << 40, sheet: s, parents: []int{one, three}}, []int{far, three, min(two, bare), max(two, bare), one})
		last := commits(t, a, greatest-1, s)
		end := commits(t, a, greatest, s, last, one)
		tells(t, a, end, &commit{number: greatest, sheet: s, parents: []int{last, one}}, []int{end, last, one})
		bases(t, a, three, back, min(two, bare), api.OK)
		bases(t, a, far, end, one, api.OK)
		bases(t, a, last, one, 0, api.ErrNone)
	}
}

// P15.1: the same commit twice is one handle; one of which one thing is another one has another handle
func TestTwice(t *testing.T) {
	a := made(t, 50)
	x, y := leaf(t, a, 0), leaf(t, a, 1)
	one, two := commits(t, a, 1, x), commits(t, a, 2, x)
	handles := map[int]bool{}
	for _, c := range []struct {
		number, sheet int
		parents       []int
	}{{7, 0, nil}, {8, 0, nil}, {7, x, nil}, {7, y, nil}, {7, x, []int{one}}, {7, x, []int{two}}, {7, x, []int{one, two}}, {7, x, []int{two, one}}, {7, x, []int{one, one}}, {7, x, []int{two, two}}} {
		h := commits(t, a, c.number, c.sheet, c.parents...)
		if handles[h] {
			t.Errorf("%v: %d is another one's", c, h)
		}
		handles[h] = true
		ahead := reading(a)
		for range 3 {
			if g := commits(t, a, c.number, c.sheet, c.parents...); g != h {
				t.Errorf("%v: %d, then %d", c, h, g)
			}
			if g := lays(t, a, node(c.number, c.sheet, c.parents...)); g != h {
				t.Errorf("%v: %d, put %d", c, h, g)
			}
		}
		stays(t, a, ahead)
	}
}

// P15.1: just room enough, and one node less: ErrFull; what a full arena has is found; what may not be is told ahead of a lack of room
func TestRoom(t *testing.T) {
	for room := 3; room < 8; room++ {
		a := made(t, room)
		s := leaf(t, a, 7)
		parents := []int{commits(t, a, 1, s)}
		for a.Len() < room {
			parents = append(parents, commits(t, a, a.Len(), s, parents[len(parents)-1]))
		}
		last := parents[len(parents)-1]
		ahead := reading(a)
		fails(t, a, api.ErrFull, 99, 0)
		fails(t, a, api.ErrFull, 99, s)
		fails(t, a, api.ErrFull, 99, s, last)
		fails(t, a, api.ErrFull, 99, s, last, parents[0])
		fails(t, a, api.ErrFull, 1, 0)
		fails(t, a, api.ErrFull, room-1, s)
		for i, h := range parents {
			if g := commits(t, a, i+1, s, parents[max(0, i-1):i]...); g != h {
				t.Errorf("%d: %d, then %d", i, h, g)
			}
		}
		fails(t, a, api.ErrArg, 0, s, last)
		fails(t, a, api.ErrArg, 99, last, last)
		fails(t, a, api.ErrArg, 99, s, s)
		fails(t, a, api.ErrArg, room-1, s, last)
		fails(t, a, api.ErrArg, 99, s, parents[0], parents[0], last)
		stays(t, a, ahead)
		if n, e := a.Sweep(parents[len(parents)-2]); n != 1 || e != api.OK {
			t.Fatalf("swept: %d %d", n, e)
		}
		if h := commits(t, a, 99, s, parents[0]); h != last {
			t.Errorf("the free handle: %d, want %d", h, last)
		}
		fails(t, a, api.ErrFull, 98, s, parents[0])
	}
}

// P15.1: numbers of 0 and below, sheets that are none, parents that are none, whose numbers are not less, and too many: all spots, in an arena with room and in a full one
func TestWrong(t *testing.T) {
	for _, room := range []int{60, 8} {
		a := made(t, room)
		inner := builds(t, a, trie.Entry{Key: 0, Text: "x"}, trie.Entry{Key: 576, Text: "z"}) // 4 nodes, one of them a fork of level 1
		n, _ := a.Get(inner)
		x, one := leaf(t, a, 0), commits(t, a, 1, inner)
		two, five := commits(t, a, 2, x, one), commits(t, a, 5, 0)
		stray := lays(t, a, arena.Node{Kind: 5})
		for _, number := range []int{0, -1, -2, -5, least, least + 1, -1 << 32, -greatest} {
			fails(t, a, api.ErrArg, number, 0)
			fails(t, a, api.ErrArg, number, x)
			fails(t, a, api.ErrArg, number, x, one)
			fails(t, a, api.ErrArg, number, x, one, two)
		}
		for _, sheet := range append(never()[1:], one, two, five, stray, n.Refs[0], 9, 60, 61) {
			fails(t, a, api.ErrArg, 9, sheet)
			fails(t, a, api.ErrArg, 9, sheet, one)
			fails(t, a, api.ErrArg, 9, sheet, one, two)
		}
		for _, p := range append(never(), x, inner, n.Refs[0], stray, 9, 60, 61) {
			fails(t, a, api.ErrArg, 9, x, p)
			fails(t, a, api.ErrArg, 9, x, p, one)
			fails(t, a, api.ErrArg, 9, x, one, p)
			fails(t, a, api.ErrArg, 9, x, p, p)
			fails(t, a, api.ErrArg, greatest, 0, p)
		}
		for _, c := range []struct{ number, p, h int }{{1, one, 1}, {2, two, 2}, {1, two, 2}, {5, five, 5}, {4, five, 5}, {1, five, 5}} {
			fails(t, a, api.ErrArg, c.number, x, c.p)
			fails(t, a, api.ErrArg, c.number, x, one, c.p)
			fails(t, a, api.ErrArg, c.number, x, c.p, one)
			fails(t, a, api.ErrArg, c.number, x, c.p, c.p)
		}
		for _, l := range [][]int{{one, one, one}, {one, two, five}, {one, two, 0}, {one, two, five, one}, slices.Repeat([]int{one}, 257), slices.Repeat([]int{one}, 100000), {0, 0, 0}} {
			fails(t, a, api.ErrArg, 9, x, l...)
			fails(t, a, api.ErrArg, 9, 0, l...)
		}
	}
}

// fields are an arena with a leaf, an inner fork of level 1, and commits of the numbers 1, 4 (of 1) and 5.
func fields(t *testing.T) (a *arena.Arena, x, inner, one, four, five int) {
	t.Helper()
	a = made(t, 500)
	x = leaf(t, a, 0)
	n, _ := a.Get(builds(t, a, trie.Entry{Key: 0, Text: "x"}, trie.Entry{Key: 576, Text: "z"}))
	one = commits(t, a, 1, x)
	return a, x, n.Refs[0], one, commits(t, a, 4, 0, one), commits(t, a, 5, x)
}

// looks are nodes that look like a commit's, but for one thing.
func looks(x, inner, one, four, five int) []arena.Node {
	refs := []int{x, one, four}
	var l []arena.Node
	for _, kind := range []int{0, 1, 2, 3, 5, 6, 14, 40, -4, -1, 256 + 4, 1<<32 + 4, greatest, least} {
		l = append(l, arena.Node{Kind: kind, Nums: []int{5}, Refs: refs}, arena.Node{Kind: kind, Nums: []int{5}, Refs: refs[:1]})
	}
	for _, text := range []string{"x", " ", "\x00", "commit", strings.Repeat("x", 300)} {
		l = append(l, arena.Node{Kind: 4, Nums: []int{5}, Refs: refs, Text: text}, arena.Node{Kind: 4, Nums: []int{5}, Refs: refs[:1], Text: text})
	}
	for _, nums := range [][]int{nil, {5, 5}, {5, 6}, {5, 0}, {0, 5}, {5, 5, 5}, {0}, {-1}, {-5}, {-1 << 32}, {least}} {
		l = append(l, arena.Node{Kind: 4, Nums: nums, Refs: refs}, arena.Node{Kind: 4, Nums: nums, Refs: refs[:1]}, arena.Node{Kind: 4, Nums: nums, Refs: refs[:2]})
	}
	for _, refs := range [][]int{
		nil, {inner}, {one}, {five}, {one, one}, {inner, one}, {one, one, four}, {inner, one, four}, // no sheet
		{x, one, one, one}, {x, one, four, one}, {x, one, four, 0}, {0, 0, 0, 0}, slices.Repeat([]int{x}, 4), append([]int{x}, slices.Repeat([]int{one}, 70000)...), // too many
		{x, 0}, {x, 0, 0}, {x, one, 0}, {x, 0, one}, {x, x}, {x, inner}, {x, one, x}, {x, x, one}, {x, x, x}, {0, x}, // parents that are none
		{x, five}, {x, one, five}, {x, five, one}, {x, five, five}, {0, five}, // not less
	} {
		l = append(l, arena.Node{Kind: 4, Nums: []int{5}, Refs: refs})
	}
	return append(l, node(4, x, four), node(1, x, four), node(4, x, one, four), node(4, x, four, one), node(1, x, one), node(1, 0, one, one))
}

// P15.1: nodes that were put by themselves and only look like a commit's are none, nor is any that has one of them as an ancestor, wherever it stands
func TestLookalikes(t *testing.T) {
	a, x, inner, one, four, five := fields(t)
	for _, n := range looks(x, inner, one, four, five) {
		h := lays(t, a, n)
		lacks(t, a, h, four)
		first := lays(t, a, node(9, x, h))
		lacks(t, a, first, four)
		second := lays(t, a, node(9, 0, h, four))
		lacks(t, a, second, four)
		third := lays(t, a, node(9, x, four, h))
		lacks(t, a, third, four)
		for _, n := range []arena.Node{node(10, x, first), node(10, x, four, second), node(10, 0, third, four), node(11, 0, third, second), node(12, h), node(12, h, four), node(12, first)} {
			g := lays(t, a, n)
			lacks(t, a, g, four)
			lacks(t, a, lays(t, a, node(20, x, one, g)), five)
		}
		fails(t, a, api.ErrArg, 9, h)
		if _, e := a.Sweep(four, five, inner); e != api.OK {
			t.Fatalf("swept: %d", e)
		}
		tells(t, a, four, &commit{number: 4, parents: []int{one}}, []int{four, one})
	}
}

// P15.1: nodes that were put by themselves are commits', if nothing is wrong with them
func TestPut(t *testing.T) {
	a, x, _, one, four, five := fields(t)
	for _, n := range []arena.Node{node(5, 0), node(5, x), node(1, 0), node(greatest, x), node(5, x, one), node(5, x, four), node(5, 0, four, one), node(5, x, one, four), node(5, x, four, four), node(6, x, five, four), node(greatest, 0, five)} {
		h := lays(t, a, n)
		log := Log(a, h)
		tells(t, a, h, &commit{number: n.Nums[0], sheet: n.Refs[0], parents: n.Refs[1:]}, log)
		ahead := reading(a)
		if g := commits(t, a, n.Nums[0], n.Refs[0], n.Refs[1:]...); g != h || log[0] != h {
			t.Errorf("%v: %d, put %d: %v", n, g, h, log)
		}
		stays(t, a, ahead)
	}
}

// P15.1: handles of tries, of leaves, of other nodes, of none, and such as the arena never had
func TestNone(t *testing.T) {
	a, x, inner, _, four, _ := fields(t)
	for _, h := range append(never(), x, inner, lays(t, a, arena.Node{}), lays(t, a, arena.Node{Kind: 4}), a.Len()+1, a.Room(), a.Room()+1, four<<32, four+1<<16, -four) {
		lacks(t, a, h, four)
	}
}

// P15.1: a handle that was swept away is no commit's, and may become another one's; what is left is as it was
func TestSwept(t *testing.T) {
	a := made(t, 20)
	x := leaf(t, a, 0)
	one := commits(t, a, 1, x)
	two, three := commits(t, a, 2, x, one), commits(t, a, 3, 0, one)
	four := commits(t, a, 4, x, two, three)
	five := commits(t, a, 5, x, three)
	bases(t, a, four, five, three, api.OK)
	if n, e := a.Sweep(five); n != 2 || e != api.OK {
		t.Fatalf("swept: %d %d", n, e)
	}
	lacks(t, a, two, five)
	lacks(t, a, four, five)
	tells(t, a, five, &commit{number: 5, sheet: x, parents: []int{three}}, []int{five, three, one})
	if h := commits(t, a, 6, 0, five, three); h != two {
		t.Errorf("the least handle: %d, want %d", h, two)
	}
	tells(t, a, two, &commit{number: 6, parents: []int{five, three}}, []int{two, five, three, one})
	lacks(t, a, four, five)
	if h := leaf(t, a, 9); h != four {
		t.Errorf("the next handle: %d, want %d", h, four)
	}
	lacks(t, a, four, five)
}

// drawn are commits, each of a sheet of its own, that are told as a letter, a number, and the letters of parents; handles rise in that order.
func drawn(t *testing.T, a *arena.Arena, picture string) map[byte]int {
	t.Helper()
	handles := map[byte]int{}
	words := strings.Fields(picture)
	for i := range words {
		leaf(t, a, i)
	}
	for i, s := range words {
		letters := strings.TrimLeft(s[1:], "0123456789")
		number, _ := strconv.Atoi(s[1 : len(s)-len(letters)])
		var parents []int
		for _, p := range []byte(letters) {
			parents = append(parents, handles[p])
		}
		handles[s[0]] = commits(t, a, number, leaf(t, a, i), parents...)
	}
	return handles
}

// listed are the handles of letters.
func listed(handles map[byte]int, letters string) []int {
	var l []int
	for _, c := range []byte(letters) {
		l = append(l, handles[c])
	}
	return l
}

// P15.1: the log of what the document names: its first letter is that of the commit
func TestLog(t *testing.T) {
	for _, x := range []struct{ picture, logs string }{
		{"a1", "a"},
		{"a7", "a"},
		{"a1 b2", "a b"},
		{"a1 b2a c3b d4c", "a ba cba dcba"},
		{"a1 b5a c900b", "a ba cba"},
		{"a1 b2aa c3bb", "a ba cba"},
		{"a1 b2a c3a d5bc", "ba ca dcba"}, // two lines that come together
		{"a1 b2a c3a d5cb", "ba ca dcba"},
		{"a1 b2a c2a d5bc", "dbca"}, // of one number
		{"a1 b2a c2a d5cb", "dbca"},
		{"a1 b1 c2ba", "cab"},
		{"a1 b1 c2ab d2ba e3dc", "ecdab"},
		{"a9 b1 c10ab d4b e11dc", "db ecadb"}, // handles, and numbers, that rise in other orders
		{"a3 b2 c1 d4ab e4bc f5ed", "fdeabc"},
		{"a1 b2a c3b d2 e3d f4ce", "fcebda"},
		{"a1 b3a c2a d4b e3c f5d g6fe", "gfdbeca"},
		{"a1 b2a c3b d4c e5ad", "edcba"}, // one that is reached in two ways, of which one is long
		{"a1 b2a c3b d4c e5da", "edcba"},
		{"a1 b2a c2a d3bc e3bc f4de", "fdebca"}, // in many ways
		{"a1 b2a c2a d3bc e3cb f4de g4ed h5fg", "hfgdebca"},
	} {
		a := made(t, 100)
		handles := drawn(t, a, x.picture)
		ahead := reading(a)
		for _, log := range strings.Fields(x.logs) {
			if l := Log(a, handles[log[0]]); !slices.Equal(l, listed(handles, log)) {
				t.Errorf("%s: %v, want %s: %v", x.picture, l, log, listed(handles, log))
			}
		}
		stays(t, a, ahead)
	}
}

// P15.1, P15.2: the base of what the document names: behind two letters is that of their base; nothing, if they have none
func TestBase(t *testing.T) {
	for _, x := range []struct{ picture, bases string }{
		{"a1", "aaa"},
		{"a1 b1", "ab"},
		{"a1 b2a c3b d4c", "bbb aba aca ada bcb bdb cdc ddd"},
		{"a1 b2aa", "aba bbb"},
		{"a1 b2a c3a", "bca aba aca"},
		{"a1 b2a c2a", "bca"},
		{"a1 b2a c3a d5bc e9a", "dbb dcc daa dea bea eca"},
		{"a1 b2a c2a d3bc e3bc", "deb dbb dcc bca"}, // several of the greatest number
		{"a1 b2a c2a d3cb e3bc", "deb"},
		{"a1 b2a c2a d3cb e3cb", "deb"},
		{"a1 b2a c2a d3bc e3cb f9d g8e", "fgb deb fdd feb gdb"},
		{"a1 b2a c2a d2a e3dc f3cd g4e h4f", "ghc efc eba"},
		{"a1 b1 c2ab d2ab", "cda"},
		{"a1 b1 c2ab d2ba", "cda"},
		{"a1 b2a c3a d4bc e4cb", "dec"}, // several, of which one has the greatest number
		{"a1 b3a c2a d4bc e4cb", "deb"},
		{"a2 b1 c3ab d3ba", "cda"},
		{"a1 b2 c3ab d3ba", "cdb"},
		{"a1 b5a c2a d6bc e6c f7ea", "dec dfc bfa"},
		{"a1 b2 c3ab d4 e5cd f6b", "efb fd aea df ad"},
		{"a1 b2a c3b d4c e2a f9e", "dfa dea eba"}, // one line ends early
		{"a1 b2a c3b d4c e5d f6e g7f h2a i50h", "gia gha bia"},
		{"a1 b2a c3b d4c e5d f6e g7f h50d i51h", "gid ehd cic"}, // one goes far back
		{"a1 b2a c3b d4c e5d f6e g7fa h8bg", "hgg hff hbb haa"},
		{"a1 b2 c3b d4c", "ad ab ac bdb"}, // none
		{"a1 b2a c5 d6c e7d f8e", "bf aba cfc ae"},
		{"a1 b2a c5 d6ca e7d f8e g3b", "bfa gfa gc dga"},
	} {
		a := made(t, 100)
		handles := drawn(t, a, x.picture)
		ahead := reading(a)
		for _, s := range strings.Fields(x.bases) {
			want, e := handles[(s + "-")[2]], api.OK
			if len(s) == 2 {
				e = api.ErrNone
			}
			bases(t, a, handles[s[0]], handles[s[1]], want, e)
		}
		stays(t, a, ahead)
	}
}

// P15.1: of one number it is the handles that tell, not which was made first
func TestTies(t *testing.T) {
	a := made(t, 20)
	lays(t, a, arena.Node{Kind: 9})
	x, y := leaf(t, a, 0), leaf(t, a, 1)
	first := commits(t, a, 4, x)
	if n, e := a.Sweep(first, y); n != 1 || e != api.OK {
		t.Fatalf("swept: %d %d", n, e)
	}
	second := commits(t, a, 4, y)
	if second != 1 || first < 2 {
		t.Fatalf("handles: %d, %d", first, second)
	}
	for _, l := range [][]int{{first, second}, {second, first}} {
		g, h := commits(t, a, 5, x, l...), commits(t, a, 6, y, l...)
		bases(t, a, g, h, second, api.OK)
		if log := Log(a, h); !slices.Equal(log, []int{h, second, first}) {
			t.Errorf("log: %v", log)
		}
	}
}

// P15.1, P15.2: four commits, of all numbers up to 3, and all parents that there may be, and may not be
func TestSmall(t *testing.T) {
	a, w := worlds(t, 20)
	var sheets []int
	for key := range 4 {
		sheets = append(sheets, leaf(t, a, key))
		w.tries[leaf(t, w.Arena, key)] = true
	}
	judged := map[api.Errno]int{}
	var grow func(l []int)
	grow = func(l []int) {
		for _, parents := range families(l) {
			for number := range 4 {
				h, e := commitBoth(t, a, w, number, sheets[len(l)], parents)
				judged[e]++
				if e != api.OK {
					continue
				}
				holds(t, a, w, h)
				for _, g := range l {
					pairs(t, a, w, g, h)
				}
				if len(l) < 3 {
					grow(append(slices.Clone(l), h))
				}
				a.Sweep(append(slices.Clone(sheets), l...)...)
				w.sweep(append(slices.Clone(sheets), l...))
			}
		}
	}
	grow(nil)
	if judged[api.OK] < 1500 || judged[api.ErrArg] < 5000 {
		t.Errorf("judged: %v", judged)
	}
}

// families are all parents that one may have: none, one, two, twice the same, in any order.
func families(l []int) [][]int {
	all := [][]int{nil}
	for _, g := range l {
		all = append(all, []int{g})
		for _, h := range l {
			all = append(all, []int{g, h})
		}
	}
	return all
}

// worlds are an empty arena, and a world alike.
func worlds(t *testing.T, room int) (*arena.Arena, *world) {
	t.Helper()
	return made(t, room), &world{made(t, room), map[int]bool{0: true}, map[int]*commit{}}
}

// commitBoth holds that a commit comes to the same in an arena as in a world.
func commitBoth(t *testing.T, a *arena.Arena, w *world, number, sheet int, parents []int) (int, api.Errno) {
	t.Helper()
	h, e := Commit(a, number, sheet, parents...)
	if g, f := w.commit(number, sheet, parents...); g != h || f != e {
		t.Fatalf("%d of %d, %v: %d %d, want %d %d", number, sheet, parents, h, e, g, f)
	}
	return h, e
}

// holds holds what is told of a handle against a world.
func holds(t *testing.T, a *arena.Arena, w *world, h int) {
	t.Helper()
	if w.commits[h] == nil {
		silent(t, a, h)
		return
	}
	tells(t, a, h, w.commits[h], w.log(h))
}

// pairs holds the base of two handles against a world.
func pairs(t *testing.T, a *arena.Arena, w *world, g, h int) {
	t.Helper()
	want, e := w.base(g, h)
	bases(t, a, g, h, want, e)
}

// lowest holds what P15.2 says of two commits, by their logs alone; what it found.
func lowest(t *testing.T, a *arena.Arena, g, h int) string {
	t.Helper()
	one, other := Log(a, g), Log(a, h)
	both := slices.DeleteFunc(slices.Clone(one), func(c int) bool { return !slices.Contains(other, c) })
	b, e := Base(a, g, h)
	if k, f := Base(a, h, g); k != b || f != e {
		t.Fatalf("base of %d, %d: %d %d, and %d %d", g, h, b, e, k, f)
	}
	if e != api.OK {
		if e != api.ErrNone || b != 0 || len(both) != 0 {
			t.Fatalf("base of %d, %d: %d %d, both have %v", g, h, b, e, both)
		}
		return "none"
	}
	if !slices.Contains(both, b) {
		t.Fatalf("base of %d, %d: %d, both have %v", g, h, b, both)
	}
	equals := 0
	for _, c := range both {
		if c != b && slices.Contains(Log(a, c), b) {
			t.Fatalf("base of %d, %d: %d, which is an ancestor of %d", g, h, b, c)
		}
		if Number(a, c) == Number(a, b) {
			equals++
		}
	}
	for _, c := range []int{g, h} {
		if slices.Contains(both, c) && b != c {
			t.Fatalf("base of %d, %d: %d", g, h, b)
		}
	}
	switch {
	case equals > 1:
		return "equals"
	case b == g || b == h:
		return "ancestor"
	}
	return "one"
}

// grown is a history made at random, in an arena and in a world: so many commits, whose numbers are often equal.
func grown(t *testing.T, r *rand.Rand, n int) (*arena.Arena, *world, []int) {
	t.Helper()
	a, w := worlds(t, 2*n+50)
	sheets := []int{0}
	for key := range 8 {
		sheets = append(sheets, leaf(t, a, key))
		w.tries[leaf(t, w.Arena, key)] = true
	}
	var l, parents []int
	for range n {
		number := 1 + r.IntN(3)
		if r.IntN(4) > 0 { // else it has the parents of the one ahead of it
			parents = nil
			for range min(len(l), []int{0, 1, 1, 2, 2, 2, 2, 2}[r.IntN(8)]) {
				parents = append(parents, l[max(0, len(l)-2-r.IntN(3))])
			}
		}
		for _, p := range parents {
			number = max(number, w.commits[p].number+[]int{1, 1, 1, 1, 1, 1, 2, 7}[r.IntN(8)])
		}
		h, e := commitBoth(t, a, w, number, sheets[r.IntN(len(sheets))], parents)
		if e != api.OK {
			t.Fatalf("%d, %v: %d", number, parents, e)
		}
		l = append(l, h)
	}
	return a, w, l
}

// P15.2: histories made at random, with one and with two parents, and with equal numbers on several lines: each two of their commits
func TestLowest(t *testing.T) {
	r := rand.New(rand.NewPCG(15, 1))
	met := map[string]int{}
	for i := range 250 {
		a, w, l := grown(t, r, 4+i%20)
		for _, h := range l {
			holds(t, a, w, h)
		}
		for _, g := range l {
			for _, h := range l {
				pairs(t, a, w, g, h)
				met[lowest(t, a, g, h)]++
			}
		}
		stays(t, a, reading(w.Arena))
	}
	for _, what := range []string{"none", "one", "ancestor", "equals"} {
		if met[what] < 500 {
			t.Errorf("%s: met %d times", what, met[what])
		}
	}
}

// P15.1, P15.2: long histories made at random, some of their commits
func TestLong(t *testing.T) {
	r := rand.New(rand.NewPCG(15, 2))
	for range 3 {
		a, w, l := grown(t, r, 600)
		for range 40 {
			g, h := l[r.IntN(len(l))], l[len(l)-1-r.IntN(20)]
			holds(t, a, w, g)
			pairs(t, a, w, g, h)
			lowest(t, a, h, l[len(l)-1])
		}
	}
}

// ladder puts so many levels of two commits each, whose parents are both of the level below; the handles, level by level.
func ladder(t *testing.T, a *arena.Arena, levels int, first ...arena.Node) []int {
	t.Helper()
	x := leaf(t, a, 0)
	l := first
	for n := len(first)/2 + 1; n <= levels; n++ {
		parents := []int{-len(l) + 1, -len(l)}
		if n == 1 {
			parents = nil
		}
		l = append(l, node(n, 0, parents...), node(n, x, parents...))
	}
	handles, e := a.Put(l...)
	if e != api.OK {
		t.Fatalf("%d levels: %d", levels, e)
	}
	return handles
}

// P15.1: a history so deep, and so often forked and joined, that going through each way by itself would not end
func TestDeep(t *testing.T) {
	for _, levels := range []int{60, 32000} {
		a := made(t, api.MaxNodes)
		l := ladder(t, a, levels)
		var log []int
		for i := len(l) - 4; i >= 0; i -= 2 {
			log = append(log, l[i], l[i+1])
		}
		g, h := l[len(l)-2], l[len(l)-1]
		tells(t, a, g, &commit{number: levels, parents: l[len(l)-4 : len(l)-2]}, append([]int{g}, log...))
		tells(t, a, h, &commit{number: levels, sheet: leaf(t, a, 0), parents: l[len(l)-4 : len(l)-2]}, append([]int{h}, log...))
		bases(t, a, g, h, l[len(l)-4], api.OK)
		bases(t, a, g, l[1], l[1], api.OK)
		bases(t, a, l[0], l[1], 0, api.ErrNone)
		top := commits(t, a, levels+1, 0, h, g)
		bases(t, a, top, h, h, api.OK)
		if got := Log(a, top); !slices.Equal(got, append([]int{top, g, h}, log...)) {
			t.Errorf("%d levels: log of %d", levels, len(got))
		}
	}
}

// P15.1: what lies at the bottom of such a history tells that all above it are no commits
func TestBottom(t *testing.T) {
	for _, levels := range []int{3, 60, 1000} {
		for _, n := range []arena.Node{{}, {Kind: 5}, node(0, 0), node(2, 0), node(1, -1), {Kind: 4, Nums: []int{1}, Refs: []int{0}, Text: "x"}} {
			for _, l := range [][]arena.Node{{node(1, 0), n}, {n, node(1, 0)}} {
				if n.Kind == 4 && n.Refs[0] == -1 && l[0].Refs[0] == -1 {
					continue
				}
				a := made(t, api.MaxNodes)
				handles := ladder(t, a, levels, l...)
				for _, h := range []int{handles[2], handles[3], handles[len(handles)-2], handles[len(handles)-1]} {
					lacks(t, a, h, commits(t, a, 7, 0))
				}
			}
		}
	}
}

// P15.1: a line as long as there is room for, and two that have nothing in common
func TestLine(t *testing.T) {
	a := made(t, api.MaxNodes)
	x := leaf(t, a, 0)
	one := commits(t, a, 1, x)
	l := []arena.Node{node(2, x, one)}
	for n := 3; n < api.MaxNodes-1; n++ {
		l = append(l, node(n, x, 2-n))
	}
	handles, e := a.Put(l...)
	if e != api.OK {
		t.Fatalf("%d nodes: %d", len(l), e)
	}
	last := handles[len(handles)-1]
	other := commits(t, a, greatest, x)
	log := append(slices.Clone(handles[:len(handles)-1]), one)
	slices.Sort(log)
	slices.Reverse(log)
	tells(t, a, last, &commit{number: api.MaxNodes - 2, sheet: x, parents: handles[len(handles)-2 : len(handles)-1]}, append([]int{last}, log...))
	for _, h := range []int{one, handles[0], handles[30000], handles[len(handles)-2]} {
		bases(t, a, last, h, h, api.OK)
	}
	bases(t, a, other, last, 0, api.ErrNone)
	fails(t, a, api.ErrFull, greatest, x, last)
	fails(t, a, api.ErrArg, api.MaxNodes-2, x, last)
}

// P1: on a nil arena every call ends, with ErrArg ahead of all else, or with nothing
func TestNil(t *testing.T) {
	for _, h := range append(never(), 1, 2, 65536) {
		silent(t, nil, h)
		for _, g := range []int{0, 1, h} {
			bases(t, nil, g, h, 0, api.ErrArg)
		}
		for _, l := range [][]int{nil, {}, {1}, {h}, {h, 1}, {1, 1, h}} {
			for _, number := range []int{0, 1, -1, greatest, h} {
				if g, e := Commit(nil, number, 0, l...); g != 0 || e != api.ErrArg {
					t.Errorf("%d, %v: %d %d", number, l, g, e)
				}
				if g, e := Commit(nil, number, h, l...); g != 0 || e != api.ErrArg {
					t.Errorf("%d of %d, %v: %d %d", number, h, l, g, e)
				}
			}
		}
	}
}

// P15.1, P1: arenas without room, and one that nobody made
func TestBare(t *testing.T) {
	for _, a := range []*arena.Arena{made(t, 0), {}} {
		for _, h := range append(never(), 1, 2) {
			silent(t, a, h)
			bases(t, a, h, 1, 0, api.ErrArg)
			fails(t, a, api.ErrArg, 1, 0, h)
		}
		fails(t, a, api.ErrFull, 1, 0)
		fails(t, a, api.ErrArg, 0, 0)
		fails(t, a, api.ErrArg, 1, 1)
	}
}

// Rule 4: what is handed in is neither written nor kept, and behind its length nothing is looked at, or written
func TestHanded(t *testing.T) {
	a := made(t, 50)
	x := leaf(t, a, 0)
	one, two := commits(t, a, 1, x), commits(t, a, 2, 0)
	parents := []int{one, two, -1, 77, one}
	ahead := slices.Clone(parents)
	want := &commit{number: 3, sheet: x, parents: []int{one, two}}
	h := commits(t, a, 3, x, parents[:2]...)
	bare := commits(t, a, 3, x, parents[:0]...)
	single := commits(t, a, 3, 0, parents[1:2]...)
	if !slices.Equal(parents, ahead) {
		t.Errorf("written: %v", parents)
	}
	for i := range parents {
		parents[i] = bare
	}
	tells(t, a, h, want, []int{h, two, one})
	tells(t, a, bare, &commit{number: 3, sheet: x}, []int{bare})
	tells(t, a, single, &commit{number: 3, parents: []int{two}}, []int{single, two})
	if g := commits(t, a, 3, x, one, two); g != h {
		t.Errorf("again: %d, want %d", g, h)
	}
}

// Rule 4: answers that the caller changes, and what lies behind them, are nobody else's
func TestAnswered(t *testing.T) {
	a := made(t, 50)
	x := leaf(t, a, 0)
	one, two := commits(t, a, 1, x), commits(t, a, 2, 0)
	h := commits(t, a, 3, x, one, two)
	want := &commit{number: 3, sheet: x, parents: []int{one, two}}
	for _, call := range []func(*arena.Arena, int) []int{Parents, Log} {
		first, second := call(a, h), call(a, h)
		kept := slices.Clone(second)
		_ = append(first, 5, 5)
		first = first[:cap(first)]
		for i := range first {
			first[i] = -7
		}
		if !slices.Equal(second, kept) {
			t.Errorf("shared: %v, were %v", second, kept)
		}
		tells(t, a, h, want, []int{h, two, one})
		empty := call(a, 0)
		_ = append(empty[:cap(empty)], 5)
		tells(t, a, h, want, []int{h, two, one})
	}
	if g := commits(t, a, 3, x, one, two); g != h {
		t.Errorf("again: %d, want %d", g, h)
	}
}

// wish is a commit that is asked for, mostly such as may be.
type wish struct {
	number, sheet int
	parents       []int
}

// wished is one at random; rarely one thing of it may not be.
func wished(r *rand.Rand, w *world, room int) wish {
	handles, tries := slices.Sorted(maps.Keys(w.commits)), slices.Sorted(maps.Keys(w.tries))
	x := wish{number: 1 + r.IntN(2), sheet: tries[r.IntN(len(tries))]}
	for range r.IntN(3) * min(1, len(handles)) {
		p := handles[r.IntN(len(handles))]
		x.parents = append(x.parents, p)
		x.number = max(x.number, w.commits[p].number+1)
	}
	any := r.IntN(room+4) - 2
	switch r.IntN(30) {
	case 0:
		x.number = []int{0, -1, least, 1, 2}[r.IntN(5)]
	case 1:
		x.number--
	case 2:
		x.sheet = any
	case 3:
		x.parents = append(x.parents, any)
	case 4:
		x.parents = append(x.parents, x.parents...)
	case 5:
		x.number = greatest
	}
	return x
}

// bent is a wish's node, mostly not a commit's.
func bent(r *rand.Rand, x wish) arena.Node {
	n := node(x.number, x.sheet, x.parents...)
	switch r.IntN(8) {
	case 0:
		n.Kind = r.IntN(6)
	case 1:
		n.Text = "x"
	case 2:
		n.Nums = append(n.Nums, x.number)
	case 3:
		n.Nums = nil
	case 4:
		n.Refs = n.Refs[1:]
	case 5:
		n.Nums[0] -= 1
	}
	return n
}

// swept are roots at random, sheets mostly among them.
func swept(r *rand.Rand, w *world) []int {
	var roots []int
	for _, h := range w.Live() {
		if w.tries[h] && r.IntN(8) > 0 || r.IntN(3) == 0 {
			roots = append(roots, h)
		}
	}
	return roots
}

// act does one thing at random to two arenas alike, and to a world; what this comes to.
func act(t *testing.T, r *rand.Rand, a, b *arena.Arena, w *world) api.Errno {
	t.Helper()
	x := wished(r, w, a.Room())
	switch r.IntN(12) {
	case 0:
		roots := swept(r, w)
		a.Sweep(roots...)
		b.Sweep(roots...)
		w.sweep(roots)
		return api.OK
	case 1, 2:
		n := bent(r, x)
		h, e := w.lay(n)
		for _, c := range []*arena.Arena{a, b} {
			if l, f := c.Put(n); f != e || f == api.OK && l[0] != h {
				t.Fatalf("%v: %v %d, want %d %d", n, l, f, h, e)
			}
		}
		return api.OK
	}
	h, e := commitBoth(t, a, w, x.number, x.sheet, x.parents)
	if g, f := Commit(b, x.number, x.sheet, x.parents...); g != h || f != e {
		t.Fatalf("two arenas: %d %d, %d %d", h, e, g, f)
	}
	return e
}

// P15.1, P15.2, P2: any calls, nodes put by themselves, and sweeps, on arenas of little room come to what a world comes to; and two arenas answer alike
func TestTable(t *testing.T) {
	r := rand.New(rand.NewPCG(15, 3))
	met := map[string]int{}
	for range 250 {
		room := r.IntN(40)
		a, w := worlds(t, room)
		b := made(t, room)
		for key := range 4 {
			h, e := trie.Build(w.Arena, trie.Entry{Key: key, Text: "x"})
			trie.Build(a, trie.Entry{Key: key, Text: "x"})
			trie.Build(b, trie.Entry{Key: key, Text: "x"})
			w.tries[h] = e == api.OK || h == 0
		}
		for range 60 {
			met[fmt.Sprint(act(t, r, a, b, w))]++
			stays(t, a, reading(w.Arena))
			stays(t, b, reading(w.Arena))
			for range 5 {
				g, h := r.IntN(room+4)-2, r.IntN(room+2)
				met[fmt.Sprint(w.commits[g] != nil)]++
				holds(t, a, w, g)
				pairs(t, a, w, g, h)
				pairs(t, b, w, h, g)
			}
		}
	}
	for _, what := range []string{"0", "1", "3", "true", "false"} {
		if met[what] < 300 {
			t.Errorf("%s: met %d times", what, met[what])
		}
	}
}
