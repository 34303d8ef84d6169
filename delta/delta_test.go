package delta

import (
	"maps"
	"math/rand/v2"
	"slices"
	"strings"
	"testing"

	"gridiron/api"
	"gridiron/arena"
	"gridiron/trie"
)

// made is an empty arena.
func made(t *testing.T, room int) *arena.Arena {
	t.Helper()
	a, e := arena.New(room)
	if e != api.OK {
		t.Fatalf("a room of %d: %d", room, e)
	}
	return a
}

// lays puts nodes as they are.
func lays(t *testing.T, a *arena.Arena, l ...arena.Node) []int {
	t.Helper()
	handles, e := a.Put(l...)
	if e != api.OK {
		t.Fatalf("%v: %d", l, e)
	}
	return handles
}

// builds is the handle of a sheet's trie.
func builds(t *testing.T, a *arena.Arena, s sheet) int {
	t.Helper()
	h, e := trie.Build(a, s.entries()...)
	if e != api.OK {
		t.Fatalf("%v: %d", s, e)
	}
	return h
}

// tells holds what is told of two tries.
func tells(t *testing.T, a *arena.Arena, from, to int, want []Change) {
	t.Helper()
	if l, e := Of(a, from, to); e != api.OK || !slices.Equal(l, want) {
		t.Fatalf("from %d to %d: %v %d, want %v", from, to, l, e, want)
	}
}

// becomes holds what a trie becomes by changes.
func becomes(t *testing.T, a *arena.Arena, h, want int, l ...Change) {
	t.Helper()
	if g, e := Apply(a, h, l...); e != api.OK || g != want {
		t.Fatalf("%d by %v: %d %d, want %d", h, l, g, e, want)
	}
}

// fails holds that a trie becomes nothing by changes, and with which error.
func fails(t *testing.T, a *arena.Arena, h int, want api.Errno, l ...Change) {
	t.Helper()
	ahead := reading(a)
	if g, e := Apply(a, h, l...); e != want || g != 0 {
		t.Errorf("%d by %v: %d %d, want %d", h, l, g, e, want)
	}
	stays(t, a, ahead)
}

// lacks holds that a handle is told to be no trie's, on whichever side it stands beside one that is.
func lacks(t *testing.T, a *arena.Arena, h, good int) {
	t.Helper()
	ahead := reading(a)
	for _, x := range [][2]int{{h, good}, {good, h}, {h, 0}, {0, h}, {h, h}} {
		if l, e := Of(a, x[0], x[1]); e != api.ErrArg || len(l) != 0 {
			t.Errorf("from %d to %d: %v %d", x[0], x[1], l, e)
		}
		if n := Shared(a, x[0], x[1]); n != 0 {
			t.Errorf("%d and %d: %d", x[0], x[1], n)
		}
	}
	fails(t, a, h, api.ErrArg)
	fails(t, a, h, api.ErrArg, Change{Key: 1, To: "x"})
	fails(t, a, h, api.ErrArg, Change{Key: 0, From: "x"})
	stays(t, a, ahead)
}

// stays holds that an arena has just what it had.
func stays(t *testing.T, a *arena.Arena, ahead map[int]string) {
	t.Helper()
	if is := reading(a); !maps.Equal(is, ahead) {
		t.Fatalf("nodes: %v, were %v", is, ahead)
	}
}

// flipped are the changes back, made one by one.
func flipped(l []Change) []Change {
	m := slices.Clone(l)
	for i := range m {
		m[i].From, m[i].To = l[i].To, l[i].From
	}
	return m
}

// shuffled are changes in any order.
func shuffled(r *rand.Rand, l []Change) []Change {
	m := slices.Clone(l)
	r.Shuffle(len(m), func(i, j int) { m[i], m[j] = m[j], m[i] })
	return m
}

// none are numbers that are no keys.
func none() []int {
	return []int{-1, -2, -25, 1024, 1025, 1049, 2047, 2048, 65536, 1 << 32, 1<<32 + 25, -1 << 32, most, most - 1, least, least + 1}
}

// long is a text of so many bytes.
func long(n int) string { return strings.Repeat("x", n) }

// few are keys: two of one hash, one that shares their digit at level 0, and one that does not.
func few() []int { return []int{0, 25, 576, 50} }

// sheets are all that have none but these keys, each with one of these texts.
func sheets(keys []int, texts ...string) []sheet {
	l := []sheet{{}}
	for _, key := range keys {
		for _, s := range slices.Clone(l) {
			for _, text := range texts {
				l = append(l, s.with(key, text))
			}
		}
	}
	return l
}

// everything is a sheet that has all keys, each with one of these texts.
func everything(texts ...string) sheet {
	s := sheet{}
	for key := range 1024 {
		s[key] = texts[key%len(texts)]
	}
	return s
}

// P11.1, P11.2: what the document names: each told both ways, applied, turned and applied
func TestNamed(t *testing.T) {
	for _, x := range []struct {
		from, to sheet
		want     []Change
	}{
		{sheet{}, sheet{}, nil},
		{sheet{5: "a"}, sheet{5: "a"}, nil},
		{sheet{0: "a", 25: "b", 9: "c"}, sheet{0: "a", 25: "b", 9: "c"}, nil},
		{sheet{}, sheet{5: "a"}, []Change{{5, "", "a"}}},
		{sheet{}, sheet{25: "b", 0: "a", 7: "="}, []Change{{0, "", "a"}, {7, "", "="}, {25, "", "b"}}},
		{sheet{5: "a"}, sheet{6: "a"}, []Change{{5, "a", ""}, {6, "", "a"}}},
		{sheet{5: "a"}, sheet{5: "b"}, []Change{{5, "a", "b"}}},
		{sheet{5: "a", 6: "a"}, sheet{5: "b", 6: "a"}, []Change{{5, "a", "b"}}},
		{sheet{5: "a", 6: "b"}, sheet{5: "b", 6: "a"}, []Change{{5, "a", "b"}, {6, "b", "a"}}},
		{sheet{1: "a", 2: "b", 9: "c"}, sheet{2: "b", 9: "d", 7: "e"}, []Change{{1, "a", ""}, {7, "", "e"}, {9, "c", "d"}}},
		{sheet{0: "a", 25: "b"}, sheet{0: "a", 25: "c"}, []Change{{25, "b", "c"}}},                   // of one hash: one changes
		{sheet{0: "a", 25: "b"}, sheet{0: "b", 25: "a"}, []Change{{0, "a", "b"}, {25, "b", "a"}}},    // both
		{sheet{0: "a", 25: "b"}, sheet{25: "b"}, []Change{{0, "a", ""}}},                             // one of a bucket's is left
		{sheet{0: "a", 25: "b"}, sheet{5: "c"}, []Change{{0, "a", ""}, {5, "", "c"}, {25, "b", ""}}}, // none
		{sheet{25: "b", 5: "c"}, sheet{25: "b", 0: "a", 5: "c"}, []Change{{0, "", "a"}}},             // a bucket is made
		{sheet{0: "a"}, sheet{1023: "a"}, []Change{{0, "a", ""}, {1023, "", "a"}}},                   // the first key, and the last one
		{sheet{0: "a", 1023: "b"}, sheet{0: "b", 1023: "a"}, []Change{{0, "a", "b"}, {1023, "b", "a"}}},
		{sheet{0: "a", 576: "b"}, sheet{0: "a"}, []Change{{576, "b", ""}}}, // of one digit at level 0
		{sheet{3: "a"}, sheet{3: "aa"}, []Change{{3, "a", "aa"}}},
		{sheet{3: "x"}, sheet{3: long(200)}, []Change{{3, "x", long(200)}}},
		{sheet{3: long(199) + "a"}, sheet{3: long(199) + "b"}, []Change{{3, long(199) + "a", long(199) + "b"}}},
		{sheet{3: "=A1"}, sheet{3: "=a1"}, []Change{{3, "=A1", "=a1"}}},
		{sheet{3: "\x00"}, sheet{3: "\x00\x00", 4: "\xff"}, []Change{{3, "\x00", "\x00\x00"}, {4, "", "\xff"}}},
	} {
		a := made(t, 100)
		g, h := builds(t, a, x.from), builds(t, a, x.to)
		ahead := reading(a)
		tells(t, a, g, h, x.want)
		tells(t, a, h, g, flipped(x.want))
		becomes(t, a, g, h, x.want...)
		becomes(t, a, h, g, Turn(x.want...)...)
		tells(t, a, g, g, nil)
		tells(t, a, h, h, nil)
		stays(t, a, ahead)
	}
}

// P11.1, P11.2: all pairs of 81 sheets of keys that share hashes and digits: changes, applied in any order, turned, and what is shared
func TestAll(t *testing.T) {
	r := rand.New(rand.NewPCG(11, 1))
	a := made(t, api.MaxNodes)
	all := sheets(few(), "a", "b")
	var handles []int
	for _, s := range all {
		handles = append(handles, builds(t, a, s))
	}
	ahead := reading(a)
	for i, g := range handles {
		for j, h := range handles {
			want := all[i].changes(all[j])
			tells(t, a, g, h, want)
			becomes(t, a, g, h, shuffled(r, want)...)
			becomes(t, a, h, g, Turn(shuffled(r, want)...)...)
			if n := Shared(a, g, h); n != common(a, g, h) || n != Shared(a, h, g) {
				t.Fatalf("%v and %v: %d shared, want %d", all[i], all[j], n, common(a, g, h))
			}
		}
	}
	stays(t, a, ahead)
}

// P11.1: each of these sheets becomes each other one in an arena of just room enough, and in one of one node less, in which nothing is put
func TestRoom(t *testing.T) {
	r := rand.New(rand.NewPCG(11, 2))
	full := 0
	for _, s := range sheets(few(), "a", "b") {
		for _, x := range sheets(few(), "a", "c") {
			need, ahead, l := sized(s, x), sized(s), s.changes(x)
			a, b := made(t, need), made(t, need)
			h := builds(t, a, s)
			builds(t, b, s)
			becomes(t, a, h, builds(t, b, x), shuffled(r, l)...)
			stays(t, a, reading(b))
			if a.Len() != need {
				t.Fatalf("%v by %v: %d nodes, want %d", s, l, a.Len(), need)
			}
			becomes(t, a, h, h) // there is no room for more, but it needs none
			stays(t, a, reading(b))
			if need == ahead {
				continue
			}
			a = made(t, need-1)
			fails(t, a, builds(t, a, s), api.ErrFull, shuffled(r, l)...)
			full++
		}
	}
	if full < 4000 {
		t.Errorf("full: %d times", full)
	}
}

// P11.1: in a full arena what it has already is found; what is wrong is told ahead of a lack of room
func TestFull(t *testing.T) {
	s := sheet{0: "x", 25: "y", 5: "z"}
	one, other := sheet{0: "x", 25: "y"}, sheet{5: "z"}
	a := made(t, sized(s, one, other))
	h, g, k := builds(t, a, s), builds(t, a, one), builds(t, a, other)
	x := builds(t, a, sheet{0: "x"})
	if a.Len() != a.Room() {
		t.Fatalf("%d nodes of %d", a.Len(), a.Room())
	}
	ahead := reading(a)
	becomes(t, a, h, g, Change{5, "z", ""})
	becomes(t, a, g, h, Change{5, "", "z"})
	becomes(t, a, h, k, Change{25, "y", ""}, Change{0, "x", ""})
	becomes(t, a, k, h, Change{25, "", "y"}, Change{0, "", "x"})
	becomes(t, a, g, k, Change{25, "y", ""}, Change{5, "", "z"}, Change{0, "x", ""})
	becomes(t, a, g, x, Change{25, "y", ""})
	becomes(t, a, 0, g, Change{25, "", "y"}, Change{0, "", "x"})
	becomes(t, a, h, 0, Change{25, "y", ""}, Change{5, "z", ""}, Change{0, "x", ""})
	stays(t, a, ahead)
	fails(t, a, h, api.ErrFull, Change{25, "y", ""})
	fails(t, a, h, api.ErrFull, Change{25, "y", "x"})
	fails(t, a, h, api.ErrFull, Change{6, "", "z"})
	fails(t, a, 0, api.ErrFull, Change{25, "", "x"})
	fails(t, a, h, api.ErrClash, Change{25, "y", "x"}, Change{6, "z", ""})
	fails(t, a, h, api.ErrTwice, Change{25, "y", "x"}, Change{25, "x", ""})
	fails(t, a, h, api.ErrArg, Change{25, "y", "x"}, Change{25, "x", "x"})
}

// P11.1: texts of 1 byte and of 200, of whatever bytes; one that is too long may not be, be it a change's From or its To
func TestTexts(t *testing.T) {
	a := made(t, 1000)
	for _, key := range []int{0, 5, 1023} {
		h := builds(t, a, sheet{key: "w", 7: "y"})
		for _, text := range []string{"x", " ", "\x00", "\xff", "=A1", long(199), long(200), strings.Repeat("\u00e9", 100), strings.Repeat("\xff", 200)} {
			g := builds(t, a, sheet{key: text, 7: "y"})
			tells(t, a, h, g, []Change{{key, "w", text}})
			becomes(t, a, h, g, Change{key, "w", text})
			becomes(t, a, g, h, Change{key, text, "w"})
			fails(t, a, h, api.ErrClash, Change{key, text, "v"})
			fails(t, a, g, api.ErrArg, Change{key, text, text})
		}
		for _, text := range []string{long(201), long(256), long(456), long(5000), strings.Repeat("\u00e9", 100) + "x", strings.Repeat("\u00e9", 101)} {
			fails(t, a, h, api.ErrArg, Change{key, "w", text})
			fails(t, a, h, api.ErrArg, Change{key, text, "w"})
			fails(t, a, h, api.ErrArg, Change{key, "", text})
			fails(t, a, h, api.ErrArg, Change{key, text, ""})
			fails(t, a, h, api.ErrArg, Change{key, text, text + "x"})
			fails(t, a, h, api.ErrArg, Change{key, text, text})
			fails(t, a, 0, api.ErrArg, Change{7, "", "x"}, Change{key, "", text})
			fails(t, a, 0, api.ErrArg, Change{key, "", text}, Change{7, "", "x"})
		}
	}
}

// P11.1: a change of what is no key, wherever it stands; a change whose texts are the same
func TestMayBe(t *testing.T) {
	a := made(t, 100)
	h := builds(t, a, sheet{0: "x", 25: "y", 1023: "z"})
	good := []Change{{0, "x", "y"}, {5, "", "w"}, {1023, "z", ""}}
	for _, key := range none() {
		for _, c := range []Change{{key, "", "w"}, {key, "x", ""}, {key, "x", "y"}, {key, "", ""}} {
			fails(t, a, h, api.ErrArg, c)
			fails(t, a, 0, api.ErrArg, c)
			for i := range len(good) + 1 {
				fails(t, a, h, api.ErrArg, slices.Insert(slices.Clone(good), i, c)...)
			}
		}
	}
	for _, c := range []Change{{0, "x", "x"}, {0, "", ""}, {0, "y", "y"}, {5, "", ""}, {5, "w", "w"}, {1023, "z", "z"}, {1023, "", ""}} {
		fails(t, a, h, api.ErrArg, c)
		fails(t, a, 0, api.ErrArg, c)
		for i := range len(good) + 1 {
			fails(t, a, h, api.ErrArg, slices.Insert(slices.Clone(good), i, c)...)
		}
	}
	becomes(t, a, h, builds(t, a, sheet{0: "y", 25: "y", 5: "w"}), good...)
}

// P11.1: two changes with one key, the same ones, or one behind the other; that is told ahead of what the trie has, behind what may not be
func TestTwice(t *testing.T) {
	a := made(t, 100)
	h := builds(t, a, sheet{0: "x", 25: "y", 1023: "z"})
	for _, l := range [][]Change{
		{{0, "x", "y"}, {0, "x", "y"}}, {{0, "x", "y"}, {0, "y", "z"}}, {{0, "x", "y"}, {0, "y", "x"}}, {{0, "x", ""}, {0, "", "x"}}, {{0, "y", "x"}, {0, "x", "y"}}, {{7, "", "x"}, {7, "x", ""}}, {{1023, "z", "x"}, {1023, "x", ""}},
		{{0, "x", "y"}, {25, "y", "x"}, {5, "", "w"}, {0, "y", "w"}}, {{6, "", "v"}, {25, "y", "x"}, {5, "", "w"}, {25, "y", "x"}, {0, "x", "w"}}, {{25, "z", "x"}, {0, "z", ""}, {0, "z", "y"}}, {{25, "y", "x"}, {25, "z", "x"}}, {{25, "z", "x"}, {25, "y", "x"}},
		slices.Repeat([]Change{{0, "x", "y"}}, 3000), append(sheet{}.changes(everything("v")), Change{700, "v", ""}),
	} {
		fails(t, a, h, api.ErrTwice, l...)
		fails(t, a, 0, api.ErrTwice, l...)
		for _, c := range []Change{{-1, "", "x"}, {1024, "", "x"}, {4, "", ""}, {4, "x", "x"}, {4, "", long(201)}, {4, long(201), ""}, {l[0].Key, "x", "x"}} {
			fails(t, a, h, api.ErrArg, append(slices.Clone(l), c)...)
			fails(t, a, h, api.ErrArg, append([]Change{c}, l...)...)
		}
	}
	becomes(t, a, h, builds(t, a, sheet{0: "x", 25: "x", 1023: "y"}), Change{25, "y", "x"}, Change{1023, "z", "y"}) // of one hash, and of none, but not of one key
}

// P11.1: a From that isn't the trie's text; one where the trie has none; none where it has one; wherever it stands among others
func TestClash(t *testing.T) {
	a := made(t, 100)
	h := builds(t, a, sheet{0: "x", 25: "y", 1023: "z"})
	good := []Change{{0, "x", "y"}, {5, "", "w"}, {1023, "z", ""}}
	for _, c := range []Change{{25, "x", "w"}, {25, "x", "y"}, {25, "x", ""}, {25, "Y", ""}, {25, "yy", "y"}, {25, "y ", "x"}, {25, "", "y"}, {25, "", "w"}, {26, "y", "w"}, {26, "y", ""}, {576, "x", ""}, {1022, "z", ""}, {1, "x", "y"}} {
		fails(t, a, h, api.ErrClash, c)
		for i := range len(good) + 1 {
			fails(t, a, h, api.ErrClash, slices.Insert(slices.Clone(good), i, c)...)
		}
		if c.From != "" {
			fails(t, a, 0, api.ErrClash, c)
		}
	}
	fails(t, a, h, api.ErrClash, Turn(good...)...)
	becomes(t, a, h, builds(t, a, sheet{0: "y", 25: "y", 5: "w"}), good...)
}

// P11.1: no changes at all, applied and turned
func TestNone(t *testing.T) {
	a := made(t, 20)
	h := builds(t, a, sheet{0: "x", 25: "y", 5: "z"})
	ahead := reading(a)
	for _, l := range [][]Change{nil, {}, make([]Change, 0, 5)} {
		becomes(t, a, h, h, l...)
		becomes(t, a, 0, 0, l...)
		if m := Turn(l...); len(m) != 0 {
			t.Errorf("turned: %v", m)
		}
	}
	tells(t, a, 0, 0, nil)
	tells(t, a, h, h, nil)
	stays(t, a, ahead)
}

// P11.1: any changes are turned, in the same order, such as may not be, too
func TestTurn(t *testing.T) {
	r := rand.New(rand.NewPCG(11, 3))
	if m := Turn(Change{3, "a", "b"}, Change{1, "", "c"}, Change{3, "b", ""}); !slices.Equal(m, []Change{{3, "b", "a"}, {1, "c", ""}, {3, "", "b"}}) {
		t.Errorf("turned: %v", m)
	}
	texts := []string{"", "", "a", "b", "=A1", long(200), long(201), long(5000)}
	for range 500 {
		var l []Change
		for range r.IntN(50) {
			c := Change{r.IntN(1024), texts[r.IntN(8)], texts[r.IntN(8)]}
			if r.IntN(5) == 0 {
				c.Key = none()[r.IntN(len(none()))]
			}
			l = append(l, c)
		}
		m := Turn(l...)
		if !slices.Equal(m, flipped(l)) || !slices.Equal(Turn(m...), l) {
			t.Fatalf("%v: %v", l, m)
		}
	}
}

// P11.1: handles that the arena hasn't, and nodes that are none of a trie's
func TestNoTries(t *testing.T) {
	a := made(t, 100)
	h := builds(t, a, sheet{0: "x", 25: "y", 5: "z"})
	for _, g := range []int{-1, -2, 6, 7, 100, 101, 1000, 65536, 65537, 1 << 32, 1<<32 + h, -h, most, least} {
		lacks(t, a, g, h)
	}
	x := builds(t, a, sheet{0: "x"})
	for _, n := range []arena.Node{
		{}, {Kind: 4, Refs: []int{h}, Nums: []int{1}}, {Kind: 1}, {Kind: 2}, {Kind: 3}, {Kind: 3, Nums: []int{0}}, {Kind: 3, Nums: []int{1}, Refs: []int{0}}, {Kind: 3, Nums: []int{1}, Refs: []int{h}}, {Kind: 3, Nums: []int{1}, Refs: []int{x}}, {Kind: 2, Refs: []int{0, 0}}, {Kind: 2, Refs: []int{x}},
		{Kind: 2, Refs: []int{x, x}}, {Kind: 1, Nums: []int{0}}, {Kind: 1, Nums: []int{1024}, Text: "x"}, {Kind: 1, Nums: []int{0}, Text: long(201)}, {Kind: 1, Nums: []int{0, 1}, Text: "x"}, {Kind: 1, Nums: []int{0}, Refs: []int{0}, Text: "x"}, {Kind: 5, Text: "x", Nums: []int{1}},
	} {
		lacks(t, a, lays(t, a, n)[0], h)
	}
	if n := Shared(a, h, h); n != 5 {
		t.Errorf("shared: %d", n)
	}
}

// P11.1: parts of a trie are tries, if they are leaves or buckets; a fork that stands at level 1 is none
func TestInner(t *testing.T) {
	a := made(t, 100)
	h := builds(t, a, sheet{0: "x", 25: "y", 576: "z"})
	for _, g := range a.Reach(h) {
		n, _ := a.Get(g)
		switch {
		case n.Kind == 3 && g != h:
			lacks(t, a, g, h)
		case n.Kind == 2:
			tells(t, a, g, h, []Change{{576, "", "z"}})
			becomes(t, a, g, h, Change{576, "", "z"})
		case n.Kind == 1 && n.Nums[0] == 25:
			tells(t, a, g, h, []Change{{0, "", "x"}, {576, "", "z"}})
			becomes(t, a, h, g, Change{576, "z", ""}, Change{0, "x", ""})
		}
		if g != h && n.Kind != 3 && Shared(a, g, h) != len(a.Reach(g)) {
			t.Errorf("%v: %d shared", n, Shared(a, g, h))
		}
	}
}

// P11.1: a handle that was swept away is no trie's; what is left is told of as before
func TestSwept(t *testing.T) {
	a := made(t, 12)
	g, h := builds(t, a, sheet{0: "x", 5: "z"}), builds(t, a, sheet{0: "x", 25: "y"})
	tells(t, a, g, h, []Change{{5, "z", ""}, {25, "", "y"}})
	if n := Shared(a, g, h); n != 1 {
		t.Errorf("shared: %d", n)
	}
	if n, e := a.Sweep(h); n != 2 || e != api.OK {
		t.Fatalf("swept: %d %d", n, e)
	}
	lacks(t, a, g, h)
	tells(t, a, 0, h, []Change{{0, "", "x"}, {25, "", "y"}})
	becomes(t, a, h, g, Change{5, "", "z"}, Change{25, "y", ""}) // it comes again, where there is the same room
	if _, e := a.Sweep(); e != api.OK {
		t.Fatalf("swept: %d", e)
	}
	lacks(t, a, g, 0)
	lacks(t, a, h, 0)
	becomes(t, a, 0, 1, Change{900, "", "x"})
	tells(t, a, 1, 0, []Change{{900, "x", ""}})
}

// P11.1: what other tries have is as it was behind an Apply, and just what the arena lacks of the new one is put
func TestOthers(t *testing.T) {
	r := rand.New(rand.NewPCG(11, 4))
	for _, spread := range []int{4, 40, 1024} {
		a, b := made(t, api.MaxNodes), made(t, api.MaxNodes)
		handles, know := []int{0}, map[int]sheet{0: {}}
		for range 100 {
			h := handles[max(0, len(handles)-1-r.IntN(4))]
			s := know[h]
			for range r.IntN(6) {
				key := few()[r.IntN(4)]
				if spread > 4 {
					key = r.IntN(spread)
				}
				s = s.with(key, []string{"", "a", "b"}[r.IntN(3)])
			}
			ahead := reading(a)
			g := builds(t, b, s)
			becomes(t, a, h, g, shuffled(r, know[h].changes(s))...)
			stays(t, a, reading(b))
			now := reading(a)
			for h, is := range ahead {
				if now[h] != is {
					t.Fatalf("%d: %s, was %s", h, now[h], is)
				}
			}
			handles, know[g] = append(handles, g), s
		}
		for h, s := range know {
			if l := trie.All(a, h); !slices.Equal(l, s.entries()) {
				t.Errorf("%d: %v, want %v", h, l, s)
			}
		}
	}
}

// P11.1: what is shared by a trie and itself, by such as have some nodes in common, by such as have none, and by a trie and none
func TestShared(t *testing.T) {
	a := made(t, 200)
	for _, x := range []struct {
		s, t sheet
		want int
	}{
		{sheet{}, sheet{}, 0},
		{sheet{}, sheet{5: "a"}, 0},
		{sheet{}, sheet{0: "a", 25: "b", 5: "c"}, 0},
		{sheet{5: "a"}, sheet{5: "a"}, 1},
		{sheet{5: "a"}, sheet{5: "b"}, 0},
		{sheet{5: "a"}, sheet{6: "a"}, 0},
		{sheet{5: "a"}, sheet{5: "a", 6: "b"}, 1},
		{sheet{0: "a", 25: "b"}, sheet{0: "a", 25: "b"}, 3},
		{sheet{0: "a", 25: "b"}, sheet{0: "a", 25: "c"}, 1},
		{sheet{0: "a", 25: "b"}, sheet{0: "b", 25: "a"}, 0},
		{sheet{0: "a", 25: "b"}, sheet{0: "a", 25: "b", 5: "c"}, 3},
		{sheet{0: "a", 25: "b", 6: "c"}, sheet{0: "a", 25: "b", 5: "c"}, 3},
		{sheet{0: "a", 25: "b", 5: "c"}, sheet{0: "a", 25: "b", 5: "c"}, 5},
		{sheet{0: "a", 25: "b", 5: "c"}, sheet{0: "b", 25: "a", 5: "d"}, 0},
		{sheet{1: "a", 2: "b", 9: "c"}, sheet{2: "b", 9: "d", 7: "e"}, 1},
		{sheet{0: "a", 25: "b", 576: "c"}, sheet{0: "a", 25: "b", 576: "c"}, 6},
		{sheet{0: "a", 25: "b", 576: "c"}, sheet{0: "a", 25: "b", 576: "c", 50: "d"}, 5}, // all but the fork of level 0
		{sheet{0: "a", 25: "b", 576: "c"}, sheet{0: "a", 25: "b", 576: "d"}, 3},
		{sheet{0: "a", 25: "b", 576: "c"}, sheet{0: "a", 576: "c"}, 2},
	} {
		g, h := builds(t, a, x.s), builds(t, a, x.t)
		ahead := reading(a)
		if n, m := Shared(a, g, h), Shared(a, h, g); n != x.want || m != x.want {
			t.Errorf("%v and %v: %d, %d, want %d", x.s, x.t, n, m, x.want)
		}
		stays(t, a, ahead)
	}
	all, other := everything("a", "b", "c"), everything("a", "b", "c", "d")
	a = made(t, 5000)
	g, h := builds(t, a, all), builds(t, a, other)
	if n := Shared(a, g, g); n != 1024+512+32+1 {
		t.Errorf("all keys: %d", n)
	}
	if n := Shared(a, g, h); n != common(a, g, h) || n < 200 {
		t.Errorf("some of all keys: %d, want %d", n, common(a, g, h))
	}
	if n := Shared(a, g, builds(t, a, all.with(77, "z"))); n != 1024+512+32+1-4 {
		t.Errorf("all keys but one: %d", n)
	}
}

// P11.1, P11.2: all keys: from none and back, each with another text, any of them; in just room enough, and in one node less
func TestMost(t *testing.T) {
	r := rand.New(rand.NewPCG(11, 5))
	all, other := everything("a", "b", "c"), everything("d", long(200), "e")
	a := made(t, sized(all, other))
	h := builds(t, a, all)
	l := all.changes(other)
	if len(l) != 1024 {
		t.Fatalf("%d changes", len(l))
	}
	g, e := Apply(a, h, shuffled(r, l)...)
	if e != api.OK || a.Len() != a.Room() || !slices.Equal(trie.All(a, g), other.entries()) {
		t.Fatalf("all keys: %d, %d nodes", e, a.Len())
	}
	tells(t, a, h, g, l)
	tells(t, a, g, h, flipped(l))
	becomes(t, a, g, h, Turn(l...)...)
	tells(t, a, 0, h, sheet{}.changes(all))
	tells(t, a, h, 0, all.changes(sheet{}))
	becomes(t, a, 0, h, shuffled(r, sheet{}.changes(all))...)
	becomes(t, a, h, 0, shuffled(r, all.changes(sheet{}))...)
	fails(t, a, h, api.ErrFull, Change{1023, all[1023], "z"})
	for i := range l {
		if l[i].Key == 700 {
			l[i].From = "z"
		}
	}
	fails(t, a, h, api.ErrClash, l...)
	a = made(t, sized(all, other)-1)
	fails(t, a, builds(t, a, all), api.ErrFull, all.changes(other)...)
	for range 20 {
		a = made(t, 5000)
		g, h := builds(t, a, all), 0
		s := maps.Clone(all)
		for range 1 + r.IntN(900) {
			s = s.with(r.IntN(1024), []string{"", "d", "a", "e"}[r.IntN(4)])
		}
		h = builds(t, a, s)
		tells(t, a, g, h, all.changes(s))
		becomes(t, a, g, h, shuffled(r, all.changes(s))...)
		becomes(t, a, h, g, Turn(all.changes(s)...)...)
	}
}

// wander is a trie reached at random from one of others: entries put, deleted, built, changes applied; and its sheet
func wander(t *testing.T, r *rand.Rand, a *arena.Arena, h int, s sheet, keys []int) (int, sheet) {
	t.Helper()
	for range 1 + r.IntN(4) {
		key, text := keys[r.IntN(len(keys))], []string{"", "", "a", "b", "=A1"}[r.IntN(5)]
		e := api.OK
		_, there := s[key]
		to := s.with(key, text)
		switch {
		case r.IntN(3) == 0:
			to = to.with(keys[r.IntN(len(keys))], "c")
			h, e = Apply(a, h, shuffled(r, s.changes(to))...)
		case r.IntN(6) == 0:
			h = builds(t, a, to)
		case text != "":
			h, e = trie.Put(a, h, trie.Entry{Key: key, Text: text})
		case there:
			h, e = trie.Delete(a, h, key)
		}
		if e != api.OK {
			t.Fatalf("%v to %v: %d", s, to, e)
		}
		s = to
	}
	return h, s
}

// P11.2: tries in one arena, reached on ways at random, each pair of them: there and back
func TestPairs(t *testing.T) {
	r := rand.New(rand.NewPCG(11, 6))
	for round := range 12 {
		a := made(t, api.MaxNodes)
		keys := few()
		for range 6 * round * round {
			keys = append(keys, r.IntN(1024))
		}
		handles, know := []int{0}, []sheet{{}}
		for range 25 {
			i := r.IntN(len(handles))
			h, s := wander(t, r, a, handles[i], know[i], keys)
			handles, know = append(handles, h), append(know, s)
		}
		ahead := reading(a)
		for i, g := range handles {
			for j, h := range handles {
				l, e := Of(a, g, h)
				if e != api.OK || !slices.Equal(l, know[i].changes(know[j])) || len(l) == 0 != (g == h) {
					t.Fatalf("from %v to %v: %v %d", know[i], know[j], l, e)
				}
				becomes(t, a, g, h, l...)
				becomes(t, a, h, g, Turn(l...)...)
			}
		}
		stays(t, a, ahead)
	}
}

// P1: on a nil arena every call ends, with ErrArg ahead of all else, or with nothing
func TestNil(t *testing.T) {
	for _, g := range []int{0, 1, -1, 65536, most, least} {
		for _, h := range []int{0, 1, g} {
			if l, e := Of(nil, g, h); e != api.ErrArg || len(l) != 0 {
				t.Errorf("Of: %v %d", l, e)
			}
			if n := Shared(nil, g, h); n != 0 {
				t.Errorf("Shared: %d", n)
			}
		}
		for _, l := range [][]Change{nil, {{1, "", "x"}}, {{1, "x", ""}}, {{1, "", "x"}, {1, "", "y"}}, {{-1, "", "x"}}, {{1, "x", "x"}}} {
			if h, e := Apply(nil, g, l...); h != 0 || e != api.ErrArg {
				t.Errorf("Apply: %d %d", h, e)
			}
		}
	}
}

// P11.1, P1: arenas without room, and one that nobody made
func TestBare(t *testing.T) {
	for _, a := range []*arena.Arena{made(t, 0), {}} {
		tells(t, a, 0, 0, nil)
		becomes(t, a, 0, 0)
		lacks(t, a, 1, 0)
		fails(t, a, 0, api.ErrFull, Change{1, "", "x"})
		fails(t, a, 0, api.ErrClash, Change{1, "x", ""})
		fails(t, a, 0, api.ErrTwice, Change{1, "x", ""}, Change{1, "", "x"})
		fails(t, a, 0, api.ErrArg, Change{1, "", ""})
		if n := Shared(a, 0, 0); n != 0 {
			t.Errorf("shared: %d", n)
		}
	}
}

// P1: chains of forks, such as are gone through on very many ways, and nodes with very many Refs, are told of
func TestDeep(t *testing.T) {
	a := made(t, api.MaxNodes)
	x := builds(t, a, sheet{0: "x"})
	h := x
	for range 1000 {
		h = lays(t, a, arena.Node{Kind: 3, Nums: []int{3}, Refs: []int{h, h}})[0]
	}
	lacks(t, a, h, x)
	for _, n := range []arena.Node{{Kind: 2}, {Kind: 3, Nums: []int{-1}}, {Kind: 1, Nums: []int{0}, Text: "x"}} {
		n.Refs = slices.Repeat([]int{x, 0, h}, 50000)
		lacks(t, a, lays(t, a, n)[0], x)
	}
	becomes(t, a, x, 0, Change{0, "x", ""})
}

// Rule 4: what is handed in is neither written nor kept, and behind its length nothing is looked at, or written; what is answered is new
func TestMemory(t *testing.T) {
	a := made(t, 50)
	l := []Change{{25, "y", "w"}, {5, "", "z"}, {0, "x", ""}, {-1, "", ""}, {25, "y", "w"}}
	ahead := slices.Clone(l)
	g, h := builds(t, a, sheet{0: "x", 25: "y"}), builds(t, a, sheet{5: "z", 25: "w"})
	becomes(t, a, g, h, l[:3]...)
	back := Turn(l[:3]...)
	if !slices.Equal(l, ahead) {
		t.Errorf("written: %v", l)
	}
	back[0], back[1].To = Change{9, "v", "u"}, "u"
	_ = append(back, Change{1, "v", "u"})
	if !slices.Equal(l, ahead) {
		t.Errorf("shared: %v", l)
	}
	l[0], l[1].To = Change{9, "v", "u"}, "u"
	tells(t, a, g, h, []Change{{0, "x", ""}, {5, "", "z"}, {25, "y", "w"}})
	m, _ := Of(a, g, h)
	n, _ := Of(a, g, h)
	m[0], m[1].To = Change{9, "v", "u"}, "u"
	_ = append(m, Change{1, "v", "u"})
	if !slices.Equal(n, []Change{{0, "x", ""}, {5, "", "z"}, {25, "y", "w"}}) {
		t.Errorf("shared: %v", n)
	}
	tells(t, a, g, h, n)
	one, two := Turn(n...), Turn(n...)
	one[0].To = "u"
	if two[0].To != "x" || n[0].From != "x" {
		t.Errorf("shared: %v %v", two, n)
	}
}

// tossed are changes at random of a sheet, mostly such as apply to it; rarely one of them may not be, clashes, or comes twice.
func tossed(r *rand.Rand, s sheet) []Change {
	to := s
	for range r.IntN(5) {
		to = to.with(few()[r.IntN(4)], []string{"", "a", "b", "c"}[r.IntN(4)])
	}
	l := shuffled(r, s.changes(to))
	if len(l) == 0 {
		return l
	}
	c := &l[r.IntN(len(l))]
	switch r.IntN(30) {
	case 0:
		c.Key = none()[r.IntN(len(none()))]
	case 1:
		c.To = []string{long(201), c.From}[r.IntN(2)]
	case 2:
		c.From = []string{long(201), c.To}[r.IntN(2)]
	case 3, 4:
		c.From += "d"
	case 5, 6:
		c.Key = r.IntN(1024)
	case 7, 8, 9:
		l = append(l, Change{c.Key, c.To, "e"})
	case 10:
		c.From = ""
	}
	return l
}

// world is what an arena is to have: sheets by handles, and an arena in which they were built out of entries.
type world struct {
	*arena.Arena
	know map[int]sheet
}

// apply is what Apply comes to.
func (w world) apply(h int, l []Change) (int, api.Errno) {
	s, ok := w.know[h]
	if !ok {
		return 0, api.ErrArg
	}
	to, e := s.after(l)
	if e != api.OK {
		return 0, e
	}
	g, e := trie.Build(w.Arena, to.entries()...)
	if e == api.OK {
		w.know[g] = to
	}
	return g, e
}

// sweep lets all go, here and in other arenas, but what some tries have, chosen at random.
func (w world) sweep(r *rand.Rand, others ...*arena.Arena) {
	roots := []int{0}
	for _, h := range slices.Sorted(maps.Keys(w.know)) {
		if r.IntN(3) == 0 {
			roots = append(roots, h)
		}
	}
	for _, a := range append(others, w.Arena) {
		a.Sweep(roots...)
	}
	maps.DeleteFunc(w.know, func(h int, _ sheet) bool { return h != 0 && !slices.Contains(w.Live(), h) })
}

// equal holds two handles of an arena, tries' or none's, against a world.
func (w world) equal(t *testing.T, a *arena.Arena, g, h int) {
	t.Helper()
	s, ok := w.know[g]
	x, is := w.know[h]
	if !ok || !is {
		if l, e := Of(a, g, h); e != api.ErrArg || len(l) != 0 || Shared(a, g, h) != 0 {
			t.Fatalf("from %d to %d: %v %d", g, h, l, e)
		}
		return
	}
	tells(t, a, g, h, s.changes(x))
	if n := Shared(a, g, h); n != common(w.Arena, g, h) {
		t.Fatalf("%v and %v: %d", s, x, n)
	}
}

// parts takes what a new trie's parts are to what is known, if they are tries, too: all but forks.
func (w world) parts(h int) {
	for r := range below(w.Arena, h) {
		n, _ := w.Get(r)
		s := sheet{}
		for leaf := range below(w.Arena, r) {
			if m, _ := w.Get(leaf); m.Kind == 1 {
				s[m.Nums[0]] = m.Text
			}
		}
		if n.Kind != 3 {
			w.know[r] = s
		}
	}
}

// P11.1, P11.2, P2: any changes, and sweeps, on arenas of little room come to what a world comes to; two arenas answer alike
func TestTable(t *testing.T) {
	r := rand.New(rand.NewPCG(11, 7))
	met := map[api.Errno]int{}
	for range 150 {
		room := r.IntN(30)
		a, b, w := made(t, room), made(t, room), world{made(t, room), map[int]sheet{0: {}}}
		for range 40 {
			h := r.IntN(room + 2)
			if r.IntN(12) == 0 {
				w.sweep(r, a, b)
			}
			if _, ok := w.know[h]; !ok && r.IntN(4) > 0 {
				h = 0
			}
			l := tossed(r, w.know[h])
			want, f := w.apply(h, l)
			g, e := Apply(a, h, l...)
			if k, d := Apply(b, h, l...); g != want || e != f || k != g || d != e {
				t.Fatalf("%v by %v: %d %d, %d %d, want %d %d", w.know[h], l, g, e, k, d, want, f)
			}
			met[e]++
			w.parts(g)
			stays(t, a, reading(w.Arena))
			stays(t, b, reading(w.Arena))
			for range 6 {
				w.equal(t, a, r.IntN(room+2), r.IntN(room+2))
				w.equal(t, a, g, r.IntN(room+2))
			}
		}
	}
	for _, e := range []api.Errno{api.OK, api.ErrArg, api.ErrFull, api.ErrTwice, api.ErrClash} {
		if met[e] < 100 {
			t.Errorf("%d: met %d times", e, met[e])
		}
	}
}
