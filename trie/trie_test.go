package trie

import (
	"fmt"
	"maps"
	"math/rand/v2"
	"slices"
	"strings"
	"testing"

	"gridiron/api"
	"gridiron/arena"
)

// made is an empty arena.
func made(t *testing.T, room int) *arena.Arena {
	t.Helper()
	a, e := arena.New(room)
	if e != api.OK {
		t.Fatalf("a room of %d: %d", room, e)
	}
	return a
}

// lays puts nodes as they are.
func lays(t *testing.T, a *arena.Arena, l ...arena.Node) []int {
	t.Helper()
	handles, e := a.Put(l...)
	if e != api.OK {
		t.Fatalf("%v: %d", l, e)
	}
	return handles
}

// builds holds that entries have the trie that the document says.
func builds(t *testing.T, a *arena.Arena, l ...Entry) int {
	t.Helper()
	h, e := Build(a, l...)
	s := sheet{}
	for _, x := range l {
		s[x.Key] = x.Text
	}
	if e != api.OK || drawn(a, h) != s.plain() {
		t.Fatalf("%v: %s %d, want %s", l, drawn(a, h), e, s.plain())
	}
	return h
}

// puts holds what a trie with an entry is.
func puts(t *testing.T, a *arena.Arena, h int, x Entry, want sheet) int {
	t.Helper()
	g, e := Put(a, h, x)
	if e != api.OK || drawn(a, g) != want.plain() {
		t.Fatalf("%s with %v: %s %d, want %s", drawn(a, h), x, drawn(a, g), e, want.plain())
	}
	return g
}

// cuts holds what a trie without a key is.
func cuts(t *testing.T, a *arena.Arena, h, key int, want sheet) int {
	t.Helper()
	g, e := Delete(a, h, key)
	if e != api.OK || drawn(a, g) != want.plain() {
		t.Fatalf("%s without %d: %s %d, want %s", drawn(a, h), key, drawn(a, g), e, want.plain())
	}
	return g
}

// has holds what is read of a trie.
func has(t *testing.T, a *arena.Arena, h int, s sheet) {
	t.Helper()
	if l := All(a, h); !Is(a, h) || !slices.Equal(l, s.rising()) {
		t.Fatalf("%d: %v %v, want %v", h, Is(a, h), l, s.rising())
	}
	for _, key := range append(slices.Collect(maps.Keys(s)), 0, 25, 5, 1, 1023) {
		text, ok := s[key]
		if got, is := Get(a, h, key); got != text || is != ok {
			t.Fatalf("%d of %v: %q %v", key, s, got, is)
		}
	}
	for _, key := range none() {
		if got, is := Get(a, h, key); got != "" || is {
			t.Fatalf("%d of %v: %q %v", key, s, got, is)
		}
	}
}

// lacks holds that a handle is no trie's, whatever is asked.
func lacks(t *testing.T, a *arena.Arena, h int) {
	t.Helper()
	ahead := reading(a)
	if l := All(a, h); Is(a, h) || len(l) != 0 {
		t.Errorf("%d, %s: %v %v", h, drawn(a, h), Is(a, h), l)
	}
	for _, key := range []int{0, 25, 1, 5, 1023, -1, 1024} {
		if text, is := Get(a, h, key); text != "" || is {
			t.Errorf("%d, %s: %d: %q", h, drawn(a, h), key, text)
		}
		if g, e := Delete(a, h, key); g != 0 || e != api.ErrArg {
			t.Errorf("%d, %s: without %d: %d %d", h, drawn(a, h), key, g, e)
		}
		if g, e := Put(a, h, Entry{key, "x"}); g != 0 || e != api.ErrArg {
			t.Errorf("%d, %s: with %d: %d %d", h, drawn(a, h), key, g, e)
		}
	}
	stays(t, a, ahead)
}

// reading are all nodes of an arena, as texts.
func reading(a *arena.Arena) map[int]string {
	l := map[int]string{}
	for _, h := range a.Live() {
		n, _ := a.Get(h)
		l[h] = fmt.Sprintf("%d %v %v %q", n.Kind, n.Refs, n.Nums, n.Text)
	}
	return l
}

// stays holds that an arena has just what it had.
func stays(t *testing.T, a *arena.Arena, ahead map[int]string) {
	t.Helper()
	if is := reading(a); !maps.Equal(is, ahead) {
		t.Fatalf("nodes: %v, were %v", is, ahead)
	}
}

// none are numbers that are no keys.
func none() []int {
	return []int{-1, -2, -25, 1024, 1025, 1049, 2047, 2048, 65536, 1 << 32, 1<<32 + 25, -1 << 32, most, most - 1, least, least + 1}
}

// long is a text of so many bytes.
func long(n int) string { return strings.Repeat("x", n) }

// flawed are texts that no entry may have.
func flawed() []string {
	return []string{"", long(201), long(256), long(5000), strings.Repeat("\u00e9", 100) + "x", strings.Repeat("\u00e9", 101)}
}

// kept are texts that entries may have.
func kept() []string {
	return []string{"x", " ", "\x00", "\xff", "=A1", long(199), long(200), strings.Repeat("\u00e9", 100), strings.Repeat("\xff", 200)}
}

// few are keys: two pairs of one hash that share the digit at level 0, and two more keys of which that is so, with another digit.
func few() []int { return []int{0, 25, 576, 601, 50, 626} }

// sheets are all that have none but these keys, each with one of these texts.
func sheets(keys []int, texts ...string) []sheet {
	l := []sheet{{}}
	for _, key := range keys {
		for _, s := range slices.Clone(l) {
			for _, text := range texts {
				l = append(l, s.with(key, text))
			}
		}
	}
	return l
}

// P10.1: the hash of each key, of which each is that of two; and none of what is no key
func TestHash(t *testing.T) {
	of := map[int]int{}
	for key := range 1024 {
		if h := Hash(key); h != hashed(key) {
			t.Errorf("%d: %d, want %d", key, h, hashed(key))
		}
		of[Hash(key)]++
	}
	for hash := range 512 {
		if of[hash] != 2 {
			t.Errorf("%d: %d keys", hash, of[hash])
		}
	}
	for key, want := range map[int]int{0: 0, 25: 0, 1: 20, 5: 102, 24: 492, 26: 21, 50: 1, 1022: 471, 1023: 491} {
		if h := Hash(key); h != want {
			t.Errorf("%d: %d, want %d", key, h, want)
		}
	}
	for i, key := range few() {
		if h := Hash(key); h != []int{0, 0, 32, 32, 1, 33}[i] {
			t.Errorf("%d: %d", key, h)
		}
	}
	for _, key := range none() {
		if h := Hash(key); h != -1 {
			t.Errorf("%d: %d", key, h)
		}
	}
}

// P10.1: no entries, one, a bucket's, forks of one level and of two: the nodes, as the document has them
func TestNodes(t *testing.T) {
	for _, x := range []struct {
		l    []Entry
		want string
	}{
		{nil, "-"},
		{[]Entry{}, "-"},
		{[]Entry{{0, "x"}}, `1()[0]"x"`},
		{[]Entry{{1023, "=A1"}}, `1()[1023]"=A1"`},
		{[]Entry{{25, "y"}, {0, "x"}}, `2(1()[0]"x",1()[25]"y")[]""`},
		{[]Entry{{0, "y"}, {25, "y"}}, `2(1()[0]"y",1()[25]"y")[]""`},
		{[]Entry{{5, "z"}, {25, "y"}, {0, "x"}}, `3(2(1()[0]"x",1()[25]"y")[]"",1()[5]"z")[65]""`},
		{[]Entry{{0, "x"}, {1, "y"}}, `3(1()[0]"x",1()[1]"y")[1048577]""`},               // digits 0, 20
		{[]Entry{{1023, "x"}, {1022, "y"}}, `3(1()[1023]"x",1()[1022]"y")[8390656]""`},   // 11, 23
		{[]Entry{{1, "x"}, {5, "y"}, {1, "x"}}[:2], `3(1()[5]"y",1()[1]"x")[1048640]""`}, // 6, 20: by digits, not by keys
		{[]Entry{{0, "x"}, {576, "y"}}, `3(3(1()[0]"x",1()[576]"y")[3]"")[1]""`},         // hashes 0, 32
		{[]Entry{{576, "x"}, {601, "y"}, {0, "z"}, {25, "z"}}, `3(3(2(1()[0]"z",1()[25]"z")[]"",2(1()[576]"x",1()[601]"y")[]"")[3]"")[1]""`},
	} {
		a := made(t, 20)
		h, e := Build(a, x.l...)
		if e != api.OK || drawn(a, h) != x.want || len(a.Reach(h)) != a.Len() {
			t.Errorf("%v: %s %d, want %s", x.l, drawn(a, h), e, x.want)
		}
	}
}

// P10.1: texts of 1 byte and of 200, of whatever bytes, are kept; one of none, or of more, may not be
func TestTexts(t *testing.T) {
	a := made(t, 1000)
	both := builds(t, a, Entry{0, "x"}, Entry{7, "y"})
	for _, text := range kept() {
		for _, key := range []int{0, 1023, 5} {
			has(t, a, builds(t, a, Entry{key, text}), sheet{key: text})
			has(t, a, puts(t, a, both, Entry{key, text}, sheet{0: "x", 7: "y"}.with(key, text)), sheet{0: "x", 7: "y"}.with(key, text))
		}
	}
	ahead := reading(a)
	for _, text := range flawed() {
		for _, key := range []int{0, 1023, 5} {
			for _, l := range [][]Entry{{{key, text}}, {{key, text}, {1, "x"}}, {{1, "x"}, {2, "y"}, {key, text}}} {
				if h, e := Build(a, l...); h != 0 || e != api.ErrArg {
					t.Errorf("%v: %d %d", l, h, e)
				}
			}
			for _, h := range []int{0, both, 99999} {
				if g, e := Put(a, h, Entry{key, text}); g != 0 || e != api.ErrArg {
					t.Errorf("%d with %d, %q: %d %d", h, key, text, g, e)
				}
			}
		}
	}
	stays(t, a, ahead)
}

// P10.1: what is no key is told of by every call
func TestKeys(t *testing.T) {
	a := made(t, 100)
	both := builds(t, a, Entry{0, "x"}, Entry{1023, "y"})
	ahead := reading(a)
	for _, key := range none() {
		for _, l := range [][]Entry{{{key, "x"}}, {{key, "x"}, {1, "x"}}, {{1, "x"}, {2, "y"}, {key, "x"}}} {
			if h, e := Build(a, l...); h != 0 || e != api.ErrArg {
				t.Errorf("%v: %d %d", l, h, e)
			}
		}
		for _, h := range []int{0, both, 99999} {
			if g, e := Put(a, h, Entry{key, "x"}); g != 0 || e != api.ErrArg {
				t.Errorf("%d with %d: %d %d", h, key, g, e)
			}
			if g, e := Delete(a, h, key); g != 0 || e != api.ErrArg {
				t.Errorf("%d without %d: %d %d", h, key, g, e)
			}
			if text, is := Get(a, h, key); text != "" || is {
				t.Errorf("%d of %d: %q %v", key, h, text, is)
			}
		}
	}
	stays(t, a, ahead)
}

// P10.1: two entries with one key, with one text or two, wherever they stand; what may not be is told ahead, what has no room behind
func TestTwice(t *testing.T) {
	for _, room := range []int{0, 1, 2, 100} {
		a := made(t, room)
		for _, l := range [][]Entry{
			{{1, "x"}, {1, "x"}}, {{1, "x"}, {1, "y"}}, {{0, "x"}, {0, "x"}}, {{1023, "x"}, {1023, "y"}}, {{1, "x"}, {2, "y"}, {3, "z"}, {1, "x"}}, {{9, "x"}, {2, "y"}, {3, "z"}, {2, "x"}, {1, "x"}}, slices.Repeat([]Entry{{1, "x"}}, 2000),
		} {
			if h, e := Build(a, l...); h != 0 || e != api.ErrTwice || a.Len() != 0 {
				t.Errorf("%v: %d %d", l, h, e)
			}
			for _, x := range []Entry{{-1, "x"}, {1024, "x"}, {4, ""}, {4, long(201)}, {1, ""}} {
				for _, m := range [][]Entry{append([]Entry{x}, l...), append(slices.Clone(l), x)} {
					if h, e := Build(a, m...); h != 0 || e != api.ErrArg || a.Len() != 0 {
						t.Errorf("%v: %d %d", m, h, e)
					}
				}
			}
		}
		if h, e := Build(a, Entry{0, "x"}, Entry{25, "x"}); room == 100 && e != api.OK || room < 100 && (h != 0 || e != api.ErrFull) {
			t.Errorf("of one hash: %d %d", h, e)
		}
	}
}

// shuffled are a sheet's entries in any order.
func shuffled(r *rand.Rand, s sheet) []Entry {
	l := s.rising()
	r.Shuffle(len(l), func(i, j int) { l[i], l[j] = l[j], l[i] })
	return l
}

// stuffed is an arena that has all nodes of some tries, and room for so many more that have nothing of them.
func stuffed(t *testing.T, more int, l ...sheet) *arena.Arena {
	t.Helper()
	all := map[string]sheet{}
	for _, s := range l {
		maps.Copy(all, s.parts())
	}
	a := made(t, len(all)+more)
	for _, s := range l {
		laid(a, s, 0, straight)
	}
	return a
}

// grows is how many nodes one sheet's trie has that others' haven't.
func grows(s sheet, l ...sheet) int {
	all := map[string]sheet{}
	for _, x := range l {
		maps.Copy(all, x.parts())
	}
	ahead := len(all)
	maps.Copy(all, s.parts())
	return len(all) - ahead
}

// P10.1: all sheets of six keys that share hashes, and digits, built in any order, in just room enough, and in one node less; in an arena that has all of it, too
func TestBuild(t *testing.T) {
	r := rand.New(rand.NewPCG(10, 1))
	for _, s := range sheets(few(), "a", "b") {
		need := grows(s)
		a := made(t, need)
		h := builds(t, a, shuffled(r, s)...)
		has(t, a, h, s)
		ahead := reading(a)
		for range 2 {
			if g := builds(t, a, shuffled(r, s)...); g != h || laid(a, s, 0, straight) != h || a.Len() != need {
				t.Fatalf("%v: %d, then %d; %d nodes, want %d", s, h, g, a.Len(), need)
			}
		}
		stays(t, a, ahead)
		if need == 0 {
			continue
		}
		a = made(t, need-1)
		if h, e := Build(a, shuffled(r, s)...); h != 0 || e != api.ErrFull || a.Len() != 0 {
			t.Fatalf("%v: %d %d", s, h, e)
		}
	}
}

// P10.1, P10.3: each entry put to each of these sheets: the trie, how many nodes are laid, the old trie; in just room enough, and in one node less
func TestPut(t *testing.T) {
	lain := map[int]int{}
	for _, s := range sheets(few(), "a") {
		for _, x := range sheets(few(), "a", "c") {
			if len(x) != 1 {
				continue
			}
			put := x.rising()[0]
			want := s.with(put.Key, put.Text)
			need := grows(want, s)
			a := stuffed(t, need, s)
			h := laid(a, s, 0, straight)
			g := puts(t, a, h, put, want)
			has(t, a, g, want)
			has(t, a, h, s)
			if a.Len() != a.Room() || need > 4 || laid(a, want, 0, straight) != g || (g == h) != maps.Equal(s, want) {
				t.Fatalf("%v with %v: %d of %d, %d new", s, put, a.Len(), a.Room(), need)
			}
			lain[need]++
			if g != puts(t, a, h, put, want) || h != puts(t, a, h, Entry{put.Key, put.Text}, want) && g == h {
				t.Fatalf("%v with %v again", s, put)
			}
			if need == 0 {
				continue
			}
			a = stuffed(t, need-1, s)
			h, ahead := laid(a, s, 0, straight), reading(a)
			if g, e := Put(a, h, put); g != 0 || e != api.ErrFull {
				t.Fatalf("%v with %v: %d %d", s, put, g, e)
			}
			stays(t, a, ahead)
		}
	}
	for need := range 5 {
		if lain[need] < 5 {
			t.Errorf("%d nodes laid: %d times", need, lain[need])
		}
	}
}

// P10.1: each key deleted from each of these sheets: the trie, what is laid of it, the old trie; in just room enough, and in one node less; and keys that aren't there
func TestDelete(t *testing.T) {
	lain := map[int]int{}
	for _, s := range sheets(few(), "a") {
		for _, key := range append(few(), 5, 1, 1023) {
			if _, ok := s[key]; !ok {
				a := stuffed(t, 9, s)
				h, ahead := laid(a, s, 0, straight), reading(a)
				if g, e := Delete(a, h, key); g != 0 || e != api.ErrNone {
					t.Fatalf("%v without %d: %d %d", s, key, g, e)
				}
				stays(t, a, ahead)
				continue
			}
			want := s.without(key)
			need := grows(want, s)
			a := stuffed(t, need, s)
			h := laid(a, s, 0, straight)
			g := cuts(t, a, h, key, want)
			has(t, a, g, want)
			has(t, a, h, s)
			if a.Len() != a.Room() || laid(a, want, 0, straight) != g || g != cuts(t, a, h, key, want) {
				t.Fatalf("%v without %d: %d of %d", s, key, a.Len(), a.Room())
			}
			lain[need]++
			if need == 0 {
				continue
			}
			a = stuffed(t, need-1, s)
			h, ahead := laid(a, s, 0, straight), reading(a)
			if g, e := Delete(a, h, key); g != 0 || e != api.ErrFull {
				t.Fatalf("%v without %d: %d %d", s, key, g, e)
			}
			stays(t, a, ahead)
		}
	}
	for need := range 3 {
		if lain[need] < 5 {
			t.Errorf("%d nodes laid: %d times", need, lain[need])
		}
	}
}

// P10.1: the last entry deleted, one of two, one of a bucket's two, one of three of which two are a bucket's
func TestLast(t *testing.T) {
	a := made(t, 60)
	one := builds(t, a, Entry{5, "x"})
	if h := cuts(t, a, one, 5, sheet{}); h != 0 {
		t.Errorf("the last one: %d", h)
	}
	x := builds(t, a, Entry{0, "x"})
	both := builds(t, a, Entry{0, "x"}, Entry{5, "x"})
	pair := builds(t, a, Entry{0, "x"}, Entry{25, "y"})
	three := builds(t, a, Entry{0, "x"}, Entry{25, "y"}, Entry{5, "x"})
	near := builds(t, a, Entry{0, "x"}, Entry{25, "y"}, Entry{576, "z"})
	z, far := builds(t, a, Entry{576, "z"}), builds(t, a, Entry{0, "x"}, Entry{576, "z"})
	ahead := reading(a)
	for _, y := range []struct{ h, key, want int }{
		{both, 0, one}, {both, 5, x}, {pair, 25, x}, {three, 25, both}, {three, 5, pair}, {near, 576, pair}, {near, 25, far}, {far, 0, z}, {far, 576, x}, {z, 576, 0}, {x, 0, 0},
	} {
		if h, e := Delete(a, y.h, y.key); h != y.want || e != api.OK {
			t.Errorf("%s without %d: %s %d", drawn(a, y.h), y.key, drawn(a, h), e)
		}
	}
	stays(t, a, ahead)
	cuts(t, a, three, 0, sheet{25: "y", 5: "x"})
}

// P10.1: a Put of a key that the trie has: with the same text it is the same trie, with another one that one goes instead
func TestAgain(t *testing.T) {
	a := made(t, 9)
	h := builds(t, a, Entry{0, "x"}, Entry{25, "y"}, Entry{5, "z"}) // 5 nodes
	for range 3 {
		if g := puts(t, a, h, Entry{25, "y"}, sheet{0: "x", 25: "y", 5: "z"}); g != h || a.Len() != 5 {
			t.Errorf("again: %d of %d, %d nodes", g, h, a.Len())
		}
	}
	g := puts(t, a, h, Entry{25, "="}, sheet{0: "x", 25: "=", 5: "z"})
	if g == h || a.Len() != 8 {
		t.Errorf("another one: %d, %d nodes", g, a.Len())
	}
	if k := puts(t, a, g, Entry{25, "y"}, sheet{0: "x", 25: "y", 5: "z"}); k != h || a.Len() != 8 {
		t.Errorf("back: %d of %d, %d nodes", k, h, a.Len())
	}
	has(t, a, h, sheet{0: "x", 25: "y", 5: "z"})
	has(t, a, g, sheet{0: "x", 25: "=", 5: "z"})
}

// P10.1: a full arena: what it has already is found, what it lacks has no room; what is wrong is told ahead of that
func TestFull(t *testing.T) {
	s := sheet{0: "x", 25: "y", 5: "z", 1: "w"}
	a := stuffed(t, 0, s)
	h, ahead := laid(a, s, 0, straight), reading(a)
	for _, x := range []struct {
		call func() (int, api.Errno)
		want api.Errno
	}{
		{func() (int, api.Errno) { return Build(a) }, api.OK},
		{func() (int, api.Errno) { return Build(a, s.rising()...) }, api.OK},
		{func() (int, api.Errno) { return Build(a, Entry{25, "y"}) }, api.OK},
		{func() (int, api.Errno) { return Put(a, 0, Entry{25, "y"}) }, api.OK},
		{func() (int, api.Errno) { return Put(a, h, Entry{5, "z"}) }, api.OK},
		{func() (int, api.Errno) { return Build(a, Entry{25, "z"}) }, api.ErrFull},
		{func() (int, api.Errno) { return Build(a, Entry{26, "y"}) }, api.ErrFull},
		{func() (int, api.Errno) { return Build(a, Entry{5, "z"}, Entry{1, "w"}) }, api.ErrFull},
		{func() (int, api.Errno) { return Put(a, h, Entry{5, "y"}) }, api.ErrFull},
		{func() (int, api.Errno) { return Put(a, 0, Entry{5, "y"}) }, api.ErrFull},
		{func() (int, api.Errno) { return Delete(a, h, 5) }, api.ErrFull},
		{func() (int, api.Errno) { return Delete(a, h, 0) }, api.ErrFull},
		{func() (int, api.Errno) { return Delete(a, h, 6) }, api.ErrNone},
		{func() (int, api.Errno) { return Delete(a, 0, 5) }, api.ErrNone},
		{func() (int, api.Errno) { return Delete(a, 0, 1024) }, api.ErrArg},
		{func() (int, api.Errno) { return Delete(a, 999, 6) }, api.ErrArg},
		{func() (int, api.Errno) { return Put(a, 999, Entry{5, "z"}) }, api.ErrArg},
		{func() (int, api.Errno) { return Put(a, h, Entry{6, ""}) }, api.ErrArg},
		{func() (int, api.Errno) { return Build(a, Entry{6, "x"}, Entry{7, ""}) }, api.ErrArg},
		{func() (int, api.Errno) { return Build(a, Entry{6, "x"}, Entry{6, "y"}) }, api.ErrTwice},
	} {
		if g, e := x.call(); e != x.want || e != api.OK && g != 0 {
			t.Errorf("%d %d, want %d", g, e, x.want)
		}
		stays(t, a, ahead)
	}
	bucket := builds(t, a, Entry{0, "x"}, Entry{25, "y"})
	has(t, a, cuts(t, a, bucket, 0, sheet{25: "y"}), sheet{25: "y"})
	stays(t, a, ahead)
}

// bends are the ways in which a node is bent into a look-alike: one thing of it is another one, that no entry of the sheets below has
func bends(handles []int) []func(*arena.Node) {
	var l []func(*arena.Node)
	for _, kind := range []int{0, 1, 2, 3, 4, -1, -3, 257, 258, 259, 1<<32 + 1, 1<<32 + 3, most, least} {
		l = append(l, func(n *arena.Node) { n.Kind = kind })
	}
	for _, text := range []string{"", "a", "b", long(201), long(5000)} {
		l = append(l, func(n *arena.Node) { n.Text = text })
	}
	for _, num := range []int{0, 1, 2, 3, 4, 5, 1 << 31, 1<<32 | 1, 1<<32 | 3, 1<<62 | 1, least | 1, least | 3} {
		l = append(l, func(n *arena.Node) {
			if n.Kind != 1 {
				n.Nums = []int{num}
			}
		})
	}
	for _, num := range append(none(), few()...) {
		l = append(l, func(n *arena.Node) { n.Nums = []int{num} }, func(n *arena.Node) { n.Nums = append(n.Nums, num) }, func(n *arena.Node) { n.Nums = append([]int{num}, n.Nums...) })
	}
	l = append(l, func(n *arena.Node) { n.Nums = nil }, func(n *arena.Node) { n.Refs = nil }, func(n *arena.Node) { slices.Reverse(n.Refs) })
	for _, h := range handles {
		l = append(l, func(n *arena.Node) { n.Refs = append(n.Refs, h) }, func(n *arena.Node) { n.Refs = append([]int{h}, n.Refs...) }, func(n *arena.Node) { n.Refs = []int{h} })
		for i := range 3 {
			l = append(l, func(n *arena.Node) {
				if i < len(n.Refs) {
					n.Refs[i] = h
				}
			})
		}
	}
	for i := range 3 {
		l = append(l, func(n *arena.Node) { n.Refs = append(n.Refs, n.Refs[:min(i, len(n.Refs))]...) }, func(n *arena.Node) { n.Refs = n.Refs[:max(0, len(n.Refs)-i-1)] }, func(n *arena.Node) { n.Refs = n.Refs[min(i+1, len(n.Refs)):] })
	}
	return l
}

// lookalikes are an arena with tries of some sheets, and with these bent at each of their nodes, in each way.
func lookalikes(t *testing.T) *arena.Arena {
	t.Helper()
	a := made(t, api.MaxNodes)
	keys := few()
	handles := []int{0}
	for _, s := range []sheet{{0: "a"}, {25: "a"}, {0: "a", 25: "b"}, {keys[2]: "a", keys[3]: "a"}, {0: "a", keys[4]: "b"}, {0: "a", keys[2]: "b"}} {
		handles = append(handles, laid(a, s, 0, straight))
	}
	for _, s := range []sheet{
		{0: "a"}, {25: "b"}, {0: "a", 25: "a"}, {0: "b", 25: "a"}, {0: "a", keys[2]: "a"}, {0: "a", keys[4]: "b"}, {0: "a", 25: "b", keys[4]: "a"}, {0: "a", keys[2]: "b", keys[4]: "a"},
		{0: "a", 25: "a", keys[2]: "b", keys[3]: "b"}, {0: "a", 25: "a", keys[2]: "a", keys[3]: "a", keys[4]: "a", keys[5]: "a"}, {keys[4]: "a", keys[5]: "b"},
	} {
		for _, bend := range bends(handles) {
			for spot := range len(s.parts()) {
				laid(a, s, 0, func(n *arena.Node) {
					if spot == 0 {
						bend(n)
					}
					spot--
				})
			}
		}
	}
	return a
}

// P10.1: of many nodes, such as tries have, and such as look alike, just those are tries' that stand in the table of all tries there can be
func TestLookalikes(t *testing.T) {
	all := map[string]sheet{}
	for _, s := range sheets(few(), "a", "b") {
		all[s.plain()] = s
	}
	a := lookalikes(t)
	are, not := 0, 0
	for _, h := range a.Live() {
		if s, ok := all[drawn(a, h)]; ok {
			has(t, a, h, s)
			are++
			continue
		}
		if Is(a, h) || len(All(a, h)) != 0 {
			t.Errorf("%s: %v", drawn(a, h), All(a, h))
		}
		not++
		for _, key := range few() {
			text, is := Get(a, h, key)
			g, e := Delete(a, h, key)
			k, f := Put(a, h, Entry{key, "a"})
			if text != "" || is || g != 0 || e != api.ErrArg || k != 0 || f != api.ErrArg {
				t.Errorf("%s, %d: %q, %d %d, %d %d", drawn(a, h), key, text, g, e, k, f)
			}
		}
	}
	if are < 80 || not < 5000 || a.Len() != are+not {
		t.Errorf("%d tries, %d others", are, not)
	}
}

// P10.1: nodes put at random, of the kinds that tries have, or nearly
func TestStrange(t *testing.T) {
	all := map[string]sheet{}
	for _, s := range sheets(few(), "a", "b") {
		all[s.plain()] = s
	}
	r := rand.New(rand.NewPCG(10, 2))
	met := map[string]bool{}
	for range 100 {
		a := made(t, 100)
		for a.Len() < 100 {
			n := arena.Node{Kind: 1 + r.IntN(3)}
			switch {
			case n.Kind == 1:
				n.Nums, n.Text = []int{few()[r.IntN(6)]}, string("abab"[r.IntN(4)])
			case n.Kind == 3:
				n.Nums = []int{[]int{1, 2, 3, 3}[r.IntN(4)]}
			}
			for range r.IntN(3) * min(n.Kind-1, 1) {
				n.Refs = append(n.Refs, 1+r.IntN(a.Len()+1)%max(1, a.Len()))
			}
			if _, e := a.Put(n); e == api.ErrFull {
				t.Fatalf("full: %v", n)
			}
		}
		for _, h := range a.Live() {
			s, ok := all[drawn(a, h)]
			if Is(a, h) != ok || !slices.Equal(All(a, h), s.rising()) {
				t.Errorf("%s: %v %v", drawn(a, h), Is(a, h), All(a, h))
			}
			if ok {
				met[drawn(a, h)] = true
			}
		}
	}
	if len(met) < 20 {
		t.Errorf("%d tries", len(met))
	}
}

// P10.1: handles that the arena hasn't, and nodes that are none of a trie's
func TestNoTries(t *testing.T) {
	a := made(t, 100)
	h := builds(t, a, Entry{0, "x"}, Entry{25, "y"}, Entry{5, "z"})
	for _, g := range []int{-1, -2, 6, 7, 100, 101, 1000, 65536, 65537, 1 << 32, 1<<32 + h, -h, most, least} {
		lacks(t, a, g)
	}
	l := lays(t, a, arena.Node{}, arena.Node{Kind: 4, Refs: []int{h}, Nums: []int{1}}, arena.Node{Kind: 1}, arena.Node{Kind: 2}, arena.Node{Kind: 3}, arena.Node{Kind: 3, Nums: []int{0}}, arena.Node{Kind: 3, Nums: []int{1}, Refs: []int{0}}, arena.Node{Kind: 3, Nums: []int{1}, Refs: []int{h}}, arena.Node{Kind: 2, Refs: []int{0, 0}}, arena.Node{Kind: 5, Text: "x", Nums: []int{1}})
	for _, g := range l {
		lacks(t, a, g)
	}
	has(t, a, h, sheet{0: "x", 25: "y", 5: "z"})
}

// P10.1: a fork that stands at level 1 of a trie is none by itself, as its entries' digits at level 0 are others; leaves, and buckets, are
func TestInner(t *testing.T) {
	a := made(t, 100)
	h := builds(t, a, Entry{0, "x"}, Entry{25, "y"}, Entry{576, "z"})
	for _, g := range a.Reach(h) {
		n, _ := a.Get(g)
		switch {
		case n.Kind == 3 && g != h:
			lacks(t, a, g)
		case n.Kind == 2:
			has(t, a, g, sheet{0: "x", 25: "y"})
		case n.Kind == 1:
			has(t, a, g, sheet{n.Nums[0]: n.Text})
		}
	}
	has(t, a, h, sheet{0: "x", 25: "y", 576: "z"})
}

// P10.1: a handle that was swept away is no trie's, and may become another one's
func TestSwept(t *testing.T) {
	a := made(t, 12)
	g := builds(t, a, Entry{0, "x"}, Entry{5, "z"})
	h := builds(t, a, Entry{0, "x"}, Entry{25, "y"})
	if n, e := a.Sweep(h); n != 2 || e != api.OK {
		t.Fatalf("swept: %d %d", n, e)
	}
	lacks(t, a, g)
	has(t, a, h, sheet{0: "x", 25: "y"})
	k := builds(t, a, Entry{7, "w"}, Entry{8, "v"}, Entry{0, "x"}, Entry{25, "y"})
	has(t, a, h, sheet{0: "x", 25: "y"})
	if _, e := a.Sweep(); e != api.OK {
		t.Fatalf("swept: %d", e)
	}
	lacks(t, a, k)
	lacks(t, a, h)
	if is := builds(t, a, Entry{900, "x"}); is != 1 {
		t.Errorf("the least handle: %d", is)
	}
	has(t, a, 1, sheet{900: "x"})
	has(t, a, 0, sheet{})
}

// everything is a sheet that has all keys.
func everything() sheet {
	s := sheet{}
	for key := range 1024 {
		s[key] = fmt.Sprintf("=A%d", key%7)
	}
	return s
}

// P10.1: a trie of all keys: its nodes, in just room enough, and in one node less
func TestMost(t *testing.T) {
	s := everything()
	r := rand.New(rand.NewPCG(10, 3))
	a := made(t, 1024+512+32+1)
	h := builds(t, a, shuffled(r, s)...)
	if a.Len() != a.Room() {
		t.Errorf("%d nodes", a.Len())
	}
	if l := All(a, h); !Is(a, h) || !slices.Equal(l, s.rising()) {
		t.Errorf("%d entries", len(l))
	}
	for key := 0; key < 1024; key += 11 {
		if text, is := Get(a, h, key); text != s[key] || !is {
			t.Errorf("%d: %q %v", key, text, is)
		}
	}
	if g, e := Put(a, h, Entry{77, s[77]}); g != h || e != api.OK {
		t.Errorf("again: %d %d", g, e)
	}
	if g, e := Put(a, h, Entry{77, "other"}); g != 0 || e != api.ErrFull || a.Len() != a.Room() {
		t.Errorf("another one: %d %d", g, e)
	}
	a = made(t, 1024+512+32)
	if h, e := Build(a, shuffled(r, s)...); h != 0 || e != api.ErrFull || a.Len() != 0 {
		t.Errorf("one node less: %d %d", h, e)
	}
}

// path puts and deletes entries of these keys at random, and then, in any order, makes each what the sheet has; the handle that this comes to.
func path(t *testing.T, r *rand.Rand, a *arena.Arena, s sheet, keys []int) int {
	t.Helper()
	h, at := 0, sheet{}
	step := func(key int, text string) {
		switch _, there := at[key]; {
		case text != "":
			at = at.with(key, text)
			h = puts(t, a, h, Entry{key, text}, at)
		case there:
			at = at.without(key)
			h = cuts(t, a, h, key, at)
		}
	}
	for range 3 * len(keys) {
		key := keys[r.IntN(len(keys))]
		step(key, []string{"", "other", s[key]}[r.IntN(3)])
	}
	for _, i := range r.Perm(len(keys)) {
		step(keys[i], s[keys[i]])
	}
	return h
}

// P10.2: in one arena the same entries have one handle, built at once or put one by one, in whatever order they came, and went
func TestOne(t *testing.T) {
	r := rand.New(rand.NewPCG(10, 4))
	for i := range 200 {
		var keys []int
		for range 1 + r.IntN(12) {
			keys = append(keys, few()[r.IntN(6)], r.IntN(1024))
		}
		slices.Sort(keys)
		keys = slices.Compact(keys)
		s := sheet{}
		for _, key := range keys {
			if r.IntN(3) > 0 {
				s[key] = fmt.Sprint(r.IntN(3))
			}
		}
		a := made(t, 5000)
		first := 0
		if i%2 == 0 {
			first = builds(t, a, s.rising()...)
		} else {
			first = path(t, r, a, s, keys)
		}
		for range 4 {
			if h := path(t, r, a, s, keys); h != first {
				t.Fatalf("%v: %d, then %d", s, first, h)
			}
			if h := builds(t, a, shuffled(r, s)...); h != first {
				t.Fatalf("%v: %d, built %d", s, first, h)
			}
		}
		has(t, a, first, s)
	}
}

// P10.2, P10.3: all keys put one by one, in any order, and taken away again: one handle on both ways, and at most 4 nodes a Put
func TestLong(t *testing.T) {
	r := rand.New(rand.NewPCG(10, 5))
	a := made(t, api.MaxNodes)
	s := everything()
	l := shuffled(r, s)
	handles := []int{0}
	for _, x := range l {
		ahead := a.Len()
		h, e := Put(a, handles[len(handles)-1], x)
		if e != api.OK || a.Len() > ahead+4 {
			t.Fatalf("%v: %d, %d nodes, were %d", x, e, a.Len(), ahead)
		}
		handles = append(handles, h)
	}
	if h := builds(t, a, shuffled(r, s)...); h != handles[1024] {
		t.Errorf("all: %d, built %d", handles[1024], h)
	}
	for i := len(l) - 1; i >= 0; i-- {
		if h, e := Delete(a, handles[i+1], l[i].Key); e != api.OK || h != handles[i] {
			t.Fatalf("%d of them: %d %d, want %d", i, h, e, handles[i])
		}
	}
	for i := 0; i <= 1024; i += 64 {
		at := sheet{}
		for _, x := range l[:i] {
			at[x.Key] = x.Text
		}
		if !slices.Equal(All(a, handles[i]), at.rising()) || builds(t, a, shuffled(r, at)...) != handles[i] {
			t.Errorf("%d of them: %d entries", i, len(All(a, handles[i])))
		}
	}
}

// P10.3: what many tries have, of small sheets and of great ones, stays, whatever is put and deleted; a Put lays at most 4 nodes
func TestShared(t *testing.T) {
	r := rand.New(rand.NewPCG(10, 6))
	for _, spread := range []int{4, 40, 1024} {
		a := made(t, api.MaxNodes)
		handles, know := []int{0}, map[int]sheet{0: {}}
		for range 150 {
			h := handles[max(0, len(handles)-1-r.IntN(4))]
			s, key := know[h], few()[r.IntN(6)]*r.IntN(2)
			if spread > 4 {
				key = r.IntN(spread)
			}
			ahead := reading(a)
			g, e := 0, api.OK
			if _, ok := s[key]; ok && r.IntN(2) > 0 {
				s = s.without(key)
				g, e = Delete(a, h, key)
			} else {
				s = s.with(key, fmt.Sprint(r.IntN(9)))
				g, e = Put(a, h, Entry{key, s[key]})
				if a.Len() > len(ahead)+4 {
					t.Fatalf("%v: %d nodes, were %d", s, a.Len(), len(ahead))
				}
			}
			if was, ok := know[g]; e != api.OK || ok && !maps.Equal(was, s) || drawn(a, g) != s.plain() {
				t.Fatalf("%v: %d %d, was %v", s, g, e, was)
			}
			now := reading(a)
			for h, is := range ahead {
				if now[h] != is {
					t.Fatalf("%d: %s, was %s", h, now[h], is)
				}
			}
			handles, know[g] = append(handles, g), s
		}
		for h, s := range know {
			has(t, a, h, s)
		}
	}
}

// P1: on a nil arena every call ends, with ErrArg ahead of all else, or with nothing
func TestNil(t *testing.T) {
	for _, h := range []int{0, 1, -1, 65536, most, least} {
		for _, key := range append(none(), 0, 25, 1023) {
			if text, is := Get(nil, h, key); text != "" || is {
				t.Errorf("Get: %q %v", text, is)
			}
			if g, e := Put(nil, h, Entry{key, "x"}); g != 0 || e != api.ErrArg {
				t.Errorf("Put: %d %d", g, e)
			}
			if g, e := Delete(nil, h, key); g != 0 || e != api.ErrArg {
				t.Errorf("Delete: %d %d", g, e)
			}
		}
		if Is(nil, h) || len(All(nil, h)) != 0 {
			t.Errorf("%d: %v", h, All(nil, h))
		}
	}
	for _, l := range [][]Entry{nil, {{1, "x"}}, {{1, "x"}, {1, "y"}}, {{-1, "x"}}, {{1, ""}}} {
		if h, e := Build(nil, l...); h != 0 || e != api.ErrArg {
			t.Errorf("%v: %d %d", l, h, e)
		}
	}
}

// P10.1, P1: arenas without room, and one that nobody made
func TestBare(t *testing.T) {
	for _, a := range []*arena.Arena{made(t, 0), {}} {
		has(t, a, 0, sheet{})
		lacks(t, a, 1)
		builds(t, a)
		if h, e := Build(a, Entry{1, "x"}); h != 0 || e != api.ErrFull {
			t.Errorf("Build: %d %d", h, e)
		}
		if h, e := Put(a, 0, Entry{1, "x"}); h != 0 || e != api.ErrFull {
			t.Errorf("Put: %d %d", h, e)
		}
		if h, e := Delete(a, 0, 1); h != 0 || e != api.ErrNone {
			t.Errorf("Delete: %d %d", h, e)
		}
	}
}

// P1: chains of forks, such as are gone through on very many ways, and nodes with very many Refs, are told of
func TestDeep(t *testing.T) {
	a := made(t, api.MaxNodes)
	x := builds(t, a, Entry{0, "x"})
	h := x
	for range api.MaxNodes / 2 {
		h = lays(t, a, arena.Node{Kind: 3, Nums: []int{1}, Refs: []int{h}})[0]
	}
	lacks(t, a, h)
	h = x
	for range 1000 {
		h = lays(t, a, arena.Node{Kind: 3, Nums: []int{3}, Refs: []int{h, h}})[0]
	}
	lacks(t, a, h)
	for _, n := range []arena.Node{{Kind: 2}, {Kind: 3, Nums: []int{-1}}, {Kind: 1, Nums: []int{0}, Text: "x"}} {
		n.Refs = slices.Repeat([]int{x, 0, h}, 100000)
		lacks(t, a, lays(t, a, n)[0])
	}
	many := arena.Node{Kind: 3, Nums: []int{1<<32 - 1}}
	for key := range 32 {
		h = builds(t, a, Entry{key, "x"})
		many.Refs = append(many.Refs, h)
	}
	lacks(t, a, lays(t, a, many)[0])
	has(t, a, x, sheet{0: "x"})
}

// Rule 4: what is handed in is neither written nor kept, and behind its length nothing is looked at; what is answered is new
func TestMemory(t *testing.T) {
	a := made(t, 50)
	l := []Entry{{25, "y"}, {5, "z"}, {0, "x"}, {-1, ""}, {25, "w"}}
	ahead := slices.Clone(l)
	h := builds(t, a, l[:3]...)
	if !slices.Equal(l, ahead) {
		t.Errorf("written: %v", l)
	}
	l[0], l[1].Text = Entry{9, "w"}, "w"
	want := sheet{0: "x", 5: "z", 25: "y"}
	has(t, a, h, want)
	all := All(a, h)
	all[0], all[1].Text = Entry{9, "w"}, "w"
	_ = append(all, Entry{1, "v"})
	has(t, a, h, want)
	both := append(All(a, h), All(a, h)...)
	both[0].Text = "w"
	if both[3].Text != "x" {
		t.Errorf("shared: %v", both)
	}
	if g := builds(t, a, want.rising()...); g != h || a.Len() != 5 {
		t.Errorf("%d, was %d", g, h)
	}
}

// tossed is a key, mostly one of those that share hashes and digits, and a text; rarely they may not be.
func tossed(r *rand.Rand) Entry {
	x := Entry{few()[r.IntN(6)], string("abc"[r.IntN(3)])}
	switch r.IntN(40) {
	case 0:
		x.Key = none()[r.IntN(len(none()))]
	case 1:
		x.Text = flawed()[r.IntN(len(flawed()))]
	case 2, 3, 4, 5:
		x.Key = r.IntN(1024)
	}
	return x
}

// equal holds an arena against a world: which nodes it has, that none of them went or changed, and what is read of each handle.
func equal(t *testing.T, a *arena.Arena, w *world) {
	t.Helper()
	if a.Len() != len(w.live) {
		t.Fatalf("%d nodes, want %d", a.Len(), len(w.live))
	}
	for _, h := range a.Live() {
		is := drawn(a, h)
		if was, ok := w.at[h]; ok && was != is {
			t.Fatalf("%d: %s, was %s", h, is, was)
		}
		if _, ok := w.live[is]; !ok {
			t.Fatalf("%d: %s", h, is)
		}
		w.at[h] = is
	}
	if len(w.at) != len(w.live)+1 {
		t.Fatalf("%d handles, want %d", len(w.at), len(w.live)+1)
	}
	for h := range w.room + 2 {
		s, is := w.trie(h)
		if Is(a, h) != is || !slices.Equal(All(a, h), s.rising()) {
			t.Fatalf("%s: %v %v", w.at[h], Is(a, h), All(a, h))
		}
		for _, key := range few() {
			text, ok := s[key]
			if got, has := Get(a, h, key); got != text || has != ok {
				t.Fatalf("%d of %s: %q %v", key, w.at[h], got, has)
			}
		}
	}
}

// act does one thing at random to two arenas alike, and to a world; what the world says of it.
func act(t *testing.T, r *rand.Rand, a, b *arena.Arena, w *world) api.Errno {
	t.Helper()
	h, x := r.IntN(w.room+2), tossed(r)
	if _, is := w.trie(h); !is && r.IntN(4) > 0 {
		h = 0
	}
	var s sheet
	var e api.Errno
	var call func(a *arena.Arena) (int, api.Errno)
	switch r.IntN(8) {
	case 0:
		var roots []int
		for g := range w.at {
			if _, is := w.trie(g); is && r.IntN(3) == 0 {
				roots = append(roots, g)
			}
		}
		a.Sweep(roots...)
		b.Sweep(roots...)
		w.sweep(roots)
		return api.OK
	case 1, 2:
		var l []Entry
		for range r.IntN(6) {
			l = append(l, tossed(r))
		}
		s, e = w.build(l)
		call = func(a *arena.Arena) (int, api.Errno) { return Build(a, l...) }
	case 3, 4:
		s, e = w.cut(h, x.Key)
		call = func(a *arena.Arena) (int, api.Errno) { return Delete(a, h, x.Key) }
	default:
		s, e = w.put(h, x)
		call = func(a *arena.Arena) (int, api.Errno) { return Put(a, h, x) }
	}
	g, f := call(a)
	if k, d := call(b); k != g || d != f {
		t.Fatalf("two arenas: %d %d, %d %d", g, f, k, d)
	}
	if f != e || e != api.OK && g != 0 || e == api.OK && drawn(a, g) != s.plain() {
		t.Fatalf("%s, %v: %s %d, want %s %d", w.at[h], x, drawn(a, g), f, s.plain(), e)
	}
	return e
}

// P10.1, P10.2, P10.3, P2: any calls, and sweeps, on arenas of little room come to what a model comes to that knows nodes as texts; and two arenas answer alike
func TestTable(t *testing.T) {
	r := rand.New(rand.NewPCG(10, 7))
	met := map[api.Errno]int{}
	for range 150 {
		room := r.IntN(40)
		a, b, w := made(t, room), made(t, room), worldly(room)
		for range 40 {
			met[act(t, r, a, b, w)]++
			equal(t, a, w)
		}
	}
	for _, e := range []api.Errno{api.OK, api.ErrArg, api.ErrFull, api.ErrNone, api.ErrTwice} {
		if met[e] < 200 {
			t.Errorf("%d: met %d times", e, met[e])
		}
	}
}
