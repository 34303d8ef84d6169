package trie

import (
	"fmt"
	"maps"
	"slices"
	"strings"

	"gridiron/api"
	"gridiron/arena"
)

// Tries are held here against texts that nest: the one of a sheet is written down from the document's words, the one of a handle from
// the nodes that stand in the arena. A model of an arena is the texts of all nodes in it.

const (
	most  = 1<<63 - 1
	least = -1 << 63
)

// sheet is texts by keys.
type sheet map[int]string

// hashed is a key's hash, by its bits.
func hashed(key int) int { return (key + key<<3 + key<<5) & 1023 >> 1 }

// figures are a key's digits at level 0, and 1.
func figures(key int) [2]int { return [2]int{hashed(key) & 31, hashed(key) >> 5} }

// with is a sheet with one more entry.
func (s sheet) with(key int, text string) sheet {
	t := maps.Clone(s)
	t[key] = text
	return t
}

// without is a sheet without a key.
func (s sheet) without(key int) sheet {
	t := maps.Clone(s)
	delete(t, key)
	return t
}

// only are the entries that have a digit at a level.
func (s sheet) only(level, digit int) sheet {
	t := sheet{}
	for key, text := range s {
		if figures(key)[level] == digit {
			t[key] = text
		}
	}
	return t
}

// rising are a sheet's entries by their keys.
func (s sheet) rising() []Entry {
	var l []Entry
	for _, key := range slices.Sorted(maps.Keys(s)) {
		l = append(l, Entry{key, s[key]})
	}
	return l
}

// one tells whether all keys of a sheet have one hash.
func (s sheet) one() bool {
	met := map[int]bool{}
	for key := range s {
		met[hashed(key)] = true
	}
	return len(met) == 1
}

// written is a node as a text, its Refs as theirs.
func written(kind int, refs []string, nums []int, text string) string {
	return fmt.Sprintf("%d(%s)%v%q", kind, strings.Join(refs, ","), nums, text)
}

// text is that of a sheet's trie from a level on; all nodes of it come to others, with what each has.
func (s sheet) text(level int, to map[string]sheet) string {
	var refs []string
	is := "-"
	switch {
	case len(s) == 0:
		return is
	case len(s) == 1:
		for key, text := range s {
			is = written(1, nil, []int{key}, text)
		}
	case s.one():
		for _, x := range s.rising() {
			refs = append(refs, sheet{x.Key: x.Text}.text(level, to))
		}
		is = written(2, refs, nil, "")
	default:
		bits := 0
		for d := range 32 {
			if part := s.only(level, d); len(part) > 0 {
				bits += 1 << d
				refs = append(refs, part.text(level+1, to))
			}
		}
		is = written(3, refs, []int{bits}, "")
	}
	to[is] = s
	return is
}

// plain is the text of a sheet's trie.
func (s sheet) plain() string { return s.text(0, map[string]sheet{}) }

// parts are the texts of all nodes of a sheet's trie.
func (s sheet) parts() map[string]sheet {
	to := map[string]sheet{}
	s.text(0, to)
	return to
}

// drawn is the text of a handle, as the arena has it; what lies deeper than any trie's nodes, or is more than any has, is cut.
func drawn(a *arena.Arena, h int) string { return drawing(a, h, 5) }

func drawing(a *arena.Arena, h, deep int) string {
	n, e := a.Get(h)
	switch {
	case h == 0:
		return "-"
	case deep == 0 || e != api.OK || len(n.Refs) > 40:
		return "?"
	}
	var refs []string
	for _, r := range n.Refs {
		refs = append(refs, drawing(a, r, deep-1))
	}
	return written(n.Kind, refs, n.Nums, n.Text)
}

// laid puts a sheet's trie from a level on, node by node, each as it is bent; the handle of what this comes to.
func laid(a *arena.Arena, s sheet, level int, bend func(*arena.Node)) int {
	var n arena.Node
	switch {
	case len(s) == 0:
		return 0
	case len(s) == 1:
		x := s.rising()[0]
		n = arena.Node{Kind: 1, Nums: []int{x.Key}, Text: x.Text}
	case s.one():
		n.Kind = 2
		for _, x := range s.rising() {
			n.Refs = append(n.Refs, laid(a, sheet{x.Key: x.Text}, level, bend))
		}
	default:
		n = arena.Node{Kind: 3, Nums: []int{0}}
		for d := range 32 {
			if part := s.only(level, d); len(part) > 0 {
				n.Nums[0] += 1 << d
				n.Refs = append(n.Refs, laid(a, part, level+1, bend))
			}
		}
	}
	bend(&n)
	l, e := a.Put(n)
	if e != api.OK {
		panic(fmt.Sprintf("no room for %v: %d", n, e))
	}
	return l[0]
}

// straight bends nothing.
func straight(*arena.Node) {}

// world is what an arena is to have: so much room, nodes as texts, with what each has, and which handle has which.
type world struct {
	room int
	live map[string]sheet
	at   map[int]string
}

// worldly is an empty one.
func worldly(room int) *world { return &world{room, map[string]sheet{}, map[int]string{0: "-"}} }

// trie is what a handle has; false, if it is no trie's.
func (w *world) trie(h int) (sheet, bool) {
	if h == 0 {
		return sheet{}, true
	}
	s, ok := w.live[w.at[h]]
	if !ok || s.plain() != w.at[h] {
		return nil, false
	}
	return s, true
}

// lay is what becomes of a sheet's trie: ErrFull, if there is no room for what the world lacks of it.
func (w *world) lay(s sheet) (sheet, api.Errno) {
	all := maps.Clone(w.live)
	maps.Copy(all, s.parts())
	if len(all) > w.room {
		return nil, api.ErrFull
	}
	w.live = all
	return s, api.OK
}

// sound tells whether an entry may be.
func sound(x Entry) bool {
	return x.Key >= 0 && x.Key <= 1023 && len(x.Text) >= 1 && len(x.Text) <= 200
}

// build is what Build comes to.
func (w *world) build(l []Entry) (sheet, api.Errno) {
	s := sheet{}
	for _, x := range l {
		if !sound(x) {
			return nil, api.ErrArg
		}
		s[x.Key] = x.Text
	}
	if len(s) < len(l) {
		return nil, api.ErrTwice
	}
	return w.lay(s)
}

// put is what Put comes to.
func (w *world) put(h int, x Entry) (sheet, api.Errno) {
	s, ok := w.trie(h)
	if !ok || !sound(x) {
		return nil, api.ErrArg
	}
	return w.lay(s.with(x.Key, x.Text))
}

// cut is what Delete comes to.
func (w *world) cut(h, key int) (sheet, api.Errno) {
	s, ok := w.trie(h)
	if !ok || !sound(Entry{key, "x"}) {
		return nil, api.ErrArg
	}
	if _, ok := s[key]; !ok {
		return nil, api.ErrNone
	}
	return w.lay(s.without(key))
}

// sweep lets all nodes go that the roots' tries haven't.
func (w *world) sweep(roots []int) {
	live := map[string]sheet{}
	for _, h := range roots {
		s, _ := w.trie(h)
		maps.Copy(live, s.parts())
	}
	w.live = live
	maps.DeleteFunc(w.at, func(h int, is string) bool { _, ok := live[is]; return h > 0 && !ok })
}
