package delta

import (
	"fmt"
	"maps"
	"slices"

	"gridiron/api"
	"gridiron/arena"
	"gridiron/trie"
)

// Tries are held here against sheets that are maps: what differs is looked for key by key, and a change is made where it stands. What
// an arena is to have behind a call is what a second one has, in which the same tries are built out of entries.

const (
	most  = 1<<63 - 1
	least = -1 << 63
)

// sheet is texts by keys.
type sheet map[int]string

// entries are a sheet's, by their keys.
func (s sheet) entries() []trie.Entry {
	var l []trie.Entry
	for _, key := range slices.Sorted(maps.Keys(s)) {
		l = append(l, trie.Entry{Key: key, Text: s[key]})
	}
	return l
}

// with is a sheet with another text at a key, or without that, if it is empty.
func (s sheet) with(key int, text string) sheet {
	t := sheet{}
	maps.Copy(t, s)
	t[key] = text
	if text == "" {
		delete(t, key)
	}
	return t
}

// changes are what is to be told of two sheets.
func (s sheet) changes(t sheet) []Change {
	keys := append(slices.Collect(maps.Keys(s)), slices.Collect(maps.Keys(t))...)
	slices.Sort(keys)
	var l []Change
	for _, key := range slices.Compact(keys) {
		if s[key] != t[key] {
			l = append(l, Change{Key: key, From: s[key], To: t[key]})
		}
	}
	return l
}

// sound tells whether a change may be.
func sound(c Change) bool {
	key := c.Key >= 0 && c.Key <= 1023
	texts := len(c.From) <= 200 && len(c.To) <= 200
	return key && texts && c.From != c.To
}

// after is what a sheet is to become by changes.
func (s sheet) after(l []Change) (sheet, api.Errno) {
	keys := map[int]bool{}
	for _, c := range l {
		if !sound(c) {
			return nil, api.ErrArg
		}
		keys[c.Key] = true
	}
	if len(keys) != len(l) {
		return nil, api.ErrTwice
	}
	t := s
	for _, c := range l {
		text, ok := s[c.Key]
		if ok != (c.From != "") || text != c.From {
			return nil, api.ErrClash
		}
		t = t.with(c.Key, c.To)
	}
	return t, api.OK
}

// below are the handles of all nodes that a trie has, gone through one by one; where nodes refer to each other deeper than a trie's, that is cut.
func below(a *arena.Arena, h int) map[int]bool {
	met := map[int]bool{}
	descend(a, h, 5, met)
	return met
}

func descend(a *arena.Arena, h, deep int, met map[int]bool) {
	n, e := a.Get(h)
	if e != api.OK || deep == 0 {
		return
	}
	met[h] = true
	for _, r := range n.Refs {
		descend(a, r, deep-1, met)
	}
}

// common is how many nodes two tries both have.
func common(a *arena.Arena, g, h int) int {
	is := below(a, h)
	n := 0
	for x := range below(a, g) {
		if is[x] {
			n++
		}
	}
	return n
}

// reading are all nodes of an arena, as texts.
func reading(a *arena.Arena) map[int]string {
	l := map[int]string{}
	for _, h := range a.Live() {
		n, _ := a.Get(h)
		l[h] = fmt.Sprintf("%d %v %v %q", n.Kind, n.Refs, n.Nums, n.Text)
	}
	return l
}

// sized is how many nodes the tries of some sheets have.
func sized(l ...sheet) int {
	a, _ := arena.New(api.MaxNodes)
	for _, s := range l {
		if _, e := trie.Build(a, s.entries()...); e != api.OK {
			panic(fmt.Sprintf("%v: %d", s, e))
		}
	}
	return a.Len()
}
