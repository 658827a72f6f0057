// Package impl: recipes, packs, a root.
package impl

import (
	"iter"
	"strings"
)

// Limits of paths.
const (
	NameMax = 10
	PartMax = 5
	GlobMax = 40
)

// PathOk says whether a text is a path.
func PathOk(s string) bool {
	count := 0
	for name := range partsOf(s, '/') {
		count++
		if count > PartMax || !nameOk(name) {
			return false
		}
	}
	return true
}

// PathUp is the path that a path is in; empty if it is in none.
func PathUp(s string) string {
	slash := strings.LastIndexByte(s, '/')
	if slash < 0 || !PathOk(s) {
		return ""
	}
	return s[:slash]
}

// PathLast is the last name of a path.
func PathLast(s string) string {
	if !PathOk(s) {
		return ""
	}
	return s[strings.LastIndexByte(s, '/')+1:]
}

// PathIn says whether a path is a place, or below it.
func PathIn(place string, s string) bool {
	if !PathOk(place) || !PathOk(s) {
		return false
	}
	return s == place || strings.HasPrefix(s, place+"/")
}

// PathMove is a path with another place instead of one that it is at, or below.
func PathMove(s string, from string, to string) string {
	if !PathIn(from, s) || !PathOk(to) {
		return ""
	}
	moved := to + s[len(from):]
	if !PathOk(moved) {
		return ""
	}
	return moved
}

// GlobOk says whether a text is a pattern.
func GlobOk(g string) bool {
	_, ok := globOf(g)
	return ok
}

// GlobHas says whether a path is one of a pattern.
func GlobHas(g string, s string) bool {
	takes, ok := globOf(g)
	return ok && PathOk(s) && takes(partsOf(s, '/'))
}

// partsOf tells what stands between marks in a text, one by one; there is always one part more than marks, so that an empty part is seen and can be refused.
func partsOf(s string, mark byte) iter.Seq[string] {
	return func(yield func(string) bool) {
		rest := s
		for {
			end := strings.IndexByte(rest, mark)
			if end < 0 {
				yield(rest)
				return
			}
			if !yield(rest[:end]) {
				return
			}
			rest = rest[end+1:]
		}
	}
}

// bytesOf tells the bytes of a text; a range over the text itself would tell runes.
func bytesOf(s string) iter.Seq[byte] {
	return func(yield func(byte) bool) {
		for i := 0; i < len(s); i++ {
			if !yield(s[i]) {
				return
			}
		}
	}
}

// nameOk says whether a text is a name of a path.
func nameOk(name string) bool {
	return name != "" && len(name) <= NameMax && name != "." && name != ".." && allBytes(name, isNameByte)
}

func isNameByte(b byte) bool {
	return isFigure(b) || isLetter(b) || b == '.' || b == '_' || b == '-'
}

func isLetter(b byte) bool {
	return 'a' <= b && b <= 'z'
}

func isFigure(b byte) bool {
	return '0' <= b && b <= '9'
}

// allBytes says whether a function takes each byte of a text.
func allBytes(s string, takes func(byte) bool) bool {
	for b := range bytesOf(s) {
		if !takes(b) {
			return false
		}
	}
	return true
}

// want is one place of a pattern: any run of items, also of none, or one item that a function takes. A pattern is wants of names, and a name of it wants of bytes.
type want[T any] struct {
	run   bool
	takes func(T) bool
}

// takesAll says whether wants, one behind the other, take just these items. It keeps all places where a pattern may stand at once: going back for each star would take too long where there are many.
func takesAll[T any](wants []want[T], items iter.Seq[T]) bool {
	here := make([]bool, len(wants)+1)
	here[0] = true
	skipRuns(wants, here)
	for item := range items {
		here = passItem(wants, here, item)
	}
	return here[len(wants)]
}

// passItem is where a pattern may stand behind one more item.
func passItem[T any](wants []want[T], here []bool, item T) []bool {
	next := make([]bool, len(here))
	for i, w := range wants {
		switch {
		case !here[i]:
		case w.run:
			next[i] = true
		case w.takes(item):
			next[i+1] = true
		}
	}
	skipRuns(wants, next)
	return next
}

// skipRuns adds the places behind runs that take nothing.
func skipRuns[T any](wants []want[T], here []bool) {
	for i, w := range wants {
		if here[i] && w.run {
			here[i+1] = true
		}
	}
}

// glob is a pattern that was read once, and is then asked by names.
type glob func(names iter.Seq[string]) bool

func globOf(g string) (glob, bool) {
	if len(g) > GlobMax {
		return nil, false
	}
	var wants []want[string]
	for name := range partsOf(g, '/') {
		w, ok := nameWant(name)
		if !ok || len(wants) == PartMax {
			return nil, false
		}
		wants = append(wants, w)
	}
	return func(names iter.Seq[string]) bool {
		return takesAll(wants, names)
	}, true
}

// nameWant is what a name of a pattern wants; false if it is none.
func nameWant(name string) (want[string], bool) {
	if name == "**" {
		return want[string]{run: true}, true
	}
	wants, ok := byteWants(name)
	takes := func(s string) bool {
		return takesAll(wants, bytesOf(s))
	}
	return want[string]{takes: takes}, ok
}

func byteWants(name string) ([]want[byte], bool) {
	var wants []want[byte]
	rest := name
	for rest != "" {
		w, size, ok := firstWant(rest)
		if !ok {
			return nil, false
		}
		wants = append(wants, w)
		rest = rest[size:]
	}
	return wants, len(wants) > 0
}

// firstWant is what the beginning of a text that is not empty wants, and how many bytes tell it.
func firstWant(s string) (want[byte], int, bool) {
	first := s[0]
	switch {
	case first == '*':
		return want[byte]{run: true}, 1, true
	case first == '?':
		return want[byte]{takes: func(byte) bool { return true }}, 1, true
	case first == '[':
		return classWant(s)
	case isNameByte(first):
		return want[byte]{takes: func(b byte) bool { return b == first }}, 1, true
	}
	return want[byte]{}, 0, false
}

// classWant reads a class at the beginning of a text.
func classWant(s string) (want[byte], int, bool) {
	end := strings.IndexByte(s, ']')
	if end < 0 {
		return want[byte]{}, 0, false
	}
	inner, others := strings.CutPrefix(s[1:end], "!")
	if inner == "" || !allBytes(inner, isNameByte) {
		return want[byte]{}, 0, false
	}
	takes := func(b byte) bool {
		return (strings.IndexByte(inner, b) >= 0) != others
	}
	return want[byte]{takes: takes}, end + 1, true
}
