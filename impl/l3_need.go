package impl

import (
	"slices"
	"strings"
)

// Kinds of needs.
const (
	NeedAny  = 0
	NeedSame = 1
	NeedFrom = 2
	NeedLess = 3
)

// Limits of versions.
const (
	versionParts = 4
	versionMost  = 999
)

// Need is a pack that is needed: its name, and which versions.
type Need struct {
	Name    string
	Kind    int
	Version string
}

// VersionOk says whether a text is a version.
func VersionOk(s string) bool {
	_, ok := versionOf(s)
	return ok
}

// VersionOrder says which of two versions is elder: -1, 0 or 1.
func VersionOrder(a string, b string) int {
	first, one := versionOf(a)
	second, two := versionOf(b)
	if !one || !two {
		return 0
	}
	return first.order(second)
}

// NeedOk says whether a need is ok.
func NeedOk(n Need) bool {
	_, ok := askOf(n)
	return ok && packNameOk(n.Name)
}

// NeedPut writes a need.
func NeedPut(n Need) string {
	if !NeedOk(n) {
		return ""
	}
	return n.Name + needMark(n.Kind) + n.Version
}

// NeedGet reads a need.
func NeedGet(text string) (Need, bool) {
	end := 0
	for end < len(text) && isPackByte(text[end]) {
		end++
	}
	for kind := NeedAny; kind <= NeedLess; kind++ {
		behind, found := strings.CutPrefix(text[end:], needMark(kind))
		n := Need{Name: text[:end], Kind: kind, Version: behind}
		if found && NeedOk(n) {
			return n, true
		}
	}
	return Need{}, false
}

// NeedFits says whether a pack of a name and a version is what is needed.
func NeedFits(n Need, name string, version string) bool {
	v, ok := versionOf(version)
	asks, fine := askOf(n)
	return ok && fine && packNameOk(n.Name) && name == n.Name && asks(v)
}

// numbers are what a version is made of, the weightiest first.
type numbers []int

func versionOf(s string) (numbers, bool) {
	var v numbers
	for part := range partsOf(s, '.') {
		number, ok := numberOf(part, versionMost)
		if !ok || len(v) == versionParts {
			return nil, false
		}
		v = append(v, number)
	}
	return v, true
}

// order is -1, 0 or 1, as v is elder, the same or later; a list that ends first counts as less, as a missing number must.
func (v numbers) order(other numbers) int {
	return slices.Compare(v, other)
}

func (v numbers) elder(other numbers) bool {
	return v.order(other) < 0
}

func (v numbers) same(other numbers) bool {
	return v.order(other) == 0
}

// packNameOk says whether a text is a pack name.
func packNameOk(name string) bool {
	return name != "" && len(name) <= NameMax && !isFigure(name[0]) && allBytes(name, isPackByte)
}

func isPackByte(b byte) bool {
	return isLetter(b) || isFigure(b)
}

// needMark is what stands between name and version. No kind but NeedAny has an empty one, so that each text tells its kind.
func needMark(kind int) string {
	switch kind {
	case NeedSame:
		return "="
	case NeedFrom:
		return ">="
	case NeedLess:
		return "<"
	}
	return ""
}

// askOf is what a need asks of a version; false if its Kind and Version don't go together.
func askOf(n Need) (func(numbers) bool, bool) {
	if n.Kind == NeedAny {
		return func(numbers) bool { return true }, n.Version == ""
	}
	own, ok := versionOf(n.Version)
	switch n.Kind {
	case NeedSame:
		return func(v numbers) bool { return v.same(own) }, ok
	case NeedFrom:
		return func(v numbers) bool { return !v.elder(own) }, ok
	case NeedLess:
		return func(v numbers) bool { return v.elder(own) }, ok
	}
	return nil, false
}
