package impl

import (
	"iter"
	"math/bits"
	"slices"
	"strconv"
	"strings"
)

// Limits of trees.
const (
	TreeMax = 16
	TextMax = 80
	ModeMax = 7
)

// Kinds of entries.
const (
	EntryDir  = 1
	EntryFile = 2
	EntryLink = 3
)

// Entry is a place of a tree: what is in it, what it says, or where it leads.
type Entry struct {
	Path string
	Kind int
	Mode int
	Text string
}

// TreeOk says whether entries are a tree.
func TreeOk(t []Entry) bool {
	_, ok := treeOf(t)
	return ok
}

// TreeGet is what is at a path.
func TreeGet(t []Entry, path string) (Entry, bool) {
	m, _ := treeOf(t)
	n, there := m.get(path)
	if !there {
		return Entry{}, false
	}
	return entryOf(path, n), true
}

// TreePut puts an entry in its place.
func TreePut(t []Entry, e Entry) ([]Entry, bool) {
	m, ok := treeOf(t)
	done := ok && m.putEntry(e)
	return m.entries(), done
}

// TreeDrop takes away what is at a path, and all below it.
func TreeDrop(t []Entry, path string) ([]Entry, bool) {
	m, _ := treeOf(t)
	_, there := m.get(path)
	left := tree{}
	for at, n := range m.all() {
		if !PathIn(path, at) {
			left.put(at, n)
		}
	}
	return left.entries(), there
}

// TreeMove moves what is at a path, and all below it.
func TreeMove(t []Entry, from string, to string) ([]Entry, bool) {
	m, _ := treeOf(t)
	if !m.mayMove(from, to) {
		return m.entries(), false
	}
	moved := tree{}
	for at, n := range m.all() {
		place := at
		if PathIn(from, at) {
			place = PathMove(at, from, to)
		}
		if place == "" {
			return m.entries(), false
		}
		moved.put(place, n)
	}
	return moved.entries(), true
}

// TreeJoin is two trees in one, if no place is of both, but for dirs.
func TreeJoin(a []Entry, b []Entry) ([]Entry, bool) {
	both, one := treeOf(a)
	second, two := treeOf(b)
	if !one || !two {
		return nil, false
	}
	for at, n := range second.all() {
		old, there := both.get(at)
		if there && !sameDir(old, n) {
			return nil, false
		}
		both.put(at, n)
	}
	joined := both.entries()
	if !TreeOk(joined) {
		return nil, false
	}
	return joined, true
}

// TreePart is all of a tree of a pattern, and the dirs that it is in.
func TreePart(t []Entry, glob string) []Entry {
	m, _ := treeOf(t)
	takes, ok := globOf(glob)
	if !ok {
		return nil
	}
	part := tree{}
	for at := range m.all() {
		if takes(partsOf(at, '/')) {
			part.putWithDirs(m, at)
		}
	}
	return part.entries()
}

// TreeFollow is where links at a path lead.
func TreeFollow(t []Entry, path string) (Entry, bool) {
	m, _ := treeOf(t)
	at := path
	for range TreeMax + 1 {
		n, there := m.get(at)
		if !there {
			return Entry{}, false
		}
		text, isLink := linkText(n)
		if !isLink {
			return entryOf(at, n), true
		}
		at = text
	}
	return Entry{}, false
}

// TreeText writes a tree.
func TreeText(t []Entry) string {
	m, _ := treeOf(t)
	var text strings.Builder
	for at, n := range m.all() {
		text.WriteString(nodeText(at, n))
		text.WriteString("\n")
	}
	return text.String()
}

// TreeRead reads a tree.
func TreeRead(text string) ([]Entry, bool) {
	var list []Entry
	rest := text
	for rest != "" {
		e, behind, ok := readEntry(rest)
		if !ok || len(list) == TreeMax {
			return nil, false
		}
		list = append(list, e)
		rest = behind
	}
	if !TreeOk(list) {
		return nil, false
	}
	return list, true
}

// Sum is the first 16 figures of the SHA-256 of a text.
func Sum(text string) string {
	sum := newSummer()
	sum.write(text)
	return sum.figures()
}

// node is what stands at a path; its type is its kind.
type node interface {
	fine() bool
}

type dirNode struct {
	mode int
}

type fileNode struct {
	mode int
	text string
}

type linkNode struct {
	text string
}

func (d dirNode) fine() bool {
	return modeOk(d.mode)
}

func (f fileNode) fine() bool {
	return modeOk(f.mode) && textOk(f.text)
}

func (l linkNode) fine() bool {
	return PathOk(l.text)
}

func modeOk(mode int) bool {
	return 0 <= mode && mode <= ModeMax
}

// textOk says whether a text may be a file's.
func textOk(text string) bool {
	return len(text) <= TextMax && allBytes(text, isTextByte)
}

func isTextByte(b byte) bool {
	return isLineByte(b) || b == '\n'
}

func isLineByte(b byte) bool {
	return 32 <= b && b <= 126
}

// nodeOf is what an entry that is ok has at its path; false of any other.
func nodeOf(e Entry) (node, bool) {
	var n node
	switch {
	case e.Kind == EntryDir && e.Text == "":
		n = dirNode{mode: e.Mode}
	case e.Kind == EntryFile:
		n = fileNode{mode: e.Mode, text: e.Text}
	case e.Kind == EntryLink && e.Mode == 0:
		n = linkNode{text: e.Text}
	default:
		return nil, false
	}
	return n, PathOk(e.Path) && n.fine()
}

func entryOf(path string, n node) Entry {
	e := Entry{Path: path}
	switch x := n.(type) {
	case dirNode:
		e.Kind, e.Mode = EntryDir, x.mode
	case fileNode:
		e.Kind, e.Mode, e.Text = EntryFile, x.mode, x.text
	case linkNode:
		e.Kind, e.Text = EntryLink, x.text
	}
	return e
}

// nodeText is what TreeText writes of an entry, without the newline behind it.
func nodeText(path string, n node) string {
	switch x := n.(type) {
	case dirNode:
		return "dir " + strconv.Itoa(x.mode) + " " + path
	case fileNode:
		return "file " + strconv.Itoa(x.mode) + " " + path + " " + strconv.Itoa(len(x.text)) + "\n" + x.text
	case linkNode:
		return "link " + path + " " + x.text
	}
	return ""
}

// linkText is where a link leads; false of all else.
func linkText(n node) (string, bool) {
	link, isLink := n.(linkNode)
	return link.text, isLink
}

func isDir(n node) bool {
	_, is := n.(dirNode)
	return is
}

// sameDir says whether both are dirs, and the same.
func sameDir(a node, b node) bool {
	return isDir(a) && a == b
}

// readEntry reads one entry at the beginning of a text, and is what stands behind it. Whether the entry is ok is left to TreeOk.
func readEntry(text string) (Entry, string, bool) {
	line, rest, found := strings.Cut(text, "\n")
	words := strings.Split(line, " ")
	switch {
	case !found:
		return Entry{}, "", false
	case words[0] == "dir" && len(words) == 3:
		mode, ok := numberOf(words[1], ModeMax)
		return Entry{Path: words[2], Kind: EntryDir, Mode: mode}, rest, ok
	case words[0] == "file" && len(words) == 4:
		return readFile(words, rest)
	case words[0] == "link" && len(words) == 3:
		return Entry{Path: words[1], Kind: EntryLink, Text: words[2]}, rest, true
	}
	return Entry{}, "", false
}

// readFile reads a file whose first line is words already: its Text goes by length, since newlines may be in it.
func readFile(words []string, rest string) (Entry, string, bool) {
	mode, fine := numberOf(words[1], ModeMax)
	size, ok := numberOf(words[3], TextMax)
	if !fine || !ok || len(rest) <= size || rest[size] != '\n' {
		return Entry{}, "", false
	}
	return Entry{Path: words[2], Kind: EntryFile, Mode: mode, Text: rest[:size]}, rest[size+1:], true
}

// numberOf reads a number in 0..most, without needless zeros.
func numberOf(s string, most int) (int, bool) {
	if s == "" || len(s) > 1 && s[0] == '0' || !allBytes(s, isFigure) {
		return 0, false
	}
	number := 0
	for b := range bytesOf(s) {
		number = number*10 + int(b-'0')
		if number > most {
			return 0, false
		}
	}
	return number, true
}

// pathMap is a map by path that keeps its order: paths ascend, and each value is at the place of its path.
type pathMap[V any] struct {
	paths  []string
	values []V
}

func (m *pathMap[V]) get(path string) (V, bool) {
	place, there := slices.BinarySearch(m.paths, path)
	if !there {
		var none V
		return none, false
	}
	return m.values[place], true
}

func (m *pathMap[V]) put(path string, value V) {
	place, there := slices.BinarySearch(m.paths, path)
	if there {
		m.values[place] = value
		return
	}
	m.paths = slices.Insert(m.paths, place, path)
	m.values = slices.Insert(m.values, place, value)
}

func (m *pathMap[V]) all() iter.Seq2[string, V] {
	return func(yield func(string, V) bool) {
		for i, path := range m.paths {
			if !yield(path, m.values[i]) {
				return
			}
		}
	}
}

// tree is entries that were found to be a tree.
type tree struct {
	pathMap[node]
}

// treeOf is the tree that entries are; an empty one and false if they are none. A dir comes ahead of all that is in it, so that each entry can be held against those ahead of it.
func treeOf(t []Entry) (tree, bool) {
	m := tree{}
	for i, e := range t {
		if i > 0 && e.Path <= t[i-1].Path || !m.putEntry(e) {
			return tree{}, false
		}
	}
	return m, true
}

func (m *tree) entries() []Entry {
	var list []Entry
	for path, n := range m.all() {
		list = append(list, entryOf(path, n))
	}
	return list
}

// putEntry puts an entry in, or leaves all as it is and is false, if it can't be.
func (m *tree) putEntry(e Entry) bool {
	n, ok := nodeOf(e)
	if !ok || !m.hasPlace(e.Path) {
		return false
	}
	old, there := m.get(e.Path)
	if there && entryOf(e.Path, old).Kind != e.Kind {
		return false
	}
	if !there && len(m.paths) == TreeMax {
		return false
	}
	m.put(e.Path, n)
	return true
}

// hasPlace says whether a path is at the top, or in a dir.
func (m *tree) hasPlace(path string) bool {
	up := PathUp(path)
	if up == "" {
		return true
	}
	n, _ := m.get(up)
	return isDir(n)
}

func (m *tree) mayMove(from string, to string) bool {
	_, isFrom := m.get(from)
	_, isTo := m.get(to)
	return isFrom && !isTo && PathOk(to) && !PathIn(from, to) && m.hasPlace(to)
}

// putWithDirs puts in what another tree has at a path, and all dirs that it is in.
func (m *tree) putWithDirs(other tree, path string) {
	for at := path; at != ""; at = PathUp(at) {
		n, _ := other.get(at)
		m.put(at, n)
	}
}

// onlyDirsIn says whether all that is in a path, or at it, is dirs.
func (m *tree) onlyDirsIn(path string) bool {
	for at, n := range m.all() {
		if PathIn(path, at) && !isDir(n) {
			return false
		}
	}
	return true
}

const hexFigures = "0123456789abcdef"

// sumStart are the first 32 bits of the fractions of the square roots of the first 8 primes (FIPS 180-4, 5.3.3).
var sumStart = [8]uint32{
	0x6a09e667, 0xbb67ae85, 0x3c6ef372, 0xa54ff53a, 0x510e527f, 0x9b05688c, 0x1f83d9ab, 0x5be0cd19,
}

// sumRounds are the first 32 bits of the fractions of the cube roots of the first 64 primes (FIPS 180-4, 4.2.2).
var sumRounds = [64]uint32{
	0x428a2f98, 0x71374491, 0xb5c0fbcf, 0xe9b5dba5, 0x3956c25b, 0x59f111f1, 0x923f82a4, 0xab1c5ed5,
	0xd807aa98, 0x12835b01, 0x243185be, 0x550c7dc3, 0x72be5d74, 0x80deb1fe, 0x9bdc06a7, 0xc19bf174,
	0xe49b69c1, 0xefbe4786, 0x0fc19dc6, 0x240ca1cc, 0x2de92c6f, 0x4a7484aa, 0x5cb0a9dc, 0x76f988da,
	0x983e5152, 0xa831c66d, 0xb00327c8, 0xbf597fc7, 0xc6e00bf3, 0xd5a79147, 0x06ca6351, 0x14292967,
	0x27b70a85, 0x2e1b2138, 0x4d2c6dfc, 0x53380d13, 0x650a7354, 0x766a0abb, 0x81c2c92e, 0x92722c85,
	0xa2bfe8a1, 0xa81a664b, 0xc24b8b70, 0xc76c51a3, 0xd192e819, 0xd6990624, 0xf40e3585, 0x106aa070,
	0x19a4c116, 0x1e376c08, 0x2748774c, 0x34b0bcb5, 0x391c0cb3, 0x4ed8aa4a, 0x5b9cca4f, 0x682e6ff3,
	0x748f82ee, 0x78a5636f, 0x84c87814, 0x8cc70208, 0x90befffa, 0xa4506ceb, 0xbef9a3f7, 0xc67178f2,
}

// sumBytes is how many bytes a block has.
const sumBytes = 64

// summer sums up what is written to it, piece by piece; it keeps no more than what makes no whole block yet.
type summer struct {
	hash [8]uint32
	rest []byte
	size int
}

func newSummer() *summer {
	return &summer{hash: sumStart}
}

func (s *summer) write(text string) {
	s.size += len(text)
	s.hash, s.rest = sumBlocks(s.hash, append(s.rest, text...))
}

// figures is the first 16 figures of the sum of all that was written.
func (s *summer) figures() string {
	hash, _ := sumBlocks(s.hash, sumPadded(s.rest, s.size))
	var figures strings.Builder
	for _, word := range hash[:2] {
		for shift := 28; shift >= 0; shift -= 4 {
			figures.WriteByte(hexFigures[word>>shift&15])
		}
	}
	return figures.String()
}

// sumBlocks is a hash with all whole blocks of a text more, and what is left of it.
func sumBlocks(hash [8]uint32, text []byte) ([8]uint32, []byte) {
	for len(text) >= sumBytes {
		hash = sumBlock(hash, text[:sumBytes])
		text = text[sumBytes:]
	}
	return hash, text
}

// sumPadded is the end of a text, with a bit that is set, zeros, and how many bits the whole text has, in whole blocks.
func sumPadded(rest []byte, size int) []byte {
	padded := append(slices.Clone(rest), 0x80)
	for len(padded)%sumBytes != sumBytes-8 {
		padded = append(padded, 0)
	}
	count := uint64(size) * 8
	for shift := 56; shift >= 0; shift -= 8 {
		padded = append(padded, byte(count>>shift))
	}
	return padded
}

// sumSchedule is the 64 words that the rounds take of a block.
func sumSchedule(block []byte) [64]uint32 {
	var w [64]uint32
	for i := range 16 {
		for _, b := range block[4*i : 4*i+4] {
			w[i] = w[i]<<8 | uint32(b)
		}
	}
	for i := 16; i < 64; i++ {
		x, y := w[i-15], w[i-2]
		small := bits.RotateLeft32(x, -7) ^ bits.RotateLeft32(x, -18) ^ x>>3
		great := bits.RotateLeft32(y, -17) ^ bits.RotateLeft32(y, -19) ^ y>>10
		w[i] = w[i-16] + small + w[i-7] + great
	}
	return w
}

// sumBlock is a hash with one block more. Its letters are those of FIPS 180-4, 6.2.2.
func sumBlock(hash [8]uint32, block []byte) [8]uint32 {
	w := sumSchedule(block)
	a, b, c, d := hash[0], hash[1], hash[2], hash[3]
	e, f, g, h := hash[4], hash[5], hash[6], hash[7]
	for i := range 64 {
		great := bits.RotateLeft32(e, -6) ^ bits.RotateLeft32(e, -11) ^ bits.RotateLeft32(e, -25)
		t1 := h + great + (e&f ^ ^e&g) + sumRounds[i] + w[i]
		small := bits.RotateLeft32(a, -2) ^ bits.RotateLeft32(a, -13) ^ bits.RotateLeft32(a, -22)
		t2 := small + (a&b ^ a&c ^ b&c)
		a, b, c, d, e, f, g, h = t1+t2, a, b, c, d+t1, e, f, g
	}
	return [8]uint32{hash[0] + a, hash[1] + b, hash[2] + c, hash[3] + d, hash[4] + e, hash[5] + f, hash[6] + g, hash[7] + h}
}
