package tests

import (
	"crypto/sha256"
	"encoding/hex"
	"math/rand/v2"
	"slices"
	"sort"
	"strconv"
	"strings"
	"testing"

	"loop.example/jackstay/impl"
)

func dir(path string, mode int) impl.Entry {
	return impl.Entry{Path: path, Kind: impl.EntryDir, Mode: mode}
}

func file(path string, mode int, text string) impl.Entry {
	return impl.Entry{Path: path, Kind: impl.EntryFile, Mode: mode, Text: text}
}

func link(path string, text string) impl.Entry {
	return impl.Entry{Path: path, Kind: impl.EntryLink, Text: text}
}

// entryRule says whether an entry is ok, word by word as the document has it.
func entryRule(e impl.Entry) bool {
	fine := impl.PathOk(e.Path)
	switch e.Kind {
	case 1:
		return fine && e.Mode >= 0 && e.Mode <= 7 && e.Text == ""
	case 2:
		for i := range len(e.Text) {
			fine = fine && (e.Text[i] >= 32 && e.Text[i] <= 126 || e.Text[i] == 10)
		}
		return fine && e.Mode >= 0 && e.Mode <= 7 && len(e.Text) <= 80
	case 3:
		return fine && e.Mode == 0 && impl.PathOk(e.Text)
	}
	return false
}

// treeRule says whether entries are a tree, likewise.
func treeRule(t []impl.Entry) bool {
	fine := len(t) <= 16
	for i, e := range t {
		up := impl.PathUp(e.Path)
		inDir := up == "" || slices.ContainsFunc(t, func(o impl.Entry) bool { return o.Path == up && o.Kind == 1 })
		fine = fine && entryRule(e) && inDir && (i == 0 || t[i-1].Path < e.Path)
	}
	return fine
}

func byPath(list ...impl.Entry) []impl.Entry {
	sorted := slices.Clone(list)
	sort.SliceStable(sorted, func(i, k int) bool { return sorted[i].Path < sorted[k].Path })
	return sorted
}

func without(t []impl.Entry, gone func(impl.Entry) bool) []impl.Entry {
	return slices.DeleteFunc(slices.Clone(t), gone)
}

func at(t []impl.Entry, path string) (impl.Entry, bool) {
	for _, e := range t {
		if e.Path == path {
			return e, true
		}
	}
	return impl.Entry{}, false
}

// chance is numbers that are the same in each run.
func chance(seed uint64) *rand.Rand {
	return rand.New(rand.NewPCG(seed, 1))
}

var treeNames = []string{"a", "b", "c", "a-b", "a.b", "a0", "_"}

func anyPath(r *rand.Rand) string {
	path := treeNames[r.IntN(len(treeNames))]
	for r.IntN(2) == 0 && strings.Count(path, "/") < 4 {
		path += "/" + treeNames[r.IntN(len(treeNames))]
	}
	return path
}

func anyEntry(r *rand.Rand, path string) impl.Entry {
	switch r.IntN(4) {
	case 0:
		return file(path, r.IntN(8), []string{"", "x", "one\ntwo\n", "\n\n", "dir 7 a\n", " ~"}[r.IntN(6)])
	case 1:
		return link(path, anyPath(r))
	}
	return dir(path, r.IntN(8))
}

// anyTree is a tree of up to so many entries, found by the rule alone.
func anyTree(r *rand.Rand, size int) []impl.Entry {
	var t []impl.Entry
	for range 6 * size {
		more := byPath(append(slices.Clone(t), anyEntry(r, anyPath(r)))...)
		if len(more) <= size && treeRule(more) {
			t = more
		}
	}
	return t
}

func someTrees() [][]impl.Entry {
	r := chance(7)
	trees := [][]impl.Entry{nil, {}, {dir("a", 0)}, {file("a", 7, strings.Repeat("~", 80))}, {link("a", "a")}, fullTree(), byPath(dir("a", 7), dir("a-b", 7), dir("a/b", 1), file("a/b/c", 2, "x"), file("a-b/c", 2, "y"), dir("a.b", 3))}
	for i := range 200 {
		trees = append(trees, anyTree(r, i%17))
	}
	return trees
}

// fullTree has as many entries as a tree may have.
func fullTree() []impl.Entry {
	t := []impl.Entry{dir("d", 7)}
	for i := range impl.TreeMax - 1 {
		t = append(t, file("d/"+string(rune('a'+i)), i%8, ""))
	}
	return t
}

// noTrees are entries that are no trees, each for another reason.
func noTrees() [][]impl.Entry {
	return [][]impl.Entry{
		{{}}, {dir("", 7)}, {dir("a/", 7)}, {dir("A", 7)}, {dir("a", 8)}, {dir("a", -1)}, {{Path: "a", Kind: 1, Text: "x"}},
		{file("a", 8, "")}, {file("a", -1, "")}, {file("a", 0, strings.Repeat("x", 81))}, {file("a", 0, "\t")}, {file("a", 0, "\x7f")}, {file("a", 0, "\x00")}, {file("a", 0, "\r\n")}, {file("a", 0, "ä")},
		{link("a", "")}, {link("a", "A")}, {link("a", "../a")}, {link("a", "a/b/c/d/e/f")}, {{Path: "a", Kind: 3, Mode: 1, Text: "b"}}, {{Path: "a", Kind: 3, Mode: -1, Text: "b"}},
		{{Path: "a", Kind: 0}}, {{Path: "a", Kind: 4}}, {{Path: "a", Kind: -1}}, {{Path: "a", Kind: 1 << 40}},
		{dir("a", 7), dir("a", 7)}, {dir("b", 7), dir("a", 7)}, {dir("a", 7), file("a", 7, "")}, {dir("a/b", 7)}, {dir("a/b", 7), dir("a", 7)}, {dir("a", 7), dir("a/b/c", 7)}, {file("a", 7, ""), file("a/b", 7, "")}, {link("a", "b"), file("a/c", 7, ""), dir("b", 7)}, {dir("a", 7), dir("a/b", 7), dir("a-b", 7)},
		append(fullTree(), dir("e", 0)), slices.Repeat([]impl.Entry{dir("a", 7)}, 1000),
		{dir("a", 7), dir("b", 7), {}},
	}
}

func wantTree(t *testing.T, what string, got []impl.Entry, want []impl.Entry) {
	t.Helper()
	if !slices.Equal(got, want) {
		t.Errorf("%s: %v, not %v", what, got, want)
	}
}

func TestTreeOk(t *testing.T) {
	for i, tree := range someTrees() {
		if !treeRule(tree) || !impl.TreeOk(tree) {
			t.Errorf("%d: %v is a tree", i, tree)
		}
	}
	for i, tree := range noTrees() {
		if treeRule(tree) || impl.TreeOk(tree) {
			t.Errorf("%d: %v is no tree", i, tree)
		}
	}
	r := chance(1)
	for range 3000 {
		list := byPath(anyEntry(r, anyPath(r)), anyEntry(r, anyPath(r)), anyEntry(r, anyPath(r)))
		if r.IntN(4) == 0 {
			list[0], list[1] = list[1], list[0]
		}
		if impl.TreeOk(list) != treeRule(list) {
			t.Errorf("%v", list)
		}
	}
	for b := range 256 {
		want := b >= 32 && b <= 126 || b == 10
		if impl.TreeOk([]impl.Entry{file("a", 0, string([]byte{'x', byte(b)}))}) != want {
			t.Errorf("byte %d", b)
		}
	}
}

func TestWrongTreesHaveFixedAnswers(t *testing.T) {
	for i, tree := range noTrees() {
		get, one := impl.TreeGet(tree, "a")
		follow, two := impl.TreeFollow(tree, "a")
		if one || two || get != (impl.Entry{}) || follow != (impl.Entry{}) {
			t.Errorf("%d: TreeGet or TreeFollow", i)
		}
		put, one := impl.TreePut(tree, dir("z", 7))
		drop, two := impl.TreeDrop(tree, "a")
		move, three := impl.TreeMove(tree, "a", "z")
		if one || two || three || len(put)+len(drop)+len(move) != 0 {
			t.Errorf("%d: TreePut, TreeDrop or TreeMove", i)
		}
		join, one := impl.TreeJoin(tree, nil)
		other, two := impl.TreeJoin(nil, tree)
		if one || two || len(join)+len(other)+len(impl.TreePart(tree, "**")) != 0 || impl.TreeText(tree) != "" {
			t.Errorf("%d: TreeJoin, TreePart or TreeText", i)
		}
	}
	for _, path := range append(noPaths(), "nowhere", "d/z", "d/a/x") {
		get, one := impl.TreeGet(fullTree(), path)
		follow, two := impl.TreeFollow(fullTree(), path)
		if one || two || get != (impl.Entry{}) || follow != (impl.Entry{}) {
			t.Errorf("at %.40q there is nothing", path)
		}
		drop, one := impl.TreeDrop(fullTree(), path)
		move, two := impl.TreeMove(fullTree(), path, "y")
		if one || two {
			t.Errorf("what is not there: %.40q", path)
		}
		wantTree(t, "drop of nothing", drop, fullTree())
		wantTree(t, "move of nothing", move, fullTree())
	}
}

// P6
func TestP6WhatWasPutIsThere(t *testing.T) {
	r := chance(6)
	for _, tree := range someTrees() {
		for range 20 {
			e := anyEntry(r, anyPath(r))
			old, there := at(tree, e.Path)
			want := byPath(append(without(tree, func(o impl.Entry) bool { return o.Path == e.Path }), e)...)
			may := treeRule(want) && (!there || old.Kind == e.Kind)
			if !may {
				want = tree
			}
			put, ok := impl.TreePut(tree, e)
			if ok != may {
				t.Errorf("TreePut(%v, %v) is %v", tree, e, ok)
			}
			wantTree(t, "put", put, want)
			got, found := impl.TreeGet(put, e.Path)
			if ok && (!found || got != e) {
				t.Errorf("%v was put, and is %v", e, got)
			}
			again, once := impl.TreePut(put, e)
			if ok && !once {
				t.Error("again it is not the same")
			}
			wantTree(t, "put again", again, put)
		}
		for _, e := range tree {
			got, found := impl.TreeGet(tree, e.Path)
			if !found || got != e {
				t.Errorf("TreeGet of %v is %v", e, got)
			}
		}
	}
}

func TestPutEdges(t *testing.T) {
	tree := byPath(dir("a", 7), file("a/f", 6, "x"), link("l", "a"))
	for i, e := range []impl.Entry{file("a/f/g", 1, ""), file("l/f", 1, ""), dir("b/c", 7), dir("a/f", 6), link("a/f", "a"), file("a", 6, ""), file("l", 0, "a"), dir("l", 0), dir("b", 8), link("m", ""), {Path: "b"}, {}} {
		put, ok := impl.TreePut(tree, e)
		if ok {
			t.Errorf("%d: %v was put", i, e)
		}
		wantTree(t, "as it is", put, tree)
	}
	full := fullTree()
	put, ok := impl.TreePut(full, dir("e", 7))
	if ok {
		t.Error("no room")
	}
	wantTree(t, "no room", put, full)
	put, ok = impl.TreePut(full, dir("d", 1))
	if !ok || put[0] != dir("d", 1) || len(put) != 16 || !slices.Equal(put[1:], full[1:]) {
		t.Error("in the place of another there is room")
	}
	put, ok = impl.TreePut(full[:15], dir("e", 7))
	if !ok || len(put) != 16 {
		t.Error("room for one")
	}
	put, ok = impl.TreePut(nil, dir("e", 7))
	if !ok || len(put) != 1 {
		t.Error("the first")
	}
}

// P7
func TestP7WhatWasDroppedIsGone(t *testing.T) {
	r := chance(7)
	for _, tree := range someTrees() {
		paths := []string{anyPath(r), anyPath(r)}
		for _, e := range tree {
			paths = append(paths, e.Path)
		}
		for _, path := range paths {
			_, there := at(tree, path)
			left, ok := impl.TreeDrop(tree, path)
			if ok != there {
				t.Errorf("TreeDrop(%v, %q) is %v", tree, path, ok)
			}
			wantTree(t, "drop "+path, left, without(tree, func(e impl.Entry) bool { return e.Path == path || strings.HasPrefix(e.Path, path+"/") }))
		}
	}
	left, ok := impl.TreeDrop(byPath(dir("a", 7), dir("a-b", 7), dir("a/b", 7), dir("ab", 7)), "a")
	if !ok || len(left) != 2 || left[0].Path != "a-b" || left[1].Path != "ab" {
		t.Errorf("names that only begin so stay: %v", left)
	}
}

// P8
func TestP8WhatWasMovedIsThereAndBack(t *testing.T) {
	r := chance(8)
	for _, tree := range someTrees() {
		for range 20 {
			from, to := anyPath(r), anyPath(r)
			if len(tree) > 0 && r.IntN(2) == 0 {
				from = tree[r.IntN(len(tree))].Path
			}
			want, may := moveRule(tree, from, to)
			moved, ok := impl.TreeMove(tree, from, to)
			if ok != may {
				t.Errorf("TreeMove(%v, %q, %q) is %v", tree, from, to, ok)
			}
			wantTree(t, "move "+from+" "+to, moved, want)
			if ok {
				back, fine := impl.TreeMove(moved, to, from)
				if !fine {
					t.Error("not back")
				}
				wantTree(t, "back", back, tree)
			}
		}
	}
}

// moveRule is what TreeMove answers, by the rules of chapter 2 alone.
func moveRule(tree []impl.Entry, from string, to string) ([]impl.Entry, bool) {
	_, there := at(tree, from)
	_, taken := at(tree, to)
	up, inDir := at(tree, impl.PathUp(to))
	may := there && !taken && impl.PathOk(to) && !impl.PathIn(from, to) && (impl.PathUp(to) == "" || inDir && up.Kind == 1)
	var want []impl.Entry
	for _, e := range tree {
		if impl.PathIn(from, e.Path) {
			e.Path = impl.PathMove(e.Path, from, to)
		}
		may = may && e.Path != ""
		want = append(want, e)
	}
	if !may {
		return tree, false
	}
	return byPath(want...), true
}

func TestMoveEdges(t *testing.T) {
	tree := byPath(dir("a", 7), dir("a/b", 7), dir("a/b/c", 7), link("a/l", "a/b"), file("f", 1, "x"), link("m", "a/l"), dir("x", 7), dir("x/y", 7), dir("x/y/z", 7))
	for i, c := range [][2]string{{"a", "a"}, {"a", "a/q"}, {"a", "a/b/q"}, {"a", "x"}, {"a", "f"}, {"a", "f/a"}, {"a", "m/a"}, {"a", "nowhere/a"}, {"a", "x/y/z/a"}, {"a", "A"}, {"a", ""}, {"a", "x/y/"}, {"q", "r"}, {"", "r"}, {"f", "f/g"}} {
		moved, ok := impl.TreeMove(tree, c[0], c[1])
		if ok {
			t.Errorf("%d: %v", i, c)
		}
		wantTree(t, "as it is", moved, tree)
	}
	moved, ok := impl.TreeMove(tree, "a", "x/y/a")
	if !ok {
		t.Error("five names may be")
	}
	wantTree(t, "move", moved, byPath(file("f", 1, "x"), link("m", "a/l"), dir("x", 7), dir("x/y", 7), dir("x/y/a", 7), dir("x/y/a/b", 7), dir("x/y/a/b/c", 7), link("x/y/a/l", "a/b"), dir("x/y/z", 7)))
	full, ok := impl.TreeMove(fullTree(), "d", "e")
	if !ok || len(full) != 16 || full[15].Path != "e/o" {
		t.Error("a full tree is moved")
	}
	moved, ok = impl.TreeMove(byPath(dir("a", 7), file("a/b", 1, "")), "a", "ab")
	if !ok || len(moved) != 2 || moved[1].Path != "ab/b" {
		t.Error("a place that only begins so is another one")
	}
}

// P60
func TestP60NothingIsMovedIntoItself(t *testing.T) {
	for _, tree := range someTrees() {
		for _, e := range tree {
			for _, to := range []string{e.Path, e.Path + "/q", e.Path + "/q/r"} {
				moved, ok := impl.TreeMove(tree, e.Path, to)
				if ok {
					t.Errorf("TreeMove(%v, %q, %q)", tree, e.Path, to)
				}
				wantTree(t, "as it is", moved, tree)
			}
		}
	}
}

// joinRule is what TreeJoin answers, by the rules of chapter 2 alone.
func joinRule(a []impl.Entry, b []impl.Entry) ([]impl.Entry, bool) {
	both := slices.Clone(a)
	for _, e := range b {
		old, there := at(a, e.Path)
		if there && (old != e || e.Kind != 1) {
			return nil, false
		}
		if !there {
			both = append(both, e)
		}
	}
	both = byPath(both...)
	if !treeRule(both) {
		return nil, false
	}
	return both, true
}

// P9
func TestP9JoinHasAllOfBoth(t *testing.T) {
	trees := someTrees()
	joins := 0
	for i, a := range trees {
		for _, b := range trees[i%10 : i%10+20] {
			want, may := joinRule(a, b)
			one, ok := impl.TreeJoin(a, b)
			two, fine := impl.TreeJoin(b, a)
			if ok != may || fine != may {
				t.Errorf("TreeJoin(%v, %v) is %v, %v", a, b, ok, fine)
			}
			wantTree(t, "join", one, want)
			wantTree(t, "join the other way", two, want)
			if may && len(a) > 0 && len(b) > 0 {
				joins++
			}
		}
	}
	if joins < 20 {
		t.Errorf("only %d trees could be joined", joins)
	}
}

func TestJoinEdges(t *testing.T) {
	for i, c := range []struct {
		a  []impl.Entry
		b  []impl.Entry
		ok bool
	}{
		{fullTree(), []impl.Entry{dir("d", 7)}, true},
		{fullTree(), []impl.Entry{dir("d", 6)}, false},
		{fullTree(), []impl.Entry{dir("e", 7)}, false},
		{fullTree()[:15], []impl.Entry{dir("e", 7)}, true},
		{[]impl.Entry{file("f", 1, "")}, []impl.Entry{file("f", 1, "")}, false},
		{[]impl.Entry{link("l", "f")}, []impl.Entry{link("l", "f")}, false},
		{[]impl.Entry{dir("a", 7)}, []impl.Entry{link("a", "f")}, false},
		{[]impl.Entry{file("a", 7, "")}, byPath(dir("a", 7), dir("a/b", 7)), false},
		{nil, nil, true},
	} {
		want, may := joinRule(c.a, c.b)
		joined, ok := impl.TreeJoin(c.a, c.b)
		if ok != c.ok || may != c.ok {
			t.Errorf("%d: %v", i, ok)
		}
		wantTree(t, "join", joined, want)
	}
}

// P57
func TestP57TreeAndItself(t *testing.T) {
	for _, tree := range someTrees() {
		allDirs := !slices.ContainsFunc(tree, func(e impl.Entry) bool { return e.Kind != 1 })
		twice, ok := impl.TreeJoin(tree, tree)
		if ok != allDirs {
			t.Errorf("TreeJoin of %v and itself is %v", tree, ok)
		}
		if ok {
			wantTree(t, "with itself", twice, tree)
		}
		one, ok := impl.TreeJoin(tree, nil)
		two, fine := impl.TreeJoin([]impl.Entry{}, tree)
		if !ok || !fine {
			t.Error("with nothing")
		}
		wantTree(t, "with nothing", one, tree)
		wantTree(t, "nothing with", two, tree)
	}
}

var partGlobs = []string{"**", "*", "a", "a/**", "**/b", "*/*", "**/a/**", "?", "[!a]*", "*-*", "a/b", "**/*.*", "a/*/c", "nowhere"}

// P10
func TestP10PartIsATree(t *testing.T) {
	for _, tree := range someTrees() {
		for _, g := range partGlobs {
			want := without(tree, func(e impl.Entry) bool {
				return !slices.ContainsFunc(tree, func(o impl.Entry) bool {
					return impl.GlobHas(g, o.Path) && impl.PathIn(e.Path, o.Path)
				})
			})
			part := impl.TreePart(tree, g)
			wantTree(t, "part "+g, part, want)
			if !impl.TreeOk(part) {
				t.Errorf("part %q is no tree: %v", g, part)
			}
			wantTree(t, "part again", impl.TreePart(part, g), part)
		}
		wantTree(t, "two stars", impl.TreePart(tree, "**"), tree)
		for _, g := range []string{"", "A", "[", "a/", strings.Repeat("*", 41), "**/**/**/**/**/**"} {
			if len(impl.TreePart(tree, g)) != 0 {
				t.Errorf("%q is no pattern", g)
			}
		}
	}
	tree := byPath(dir("a", 7), dir("a/b", 7), file("a/b/c", 1, ""), file("a/d", 1, ""), dir("e", 7))
	wantTree(t, "dirs above", impl.TreePart(tree, "a/b/c"), tree[:3])
	wantTree(t, "nothing below", impl.TreePart(tree, "a"), tree[:1])
}

// P58
func TestP58WhatIsNoDirIsInPartIfTaken(t *testing.T) {
	for _, tree := range someTrees() {
		for _, g := range partGlobs {
			part := impl.TreePart(tree, g)
			for _, e := range tree {
				got, in := at(part, e.Path)
				if e.Kind != 1 && (in != impl.GlobHas(g, e.Path) || in && got != e) {
					t.Errorf("%v of %v by %q", e, tree, g)
				}
			}
		}
	}
}

// P11
func TestP11WhereLinksLeadIsNoLink(t *testing.T) {
	leads := 0
	for _, tree := range someTrees() {
		for _, e := range tree {
			got, ok := impl.TreeFollow(tree, e.Path)
			if e.Kind != 3 {
				if !ok || got != e {
					t.Errorf("TreeFollow of %v is %v", e, got)
				}
				continue
			}
			behind, fine := impl.TreeFollow(tree, e.Text)
			if ok != fine || got != behind || ok && got.Kind == 3 || !ok && got != (impl.Entry{}) {
				t.Errorf("TreeFollow of %v in %v is %v", e, tree, got)
			}
			if ok {
				leads++
			}
		}
	}
	if leads < 20 {
		t.Errorf("only %d links led somewhere", leads)
	}
}

func TestLinksRoundAndFar(t *testing.T) {
	for i, tree := range [][]impl.Entry{{link("a", "a")}, {link("a", "b"), link("b", "a")}, {link("a", "b"), link("b", "c"), link("c", "b")}, {link("a", "b")}, {link("a", "b"), link("b", "c")}, {link("a", "b/c"), link("b", "d"), dir("d", 7), file("d/c", 1, "")}} {
		got, ok := impl.TreeFollow(tree, "a")
		if !impl.TreeOk(tree) || ok || got != (impl.Entry{}) {
			t.Errorf("%d: leads nowhere: %v", i, got)
		}
	}
	var chain []impl.Entry
	for i := range 15 {
		chain = append(chain, link(string(rune('a'+i)), string(rune('b'+i))))
	}
	chain = append(chain, file("p", 1, "end"))
	got, ok := impl.TreeFollow(chain, "a")
	if !ok || got != file("p", 1, "end") {
		t.Errorf("as many links as can be: %v", got)
	}
}

// P59
func TestP59LinkLeadsWhereItsTextLeads(t *testing.T) {
	r := chance(59)
	for _, tree := range someTrees() {
		paths := []string{anyPath(r)}
		for _, e := range tree {
			paths = append(paths, e.Path)
		}
		for _, path := range paths {
			put, ok := impl.TreePut(tree, link("zz", path))
			if !ok {
				continue
			}
			one, fine := impl.TreeFollow(put, "zz")
			two, also := impl.TreeFollow(put, path)
			before, earlier := impl.TreeFollow(tree, path)
			if fine != also || one != two || fine != earlier || one != before {
				t.Errorf("a link to %q in %v leads to %v", path, tree, one)
			}
		}
	}
}

// P56
func TestP56PutAndDroppedWasNeverThere(t *testing.T) {
	r := chance(56)
	for _, tree := range someTrees() {
		for range 10 {
			e := anyEntry(r, anyPath(r))
			_, there := at(tree, e.Path)
			put, ok := impl.TreePut(tree, e)
			if !ok || there {
				continue
			}
			back, fine := impl.TreeDrop(put, e.Path)
			if !fine || len(put) != len(tree)+1 {
				t.Errorf("%v", e)
			}
			wantTree(t, "back", back, tree)
		}
	}
}

// P88
func TestP88DirsInDirs(t *testing.T) {
	for _, tree := range someTrees() {
		if len(tree) > 11 {
			continue
		}
		now, path := tree, ""
		for _, name := range []string{"zz", "y", "x", "v"} {
			path = strings.TrimPrefix(path+"/"+name, "/")
			next, ok := impl.TreePut(now, dir(path, 7))
			if !ok || len(next) != len(now)+1 {
				t.Fatalf("%q", path)
			}
			now = next
		}
		now, ok := impl.TreePut(now, link("zz/y/x/v/l", "zz"))
		got, leads := impl.TreeFollow(now, "zz/y/x/v/l")
		if !ok || !leads || got != dir("zz", 7) {
			t.Error("a link in dirs")
		}
		back, ok := impl.TreeDrop(now, "zz")
		if !ok {
			t.Error("drop")
		}
		wantTree(t, "back", back, tree)
	}
}

// textRule is what TreeText writes.
func textRule(tree []impl.Entry) string {
	text := ""
	for _, e := range tree {
		mode := strconv.Itoa(e.Mode)
		switch e.Kind {
		case 1:
			text += "dir " + mode + " " + e.Path + "\n"
		case 2:
			text += "file " + mode + " " + e.Path + " " + strconv.Itoa(len(e.Text)) + "\n" + e.Text + "\n"
		case 3:
			text += "link " + e.Path + " " + e.Text + "\n"
		}
	}
	return text
}

// P12
func TestP12TreeIsReadBack(t *testing.T) {
	r := chance(12)
	readable := 0
	for _, tree := range someTrees() {
		text := impl.TreeText(tree)
		if text != textRule(tree) {
			t.Errorf("TreeText is %q", text)
		}
		back, ok := impl.TreeRead(text)
		if !ok {
			t.Errorf("%q is not read", text)
		}
		wantTree(t, "read back", back, tree)
		for range 200 {
			other := turned(r, text)
			read, ok := impl.TreeRead(other)
			if ok && (impl.TreeText(read) != other || !impl.TreeOk(read)) || !ok && len(read) != 0 {
				t.Errorf("%q is read as %v", other, read)
			}
			if ok && other != text {
				readable++
			}
		}
	}
	if readable < 100 {
		t.Errorf("only %d other texts could be read", readable)
	}
}

// turned is a text with one byte put in, taken out, or turned to another.
func turned(r *rand.Rand, text string) string {
	bytes := "0123456789abc/ \n.-dirfilelinkA\x00\xff"
	place, b := r.IntN(len(text)+1), bytes[r.IntN(len(bytes))]
	end := min(len(text), place+r.IntN(2))
	if r.IntN(3) == 0 {
		return text[:place] + text[end:]
	}
	return text[:place] + string([]byte{b}) + text[end:]
}

func TestReadWrong(t *testing.T) {
	for _, text := range []string{
		"\n", " ", "dir", "dir\n", "dir 7\n", "dir 7 \n", "dir 7 a", "dir 7 a ", "dir 7 a \n", " dir 7 a\n", "dir  7 a\n", "dir 07 a\n", "dir +7 a\n", "dir -1 a\n", "dir 8 a\n", "dir x a\n", "dir  a\n", "dir 7 A\n", "dir 7 a\n\n", "dir 7 a\r\n", "Dir 7 a\n", "dirs 7 a\n", "dir 99999999999999999999999999 a\n",
		"dir 7 a\ndir 7 a\n", "dir 7 b\ndir 7 a\n", "dir 7 a/b\n",
		"link a\n", "link a \n", "link a A\n", "link a b c\n", "link 0 a b\n", "link a b",
		"file 6 a\n", "file 6 a 0\n", "file 6 a 0\nx\n", "file 6 a 1\n\n", "file 6 a 1\nx", "file 6 a 1\nxy", "file 6 a 2\nx\n", "file 6 a 01\nx\n", "file 6 a -1\n\n", "file 6 a 81\n" + strings.Repeat("x", 81) + "\n", "file 6 a 99999999999999999999\nx\n", "file 6 a 18446744073709551616\n\n", "file 6 a \n\n", "file 8 a 0\n\n", "file 6 a 1\n\t\n", "file 6 a 1 \nx\n", "file 6 a 1\nx\nx",
		textRule(fullTree()) + "dir 7 e\n", strings.Repeat("dir 7 a\n", 10000), strings.Repeat(" ", 100000),
	} {
		read, ok := impl.TreeRead(text)
		if ok || len(read) != 0 {
			t.Errorf("%.60q is read as %v", text, read)
		}
	}
	read, ok := impl.TreeRead("")
	if !ok || len(read) != 0 {
		t.Error("no entries are a tree")
	}
	long := "file 6 a 80\n" + strings.Repeat("\n", 80) + "\n"
	read, ok = impl.TreeRead(long)
	if !ok || len(read) != 1 || read[0] != file("a", 6, strings.Repeat("\n", 80)) {
		t.Error("a text as long as can be")
	}
}

// P13
func TestP13SumIsWhatAllKnow(t *testing.T) {
	if impl.Sum("abc") != "ba7816bf8f01cfea" || impl.Sum("") != "e3b0c44298fc1c14" {
		t.Error("sums that are known")
	}
	r := chance(13)
	for size := range 300 {
		text := make([]byte, size)
		for i := range text {
			text[i] = byte(r.IntN(256))
		}
		for _, s := range []string{string(text), strings.Repeat("\x00", size), strings.Repeat("\xff", size), strings.Repeat(string(text), 9)} {
			whole := sha256.Sum256([]byte(s))
			if impl.Sum(s) != hex.EncodeToString(whole[:])[:16] {
				t.Errorf("sum of %q", s)
			}
		}
	}
}
