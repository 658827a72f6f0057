package tests

import (
	"crypto/sha256"
	"encoding/hex"
	"math/rand/v2"
	"regexp"
	"slices"
	"strings"
	"testing"

	"loop.example/jackstay/impl"
)

// packRule is PackOk by the document's words.
func packRule(p impl.Pack) bool {
	if len(p.Needs) > 6 || !whole(packNameForm, p.Name) || !impl.VersionOk(p.Version) || !treeRule(p.Tree) {
		return false
	}
	fine := true
	for i, n := range p.Needs {
		fine = fine && impl.NeedOk(n) && n.Name != p.Name
		for _, o := range p.Needs[:i] {
			fine = fine && o.Name != n.Name
		}
	}
	return fine
}

// packBodyRule is what the sum of a pack is of.
func packBodyRule(p impl.Pack) string {
	text := "pack " + p.Name + " " + p.Version + "\n"
	for _, n := range p.Needs {
		text += "need " + n.Name + []string{"", "=", ">=", "<"}[n.Kind] + n.Version + "\n"
	}
	return text + "\n" + textRule(p.Tree)
}

func sumRule(text string) string {
	sum := sha256.Sum256([]byte(text))
	return hex.EncodeToString(sum[:8])
}

func summed(body string) string {
	return "sum " + sumRule(body) + "\n" + body
}

func smallPack() impl.Pack {
	return impl.Pack{Name: "zip", Version: "1.2"}
}

// greatPack has as many bytes as a pack can have: files as deep, and texts as long, as may be.
func greatPack() impl.Pack {
	name := strings.Repeat("x", 10)
	path := name
	tree := []impl.Entry{dir(path, 7)}
	for range 3 {
		path += "/" + name
		tree = append(tree, dir(path, 7))
	}
	for i := range 12 {
		tree = append(tree, file(path+"/file00000"+string(rune('a'+i)), 7, strings.Repeat("\n", 80)))
	}
	needs := manyOf(6, func(i int) impl.Need {
		return impl.Need{Name: numbered("ninebytes")(i), Kind: impl.NeedFrom, Version: "999.999.999.999"}
	})
	return impl.Pack{Name: "tenletter9", Version: "999.999.999.999", Needs: needs, Tree: byPath(tree...)}
}

func anyPack(r *rand.Rand) impl.Pack {
	needs := manyOf(r.IntN(impl.ListMax+1), needAt)
	r.Shuffle(len(needs), func(i, k int) { needs[i], needs[k] = needs[k], needs[i] })
	return impl.Pack{Name: []string{"zip", "a", "tenletter9"}[r.IntN(3)], Version: someVersions()[r.IntN(len(someVersions()))], Needs: needs, Tree: anyTree(r, r.IntN(17))}
}

func somePacks() []impl.Pack {
	list := []impl.Pack{
		smallPack(),
		greatPack(),
		{Name: "a", Version: "0", Needs: []impl.Need{{Name: "b"}}, Tree: fullTree()},
		{Name: "a", Version: "1", Needs: []impl.Need{}, Tree: []impl.Entry{}},
		{Name: "a", Version: "1", Needs: manyOf(impl.ListMax, needAt), Tree: []impl.Entry{file("f", 0, "\n\npack b 1\n\n"), link("l", "l")}},
		{Name: "need", Version: "1", Needs: []impl.Need{{Name: "pack"}, {Name: "sum", Kind: impl.NeedLess, Version: "2"}}},
	}
	r := chance(31)
	for range 300 {
		list = append(list, anyPack(r))
	}
	return list
}

// noPacks are packs that are not ok, each for another reason.
func noPacks() []impl.Pack {
	list := []impl.Pack{
		{},
		{Name: "zip"},
		{Version: "1"},
		{Name: "zip", Version: "1", Needs: []impl.Need{{Name: "zip"}}},
		{Name: "zip", Version: "1", Needs: []impl.Need{{Name: "a"}, {Name: "zip", Kind: impl.NeedSame, Version: "1"}}},
		{Name: "zip", Version: "1", Needs: []impl.Need{{Name: "a"}, {Name: "a"}}},
		{Name: "zip", Version: "1", Needs: []impl.Need{{Name: "a", Kind: impl.NeedFrom, Version: "1"}, {Name: "b"}, {Name: "a", Kind: impl.NeedLess, Version: "2"}}},
		{Name: "zip", Version: "1", Needs: manyOf(impl.ListMax+1, needAt)},
		{Name: "zip", Version: "1", Needs: manyOf(100000, needAt)},
		{Name: "zip", Version: "1", Needs: slices.Repeat([]impl.Need{{Name: "zip"}}, 100000)},
	}
	for _, name := range []string{"", "9", "Zip", "z-p", "z.p", "z p", "elevenlette", "z\n", "\xff", "zip="} {
		list = append(list, impl.Pack{Name: name, Version: "1"})
	}
	for _, v := range noVersions() {
		list = append(list, impl.Pack{Name: "zip", Version: v})
	}
	for _, n := range noNeeds() {
		list = append(list, impl.Pack{Name: "zip", Version: "1", Needs: []impl.Need{n}}, impl.Pack{Name: "zip", Version: "1", Needs: []impl.Need{{Name: "fine"}, n}})
	}
	for _, tree := range noTrees() {
		list = append(list, impl.Pack{Name: "zip", Version: "1", Tree: tree})
	}
	return list
}

func TestPackOk(t *testing.T) {
	for _, p := range somePacks() {
		if !impl.PackOk(p) || !packRule(p) {
			t.Errorf("%s is a pack", short(p))
		}
	}
	for i, p := range noPacks() {
		if impl.PackOk(p) || packRule(p) {
			t.Errorf("%d: %s is no pack", i, short(p))
		}
		if impl.PackPut(p) != "" {
			t.Errorf("%d: %s is no pack, and has a text", i, short(p))
		}
	}
	for b := range 256 {
		s := string([]byte{byte(b)})
		for _, p := range []impl.Pack{{Name: s, Version: "1"}, {Name: "a" + s, Version: "1"}, {Name: "a", Version: s}, {Name: "a", Version: "1", Needs: []impl.Need{{Name: s}}}} {
			if impl.PackOk(p) != packRule(p) {
				t.Errorf("%s: %v", short(p), impl.PackOk(p))
			}
		}
	}
}

// P31
func TestP31PackIsReadBack(t *testing.T) {
	for _, p := range somePacks() {
		text := summed(packBodyRule(p))
		if got := impl.PackPut(p); got != text {
			t.Errorf("%s is written as %.300q, not %.300q", short(p), got, text)
		}
		back, ok := impl.PackGet(text)
		if !ok || !same(back, p) {
			t.Errorf("%.300q is read as %s, %v", text, short(back), ok)
		}
	}
	hand := "pack zip 1.2\nneed tar>=1\nneed a\n\ndir 7 lib\nfile 6 lib/f 3\na\nb\nlink lib/l lib\n"
	p, ok := impl.PackGet("sum " + sumRule(hand) + "\n" + hand)
	want := impl.Pack{Name: "zip", Version: "1.2", Needs: []impl.Need{{Name: "tar", Kind: impl.NeedFrom, Version: "1"}, {Name: "a"}}, Tree: []impl.Entry{dir("lib", 7), file("lib/f", 6, "a\nb"), link("lib/l", "lib")}}
	if !ok || !same(p, want) {
		t.Errorf("%s, %v", short(p), ok)
	}
}

var packForm = regexp.MustCompile(`^sum ([0-9a-f]{16})\npack ([a-z0-9]*) ([0-9.]*)\n((?:need [^\n]+\n)*)\n((?s:.*))$`)

// packReadRule is PackGet by a form of the whole text.
func packReadRule(text string) (impl.Pack, bool) {
	found := packForm.FindStringSubmatch(text)
	if found == nil || len(text) > 4000 || sumRule(text[21:]) != found[1] {
		return impl.Pack{}, false
	}
	tree, ok := impl.TreeRead(found[5])
	p := impl.Pack{Name: found[2], Version: found[3], Tree: tree}
	for _, line := range strings.SplitAfter(found[4], "\n") {
		if line == "" {
			continue
		}
		n, fine := impl.NeedGet(strings.TrimSuffix(strings.TrimPrefix(line, "need "), "\n"))
		ok = ok && fine
		p.Needs = append(p.Needs, n)
	}
	if !ok || !packRule(p) {
		return impl.Pack{}, false
	}
	return p, true
}

func wantPackRead(t *testing.T, text string) bool {
	t.Helper()
	p, ok := impl.PackGet(text)
	want, wantOk := packReadRule(text)
	if ok != wantOk || !same(p, want) {
		t.Errorf("%.300q is read as %s, %v; it must be %v", text, short(p), ok, wantOk)
	}
	if ok && impl.PackPut(p) != text {
		t.Errorf("%.300q is read, and written otherwise", text)
	}
	return ok
}

func TestPackReadWrong(t *testing.T) {
	for _, body := range []string{
		"", "\n", "\n\n", "pack zip 1", "pack zip 1\n", "pack zip 1\n\n\n", "\npack zip 1\n\n", "pack zip  1\n\n", "pack  zip 1\n\n", "pack zip 1 \n\n", " pack zip 1\n\n", "pack zip\n\n", "pack zip 1 2\n\n", "pack 1\n\n", "pack zip \n\n", "Pack zip 1\n\n", "pakc zip 1\n\n", "pack Zip 1\n\n", "pack zip 01\n\n", "pack zip 1\r\n\r\n", "pack zip 1\n\r\n",
		"pack zip 1\nneed\n\n", "pack zip 1\nneed \n\n", "pack zip 1\nneed a \n\n", "pack zip 1\nneed  a\n\n", "pack zip 1\na\n\n", "pack zip 1\nneed a", "pack zip 1\nneed a\n", "pack zip 1\nneed a >=1\n\n", "pack zip 1\nneed zip\n\n", "pack zip 1\nneed a\nneed a\n\n", "pack zip 1\nneed a\n\nneed b\n", "pack zip 1\nneed a\n\nneed b\n\n", "pack zip 1\nneed a>1\n\n", "pack zip 1\nneed a\n\n\ndir 7 a\n", "pack zip 1\nrun a\n\n", "pack zip 1\nneed need a\n\n",
		"pack zip 1\n\ndir 7 a", "pack zip 1\n\ndir 8 a\n", "pack zip 1\n\ndir 7 b\ndir 7 a\n", "pack zip 1\n\ndir 7 a\n\n", "pack zip 1\ndir 7 a\n", "pack zip 1\ndir 7 a\n\n", "pack zip 1\n\nfile 6 a 2\nx\n", "pack zip 1\n\npack zip 1\n\n",
		"pack zip 1\n" + textOfNeeds(impl.ListMax+1) + "\n", "pack zip 1\n\n" + textRule(fullTree()) + "dir 7 e\n",
	} {
		if wantPackRead(t, summed(body)) {
			t.Errorf("%.100q is read", body)
		}
		if wantPackRead(t, body) {
			t.Errorf("%.100q is read without a sum", body)
		}
	}
	for _, body := range []string{"pack zip 1\n\n", "pack zip 1\nneed a\n\n", "pack zip 1\nneed a\n\ndir 7 a\n", "pack zip 1\n\nfile 6 a 2\n\n\n\n", "pack zip 1\n" + textOfNeeds(impl.ListMax) + "\n", "pack zip 1\n\n" + textRule(fullTree())} {
		if !wantPackRead(t, summed(body)) {
			t.Errorf("%.100q is not read", body)
		}
		text := summed(body)
		for _, wrong := range []string{"", text + "x", text + "\n", text[1:], text[:len(text)-1], "sum " + sumRule(body+"x") + "\n" + body, "sum " + sumRule(body)[:15] + "\n" + body, "sum " + sumRule(body) + "0\n" + body, "sum " + strings.ToUpper(sumRule(body)) + "\n" + body, "sum  " + sumRule(body) + "\n" + body, "sum " + sumRule(body) + " \n" + body, "Sum " + sumRule(body) + "\n" + body, sumRule(body) + "\n" + body, "sum " + sumRule(text) + "\n" + body, "sum " + sumRule(body) + "\n\n" + body, text + text, "sum " + sumRule(body) + "\r\n" + body} {
			if wantPackRead(t, wrong) {
				t.Errorf("%.100q is read", wrong)
			}
		}
	}
}

func textOfNeeds(count int) string {
	text := ""
	for i := range count {
		text += "need " + numbered("n")(i) + "\n"
	}
	return text
}

// A byte that is another one is told by the sum; with the sum set right, by the rest.
func TestPackTurnedIsNotRead(t *testing.T) {
	r := chance(32)
	readable := 0
	for _, p := range somePacks()[:60] {
		body := packBodyRule(p)
		for range 100 {
			other := turned(r, summed(body))
			if other != summed(body) && wantPackRead(t, other) {
				t.Errorf("%.300q is read", other)
			}
			if wantPackRead(t, summed(turned(r, body))) {
				readable++
			}
		}
	}
	if readable < 100 {
		t.Errorf("only %d other texts could be read", readable)
	}
}

// No pack that is ok has as many bytes as PackMax; more than that are not read, whatever they are.
func TestPackMaxBytes(t *testing.T) {
	size := len(impl.PackPut(greatPack()))
	if size == 0 || size > impl.PackMax {
		t.Errorf("the greatest pack has %d bytes", size)
	}
	for _, size := range []int{impl.PackMax - 1, impl.PackMax, impl.PackMax + 1, 100000} {
		for _, fill := range []string{"\n", "x", " ", "need a\n"} {
			body := "pack zip 1\n\n" + strings.Repeat(fill, size)
			if wantPackRead(t, summed(body[:size-21])) {
				t.Errorf("%d bytes are read", size)
			}
		}
	}
}

// splitRule is PackSplit by the document's words: for each entry it tells the packs that it is of, 0 being the recipe's own.
func splitRule(r impl.Recipe, tree []impl.Entry) []impl.Pack {
	of := make([]map[int]bool, len(tree))
	for i, e := range tree {
		of[i] = map[int]bool{}
		onlyDirs := true
		for _, o := range tree {
			onlyDirs = onlyDirs && !(strings.HasPrefix(o.Path, e.Path+"/") && o.Kind != 1)
		}
		if e.Kind != 1 {
			of[i][1+slices.IndexFunc(r.Pieces, func(p impl.Piece) bool { return impl.GlobHas(p.Glob, e.Path) })] = true
		} else if onlyDirs {
			of[i][0] = true
		}
	}
	packs := []impl.Pack{{Name: r.Name, Version: r.Version, Needs: r.Runs}}
	for _, p := range r.Pieces {
		packs = append(packs, impl.Pack{Name: p.Name, Version: r.Version, Needs: []impl.Need{{Name: r.Name, Kind: 1, Version: r.Version}}})
	}
	for k := range packs {
		for i, e := range tree {
			in := of[i][k]
			for m, o := range tree {
				in = in || e.Kind == 1 && strings.HasPrefix(o.Path, e.Path+"/") && of[m][k]
			}
			if in {
				packs[k].Tree = append(packs[k].Tree, e)
			}
		}
	}
	return packs
}

func wantSplit(t *testing.T, r impl.Recipe, tree []impl.Entry) []impl.Pack {
	t.Helper()
	got, ok := impl.PackSplit(r, tree)
	want := splitRule(r, tree)
	if !ok || !same(got, want) {
		t.Errorf("PackSplit of %s by %s is %s, %v; it must be %s", short(tree), short(r.Pieces), short(got), ok, short(want))
	}
	return got
}

var pieceGlobs = []string{"**", "*", "a", "a/**", "**/b", "*/*", "**/a/**", "?", "[!a]*", "*-*", "a/b", "**/*.*", "a/*/c", "nowhere", "a/b/**", "b/**", "[abc]/**"}

// splitRecipe is fine, and has pieces.
func splitRecipe(r *rand.Rand) impl.Recipe {
	recipe := anyRecipe(r)
	recipe.Pieces = manyOf(r.IntN(impl.ListMax+1), func(i int) impl.Piece {
		return impl.Piece{Name: numbered("piece")(i), Glob: pieceGlobs[r.IntN(len(pieceGlobs))]}
	})
	return recipe
}

// someSplits are recipes, and trees that they part.
func someSplits(seed uint64, use func(recipe impl.Recipe, tree []impl.Entry)) {
	r := chance(seed)
	for range 10 {
		for _, tree := range someTrees() {
			use(splitRecipe(r), tree)
		}
	}
}

func pieces(globs ...string) impl.Recipe {
	r := smallRecipe()
	r.Runs = []impl.Need{{Name: "tar", Kind: impl.NeedFrom, Version: "1"}, {Name: "piece0"}}
	for i, g := range globs {
		r.Pieces = append(r.Pieces, impl.Piece{Name: numbered("piece")(i), Glob: g})
	}
	return r
}

// A dir of two packs, a dir without anything, and dirs in dirs.
func TestSplitByHand(t *testing.T) {
	for i, c := range []struct {
		globs []string
		tree  []impl.Entry
		want  []string
	}{
		{nil, nil, []string{""}},
		{[]string{"**"}, nil, []string{"", ""}},
		{[]string{"**"}, byPath(dir("a", 7)), []string{"a", ""}},
		{[]string{"a"}, byPath(dir("a", 7), dir("a/b", 7)), []string{"a a/b", ""}},
		{[]string{"a/x"}, byPath(dir("a", 7), file("a/x", 1, ""), file("a/y", 1, "")), []string{"a a/y", "a a/x"}},
		{[]string{"a/**"}, byPath(dir("a", 7), file("a/x", 1, ""), file("a/y", 1, "")), []string{"", "a a/x a/y"}},
		{[]string{"a/x", "a/y"}, byPath(dir("a", 7), file("a/x", 1, ""), file("a/y", 1, "")), []string{"", "a a/x", "a a/y"}},
		{[]string{"a/**"}, byPath(dir("a", 7), dir("a/e", 7), file("a/x", 1, "")), []string{"a a/e", "a a/x"}},
		{[]string{"a/e/**"}, byPath(dir("a", 7), dir("a/e", 7), dir("a/e/f", 7), link("a/x", "z")), []string{"a a/e a/e/f a/x", ""}},
		{[]string{"**/x"}, byPath(dir("a", 7), dir("a/b", 7), dir("a/b/c", 7), file("a/b/c/x", 1, "")), []string{"", "a a/b a/b/c a/b/c/x"}},
		{[]string{"**/x"}, byPath(dir("a", 7), dir("a-b", 7), file("a-b/x", 1, ""), file("a/y", 1, "")), []string{"a a/y", "a-b a-b/x"}},
		{[]string{"**/x", "**"}, byPath(link("l", "x"), link("x", "l")), []string{"", "x", "l"}},
		{[]string{"**", "**"}, byPath(file("x", 1, "")), []string{"", "x", ""}},
		{[]string{"x", "*", "**"}, byPath(dir("d", 7), file("d/x", 1, ""), file("x", 1, ""), file("y", 1, "")), []string{"", "x", "y", "d d/x"}},
		{[]string{"d"}, byPath(dir("d", 7), file("d/x", 1, "")), []string{"d d/x", ""}},
	} {
		packs := wantSplit(t, pieces(c.globs...), c.tree)
		var paths []string
		for _, p := range packs {
			var list []string
			for _, e := range p.Tree {
				list = append(list, e.Path)
			}
			paths = append(paths, strings.Join(list, " "))
		}
		if !slices.Equal(paths, c.want) {
			t.Errorf("%d: %q, not %q", i, paths, c.want)
		}
	}
}

func TestSplitOfWhatIsNotOk(t *testing.T) {
	wantNone := func(r impl.Recipe, tree []impl.Entry) {
		t.Helper()
		packs, ok := impl.PackSplit(r, tree)
		if len(packs) != 0 || ok {
			t.Errorf("%s by %s is %s, %v", short(tree), short(r), short(packs), ok)
		}
	}
	for _, tree := range noTrees() {
		wantNone(pieces("**"), tree)
		wantNone(smallRecipe(), tree)
	}
	for _, r := range wrongRecipes() {
		wantNone(r, nil)
		wantNone(r, stepTree())
	}
}

// wrongRecipes have each code once at least.
func wrongRecipes() []impl.Recipe {
	return []impl.Recipe{
		{},
		{Name: "zip"},
		{Name: "zip", Version: "01"},
		with(smallRecipe(), func(r *impl.Recipe) { r.Pieces = manyOf(impl.ListMax+1, pieceAt) }),
		with(smallRecipe(), func(r *impl.Recipe) { r.Pieces = []impl.Piece{{Name: "a", Glob: "["}} }),
		with(smallRecipe(), func(r *impl.Recipe) { r.Pieces = []impl.Piece{{Name: r.Name, Glob: "**"}} }),
		with(smallRecipe(), func(r *impl.Recipe) { r.Pieces = slices.Repeat([]impl.Piece{{Name: "a", Glob: "**"}}, 2) }),
		with(smallRecipe(), func(r *impl.Recipe) { r.Runs = []impl.Need{{Name: r.Name}} }),
		with(smallRecipe(), func(r *impl.Recipe) { r.Steps = []string{""} }),
		with(smallRecipe(), func(r *impl.Recipe) { r.Steps = []string{"${z}"} }),
		with(smallRecipe(), func(r *impl.Recipe) { r.Steps = slices.Repeat([]string{"mkdir a 7"}, impl.StepMax+1) }),
		with(smallRecipe(), func(r *impl.Recipe) { r.Lets = []impl.Let{{Name: "a", Text: "${a}"}} }),
		with(smallRecipe(), func(r *impl.Recipe) {
			r.Lets = []impl.Let{{Name: "a", Text: forty + forty}}
			r.Steps = []string{"x${a}"}
		}),
		with(smallRecipe(), func(r *impl.Recipe) { r.Sources = []impl.Source{{Name: "a", Sum: "x"}} }),
	}
}

// P32
func TestP32EachThingIsInOnePack(t *testing.T) {
	several := 0
	someSplits(32, func(recipe impl.Recipe, tree []impl.Entry) {
		packs := wantSplit(t, recipe, tree)
		var joined []impl.Entry
		for i, p := range packs {
			both, ok := impl.TreeJoin(joined, p.Tree)
			if !ok || !impl.PackOk(p) {
				t.Errorf("pack %d of %s by %s: %s", i, short(tree), short(recipe.Pieces), short(p))
			}
			joined = both
			if len(p.Tree) > 0 && len(p.Tree) < len(tree) {
				several++
			}
			if i == 0 {
				if p.Name != recipe.Name || !same(p.Needs, recipe.Runs) {
					t.Errorf("the first is %s", short(p))
				}
				continue
			}
			if p.Name != recipe.Pieces[i-1].Name || !same(p.Needs, []impl.Need{{Name: recipe.Name, Kind: impl.NeedSame, Version: recipe.Version}}) || !impl.NeedFits(p.Needs[0], packs[0].Name, packs[0].Version) {
				t.Errorf("piece %d is %s", i, short(p))
			}
		}
		wantTree(t, "all packs", joined, tree)
		for _, p := range packs {
			if p.Version != recipe.Version {
				t.Errorf("version of %s", short(p))
			}
		}
	})
	if several < 1000 {
		t.Errorf("%d alone", several)
	}
}

// P33
func TestP33WhatAPatternTakesGoesToTheFirst(t *testing.T) {
	var counts [7]int
	someSplits(33, func(recipe impl.Recipe, tree []impl.Entry) {
		packs, _ := impl.PackSplit(recipe, tree)
		for _, e := range tree {
			if e.Kind == 1 {
				continue
			}
			first := 0
			for i := len(recipe.Pieces); i > 0; i-- {
				if impl.GlobHas(recipe.Pieces[i-1].Glob, e.Path) {
					first = i
				}
			}
			counts[first]++
			for i, p := range packs {
				got, in := at(p.Tree, e.Path)
				if in != (i == first) || in && got != e {
					t.Errorf("%v in pack %d of %s: %v", e, i, short(recipe.Pieces), in)
				}
			}
		}
	})
	for i, count := range counts {
		if count < 50 {
			t.Errorf("piece %d came %d times alone", i, count)
		}
	}
}

// P70
func TestP70WithoutPiecesOnePackOfAll(t *testing.T) {
	for _, tree := range someTrees() {
		packs := wantSplit(t, pieces(), tree)
		if len(packs) != 1 || packs[0].Name != "zip" || !slices.Equal(packs[0].Tree, tree) {
			t.Errorf("%s is %s", short(tree), short(packs))
		}
		packs = wantSplit(t, pieces("**"), tree)
		taken := impl.TreePart(tree, "**")
		for _, e := range tree {
			_, in := at(packs[1].Tree, e.Path)
			_, left := at(packs[0].Tree, e.Path)
			if e.Kind != 1 && (!in || left) {
				t.Errorf("%v is in the piece: %v", e, in)
			}
		}
		if slices.ContainsFunc(packs[0].Tree, func(e impl.Entry) bool { return e.Kind != 1 }) || len(taken) != len(tree) {
			t.Errorf("left behind: %s", short(packs[0].Tree))
		}
	}
}

// buildRecipe is fine, and so is what it builds of buildFiles.
func buildRecipe() impl.Recipe {
	r := impl.Recipe{Name: "zip", Version: "1.2", Lets: []impl.Let{{Name: "dir", Text: "lib/${name}"}}, Runs: []impl.Need{{Name: "tar"}}, Pieces: []impl.Piece{{Name: "zipdoc", Glob: "doc/**"}, {Name: "ziplib", Glob: "**/*.c"}}}
	r.Sources = []impl.Source{{Name: "zip.c", Sum: sumRule("int zip;\n")}, {Name: "fix", Sum: sumRule("@ 1 2\n-int zip;\n+int zip = 1;\n")}}
	r.Steps = []string{"mkdir lib 7", "mkdir ${dir} 7", "copy ${dir}/zip.c zip.c", "patch ${dir}/zip.c fix", "mkdir doc 7", "write doc/zip 4 zip ${version}", "link lib/z ${dir}", "mkdir none 1"}
	return r
}

func buildFiles() []impl.File {
	return []impl.File{{Name: "zip.c", Text: "int zip;\n"}, {Name: "other", Text: "other"}, {Name: "fix", Text: "@ 1 2\n-int zip;\n+int zip = 1;\n"}}
}

func wantBuild(t *testing.T, r impl.Recipe, files []impl.File, code int) []impl.Pack {
	t.Helper()
	packs, got := impl.Build(r, files)
	if got != code || code != impl.BuildFine && len(packs) != 0 || code == impl.BuildFine && len(packs) != 1+len(r.Pieces) {
		t.Errorf("Build of %s and %s is %s, %d; it must be %d", short(r), short(files), short(packs), got, code)
	}
	return packs
}

func TestBuildByHand(t *testing.T) {
	packs := wantBuild(t, buildRecipe(), buildFiles(), impl.BuildFine)
	var texts []string
	for _, p := range packs {
		texts = append(texts, packBodyRule(p))
	}
	want := []string{
		"pack zip 1.2\nneed tar\n\ndir 7 lib\nlink lib/z lib/zip\ndir 1 none\n",
		"pack zipdoc 1.2\nneed zip=1.2\n\ndir 7 doc\nfile 4 doc/zip 8\nzip 1.2\n\n",
		"pack ziplib 1.2\nneed zip=1.2\n\ndir 7 lib\ndir 7 lib/zip\nfile 6 lib/zip/zip.c 13\nint zip = 1;\n\n",
	}
	if !slices.Equal(texts, want) {
		t.Errorf("%q", texts)
	}
	packs = wantBuild(t, smallRecipe(), nil, impl.BuildFine)
	if !same(packs, []impl.Pack{smallPack()}) {
		t.Errorf("%s", short(packs))
	}
	wantBuild(t, with(smallRecipe(), func(r *impl.Recipe) {
		r.Steps = manyOf(impl.StepMax, func(i int) string { return "mkdir " + numbered("d")(i) + " 7" })
	}), manyOf(impl.ListMax, fileNumber), impl.BuildFine)
}

// buildRule is Build by the document's words.
func buildRule(r impl.Recipe, files []impl.File) ([]impl.Pack, int) {
	if recipeRule(r) != 0 || !filesRule(files) {
		return nil, 1
	}
	var own []impl.File
	code := 0
	for _, s := range r.Sources {
		place := slices.IndexFunc(files, func(f impl.File) bool { return f.Name == s.Name })
		switch {
		case place < 0:
			code = 2
		case sumRule(files[place].Text) != s.Sum && code == 0:
			code = 3
		}
		if place >= 0 {
			own = append(own, files[place])
		}
	}
	if code != 0 {
		return nil, code
	}
	tree, _, wrong := stepsRule(own, impl.RecipeSteps(r))
	if wrong != 0 {
		return nil, 4
	}
	return splitRule(r, tree), 0
}

// anyBuild is a recipe of steps that can mostly be done, with sources of which some may be wrong.
func anyBuild(r *rand.Rand) (impl.Recipe, []impl.File) {
	files := someFiles()
	recipe := splitRecipe(r)
	recipe.Steps = anySteps(r, impl.StepMax)
	recipe.Sources = nil
	for _, f := range files {
		if r.IntN(20) > 0 {
			recipe.Sources = append(recipe.Sources, impl.Source{Name: f.Name, Sum: sumRule(f.Text)})
		}
	}
	r.Shuffle(len(recipe.Sources), func(i, k int) {
		recipe.Sources[i], recipe.Sources[k] = recipe.Sources[k], recipe.Sources[i]
	})
	for i := range files {
		switch r.IntN(40) {
		case 0:
			files[i].Name = numbered("gone")(i)
		case 1:
			files[i].Text = "another"
		case 2:
			files[i].Name = files[(i+1)%6].Name
		}
	}
	if r.IntN(20) == 0 {
		recipe.Version = ""
	}
	return recipe, files
}

// P34
func TestP34BuildIsWhatTheStepsMakeParted(t *testing.T) {
	r := chance(34)
	var codes [5]int
	for range 4000 {
		recipe, files := anyBuild(r)
		want, code := buildRule(recipe, files)
		codes[code]++
		packs := wantBuild(t, recipe, files, code)
		if !same(packs, want) {
			t.Errorf("Build of %s is %s; it must be %s", short(recipe), short(packs), short(want))
		}
		for _, p := range packs {
			if !impl.PackOk(p) || !packRule(p) {
				t.Errorf("%s is not ok", short(p))
			}
		}
		if code != 0 {
			continue
		}
		own := slices.DeleteFunc(slices.Clone(files), func(f impl.File) bool {
			return !slices.ContainsFunc(recipe.Sources, func(s impl.Source) bool { return s.Name == f.Name })
		})
		tree, _, _ := impl.StepsDo(own, impl.RecipeSteps(recipe))
		parted, ok := impl.PackSplit(recipe, tree)
		if !ok || !same(parted, packs) {
			t.Errorf("Build is %s, PackSplit %s", short(packs), short(parted))
		}
	}
	for code, count := range codes {
		if count < 50 {
			t.Errorf("code %d came %d times alone", code, count)
		}
	}
}

// P35
func TestP35WhatIsNotWhatItWasIsNotBuiltOf(t *testing.T) {
	for i, f := range buildFiles() {
		code := func(wrong int) int {
			if f.Name == "other" {
				return impl.BuildFine
			}
			return wrong
		}
		for _, text := range []string{"", "x", f.Text + "\n", f.Text[1:], f.Text[:len(f.Text)-1], " " + f.Text[1:], strings.ToUpper(f.Text), strings.Repeat("x", 80)} {
			files := buildFiles()
			files[i].Text = text
			wantBuild(t, buildRecipe(), files, code(impl.BuildSum))
		}
		files := slices.Delete(buildFiles(), i, i+1)
		wantBuild(t, buildRecipe(), files, code(impl.BuildNone))
		files = buildFiles()
		files[i].Name = "another"
		wantBuild(t, buildRecipe(), files, code(impl.BuildNone))
	}
	for i := range buildRecipe().Sources {
		for k := range 16 {
			r := buildRecipe()
			sum := []byte(r.Sources[i].Sum)
			sum[k] = "123456789abcdef0"[strings.IndexByte("0123456789abcdef", sum[k])]
			r.Sources[i].Sum = string(sum)
			wantBuild(t, r, buildFiles(), impl.BuildSum)
		}
	}
	wantBuild(t, buildRecipe(), nil, impl.BuildNone)
	// A source that is told, and not taken by a step, must be there as well.
	r := with(smallRecipe(), func(r *impl.Recipe) { r.Sources = []impl.Source{sourceAt(0)} })
	wantBuild(t, r, nil, impl.BuildNone)
	wantBuild(t, r, []impl.File{{Name: "src.0", Text: "1"}}, impl.BuildSum)
	wantBuild(t, r, []impl.File{{Name: "src.0", Text: "0"}}, impl.BuildFine)
}

// Codes of a build, one ahead of the other.
func TestBuildCodesInOrder(t *testing.T) {
	wrongSum := func(r *impl.Recipe) { r.Sources[0].Sum = "0123456789abcdef" }
	wrongStep := func(r *impl.Recipe) { r.Steps = []string{"drop a"} }
	wrongRecipe := func(r *impl.Recipe) { r.Name = "" }
	noFix := buildFiles()[:2]
	build := func(files []impl.File, code int, turns ...func(r *impl.Recipe)) {
		t.Helper()
		r := buildRecipe()
		for _, turn := range turns {
			turn(&r)
		}
		wantBuild(t, r, files, code)
	}
	build(buildFiles(), impl.BuildFine)
	build(buildFiles(), impl.BuildStep, wrongStep)
	build(buildFiles(), impl.BuildSum, wrongSum)
	build(buildFiles(), impl.BuildSum, wrongSum, wrongStep)
	build(noFix, impl.BuildNone)
	// The first source is another one, the second is not there.
	build(noFix, impl.BuildNone, wrongSum)
	build(noFix, impl.BuildNone, wrongSum, wrongStep)
	build(buildFiles(), impl.BuildRecipe, wrongRecipe)
	build(noFix, impl.BuildRecipe, wrongRecipe, wrongSum, wrongStep)
	for _, files := range noFiles() {
		build(files, impl.BuildRecipe)
		build(files, impl.BuildRecipe, wrongStep)
		wantBuild(t, smallRecipe(), files, impl.BuildRecipe)
	}
	build(append(buildFiles(), buildFiles()[1]), impl.BuildRecipe)
	for _, r := range wrongRecipes() {
		wantBuild(t, r, nil, impl.BuildRecipe)
		wantBuild(t, r, buildFiles(), impl.BuildRecipe)
	}
	// What is not among Sources is not there for a step, nor is what is there of no name.
	for _, step := range []string{"copy a other", "patch lib/zip/zip.c other", "what", "mkdir a 8", "mkdir lib/zip/a/b 7", "swap doc z y", "patch doc/zip fix"} {
		build(buildFiles(), impl.BuildStep, func(r *impl.Recipe) { r.Steps = append(r.Steps, step) })
	}
	build(buildFiles(), impl.BuildFine, func(r *impl.Recipe) {
		r.Sources = append(r.Sources, impl.Source{Name: "other", Sum: sumRule("other")})
		r.Steps = append(r.Steps, "copy a other")
	})
}

// P71
func TestP71WhatIsBuiltTwiceIsTheSame(t *testing.T) {
	r := chance(71)
	for range 1000 {
		recipe, files := anyBuild(r)
		packs, code := impl.Build(recipe, files)
		other := slices.Clone(files)
		r.Shuffle(len(other), func(i, k int) { other[i], other[k] = other[k], other[i] })
		recipe.Sources = slices.Clone(recipe.Sources)
		again, second := impl.Build(recipe, other)
		if second != code || !same(again, packs) {
			t.Errorf("%s and %s: %d, %d", short(recipe), short(files), code, second)
		}
		slices.Reverse(recipe.Sources)
		again, second = impl.Build(recipe, files)
		if second != code || !same(again, packs) {
			t.Errorf("sources of %s turned about: %d, %d", short(recipe), code, second)
		}
	}
	for range 6 {
		files := buildFiles()
		r.Shuffle(len(files), func(i, k int) { files[i], files[k] = files[k], files[i] })
		if !same(wantBuild(t, buildRecipe(), files, 0), wantBuild(t, buildRecipe(), buildFiles(), 0)) {
			t.Errorf("%s", short(files))
		}
	}
}

// roomyPack is a pack with spare room behind its lists.
func roomyPack(p impl.Pack) impl.Pack {
	p.Needs = roomy(p.Needs, impl.Need{Name: "guard"})
	p.Tree = roomy(p.Tree, file("guard", 5, "guard"))
	return p
}

func TestPacksShareNoMemory(t *testing.T) {
	for _, p := range append(somePacks()[:40], noPacks()[3], noPacks()[5], noPacks()[7]) {
		p = roomyPack(p)
		wantApart(t, "packs", []any{p}, func() []any {
			text := impl.PackPut(p)
			back, ok := impl.PackGet(text)
			return []any{impl.PackOk(p), text, back, ok}
		})
	}
	one, _ := impl.PackGet(impl.PackPut(greatPack()))
	two, _ := impl.PackGet(impl.PackPut(greatPack()))
	wantNoShare(t, "PackGet twice", one, two)
	r := chance(72)
	for range 200 {
		recipe, files := anyBuild(r)
		recipe, files = roomyRecipe(recipe), roomy(files, impl.File{Name: "guard"})
		wantApart(t, "Build", []any{recipe, files}, func() []any {
			packs, code := impl.Build(recipe, files)
			return []any{packs, code}
		})
		tree := roomy(anyTree(r, 16), file("guard", 5, "guard"))
		wantApart(t, "PackSplit", []any{recipe, tree}, func() []any {
			packs, ok := impl.PackSplit(recipe, tree)
			return []any{packs, ok}
		})
	}
}
