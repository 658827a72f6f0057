package tests

import (
	"math/rand/v2"
	"regexp"
	"slices"
	"strconv"
	"strings"
	"testing"

	"loop.example/jackstay/impl"
)

func byName(list ...impl.Pack) []impl.Pack {
	return slices.SortedStableFunc(slices.Values(list), func(a, b impl.Pack) int { return strings.Compare(a.Name, b.Name) })
}

func rootOf(list ...impl.Pack) impl.Root {
	return impl.Root{Packs: byName(list...)}
}

func packOf(list []impl.Pack, name string) (impl.Pack, bool) {
	for _, p := range list {
		if p.Name == name {
			return p, true
		}
	}
	return impl.Pack{}, false
}

// joinedRule is all trees in one, by the rules of chapter 2.
func joinedRule(list []impl.Pack) ([]impl.Entry, bool) {
	var all []impl.Entry
	for _, p := range list {
		both, ok := joinRule(all, p.Tree)
		if !ok {
			return nil, false
		}
		all = both
	}
	return all, true
}

// packsRule is what is wrong with packs, by the document's words.
func packsRule(list []impl.Pack) int {
	for i, p := range list {
		if !packRule(p) || i > 0 && list[i-1].Name >= p.Name {
			return 1
		}
	}
	if len(list) > 5 {
		return 6
	}
	for _, p := range list {
		for _, n := range p.Needs {
			if !slices.ContainsFunc(list, func(o impl.Pack) bool { return impl.NeedFits(n, o.Name, o.Version) }) {
				return 4
			}
		}
	}
	if _, ok := joinedRule(list); !ok {
		return 5
	}
	return 0
}

// turnRule is a root with other packs, or as it is, and what is wrong with them.
func turnRule(r impl.Root, list []impl.Pack) (impl.Root, int) {
	code := packsRule(list)
	if code != 0 {
		return r, code
	}
	return impl.Root{Packs: list}, 0
}

func inRule(r impl.Root, p impl.Pack) (impl.Root, int) {
	_, there := packOf(r.Packs, p.Name)
	switch {
	case packsRule(r.Packs) != 0:
		return impl.Root{}, 1
	case !packRule(p):
		return r, 1
	case there:
		return r, 2
	}
	return turnRule(r, byName(append(slices.Clone(r.Packs), p)...))
}

// packsWithout is packs without that of a name.
func packsWithout(list []impl.Pack, name string) []impl.Pack {
	return slices.DeleteFunc(slices.Clone(list), func(p impl.Pack) bool { return p.Name == name })
}

func outRule(r impl.Root, name string) (impl.Root, int) {
	if packsRule(r.Packs) != 0 {
		return impl.Root{}, 1
	}
	left := packsWithout(r.Packs, name)
	if len(left) == len(r.Packs) {
		return r, 3
	}
	return turnRule(r, left)
}

func swapRule(r impl.Root, p impl.Pack) (impl.Root, int) {
	old, there := packOf(r.Packs, p.Name)
	switch {
	case packsRule(r.Packs) != 0:
		return impl.Root{}, 1
	case !packRule(p):
		return r, 1
	case !there:
		return r, 3
	case slices.Compare(versionRule(old.Version), versionRule(p.Version)) >= 0:
		return r, 7
	}
	return turnRule(r, byName(append(packsWithout(r.Packs, p.Name), p)...))
}

func rootTextRule(r impl.Root) string {
	text := ""
	for _, p := range r.Packs {
		pack := summed(packBodyRule(p))
		text += strconv.Itoa(len(pack)) + "\n" + pack
	}
	return text
}

// turn is a root, and a code.
type turn struct {
	root impl.Root
	code int
}

func turnOf(root impl.Root, code int) turn {
	return turn{root, code}
}

// wantTurn checks what RootIn, RootOut or RootSwap answers of a root and something else.
func wantTurn(t *testing.T, what string, was impl.Root, other any, got turn, want turn, code int) impl.Root {
	t.Helper()
	if got.code != want.code || got.code != code || !same(got.root, want.root) {
		t.Errorf("%s of %s and %s is %s, %d; by the rule it is %s, %d, and %d was asked", what, short(was), short(other), short(got.root), got.code, short(want.root), want.code, code)
	}
	return got.root
}

func wantIn(t *testing.T, r impl.Root, p impl.Pack, code int) impl.Root {
	t.Helper()
	return wantTurn(t, "RootIn", r, p, turnOf(impl.RootIn(r, p)), turnOf(inRule(r, p)), code)
}

func wantOut(t *testing.T, r impl.Root, name string, code int) impl.Root {
	t.Helper()
	return wantTurn(t, "RootOut", r, name, turnOf(impl.RootOut(r, name)), turnOf(outRule(r, name)), code)
}

func wantSwap(t *testing.T, r impl.Root, p impl.Pack, code int) impl.Root {
	t.Helper()
	return wantTurn(t, "RootSwap", r, p, turnOf(impl.RootSwap(r, p)), turnOf(swapRule(r, p)), code)
}

// treed is a pack with a tree.
func treed(name string, version string, tree []impl.Entry, needs ...string) impl.Pack {
	return impl.Pack{Name: name, Version: version, Needs: needList(needs), Tree: tree}
}

// binned is a pack with a file of its own in a dir that others have, too.
func binned(name string, version string, needs ...string) impl.Pack {
	return treed(name, version, []impl.Entry{dir("bin", 7), file("bin/"+name, 5, name+" "+version)}, needs...)
}

var rootNames = []string{"a", "ab", "b", "c", "d", "e", "z9"}

// anyRootPack is a pack that may or may not go with others.
func anyRootPack(r *rand.Rand) impl.Pack {
	name := rootNames[r.IntN(len(rootNames))]
	p := impl.Pack{Name: name, Version: []string{"1", "1.2", "1.10", "2"}[r.IntN(4)]}
	for _, other := range rootNames {
		if other != name && len(p.Needs) < 6 && r.IntN(9) == 0 {
			p.Needs = append(p.Needs, needList([]string{other + []string{"", ">=1", ">=1.2", "<2", "=1.2"}[r.IntN(5)]})...)
		}
	}
	tree := []impl.Entry{dir("bin", 7), dir("lib", []int{7, 7, 7, 7, 7, 5}[r.IntN(6)]), file("bin/"+name, 5, name), link("lib/"+name, "bin/"+name), dir("lib/"+name+".d", 1), file(name, 1, ""), file("bin/"+rootNames[r.IntN(7)]+".x", 2, "x")}
	for _, e := range tree {
		up := impl.PathUp(e.Path)
		_, there := at(p.Tree, up)
		if (up == "" || there) && r.IntN(2) == 0 {
			p.Tree = byPath(append(p.Tree, e)...)
		}
	}
	return p
}

// anyRoot is a root that is ok, found by the rule alone.
func anyRoot(r *rand.Rand) impl.Root {
	var root impl.Root
	for range r.IntN(16) {
		next, code := inRule(root, anyRootPack(r))
		if code == 0 {
			root = next
		}
	}
	return root
}

// ringRoot is a root whose packs need each other.
func ringRoot() impl.Root {
	return rootOf(binned("a", "1", "b"), binned("b", "1", "c>=1"), binned("c", "1", "a=1"), binned("d", "1"))
}

// fullRoot has as many packs, and as many entries, as may be.
func fullRoot() impl.Root {
	return rootOf(manyOf(impl.RootMax, func(i int) impl.Pack {
		name := numbered("p")(i)
		return treed(name, "1", byPath(dir("bin", 7), file("bin/"+name, 7, ""), file("bin/"+name+".b", 7, ""), link("bin/"+name+".c", "bin")))
	})...)
}

func someRoots() []impl.Root {
	list := []impl.Root{
		{},
		{Packs: []impl.Pack{}},
		rootOf(smallPack()),
		rootOf(greatNeedless()),
		fullRoot(),
		ringRoot(),
		rootOf(binned("zip", "1.2"), binned("tar", "2", "zip>=1.1")),
		rootOf(treed("a", "1", nil), treed("b", "1", []impl.Entry{dir("d", 7)}), treed("c", "1", []impl.Entry{dir("d", 7)})),
		rootOf(treed("a", "1", fullTree()), treed("b", "1", []impl.Entry{dir("d", 7)})),
	}
	r := chance(41)
	for range 300 {
		list = append(list, anyRoot(r))
	}
	return list
}

// greatNeedless is the greatest pack, without its needs.
func greatNeedless() impl.Pack {
	p := greatPack()
	p.Needs = nil
	return p
}

// noRoots are roots that are not ok, with what is wrong with their packs.
func noRoots() []impl.Root {
	six := manyOf(impl.RootMax+1, func(i int) impl.Pack { return binned(numbered("p")(i), "1") })
	list := []impl.Root{
		{Packs: []impl.Pack{binned("b", "1"), binned("a", "1")}},
		{Packs: []impl.Pack{needy("a", "1"), needy("a", "1")}},
		{Packs: []impl.Pack{needy("a", "1"), needy("a", "2")}},
		{Packs: six},
		{Packs: manyOf(100, func(i int) impl.Pack { return needy("p"+strconv.Itoa(100+i), "1") })},
		rootOf(needy("a", "1", "none")),
		rootOf(needy("a", "1", "b>=2"), needy("b", "1")),
		rootOf(needy("a", "1", "b<1"), needy("b", "1")),
		rootOf(needy("a", "1", "b=1"), needy("b", "1.0")),
		rootOf(treed("a", "1", []impl.Entry{file("f", 1, "")}), treed("b", "1", []impl.Entry{file("f", 1, "")})),
		rootOf(treed("a", "1", []impl.Entry{dir("d", 1)}), treed("b", "1", []impl.Entry{dir("d", 2)})),
		rootOf(treed("a", "1", []impl.Entry{dir("d", 1)}), treed("b", "1", []impl.Entry{link("d", "e")})),
		rootOf(treed("a", "1", []impl.Entry{file("d", 1, "")}), treed("b", "1", []impl.Entry{dir("d", 1), dir("d/e", 1)})),
		rootOf(treed("a", "1", fullTree()), treed("b", "1", []impl.Entry{dir("e", 7)})),
	}
	for _, p := range noPacks() {
		list = append(list, impl.Root{Packs: []impl.Pack{p}})
	}
	return append(list, rootOf(binned("a", "1"), binned("b", "1"), impl.Pack{Name: "c"}))
}

func TestRootOk(t *testing.T) {
	for i, r := range someRoots() {
		if !impl.RootOk(r) || packsRule(r.Packs) != 0 {
			t.Errorf("%d: %s is ok", i, short(r))
		}
	}
	for i, r := range noRoots() {
		if impl.RootOk(r) || packsRule(r.Packs) == 0 {
			t.Errorf("%d: %s is not ok", i, short(r))
		}
		if len(impl.RootTree(r)) != 0 || impl.RootPut(r) != "" || impl.RootOwner(r, "f") != "" || impl.RootOwner(r, "bin/a") != "" {
			t.Errorf("%d: %s is not ok, and has something", i, short(r))
		}
		wantIn(t, r, binned("new", "1"), impl.RootForm)
		wantIn(t, r, impl.Pack{}, impl.RootForm)
		wantOut(t, r, "a", impl.RootForm)
		wantOut(t, r, "none", impl.RootForm)
		wantSwap(t, r, binned("a", "9"), impl.RootForm)
		wantSwap(t, r, impl.Pack{}, impl.RootForm)
	}
	// Spare room behind its packs is not of a root.
	room := append(slices.Clone(fullRoot().Packs), impl.Pack{})
	if !impl.RootOk(impl.Root{Packs: room[:impl.RootMax]}) {
		t.Error("what is behind the end counts")
	}
}

func TestRootIsTheRule(t *testing.T) {
	r := chance(42)
	var ins, outs, swaps [8]int
	for range 6000 {
		root := anyRoot(r)
		p := anyRootPack(r)
		if r.IntN(20) == 0 {
			p.Version = "x"
		}
		_, in := inRule(root, p)
		_, out := outRule(root, p.Name)
		_, swap := swapRule(root, p)
		ins[in]++
		outs[out]++
		swaps[swap]++
		wantIn(t, root, p, in)
		wantOut(t, root, p.Name, out)
		wantSwap(t, root, p, swap)
	}
	for _, code := range []int{impl.RootFine, impl.RootForm, impl.RootTwice, impl.RootNeeds, impl.RootClash, impl.RootFull} {
		if ins[code] < 20 {
			t.Errorf("RootIn was %d %d times alone", code, ins[code])
		}
	}
	for _, code := range []int{impl.RootFine, impl.RootNone, impl.RootNeeds} {
		if outs[code] < 20 {
			t.Errorf("RootOut was %d %d times alone", code, outs[code])
		}
	}
	for _, code := range []int{impl.RootFine, impl.RootForm, impl.RootNone, impl.RootNeeds, impl.RootClash, impl.RootElder} {
		if swaps[code] < 20 {
			t.Errorf("RootSwap was %d %d times alone", code, swaps[code])
		}
	}
}

// Codes, one ahead of the other, and each limit met exactly and passed by one.
func TestRootCodesInOrder(t *testing.T) {
	four := rootOf(fullRoot().Packs[:4]...)
	last := fullRoot().Packs[4]
	full := wantIn(t, four, last, impl.RootFine)
	if len(full.Packs) != impl.RootMax || len(impl.RootTree(full)) != impl.TreeMax {
		t.Errorf("%d packs, %d entries", len(full.Packs), len(impl.RootTree(full)))
	}
	wantIn(t, full, treed("q", "1", nil), impl.RootFull)
	wantIn(t, full, treed("q", "1", fullTree(), "none"), impl.RootFull)
	wantIn(t, full, treed("q", "", fullTree(), "none"), impl.RootForm)
	wantIn(t, full, treed("p0", "1", fullTree(), "none"), impl.RootTwice)
	wantIn(t, full, treed("p0", "", nil), impl.RootForm)
	wantIn(t, four, treed("q", "1", fullTree(), "none"), impl.RootNeeds)
	wantIn(t, four, treed("q", "1", fullTree(), "p0<1"), impl.RootNeeds)
	wantIn(t, four, treed("q", "1", fullTree(), "p0"), impl.RootClash)
	// One entry more than a tree may have.
	more := last
	more.Tree = byPath(append(slices.Clone(last.Tree), dir("bin/x", 1))...)
	wantIn(t, four, more, impl.RootClash)
	wantOut(t, full, "p0", impl.RootFine)
	for _, name := range []string{"none", "", "p", "p00", "P0", "p0\n", "\xff"} {
		wantOut(t, full, name, impl.RootNone)
		wantOut(t, impl.Root{}, name, impl.RootNone)
	}
	for _, v := range []string{"0", "0.999", "1"} {
		wantSwap(t, full, treed("p0", v, fullTree(), "none"), impl.RootElder)
	}
	for _, v := range []string{"1.0", "1.0.0.0", "2", "10"} {
		wantSwap(t, full, treed("p0", v, nil), impl.RootFine)
		wantSwap(t, full, treed("p0", v, fullTree(), "none"), impl.RootNeeds)
		wantSwap(t, full, treed("p0", v, fullTree()), impl.RootClash)
	}
	wantSwap(t, full, treed("q", "1", nil), impl.RootNone)
	wantSwap(t, full, treed("q", "", nil), impl.RootForm)
	wantSwap(t, full, treed("p0", "01", nil), impl.RootForm)
	for _, p := range noPacks() {
		wantIn(t, full, p, impl.RootForm)
		wantSwap(t, full, p, impl.RootForm)
	}
	// What is needed of a pack holds of the later one.
	r := rootOf(binned("zip", "1"), binned("tar", "1", "zip<2"))
	wantSwap(t, r, binned("zip", "1.999"), impl.RootFine)
	wantSwap(t, r, binned("zip", "2"), impl.RootNeeds)
	// Its own name may not be among its needs, but packs may need each other.
	for _, p := range ringRoot().Packs {
		code := impl.RootNeeds
		if p.Name == "d" {
			code = impl.RootFine
		}
		wantOut(t, ringRoot(), p.Name, code)
	}
}

// P41
func TestP41AllOfAllPacksAndNothingElse(t *testing.T) {
	for _, r := range someRoots() {
		tree := impl.RootTree(r)
		want, _ := joinedRule(r.Packs)
		wantTree(t, "RootTree", tree, want)
		for _, e := range tree {
			count := 0
			for _, p := range r.Packs {
				own, there := at(p.Tree, e.Path)
				if there && own != e {
					t.Errorf("%v is %v in %s", e, own, p.Name)
				}
				if there {
					count++
				}
			}
			if count == 0 || count > 1 && e.Kind != impl.EntryDir {
				t.Errorf("%v is of %d packs of %s", e, count, short(r))
			}
		}
		for _, p := range r.Packs {
			for _, e := range p.Tree {
				if got, there := at(tree, e.Path); !there || got != e {
					t.Errorf("%v of %s is not there", e, p.Name)
				}
			}
		}
	}
}

// P42
func TestP42PutInAsAWholeOrNotAtAll(t *testing.T) {
	r := chance(421)
	fine := 0
	for range 4000 {
		root, p := anyRoot(r), anyRootPack(r)
		next, code := impl.RootIn(root, p)
		if code != impl.RootFine {
			if !same(next, root) {
				t.Errorf("%d, and %s is %s", code, short(root), short(next))
			}
			continue
		}
		fine++
		tree := impl.RootTree(next)
		for _, e := range p.Tree {
			if got, there := at(tree, e.Path); !there || got != e {
				t.Errorf("%v of %s is not there", e, short(p))
			}
		}
		if got, there := packOf(next.Packs, p.Name); !there || !same(got, p) || !impl.RootOk(next) {
			t.Errorf("%s is not in %s", short(p), short(next))
		}
		back, out := impl.RootOut(next, p.Name)
		if out != impl.RootFine || !same(back, root) {
			t.Errorf("out of %s again it is %s, %d", short(next), short(back), out)
		}
	}
	if fine < 400 {
		t.Errorf("%d alone", fine)
	}
}

// P43
func TestP43NeededStays(t *testing.T) {
	stayed, went := 0, 0
	for _, r := range someRoots() {
		for _, p := range r.Packs {
			left, code := impl.RootOut(r, p.Name)
			needed := len(impl.Needers(r.Packs, p.Name)) > 0
			if (code == impl.RootNeeds) != needed || (code == impl.RootFine) == needed {
				t.Errorf("%s of %s: %d, needed %v", p.Name, short(r), code, needed)
			}
			if needed {
				stayed++
				if !same(left, r) {
					t.Errorf("%s turned to %s", short(r), short(left))
				}
				continue
			}
			went++
			was, is := impl.RootTree(r), impl.RootTree(left)
			for _, e := range was {
				own, mine := at(p.Tree, e.Path)
				got, there := at(is, e.Path)
				switch {
				case mine && own.Kind != impl.EntryDir && there:
					t.Errorf("%v is left of %s", e, p.Name)
				case !mine && (!there || got != e):
					t.Errorf("%v went with %s", e, p.Name)
				}
			}
			for _, e := range is {
				if got, there := at(was, e.Path); !there || got != e {
					t.Errorf("%v came as %s went", e, p.Name)
				}
			}
		}
	}
	if stayed < 50 || went < 200 {
		t.Errorf("%d stayed, %d went", stayed, went)
	}
}

// P44
func TestP44LaterIsAsIfTheElderNeverWas(t *testing.T) {
	r := chance(44)
	fine, wrong := 0, 0
	for range 20000 {
		root, p := anyRoot(r), anyRootPack(r)
		old, there := packOf(root.Packs, p.Name)
		if !there || impl.VersionOrder(old.Version, p.Version) >= 0 || len(impl.Needers(root.Packs, p.Name)) > 0 {
			continue
		}
		swapped, code := impl.RootSwap(root, p)
		left, out := impl.RootOut(root, p.Name)
		put, in := impl.RootIn(left, p)
		if out != impl.RootFine || code != in || code == 0 && !same(swapped, put) || code != 0 && !same(swapped, root) {
			t.Errorf("%s with %s is %s, %d; out and in it is %s, %d", short(root), short(p), short(swapped), code, short(put), in)
		}
		if code == 0 {
			fine++
		} else {
			wrong++
		}
	}
	if fine < 100 || wrong < 100 {
		t.Errorf("%d were fine, %d were not", fine, wrong)
	}
}

// P45
func TestP45OwnerHasItInItsTree(t *testing.T) {
	for _, r := range someRoots() {
		paths := []string{"", "nowhere", "bin/none", "/", "A", "bin/", "a\n"}
		for _, p := range r.Packs {
			for _, e := range p.Tree {
				paths = append(paths, e.Path)
			}
		}
		for _, path := range paths {
			want := ""
			for _, p := range r.Packs {
				if e, there := at(p.Tree, path); there && e.Kind != impl.EntryDir {
					want = p.Name
				}
			}
			if got := impl.RootOwner(r, path); got != want {
				t.Errorf("%q of %s is of %q, not %q", path, short(r), got, want)
			}
		}
	}
	r := rootOf(treed("a", "1", []impl.Entry{dir("d", 7), link("d/l", "d"), file("f", 1, "")}), treed("b", "1", []impl.Entry{dir("d", 7), file("d/f", 1, "")}))
	for path, want := range map[string]string{"d": "", "d/l": "a", "f": "a", "d/f": "b", "d/x": "", "d/f/x": "", "l": ""} {
		if got := impl.RootOwner(r, path); got != want {
			t.Errorf("%q is of %q, not %q", path, got, want)
		}
	}
}

// P46
func TestP46RootIsReadBack(t *testing.T) {
	for _, r := range someRoots() {
		text := rootTextRule(r)
		if got := impl.RootPut(r); got != text {
			t.Errorf("%s is written as %.300q, not %.300q", short(r), got, text)
		}
		back, ok := impl.RootGet(text)
		if !ok || !same(back, r) {
			t.Errorf("%.300q is read as %s, %v", text, short(back), ok)
		}
	}
	hand := summed("pack a 1\n\nfile 6 f 1\nx\n")
	other := summed("pack b 2\nneed a=1\n\n")
	want := rootOf(treed("a", "1", []impl.Entry{file("f", 6, "x")}), needy("b", "2", "a=1"))
	r, ok := impl.RootGet(strconv.Itoa(len(hand)) + "\n" + hand + strconv.Itoa(len(other)) + "\n" + other)
	if !ok || !same(r, want) {
		t.Errorf("%s, %v", short(r), ok)
	}
}

var sizeForm = regexp.MustCompile(`^(0|[1-9][0-9]{0,3})\n`)

// rootReadRule is RootGet, pack by pack.
func rootReadRule(text string) (impl.Root, bool) {
	var r impl.Root
	for text != "" {
		found := sizeForm.FindStringSubmatch(text)
		if found == nil {
			return impl.Root{}, false
		}
		size, _ := strconv.Atoi(found[1])
		text = text[len(found[0]):]
		if size > len(text) {
			return impl.Root{}, false
		}
		p, ok := packReadRule(text[:size])
		if !ok {
			return impl.Root{}, false
		}
		r.Packs = append(r.Packs, p)
		text = text[size:]
	}
	if packsRule(r.Packs) != 0 {
		return impl.Root{}, false
	}
	return r, true
}

func wantRootRead(t *testing.T, text string) bool {
	t.Helper()
	r, ok := impl.RootGet(text)
	want, wantOk := rootReadRule(text)
	if ok != wantOk || !same(r, want) {
		t.Errorf("%.300q is read as %s, %v; it must be %v", text, short(r), ok, wantOk)
	}
	if ok && impl.RootPut(r) != text {
		t.Errorf("%.300q is read, and written otherwise", text)
	}
	return ok
}

func TestRootReadWrong(t *testing.T) {
	for _, r := range noRoots() {
		allOk := !slices.ContainsFunc(r.Packs, func(p impl.Pack) bool { return !packRule(p) })
		if allOk && wantRootRead(t, rootTextRule(r)) {
			t.Errorf("%s is read", short(r))
		}
	}
	one := summed("pack a 1\n\n")
	size := strconv.Itoa(len(one))
	for _, text := range []string{
		"\n", "0", "0\n", " ", "\x00", size, size + "\n", one, size + one, size + " \n" + one, " " + size + "\n" + one, "0" + size + "\n" + one, "+" + size + "\n" + one, "-" + size + "\n" + one, size + "\n\n" + one, size + "\r\n" + one, size + ".0\n" + one, "0x1f\n" + one,
		strconv.Itoa(len(one)-1) + "\n" + one, strconv.Itoa(len(one)+1) + "\n" + one, strconv.Itoa(len(one)+1) + "\n" + one + "\n", size + "\n" + one + "\n", size + "\n" + one + "x", size + "\n" + one + "0\n", size + "\n" + one[:len(one)-1], size + "\n" + one[1:], size + "\n" + strings.Replace(one, "a", "b", 1),
		size + "\n" + one + size + "\n" + one, size + "\n" + one + one, "99999999999999999999\n" + one, "18446744073709551647\n" + one, "9223372036854775807\n" + one, strings.Repeat("9", 100000) + "\n" + one, strings.Repeat("0", 100000), strings.Repeat("\n", 100000), strings.Repeat("0\n", 100000),
		"end\n", size + "\n" + one + "end\n", strings.Repeat(size+"\n"+one, 10000),
	} {
		if wantRootRead(t, text) {
			t.Errorf("%.100q is read", text)
		}
	}
	if !wantRootRead(t, "") || !wantRootRead(t, size+"\n"+one) {
		t.Error("what is a root is not read")
	}
	r := chance(461)
	for _, root := range someRoots()[:80] {
		text := rootTextRule(root)
		for range 60 {
			other := turned(r, text)
			if other != text && wantRootRead(t, other) {
				t.Errorf("%.300q is read", other)
			}
		}
	}
	// Each byte that is another one is seen, and so is each end that is torn off, but where a pack ends.
	text := rootTextRule(rootOf(binned("zip", "1.2"), binned("tar", "2", "zip>=1.1")))
	for i := range len(text) {
		wantRootRead(t, text[:i])
		if wantRootRead(t, text[:i]+string([]byte{text[i] ^ 1})+text[i+1:]) {
			t.Errorf("byte %d is another one", i)
		}
	}
}

// P75
func TestP75InWhateverOrderTheRootIsTheSame(t *testing.T) {
	r := chance(751)
	both := 0
	for range 8000 {
		root, p, q := anyRoot(r), anyRootPack(r), anyRootPack(r)
		if p.Name == q.Name {
			continue
		}
		one, first := impl.RootIn(root, p)
		one, second := impl.RootIn(one, q)
		two, third := impl.RootIn(root, q)
		two, fourth := impl.RootIn(two, p)
		if first+second+third+fourth != 0 {
			continue
		}
		both++
		if !same(one, two) {
			t.Errorf("%s and %s into %s: %s, %s", short(p), short(q), short(root), short(one), short(two))
		}
	}
	if both < 200 {
		t.Errorf("%d alone", both)
	}
	list := fullRoot().Packs
	permutations(nil, namesOfPacks(list), func(order []string) bool {
		var root impl.Root
		for _, name := range order {
			p, _ := packOf(list, name)
			root = wantIn(t, root, p, impl.RootFine)
		}
		if !same(root, fullRoot()) {
			t.Errorf("in the order %v it is %s", order, short(root))
		}
		return true
	})
}

// P76
func TestP76OfOnePackIsOfNoOther(t *testing.T) {
	clashes, fine := 0, 0
	for _, r := range someRoots() {
		if len(r.Packs) == impl.RootMax {
			continue
		}
		for _, p := range r.Packs {
			onlyDirs := !slices.ContainsFunc(p.Tree, func(e impl.Entry) bool { return e.Kind != impl.EntryDir })
			p.Name = "other"
			code := impl.RootClash
			if onlyDirs {
				code = impl.RootFine
				fine++
			} else {
				clashes++
			}
			wantIn(t, r, p, code)
		}
	}
	if clashes < 100 || fine < 20 {
		t.Errorf("%d clashed, %d did not", clashes, fine)
	}
}

// P77
func TestP77WithoutItsNeedsNotPutIn(t *testing.T) {
	for _, r := range someRoots() {
		if len(r.Packs) == impl.RootMax {
			continue
		}
		wantIn(t, r, treed("new", "1", nil, "none"), impl.RootNeeds)
		wantIn(t, r, treed("new", "1", fullTree(), "none>=0"), impl.RootNeeds)
		for _, p := range r.Packs {
			for _, n := range []string{p.Name + "<" + p.Version, p.Name + "=999.999.999.998", p.Name + ">=999"} {
				if need, ok := impl.NeedGet(n); ok && !impl.NeedFits(need, p.Name, p.Version) {
					wantIn(t, r, treed("new", "1", nil, n), impl.RootNeeds)
				}
			}
			for _, n := range []string{p.Name, p.Name + "=" + p.Version, p.Name + ">=" + p.Version, p.Name + ">=0"} {
				next := wantIn(t, r, treed("new", "1", nil, n), impl.RootFine)
				left := wantOut(t, next, p.Name, impl.RootNeeds)
				if !same(left, next) {
					t.Errorf("%s is %s", short(next), short(left))
				}
			}
		}
	}
}

// P78
func TestP78WithoutPacksThereIsNothing(t *testing.T) {
	for _, none := range []impl.Root{{}, {Packs: []impl.Pack{}}} {
		if !impl.RootOk(none) || len(impl.RootTree(none)) != 0 || impl.RootPut(none) != "" || impl.RootOwner(none, "a") != "" {
			t.Error("a root without packs has something")
		}
		for _, tree := range someTrees() {
			r := wantIn(t, none, treed("a", "1", tree), impl.RootFine)
			wantTree(t, "the pack's tree", impl.RootTree(r), tree)
		}
	}
}

// P79
func TestP79TakenOutAsLongAsNobodyNeedsThem(t *testing.T) {
	emptied := 0
	for _, r := range someRoots() {
		names, code := impl.Closure(r.Packs, namesOfPacks(r.Packs))
		if code != impl.OrderFine {
			continue
		}
		slices.Reverse(names)
		left := r
		for _, name := range names {
			left = wantOut(t, left, name, impl.RootFine)
		}
		if len(left.Packs) != 0 || len(impl.RootTree(left)) != 0 {
			t.Errorf("%s is left of %s", short(left), short(r))
		}
		if len(names) > 2 {
			emptied++
		}
	}
	if emptied < 50 {
		t.Errorf("%d alone", emptied)
	}
}

// roomyRoot is a root with spare room behind each of its lists.
func roomyRoot(r impl.Root) impl.Root {
	var list []impl.Pack
	for _, p := range r.Packs {
		list = append(list, roomyPack(p))
	}
	return impl.Root{Packs: roomy(list, needy("guard", "1"))}
}

func TestRootsShareNoMemory(t *testing.T) {
	r := chance(76)
	for i, root := range append(someRoots()[:120], noRoots()[:14]...) {
		root = roomyRoot(root)
		p := roomyPack(anyRootPack(r))
		if i%3 == 0 {
			p = roomyPack(binned("new", "1"))
		}
		names := append(namesOfPacks(root.Packs), "none")
		for _, name := range names {
			later := roomyPack(treed(name, "100", nil))
			wantApart(t, "roots", []any{root, p, later}, func() []any {
				in, one := impl.RootIn(root, p)
				out, two := impl.RootOut(root, name)
				swap, three := impl.RootSwap(root, later)
				other, four := impl.RootSwap(root, p)
				text := impl.RootPut(root)
				back, ok := impl.RootGet(text)
				return []any{in, one, out, two, swap, three, other, four, text, back, ok, impl.RootOk(root), impl.RootTree(root), impl.RootOwner(root, "bin/a")}
			})
		}
	}
	one, _ := impl.RootGet(rootTextRule(fullRoot()))
	two, _ := impl.RootGet(rootTextRule(fullRoot()))
	wantNoShare(t, "RootGet twice", one, two)
}
