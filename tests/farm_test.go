package tests

import (
	"math"
	"math/rand/v2"
	"regexp"
	"slices"
	"strconv"
	"strings"
	"testing"

	"loop.example/jackstay/impl"
)

// logRule is all that is written to a log of a root.
func logRule(r impl.Root) string {
	text := rootTextRule(r)
	return strconv.Itoa(len(text)) + "\n" + text + "end\n"
}

var logForm = regexp.MustCompile(`^(0|[1-9][0-9]*)\n((?s:.*))end\n$`)

// riseRule is DiskRise by the document's words.
func riseRule(d impl.Disk) (impl.Root, impl.Disk, bool) {
	text := d.Text
	found := logForm.FindStringSubmatch(d.Log)
	if found != nil && found[1] == strconv.Itoa(len(found[2])) {
		text = found[2]
	}
	r, ok := rootReadRule(text)
	if !ok {
		return impl.Root{}, impl.Disk{}, false
	}
	return r, impl.Disk{Text: text}, true
}

func wantRise(t *testing.T, d impl.Disk) (impl.Root, impl.Disk, bool) {
	t.Helper()
	r, up, ok := impl.DiskRise(d)
	want, wantUp, wantOk := riseRule(d)
	if ok != wantOk || up != wantUp || !same(r, want) {
		t.Errorf("DiskRise of %s is %s, %s, %v; it must be %v", short(d), short(r), short(up), ok, wantOk)
	}
	return r, up, ok
}

// noDisks are disks that are not ok.
func noDisks() []impl.Disk {
	root := rootOf(binned("zip", "1"))
	fine := rootTextRule(root)
	return []impl.Disk{
		{Text: "x"}, {Text: "\n"}, {Text: fine + "\n"}, {Text: fine[1:]}, {Text: fine[:len(fine)-1]}, {Text: fine + fine},
		{Log: "x"}, {Log: "0"}, {Log: "0\nend\n"}, {Text: fine, Log: "0\nend\n"}, {Text: fine, Log: logRule(root)}, {Text: fine, Log: logRule(root)[:9]}, {Text: fine, Log: " "},
		{Text: "x", Log: logRule(root)}, {Text: rootTextRule(rootOf(needy("a", "1", "none")))},
		{Text: rootTextRule(impl.Root{Packs: []impl.Pack{needy("b", "1"), needy("a", "1")}})},
	}
}

func TestDiskOk(t *testing.T) {
	for _, r := range someRoots() {
		d := impl.DiskNew(r)
		if d.Text != rootTextRule(r) || d.Log != "" || !impl.DiskOk(d) {
			t.Errorf("DiskNew of %s is %s", short(r), short(d))
		}
	}
	for _, r := range noRoots() {
		if d := impl.DiskNew(r); d != (impl.Disk{}) {
			t.Errorf("DiskNew of what is not ok is %s", short(d))
		}
	}
	if !impl.DiskOk(impl.Disk{}) {
		t.Error("a disk without packs is ok")
	}
	for i, d := range noDisks() {
		if impl.DiskOk(d) {
			t.Errorf("%d: %s is not ok", i, short(d))
		}
		for _, r := range []impl.Root{{}, rootOf(binned("a", "1"))} {
			if torn := impl.DiskTear(d, r, 10); torn != (impl.Disk{}) {
				t.Errorf("%d: DiskTear is %s", i, short(torn))
			}
		}
	}
}

// P47
func TestP47WhatWasKeptIsThere(t *testing.T) {
	for _, r := range someRoots() {
		d := impl.DiskNew(r)
		back, up, ok := wantRise(t, d)
		if !ok || !same(back, r) || up != d {
			t.Errorf("%s is up as %s, %s, %v", short(r), short(back), short(up), ok)
		}
	}
}

// tears are how many bytes may be kept of a text.
func tears(text string) []int {
	list := []int{math.MinInt, -1000, -1, len(text) + 1, len(text) + 1000, math.MaxInt}
	for i := range len(text) + 1 {
		list = append(list, i)
	}
	return list
}

// P48
func TestP48AsAWholeOrTheOneThatWas(t *testing.T) {
	roots := append(someRoots()[:9], someRoots()[20:35]...)
	for i, next := range roots {
		was := roots[(i+7)%len(roots)]
		d := impl.DiskNew(was)
		log := logRule(next)
		for _, bytes := range tears(log) {
			torn := impl.DiskTear(d, next, bytes)
			kept := log[:min(max(bytes, 0), len(log))]
			if torn.Text != d.Text || torn.Log != kept {
				t.Fatalf("%d bytes of %s are %s", bytes, short(next), short(torn))
			}
			r, up, ok := impl.DiskRise(torn)
			want := was
			if bytes >= len(log) {
				want = next
			}
			if !ok || !same(r, want) || up != impl.DiskNew(want) {
				t.Fatalf("behind %d bytes of %d %s is up as %s, %v", bytes, len(log), short(was), short(r), ok)
			}
		}
	}
	for _, r := range noRoots() {
		for _, bytes := range []int{-1, 0, 1, 1000} {
			if torn := impl.DiskTear(impl.DiskNew(fullRoot()), r, bytes); torn != (impl.Disk{}) {
				t.Errorf("what is not ok is written: %s", short(torn))
			}
		}
	}
}

// What is in a log need not have come from a root that was written.
func TestRiseOfOtherLogs(t *testing.T) {
	root, other := rootOf(binned("zip", "1")), rootOf(binned("tar", "1"), binned("zip", "2"))
	log := logRule(other)
	size := strconv.Itoa(len(rootTextRule(other)))
	torn := []string{"", "0", "0\n", "\n", "end\n", "0\nend", "0\nend ", "0\nend\n\n", "0\nend\nend\n", "00\nend\n", "-0\nend\n", "+0\nend\n", " 0\nend\n", "0 \nend\n", "0\r\nend\n", "1\nend\n", "4\nend\n", "0\nEnd\n", "0\n\nend\n", log + "x", log + "\n", log + log, log[1:], "0" + log, " " + log, size + rootTextRule(other) + "end\n", log[:len(log)-1] + " ", "99999999999999999999\nend\n", "18446744073709551616\nend\n", strings.Repeat("0", 100000) + "\nend\n", strings.Repeat("\n", 100000)}
	for _, text := range torn {
		r, up, ok := wantRise(t, impl.Disk{Text: impl.RootPut(root), Log: text})
		if !ok || !same(r, root) || up != impl.DiskNew(root) {
			t.Errorf("with %.60q it is up as %s, %v", text, short(r), ok)
		}
		_, up, ok = wantRise(t, impl.Disk{Text: "x", Log: text})
		if ok || up != (impl.Disk{}) {
			t.Errorf("with %.60q, and nothing else, it is up", text)
		}
	}
	// A log that is whole is what is there, whatever Text is, and whatever is in it.
	for _, text := range []string{"", impl.RootPut(root), "x", log} {
		r, up, ok := wantRise(t, impl.Disk{Text: text, Log: log})
		if !ok || !same(r, other) || up != impl.DiskNew(other) {
			t.Errorf("with %.60q it is up as %s, %v", text, short(r), ok)
		}
		r, _, ok = wantRise(t, impl.Disk{Text: text, Log: "0\nend\n"})
		if !ok || len(r.Packs) != 0 {
			t.Errorf("without packs it is up as %s, %v", short(r), ok)
		}
		for _, whole := range []string{"1\nxend\n", "4\nend\nend\n", "3\n1\n\nend\n"} {
			if _, _, ok = wantRise(t, impl.Disk{Text: text, Log: whole}); ok {
				t.Errorf("%q is no root", whole)
			}
		}
	}
	r := chance(481)
	for range 5000 {
		d := impl.Disk{Text: turned(r, impl.RootPut(root)), Log: turned(r, log)}
		if r.IntN(2) == 0 {
			d.Text = impl.RootPut(root)
		}
		wantRise(t, d)
	}
}

// P49
func TestP49UpAgainIsOkAndTheSame(t *testing.T) {
	r := chance(49)
	roots := someRoots()
	for range 2000 {
		d := impl.DiskTear(impl.DiskNew(roots[r.IntN(len(roots))]), roots[r.IntN(len(roots))], r.IntN(1500))
		root, up, ok := wantRise(t, d)
		if !ok || !impl.RootOk(root) || !impl.DiskOk(up) || up != impl.DiskNew(root) {
			t.Errorf("%s is up as %s, %s, %v", short(d), short(root), short(up), ok)
		}
		again, second, fine := impl.DiskRise(up)
		if !fine || second != up || !same(again, root) {
			t.Errorf("%s once more is %s, %s, %v", short(up), short(again), short(second), fine)
		}
	}
}

// P80
func TestP80OfTwoTheSecondIsThere(t *testing.T) {
	r := chance(80)
	roots := someRoots()
	for range 2000 {
		was, first, second := roots[r.IntN(len(roots))], roots[r.IntN(len(roots))], roots[r.IntN(len(roots))]
		_, d, _ := impl.DiskRise(impl.DiskTear(impl.DiskNew(was), first, r.IntN(len(logRule(first)))))
		if d != impl.DiskNew(was) {
			t.Errorf("a torn one is there: %s", short(d))
		}
		root, up, ok := impl.DiskRise(impl.DiskTear(d, second, len(logRule(second))))
		if !ok || !same(root, second) || up != impl.DiskNew(second) {
			t.Errorf("%s is up as %s, %v", short(second), short(root), ok)
		}
	}
}

// farmRule is FarmOk by the document's words.
func farmRule(f impl.Farm) bool {
	fine := filesRule(f.Files) && len(f.Built) <= 8 && f.Disk.Log == ""
	for i, p := range f.Built {
		fine = fine && packRule(p) && (i == 0 || f.Built[i-1].Name < p.Name)
	}
	_, ok := rootReadRule(f.Disk.Text)
	return fine && ok
}

func farmBuildRule(f impl.Farm, r impl.Recipe) (impl.Farm, int) {
	if !farmRule(f) {
		return impl.Farm{}, 1
	}
	packs, code := buildRule(r, f.Files)
	if code != 0 {
		return f, code
	}
	built := slices.DeleteFunc(slices.Clone(f.Built), func(p impl.Pack) bool {
		_, anew := packOf(packs, p.Name)
		return anew
	})
	built = byName(append(built, packs...)...)
	if len(built) > 8 {
		return f, 6
	}
	return impl.Farm{Files: f.Files, Built: built, Disk: f.Disk}, 0
}

func farmWantRule(f impl.Farm, name string) (impl.Farm, int) {
	if !farmRule(f) {
		return impl.Farm{}, 1
	}
	names, wrong := closureRule(f.Built, []string{name})
	if wrong != 0 {
		return f, 3
	}
	root, _ := rootReadRule(f.Disk.Text)
	list := root.Packs
	for _, wanted := range names {
		p, _ := packOf(f.Built, wanted)
		old, there := packOf(list, wanted)
		if !there || slices.Compare(versionRule(old.Version), versionRule(p.Version)) < 0 {
			list = byName(append(packsWithout(list, wanted), p)...)
		}
	}
	code := packsRule(list)
	if code != 0 {
		return f, code
	}
	return impl.Farm{Files: f.Files, Built: f.Built, Disk: impl.Disk{Text: rootTextRule(impl.Root{Packs: list})}}, 0
}

func farmFallRule(f impl.Farm, name string, bytes int) impl.Farm {
	next, code := farmWantRule(f, name)
	if code != 0 {
		return next
	}
	if bytes < len(strconv.Itoa(len(next.Disk.Text)))+1+len(next.Disk.Text)+4 {
		return f
	}
	return next
}

func wantFarmBuild(t *testing.T, f impl.Farm, r impl.Recipe, code int) impl.Farm {
	t.Helper()
	got, is := impl.FarmBuild(f, r)
	want, ruled := farmBuildRule(f, r)
	if is != code || ruled != code || !same(got, want) {
		t.Errorf("FarmBuild of %s by %s is %s, %d; by the rule it is %s, %d, and %d was asked", short(f), short(r), short(got), is, short(want), ruled, code)
	}
	return got
}

func wantFarmWant(t *testing.T, f impl.Farm, name string, code int) impl.Farm {
	t.Helper()
	got, is := impl.FarmWant(f, name)
	want, ruled := farmWantRule(f, name)
	if is != code || ruled != code || !same(got, want) {
		t.Errorf("FarmWant of %s in %s is %s, %d; by the rule it is %s, %d, and %d was asked", name, short(f), short(got), is, short(want), ruled, code)
	}
	return got
}

func farmOf(root impl.Root, built ...impl.Pack) impl.Farm {
	return impl.Farm{Files: buildFiles(), Built: byName(built...), Disk: impl.DiskNew(root)}
}

// anyFarm is ok; what was built may go with what is in its root, or not.
func anyFarm(r *rand.Rand) impl.Farm {
	var built []impl.Pack
	for range r.IntN(9) {
		p := anyRootPack(r)
		built = append(packsWithout(built, p.Name), p)
	}
	if r.IntN(3) == 0 {
		for i := range built {
			built[i].Needs = nil
		}
	}
	root := anyRoot(r)
	for _, p := range root.Packs {
		if r.IntN(3) == 0 {
			p.Version = "3"
			built = append(packsWithout(built, p.Name), p)
		}
	}
	return farmOf(root, built...)
}

// noFarms are farms that are not ok, each for another reason.
func noFarms() []impl.Farm {
	nine := manyOf(impl.FarmMax+1, func(i int) impl.Pack { return needy(numbered("p")(i), "1") })
	list := []impl.Farm{
		{Built: nine},
		{Built: manyOf(1000, func(i int) impl.Pack { return needy(strconv.Itoa(1000+i), "1") })},
		{Built: []impl.Pack{needy("b", "1"), needy("a", "1")}},
		{Built: []impl.Pack{needy("a", "1"), needy("a", "2")}},
		{Built: []impl.Pack{needy("a", "1"), {}}},
	}
	for _, files := range noFiles() {
		list = append(list, impl.Farm{Files: files, Built: []impl.Pack{needy("zip", "1")}})
	}
	for _, p := range noPacks() {
		list = append(list, impl.Farm{Built: []impl.Pack{p}})
	}
	for _, d := range noDisks() {
		list = append(list, impl.Farm{Files: buildFiles(), Built: []impl.Pack{needy("zip", "1")}, Disk: d})
	}
	return list
}

func TestFarmOk(t *testing.T) {
	eight := manyOf(impl.FarmMax, func(i int) impl.Pack { return needy(numbered("p")(i), "1", "none") })
	for _, f := range []impl.Farm{{}, {Files: manyOf(impl.ListMax, fileNumber)}, {Built: eight}, {Built: []impl.Pack{greatPack()}}, farmOf(fullRoot(), eight...)} {
		if !impl.FarmOk(f) || !farmRule(f) {
			t.Errorf("%s is ok", short(f))
		}
	}
	r := chance(50)
	for range 300 {
		if f := anyFarm(r); !impl.FarmOk(f) || !farmRule(f) {
			t.Errorf("%s is ok", short(f))
		}
	}
	for i, f := range noFarms() {
		if impl.FarmOk(f) || farmRule(f) {
			t.Errorf("%d: %s is not ok", i, short(f))
		}
		wantFarmBuild(t, f, smallRecipe(), impl.RootForm)
		wantFarmBuild(t, f, impl.Recipe{}, impl.RootForm)
		for _, name := range []string{"zip", "a", "none"} {
			wantFarmWant(t, f, name, impl.RootForm)
			if got := impl.FarmFall(f, name, 10); !same(got, impl.Farm{}) {
				t.Errorf("%d: FarmFall of %s is %s", i, short(f), short(got))
			}
		}
	}
}

// P50
func TestP50BuiltIsThereAndTheElderIsNot(t *testing.T) {
	r := chance(501)
	var codes [7]int
	for range 3000 {
		recipe, files := anyBuild(r)
		f := anyFarm(r)
		f.Files = files
		if r.IntN(2) == 0 {
			f.Built = byName(append(packsWithout(f.Built, "piece1"), needy("piece1", "999"))...)
		}
		if len(f.Built) > impl.FarmMax {
			continue
		}
		want, code := farmBuildRule(f, recipe)
		if !farmRule(f) {
			continue
		}
		codes[code]++
		next := wantFarmBuild(t, f, recipe, code)
		if code != 0 {
			if !same(next, f) {
				t.Errorf("%d, and %s is %s", code, short(f), short(next))
			}
			continue
		}
		packs, _ := impl.Build(recipe, files)
		for _, p := range packs {
			if got, there := packOf(next.Built, p.Name); !there || !same(got, p) {
				t.Errorf("%s is not in %s", short(p), short(next))
			}
		}
		for _, p := range f.Built {
			_, anew := packOf(packs, p.Name)
			if got, there := packOf(next.Built, p.Name); !there || !anew && !same(got, p) {
				t.Errorf("%s is not in %s", short(p), short(next))
			}
		}
		if !impl.FarmOk(next) || next.Disk != f.Disk || !same(next.Built, want.Built) {
			t.Errorf("%s is %s", short(f), short(next))
		}
	}
	for _, code := range []int{0, 2, 3, 4, 6} {
		if codes[code] < 50 {
			t.Errorf("code %d came %d times alone", code, codes[code])
		}
	}
}

func TestFarmBuildEdges(t *testing.T) {
	// The recipe makes three packs: five others may be there, and six may not, unless one is of a name of theirs.
	others := func(count int) []impl.Pack {
		return manyOf(count, func(i int) impl.Pack { return needy(numbered("p")(i), "1") })
	}
	f := wantFarmBuild(t, farmOf(impl.Root{}, others(5)...), buildRecipe(), 0)
	if len(f.Built) != impl.FarmMax {
		t.Errorf("%d packs", len(f.Built))
	}
	wantFarmBuild(t, f, buildRecipe(), 0)
	wantFarmBuild(t, f, with(smallRecipe(), func(r *impl.Recipe) { r.Name = "new" }), impl.RootFull)
	wantFarmBuild(t, f, smallRecipe(), 0)
	wantFarmBuild(t, farmOf(impl.Root{}, others(6)...), buildRecipe(), impl.RootFull)
	wantFarmBuild(t, farmOf(impl.Root{}, append(others(5), needy("ziplib", "9"))...), buildRecipe(), 0)
	wantFarmBuild(t, farmOf(impl.Root{}, append(others(6), needy("ziplib", "9"))...), buildRecipe(), impl.RootFull)
	// A later one goes as well, and what it needs is no matter here.
	wantFarmBuild(t, farmOf(impl.Root{}, needy("zip", "999", "none")), buildRecipe(), 0)
	// What is in the root is no matter, either.
	wantFarmBuild(t, farmOf(fullRoot()), buildRecipe(), 0)
	// Codes are those of Build.
	full := farmOf(impl.Root{}, others(8)...)
	for _, r := range wrongRecipes() {
		wantFarmBuild(t, full, r, impl.BuildRecipe)
	}
	wantFarmBuild(t, full, with(buildRecipe(), func(r *impl.Recipe) { r.Sources = []impl.Source{sourceAt(0)} }), impl.BuildNone)
	wantFarmBuild(t, full, with(buildRecipe(), func(r *impl.Recipe) { r.Sources[0].Sum = "0123456789abcdef" }), impl.BuildSum)
	wantFarmBuild(t, full, with(buildRecipe(), func(r *impl.Recipe) { r.Steps = []string{"what"} }), impl.BuildStep)
	wantFarmBuild(t, full, buildRecipe(), impl.RootFull)
}

// P83
func TestP83BuiltTwiceIsThereOnce(t *testing.T) {
	r := chance(83)
	fine := 0
	for range 2000 {
		recipe, files := anyBuild(r)
		f := anyFarm(r)
		f.Files = files
		next, code := impl.FarmBuild(f, recipe)
		if code != 0 {
			continue
		}
		fine++
		again, second := impl.FarmBuild(next, recipe)
		if second != 0 || !same(again, next) {
			t.Errorf("%s is %s, %d", short(next), short(again), second)
		}
		for i := 1; i < len(next.Built); i++ {
			if next.Built[i-1].Name >= next.Built[i].Name {
				t.Errorf("%s is there twice, or at a wrong place", next.Built[i].Name)
			}
		}
	}
	if fine < 100 {
		t.Errorf("%d alone", fine)
	}
}

// P51
func TestP51WantedIsInWithAllThatItNeeds(t *testing.T) {
	r := chance(51)
	var codes [8]int
	for range 8000 {
		f := anyFarm(r)
		name := rootNames[r.IntN(len(rootNames))]
		_, code := farmWantRule(f, name)
		codes[code]++
		next := wantFarmWant(t, f, name, code)
		if code != 0 {
			if !same(next, f) {
				t.Errorf("%d, and %s is %s", code, short(f), short(next))
			}
			continue
		}
		root, _ := impl.RootGet(next.Disk.Text)
		names, _ := impl.Closure(f.Built, []string{name})
		for _, wanted := range names {
			p, _ := packOf(f.Built, wanted)
			got, there := packOf(root.Packs, wanted)
			if !there || impl.VersionOrder(got.Version, p.Version) < 0 {
				t.Errorf("%s is not in %s", short(p), short(root))
			}
		}
		was, _ := impl.RootGet(f.Disk.Text)
		for _, p := range was.Packs {
			got, there := packOf(root.Packs, p.Name)
			if !there || !slices.Contains(names, p.Name) && !same(got, p) {
				t.Errorf("%s is not in %s", short(p), short(root))
			}
		}
		if !impl.FarmOk(next) || !same(next.Built, f.Built) || !same(next.Files, f.Files) {
			t.Errorf("%s is %s", short(f), short(next))
		}
		again, second := impl.FarmWant(next, name)
		if second != 0 || !same(again, next) {
			t.Errorf("%s is %s, %d", short(next), short(again), second)
		}
	}
	for _, code := range []int{impl.RootFine, impl.RootNone, impl.RootNeeds, impl.RootClash, impl.RootFull} {
		if codes[code] < 20 {
			t.Errorf("code %d came %d times alone", code, codes[code])
		}
	}
}

func TestFarmWantByHand(t *testing.T) {
	inRoot := func(f impl.Farm) string {
		root, _ := impl.RootGet(f.Disk.Text)
		text := ""
		for _, p := range root.Packs {
			text += p.Name + " " + p.Version + ","
		}
		return text
	}
	for i, c := range []struct {
		root  impl.Root
		built []impl.Pack
		name  string
		code  int
		want  string
	}{
		{impl.Root{}, []impl.Pack{binned("zip", "1"), binned("tar", "1", "zip"), binned("pax", "1")}, "tar", 0, "tar 1,zip 1,"},
		{impl.Root{}, []impl.Pack{binned("zip", "1")}, "tar", impl.RootNone, ""},
		{rootOf(binned("tar", "1")), []impl.Pack{binned("zip", "1")}, "tar", impl.RootNone, "tar 1,"},
		{rootOf(binned("zip", "1")), []impl.Pack{binned("tar", "1", "zip")}, "tar", impl.RootNone, "zip 1,"},
		{impl.Root{}, []impl.Pack{binned("zip", "1"), binned("tar", "1", "zip>=2")}, "tar", impl.RootNone, ""},
		{impl.Root{}, []impl.Pack{binned("zip", "1", "tar"), binned("tar", "1", "zip")}, "tar", impl.RootNone, ""},
		// A later one comes in the place of an elder one; a later one, or the same, stays.
		{rootOf(binned("zip", "1")), []impl.Pack{binned("zip", "1.0")}, "zip", 0, "zip 1.0,"},
		{rootOf(binned("zip", "2")), []impl.Pack{binned("zip", "1")}, "zip", 0, "zip 2,"},
		{rootOf(binned("zip", "2")), []impl.Pack{binned("zip", "1"), binned("tar", "1", "zip<2")}, "tar", impl.RootNeeds, "zip 2,"},
		{rootOf(binned("zip", "2")), []impl.Pack{binned("zip", "1"), binned("tar", "1", "zip")}, "tar", 0, "tar 1,zip 2,"},
		// What is in, and not wanted, still has its needs.
		{rootOf(binned("zip", "1"), binned("pax", "1", "zip<2")), []impl.Pack{binned("zip", "2")}, "zip", impl.RootNeeds, "pax 1,zip 1,"},
		// Two that need each other's versions turn together, in whatever order they stand.
		{rootOf(binned("zip", "1"), binned("tar", "1", "zip=1")), []impl.Pack{binned("zip", "2"), binned("tar", "2", "zip=2")}, "tar", 0, "tar 2,zip 2,"},
		{rootOf(binned("zip", "1"), binned("tar", "1", "zip=1")), []impl.Pack{binned("zip", "2"), binned("tar", "2", "zip=2")}, "zip", impl.RootNeeds, "tar 1,zip 1,"},
		{rootOf(binned("zip", "1", "tar=1"), binned("tar", "1")), []impl.Pack{binned("zip", "2", "tar=2"), binned("tar", "2")}, "zip", 0, "tar 2,zip 2,"},
		// What an elder one had may be another one's then, if that comes along.
		{rootOf(binned("zip", "1")), []impl.Pack{treed("zip", "2", nil), treed("tar", "1", []impl.Entry{file("bin", 1, "")}, "zip")}, "tar", 0, "tar 1,zip 2,"},
		{rootOf(binned("zip", "1")), []impl.Pack{treed("tar", "1", []impl.Entry{file("bin", 1, "")})}, "tar", impl.RootClash, "zip 1,"},
		{fullRoot(), []impl.Pack{needy("q", "1")}, "q", impl.RootFull, "p0 1,p1 1,p2 1,p3 1,p4 1,"},
		{fullRoot(), []impl.Pack{treed("p0", "2", nil)}, "p0", 0, "p0 2,p1 1,p2 1,p3 1,p4 1,"},
		{rootOf(fullRoot().Packs[:4]...), []impl.Pack{needy("q", "1")}, "q", 0, "p0 1,p1 1,p2 1,p3 1,q 1,"},
		{rootOf(fullRoot().Packs[:4]...), []impl.Pack{needy("q", "1", "r"), needy("r", "1")}, "q", impl.RootFull, "p0 1,p1 1,p2 1,p3 1,"},
	} {
		f := farmOf(c.root, c.built...)
		next := wantFarmWant(t, f, c.name, c.code)
		if inRoot(next) != c.want {
			t.Errorf("%d: %s, not %s", i, inRoot(next), c.want)
		}
	}
}

// P82
func TestP82NotMadeIsNotPutIn(t *testing.T) {
	r := chance(82)
	for range 200 {
		f := anyFarm(r)
		for _, name := range append([]string{"nobody", "", "A", "a b", "\xff", "elevenlette"}, rootNames...) {
			if _, made := packOf(f.Built, name); made {
				continue
			}
			if next := wantFarmWant(t, f, name, impl.RootNone); !same(next, f) {
				t.Errorf("%s is %s", short(f), short(next))
			}
			if next := impl.FarmFall(f, name, 1000000); !same(next, f) {
				t.Errorf("behind a fall %s is %s", short(f), short(next))
			}
		}
		for _, recipe := range wrongRecipes() {
			if next := wantFarmBuild(t, f, recipe, impl.BuildRecipe); !same(next, f) {
				t.Errorf("%s is %s", short(f), short(next))
			}
		}
	}
}

// P52
func TestP52BehindAFallAllOrNothing(t *testing.T) {
	r := chance(52)
	whole, torn, stayed := 0, 0, 0
	for range 4000 {
		f := anyFarm(r)
		name := rootNames[r.IntN(len(rootNames))]
		bytes := r.IntN(800) - 50
		want, code := impl.FarmWant(f, name)
		got := impl.FarmFall(f, name, bytes)
		if !same(got, farmFallRule(f, name, bytes)) || !impl.FarmOk(got) {
			t.Errorf("FarmFall of %s, %s, %d is %s", short(f), name, bytes, short(got))
		}
		switch {
		case code != 0:
			stayed++
		case same(got, want):
			whole++
		case same(got, f):
			torn++
		default:
			t.Errorf("behind %d bytes %s is %s", bytes, short(f), short(got))
		}
		if code != 0 && !same(got, f) {
			t.Errorf("%d, and %s is %s", code, short(f), short(got))
		}
		again, second := impl.FarmWant(got, name)
		if second != code || !same(again, want) {
			t.Errorf("FarmWant behind the fall is %s, %d; it must be %s, %d", short(again), second, short(want), code)
		}
	}
	if min(whole, torn, stayed) < 200 {
		t.Errorf("%d, %d and %d", whole, torn, stayed)
	}
}

// P81
func TestP81AFallBehindAllBytesIsNone(t *testing.T) {
	f := farmOf(rootOf(binned("zip", "1"), binned("pax", "1")), binned("zip", "2"), binned("tar", "1", "zip>=2"))
	want := wantFarmWant(t, f, "tar", 0)
	root, _ := impl.RootGet(want.Disk.Text)
	all := len(logRule(root))
	for _, bytes := range tears(logRule(root)) {
		got := impl.FarmFall(f, "tar", bytes)
		if bytes >= all && !same(got, want) || bytes < all && !same(got, f) {
			t.Errorf("behind %d bytes of %d it is %s", bytes, all, short(got))
		}
	}
	r := chance(81)
	for range 300 {
		f := anyFarm(r)
		for _, name := range rootNames {
			want, _ := impl.FarmWant(f, name)
			if got := impl.FarmFall(f, name, math.MaxInt); !same(got, want) {
				t.Errorf("behind all bytes %s is %s", short(f), short(got))
			}
			for _, bytes := range []int{0, -1, math.MinInt} {
				if got := impl.FarmFall(f, name, bytes); !same(got, f) {
					t.Errorf("behind none %s is %s", short(f), short(got))
				}
			}
		}
	}
}

// roomyFarm is a farm with spare room behind each of its lists.
func roomyFarm(f impl.Farm) impl.Farm {
	f.Files = roomy(f.Files, impl.File{Name: "guard"})
	f.Built = roomyRoot(impl.Root{Packs: f.Built}).Packs
	return f
}

func TestFarmsShareNoMemory(t *testing.T) {
	r := chance(77)
	farms := manyOf(150, func(int) impl.Farm { return anyFarm(r) })
	farms = append(farms, noFarms()[0], noFarms()[2], noFarms()[3], farmOf(fullRoot(), fullRoot().Packs...))
	for _, f := range farms {
		recipe, files := anyBuild(r)
		if r.IntN(3) > 0 {
			recipe, files = buildRecipe(), buildFiles()
		}
		f.Files = files
		f, recipe = roomyFarm(f), roomyRecipe(recipe)
		name := rootNames[r.IntN(len(rootNames))]
		bytes := r.IntN(1000)
		wantApart(t, "farms", []any{f, recipe}, func() []any {
			built, one := impl.FarmBuild(f, recipe)
			wanted, two := impl.FarmWant(f, name)
			return []any{built, one, wanted, two, impl.FarmFall(f, name, bytes), impl.FarmOk(f)}
		})
		root, p := roomyRoot(anyRoot(r)), impl.DiskNew(anyRoot(r))
		wantApart(t, "disks", []any{root, p}, func() []any {
			torn := impl.DiskTear(p, root, bytes)
			back, up, ok := impl.DiskRise(torn)
			return []any{impl.DiskNew(root), torn, back, up, ok, impl.DiskOk(p)}
		})
	}
	lines := roomy([]string{"build zip", "want zip", "tree"}, "guard")
	wantApart(t, "Session", []any{lines}, func() []any { return []any{impl.Session(lines)} })
}
