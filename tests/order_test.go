package tests

import (
	"math/rand/v2"
	"runtime"
	"slices"
	"strconv"
	"testing"
	"time"

	"loop.example/jackstay/impl"
)

// builder is a recipe that needs others for its build.
func builder(name string, version string, builds ...string) impl.Recipe {
	return impl.Recipe{Name: name, Version: version, Builds: needList(builds)}
}

// needList is needs by their texts.
func needList(texts []string) []impl.Need {
	var list []impl.Need
	for _, text := range texts {
		n, _ := impl.NeedGet(text)
		list = append(list, n)
	}
	return list
}

// needy is a pack that needs others, with nothing in it.
func needy(name string, version string, needs ...string) impl.Pack {
	return impl.Pack{Name: name, Version: version, Needs: needList(needs)}
}

func namesOfRecipes(list []impl.Recipe) []string {
	var names []string
	for _, r := range list {
		names = append(names, r.Name)
	}
	return names
}

func namesOfPacks(list []impl.Pack) []string {
	var names []string
	for _, p := range list {
		names = append(names, p.Name)
	}
	return names
}

func sorted(names []string) []string {
	return slices.Sorted(slices.Values(names))
}

// permutations tells all orders of names that ascend, those that begin with less first, until it is told to stop.
func permutations(ahead []string, left []string, use func(order []string) bool) bool {
	if len(left) == 0 {
		return use(ahead)
	}
	for i, name := range left {
		rest := slices.Delete(slices.Clone(left), i, i+1)
		if !permutations(append(slices.Clone(ahead), name), rest, use) {
			return false
		}
	}
	return true
}

// mayOrder says whether each of an order stands behind all of its Builds.
func mayOrder(list []impl.Recipe, order []string) bool {
	for i, name := range order {
		for _, r := range list {
			for _, n := range r.Builds {
				if r.Name == name && !slices.Contains(order[:i], n.Name) {
					return false
				}
			}
		}
	}
	return true
}

// orderRule is BuildOrder by the document's words: the least first is what makes an order the first of all that may be, as a dictionary has them.
func orderRule(list []impl.Recipe) ([]string, int) {
	if len(list) > 6 {
		return nil, 1
	}
	for _, r := range list {
		if recipeRule(r) != 0 {
			return nil, 1
		}
	}
	for i, r := range list {
		for _, o := range list[:i] {
			if o.Name == r.Name {
				return nil, 2
			}
		}
	}
	for _, r := range list {
		for _, n := range r.Builds {
			if !slices.ContainsFunc(list, func(o impl.Recipe) bool { return impl.NeedFits(n, o.Name, o.Version) }) {
				return nil, 3
			}
		}
	}
	var found []string
	none := permutations(nil, sorted(namesOfRecipes(list)), func(order []string) bool {
		found = order
		return !mayOrder(list, order)
	})
	if none {
		return nil, 4
	}
	return found, 0
}

// waitsOn says whether one can go from a name to what it waits for so many times.
func waitsOn(list []impl.Recipe, name string, times int) bool {
	if times == 0 {
		return true
	}
	for _, r := range list {
		for _, n := range r.Builds {
			if r.Name == name && waitsOn(list, n.Name, times-1) {
				return true
			}
		}
	}
	return false
}

// roundRule is BuildRound: who comes to no end of waiting.
func roundRule(list []impl.Recipe) []string {
	_, code := orderRule(list)
	if code != 4 {
		return nil
	}
	var names []string
	for _, name := range sorted(namesOfRecipes(list)) {
		if waitsOn(list, name, 7) {
			names = append(names, name)
		}
	}
	return names
}

func wantOrder(t *testing.T, list []impl.Recipe, want []string, code int) {
	t.Helper()
	order, got := impl.BuildOrder(list)
	if got != code || !slices.Equal(order, want) {
		t.Errorf("BuildOrder(%s) is %v, %d; it must be %v, %d", short(list), order, got, want, code)
	}
	rule, ruled := orderRule(list)
	if ruled != code || !slices.Equal(rule, want) {
		t.Errorf("the rule of %s is %v, %d, not %v, %d", short(list), rule, ruled, want, code)
	}
	round, waiting := impl.BuildRound(list), roundRule(list)
	if !slices.Equal(round, waiting) || (len(round) > 0) != (code == impl.OrderRound) {
		t.Errorf("BuildRound(%s) is %v; it must be %v", short(list), round, waiting)
	}
}

func TestBuildOrderByHand(t *testing.T) {
	for _, c := range []struct {
		list []impl.Recipe
		want []string
	}{
		{nil, nil},
		{[]impl.Recipe{}, nil},
		{[]impl.Recipe{builder("a", "1")}, []string{"a"}},
		{[]impl.Recipe{builder("b", "1"), builder("a", "1")}, []string{"a", "b"}},
		{[]impl.Recipe{builder("a", "1", "b"), builder("b", "1")}, []string{"b", "a"}},
		{[]impl.Recipe{builder("a", "1", "z"), builder("b", "1"), builder("c", "1", "b"), builder("z", "1")}, []string{"b", "c", "z", "a"}},
		{[]impl.Recipe{builder("d", "1", "a"), builder("a", "1", "c"), builder("b", "1"), builder("c", "1")}, []string{"b", "c", "a", "d"}},
		{[]impl.Recipe{builder("a", "1"), builder("ab", "1"), builder("a0", "1"), builder("b", "1")}, []string{"a", "a0", "ab", "b"}},
		{[]impl.Recipe{builder("a", "1.10", "b>=1.2", "c<2", "d=1"), builder("b", "1.10"), builder("c", "1.999"), builder("d", "1")}, []string{"b", "c", "d", "a"}},
	} {
		wantOrder(t, c.list, c.want, 0)
	}
	// As many recipes as may be, each needing all that are ahead of it.
	var all []impl.Recipe
	var names []string
	for i := range impl.ListMax {
		name := string(rune('z' - i))
		all = append(all, builder(name, "1", names...))
		names = append(names, name)
	}
	wantOrder(t, all, names, 0)
	slices.Reverse(all)
	wantOrder(t, all, names, 0)
}

func TestBuildOrderCodes(t *testing.T) {
	many := func(count int) []impl.Recipe {
		return manyOf(count, func(i int) impl.Recipe { return builder(numbered("r")(i), "1") })
	}
	wantOrder(t, many(impl.ListMax), namesOfRecipes(many(impl.ListMax)), 0)
	wantOrder(t, many(impl.ListMax+1), nil, impl.OrderForm)
	wantOrder(t, many(1000), nil, impl.OrderForm)
	for _, r := range wrongRecipes() {
		wantOrder(t, []impl.Recipe{r}, nil, impl.OrderForm)
		wantOrder(t, []impl.Recipe{builder("a", "1"), builder("a", "1", "none"), r}, nil, impl.OrderForm)
	}
	wantOrder(t, slices.Repeat(many(1), impl.ListMax+1), nil, impl.OrderForm)
	wantOrder(t, slices.Repeat(many(1), 2), nil, impl.OrderTwice)
	wantOrder(t, []impl.Recipe{builder("a", "1"), builder("b", "1"), builder("a", "2")}, nil, impl.OrderTwice)
	wantOrder(t, []impl.Recipe{builder("a", "1", "none"), builder("b", "1"), builder("b", "1")}, nil, impl.OrderTwice)
	wantOrder(t, []impl.Recipe{builder("a", "1", "a"), builder("a", "1", "a")}, nil, impl.OrderTwice)
	wantOrder(t, []impl.Recipe{builder("a", "1", "b")}, nil, impl.OrderNone)
	for _, need := range []string{"b>=1.3", "b<1.2", "b=1.2.0", "b=1", "b<1", "b>=2"} {
		wantOrder(t, []impl.Recipe{builder("a", "1", need), builder("b", "1.2")}, nil, impl.OrderNone)
		wantOrder(t, []impl.Recipe{builder("a", "1", need), builder("b", "1.2", "a")}, nil, impl.OrderNone)
	}
	for _, need := range []string{"b", "b>=1.2", "b<1.2.0", "b=1.2", "b<1.10"} {
		wantOrder(t, []impl.Recipe{builder("a", "1", need), builder("b", "1.2")}, []string{"b", "a"}, 0)
		wantOrder(t, []impl.Recipe{builder("a", "1", need), builder("b", "1.2", "a")}, nil, impl.OrderRound)
	}
	// One may be needed for its own build, and never is there then; of another version it is not there at all.
	wantOrder(t, []impl.Recipe{builder("a", "1", "a")}, nil, impl.OrderRound)
	wantOrder(t, []impl.Recipe{builder("a", "1", "a<1")}, nil, impl.OrderNone)
	// A piece is no recipe, and what a recipe needs to run is no matter of its build.
	piece := builder("b", "1")
	piece.Pieces = []impl.Piece{{Name: "c", Glob: "**"}}
	piece.Runs = needList([]string{"a", "none"})
	wantOrder(t, []impl.Recipe{builder("a", "1", "c"), piece}, nil, impl.OrderNone)
	wantOrder(t, []impl.Recipe{builder("a", "1", "b"), piece}, []string{"b", "a"}, 0)
}

func TestBuildRoundByHand(t *testing.T) {
	for _, c := range []struct {
		list []impl.Recipe
		want []string
	}{
		{nil, nil},
		{[]impl.Recipe{builder("a", "1", "a"), builder("b", "1")}, []string{"a"}},
		{[]impl.Recipe{builder("z", "1", "y"), builder("y", "1", "z"), builder("b", "1")}, []string{"y", "z"}},
		{[]impl.Recipe{builder("z", "1", "y", "b"), builder("y", "1", "z"), builder("a", "1", "z"), builder("b", "1")}, []string{"a", "y", "z"}},
		{[]impl.Recipe{builder("c", "1", "c"), builder("b", "1", "c"), builder("a", "1", "b")}, []string{"a", "b", "c"}},
		{[]impl.Recipe{builder("a", "1", "b"), builder("b", "1", "a"), builder("c", "1", "none")}, nil},
		{[]impl.Recipe{builder("a", "1", "b"), builder("b", "1", "a"), builder("b", "1", "a")}, nil},
		{[]impl.Recipe{builder("a", "1", "b"), builder("b", "1", "a"), {}}, nil},
	} {
		if got := impl.BuildRound(c.list); !slices.Equal(got, c.want) {
			t.Errorf("BuildRound(%s) is %v; it must be %v", short(c.list), got, c.want)
		}
	}
	// As many as may be, in one round.
	ring := manyOf(impl.ListMax, func(i int) impl.Recipe {
		return builder(numbered("r")(i), "1", numbered("r")((i+1)%impl.ListMax))
	})
	wantOrder(t, ring, nil, impl.OrderRound)
	if !slices.Equal(impl.BuildRound(ring), namesOfRecipes(ring)) {
		t.Errorf("the whole ring waits: %v", impl.BuildRound(ring))
	}
}

// anyBuilders are recipes that need each other, sometimes what is not there, sometimes round about; now and then one is not fine, or comes twice.
func anyBuilders(r *rand.Rand) []impl.Recipe {
	names := []string{"a", "b", "c", "d", "ab", "z9"}
	r.Shuffle(len(names), func(i, k int) { names[i], names[k] = names[k], names[i] })
	names = names[:r.IntN(len(names)+1)]
	var list []impl.Recipe
	round := r.IntN(3) == 0
	for i, name := range names {
		var builds []string
		for k, other := range names {
			if r.IntN(3) == 0 && (k < i || round && r.IntN(3) == 0) {
				builds = append(builds, other+[]string{"", "", ">=1", "<2", "=1.5"}[r.IntN(5)])
			}
		}
		list = append(list, builder(name, "1.5", builds...))
	}
	if len(list) == 0 {
		return list
	}
	one := &list[r.IntN(len(list))]
	switch r.IntN(30) {
	case 0:
		one.Version = "01"
	case 1:
		one.Version = "2"
	case 2:
		one.Builds = needList([]string{"none"})
	case 3:
		one.Name = list[0].Name
	}
	r.Shuffle(len(list), func(i, k int) { list[i], list[k] = list[k], list[i] })
	return list
}

func TestBuildOrderIsTheRule(t *testing.T) {
	r := chance(36)
	var codes [5]int
	for range 3000 {
		list := anyBuilders(r)
		want, code := orderRule(list)
		codes[code]++
		wantOrder(t, list, want, code)
	}
	for code, count := range codes {
		if count < 20 {
			t.Errorf("code %d came %d times alone", code, count)
		}
	}
}

// P36
func TestP36NeededForABuildIsAhead(t *testing.T) {
	r := chance(361)
	for range 3000 {
		list := anyBuilders(r)
		order, code := impl.BuildOrder(list)
		if code != impl.OrderFine {
			if len(order) != 0 {
				t.Errorf("%s: %v, %d", short(list), order, code)
			}
			continue
		}
		if !slices.Equal(sorted(order), sorted(namesOfRecipes(list))) || !mayOrder(list, order) {
			t.Errorf("BuildOrder(%s) is %v", short(list), order)
		}
	}
}

// P37
func TestP37OrderIsTheSameHoweverRecipesStand(t *testing.T) {
	r := chance(37)
	for range 1500 {
		list := anyBuilders(r)
		order, code := impl.BuildOrder(list)
		round := impl.BuildRound(list)
		for range 5 {
			r.Shuffle(len(list), func(i, k int) { list[i], list[k] = list[k], list[i] })
			for _, one := range list {
				r.Shuffle(len(one.Builds), func(i, k int) { one.Builds[i], one.Builds[k] = one.Builds[k], one.Builds[i] })
			}
			again, second := impl.BuildOrder(list)
			if second != code || !slices.Equal(again, order) || !slices.Equal(impl.BuildRound(list), round) {
				t.Errorf("%s: %v, %d and %v, %d", short(list), order, code, again, second)
			}
		}
	}
}

// P38
func TestP38WhoWaitsWaitsForOneOfThem(t *testing.T) {
	r := chance(38)
	rounds := 0
	for range 4000 {
		list := anyBuilders(r)
		_, code := impl.BuildOrder(list)
		round := impl.BuildRound(list)
		if (len(round) > 0) != (code == impl.OrderRound) {
			t.Errorf("%s: %d, and %v wait", short(list), code, round)
		}
		if code != impl.OrderRound {
			continue
		}
		rounds++
		var others []impl.Recipe
		for _, one := range list {
			if !slices.Contains(round, one.Name) {
				others = append(others, one)
				continue
			}
			if !slices.ContainsFunc(one.Builds, func(n impl.Need) bool { return slices.Contains(round, n.Name) }) {
				t.Errorf("%s of %s waits for none of %v", one.Name, short(list), round)
			}
		}
		if !slices.IsSorted(round) || len(others)+len(round) != len(list) {
			t.Errorf("%v of %s", round, short(list))
		}
		if _, fine := impl.BuildOrder(others); fine != impl.OrderFine {
			t.Errorf("without %v %s is %d", round, short(list), fine)
		}
	}
	if rounds < 100 {
		t.Errorf("%d rounds alone", rounds)
	}
}

// P72
func TestP72WithoutTheLastTheOthersAreInTheSameOrder(t *testing.T) {
	r := chance(721)
	for range 3000 {
		list := anyBuilders(r)
		order, code := impl.BuildOrder(list)
		if code != impl.OrderFine || len(order) == 0 {
			continue
		}
		last := order[len(order)-1]
		ahead := slices.DeleteFunc(slices.Clone(list), func(o impl.Recipe) bool { return o.Name == last })
		again, fine := impl.BuildOrder(ahead)
		if fine != impl.OrderFine || !slices.Equal(again, order[:len(order)-1]) {
			t.Errorf("%s without %s is %v, %d, not %v", short(list), last, again, fine, order)
		}
	}
}

// Nothing hangs on how goroutines run, and none of them is left behind.
func TestBuildOrderJoinsItsGoroutines(t *testing.T) {
	list := manyOf(impl.ListMax, func(i int) impl.Recipe { return builder(numbered("r")(i), "1") })
	ring := []impl.Recipe{builder("a", "1", "b"), builder("b", "1", "a"), builder("c", "1")}
	was := runtime.NumGoroutine()
	for range 2000 {
		order, code := impl.BuildOrder(list)
		if code != 0 || !slices.Equal(order, namesOfRecipes(list)) {
			t.Fatalf("%v, %d", order, code)
		}
		if round := impl.BuildRound(ring); !slices.Equal(round, []string{"a", "b"}) {
			t.Fatalf("%v", round)
		}
	}
	// One that has done all it does may still be counted for a moment.
	for range 100 {
		if runtime.NumGoroutine() <= was {
			return
		}
		time.Sleep(10 * time.Millisecond)
	}
	t.Errorf("%d goroutines, and %d ahead of it", runtime.NumGoroutine(), was)
}

// closureRule is Closure by the document's words.
func closureRule(list []impl.Pack, names []string) ([]string, int) {
	for _, p := range list {
		if !packRule(p) {
			return nil, 1
		}
	}
	for i, p := range list {
		for _, o := range list[:i] {
			if o.Name == p.Name {
				return nil, 2
			}
		}
	}
	var done []string
	for _, name := range names {
		code := closureWith(list, &done, name, nil)
		if code != 0 {
			return nil, code
		}
	}
	return done, 0
}

func closureWith(list []impl.Pack, done *[]string, name string, waiting []string) int {
	if slices.Contains(*done, name) {
		return 0
	}
	place := slices.IndexFunc(list, func(p impl.Pack) bool { return p.Name == name })
	if place < 0 {
		return 3
	}
	if slices.Contains(waiting, name) {
		return 4
	}
	for _, n := range list[place].Needs {
		if !slices.ContainsFunc(list, func(p impl.Pack) bool { return impl.NeedFits(n, p.Name, p.Version) }) {
			return 3
		}
		code := closureWith(list, done, n.Name, append(slices.Clone(waiting), name))
		if code != 0 {
			return code
		}
	}
	*done = append(*done, name)
	return 0
}

func wantClosure(t *testing.T, list []impl.Pack, names []string, want []string, code int) {
	t.Helper()
	got, is := impl.Closure(list, names)
	if is != code || !slices.Equal(got, want) {
		t.Errorf("Closure(%s, %v) is %v, %d; it must be %v, %d", short(list), names, got, is, want, code)
	}
	rule, ruled := closureRule(list, names)
	if ruled != code || !slices.Equal(rule, want) {
		t.Errorf("the rule of %s, %v is %v, %d, not %v, %d", short(list), names, rule, ruled, want, code)
	}
}

func TestClosureByHand(t *testing.T) {
	list := []impl.Pack{needy("a", "1", "c>=2", "b"), needy("b", "1", "c"), needy("c", "2"), needy("d", "1", "c<2"), needy("e", "1", "f"), needy("f", "1", "g"), needy("g", "1", "e"), needy("h", "1", "h2"), needy("i", "1", "c", "d"), needy("j", "1", "d", "e"), needy("k", "1", "e", "d")}
	for _, c := range []struct {
		names []string
		want  []string
		code  int
	}{
		{nil, nil, 0},
		{[]string{"c"}, []string{"c"}, 0},
		{[]string{"c", "c", "c"}, []string{"c"}, 0},
		{[]string{"a"}, []string{"c", "b", "a"}, 0},
		{[]string{"b", "a", "b"}, []string{"c", "b", "a"}, 0},
		{[]string{"a", "b", "c"}, []string{"c", "b", "a"}, 0},
		{[]string{"c", "b"}, []string{"c", "b"}, 0},
		{[]string{"d"}, nil, impl.OrderNone},
		{[]string{"c", "d"}, nil, impl.OrderNone},
		{[]string{"i"}, nil, impl.OrderNone},
		{[]string{"e"}, nil, impl.OrderRound},
		{[]string{"f"}, nil, impl.OrderRound},
		{[]string{"a", "g"}, nil, impl.OrderRound},
		{[]string{"h"}, nil, impl.OrderNone},
		{[]string{"none"}, nil, impl.OrderNone},
		{[]string{""}, nil, impl.OrderNone},
		{[]string{"a", "none"}, nil, impl.OrderNone},
		{[]string{"none", "e"}, nil, impl.OrderNone},
		{[]string{"e", "none"}, nil, impl.OrderRound},
		{[]string{"j"}, nil, impl.OrderNone},
		{[]string{"k"}, nil, impl.OrderRound},
	} {
		wantClosure(t, list, c.names, c.want, c.code)
	}
	// Its version is asked ahead of whether it waits for itself, also where the pack is in already.
	wantClosure(t, []impl.Pack{needy("a", "1", "b"), needy("b", "1", "a<1")}, []string{"a"}, nil, impl.OrderNone)
	wantClosure(t, []impl.Pack{needy("a", "1", "b"), needy("b", "1", "a=1")}, []string{"a"}, nil, impl.OrderRound)
	wantClosure(t, []impl.Pack{needy("a", "1"), needy("b", "1", "a<1")}, []string{"a", "b"}, nil, impl.OrderNone)
	// The order is that of the needs, not of the names or of the list.
	wantClosure(t, []impl.Pack{needy("a", "1"), needy("b", "1"), needy("c", "1", "b", "a")}, []string{"c"}, []string{"b", "a", "c"}, 0)
	wantClosure(t, []impl.Pack{needy("c", "1", "a", "b"), needy("b", "1"), needy("a", "1", "b")}, []string{"c"}, []string{"b", "a", "c"}, 0)
}

func TestClosureCodes(t *testing.T) {
	for _, p := range noPacks() {
		wantClosure(t, []impl.Pack{p}, nil, nil, impl.OrderForm)
		wantClosure(t, []impl.Pack{needy("a", "1"), needy("a", "1", "none"), p}, []string{"none", "a"}, nil, impl.OrderForm)
	}
	twice := []impl.Pack{needy("a", "1"), needy("b", "1"), needy("a", "2", "none")}
	wantClosure(t, twice, nil, nil, impl.OrderTwice)
	wantClosure(t, twice, []string{"b"}, nil, impl.OrderTwice)
	wantClosure(t, twice, []string{"none"}, nil, impl.OrderTwice)
	for _, list := range [][]impl.Pack{append(twice, impl.Pack{}), twice} {
		for _, name := range []string{"a", "none", ""} {
			if names := impl.Needers(list, name); len(names) != 0 {
				t.Errorf("Needers(%s, %q) is %v", short(list), name, names)
			}
		}
	}
	for _, p := range noPacks() {
		if names := impl.Needers([]impl.Pack{needy("b", "1", "a"), needy("a", "1"), p}, "a"); len(names) != 0 {
			t.Errorf("Needers with %s is %v", short(p), names)
		}
	}
}

// There may be any number of packs, and of names, and packs that wait for each other one behind the other.
func TestClosureOfMany(t *testing.T) {
	const count = 100000
	name := func(i int) string { return "p" + strconv.Itoa(i) }
	chain := manyOf(count, func(i int) impl.Pack {
		if i == 0 {
			return needy(name(i), "1")
		}
		return needy(name(i), "1", name(i-1)+"=1")
	})
	names, code := impl.Closure(chain, []string{name(count - 1)})
	if code != 0 || !slices.Equal(names, namesOfPacks(chain)) {
		t.Errorf("%d names, %d", len(names), code)
	}
	names, code = impl.Closure(chain, namesOfPacks(chain))
	if code != 0 || !slices.Equal(names, namesOfPacks(chain)) {
		t.Errorf("%d names, %d", len(names), code)
	}
	if needers := impl.Needers(chain, name(0)); !slices.Equal(needers, sorted(namesOfPacks(chain[1:]))) {
		t.Errorf("%d needers", len(needers))
	}
	chain[0].Needs = needList([]string{name(count - 1)})
	if _, code = impl.Closure(chain, []string{name(7)}); code != impl.OrderRound {
		t.Errorf("a ring is %d", code)
	}
	if needers := impl.Needers(chain, name(0)); len(needers) != count-1 {
		t.Errorf("%d needers in a ring", len(needers))
	}
	// Each needs all of the layer ahead: many ways, but few packs.
	layers := manyOf(impl.ListMax*2000, func(i int) impl.Pack {
		p := needy(name(i), "1")
		for k := range impl.ListMax {
			if i >= impl.ListMax {
				p.Needs = append(p.Needs, impl.Need{Name: name(i - i%impl.ListMax - impl.ListMax + k)})
			}
		}
		return p
	})
	names, code = impl.Closure(layers, []string{name(len(layers) - 1)})
	if code != 0 || len(names) != len(layers)-impl.ListMax+1 {
		t.Errorf("%d names, %d", len(names), code)
	}
	if needers := impl.Needers(layers, name(0)); len(needers) != len(layers)-impl.ListMax {
		t.Errorf("%d needers", len(needers))
	}
}

// anyNeedy are packs that need each other, sometimes what is not there, sometimes round about.
func anyNeedy(r *rand.Rand) []impl.Pack {
	names := []string{"a", "b", "c", "d", "ab", "z9", "e", "f"}
	r.Shuffle(len(names), func(i, k int) { names[i], names[k] = names[k], names[i] })
	names = names[:r.IntN(len(names)+1)]
	var list []impl.Pack
	round := r.IntN(3) == 0
	for i, name := range names {
		p := needy(name, "1.5")
		for k, other := range names {
			if r.IntN(3) == 0 && len(p.Needs) < 6 && (k < i || round && k > i && r.IntN(3) == 0) {
				p.Needs = append(p.Needs, needList([]string{other + []string{"", "", ">=1", "<2", "=1.5"}[r.IntN(5)]})...)
			}
		}
		if r.IntN(40) == 0 {
			p.Version = "2"
		}
		if r.IntN(40) == 0 {
			p.Needs = needList([]string{"none"})
		}
		list = append(list, p)
	}
	if len(list) > 0 && r.IntN(30) == 0 {
		list[r.IntN(len(list))].Version = ""
	}
	if len(list) > 1 && r.IntN(30) == 0 {
		list[1].Name = list[0].Name
	}
	r.Shuffle(len(list), func(i, k int) { list[i], list[k] = list[k], list[i] })
	return list
}

func anyNames(r *rand.Rand, list []impl.Pack) []string {
	var names []string
	for range r.IntN(4) {
		if len(list) == 0 || r.IntN(30) == 0 {
			return append(names, []string{"none", "", "A", "a b"}[r.IntN(4)])
		}
		names = append(names, list[r.IntN(len(list))].Name)
	}
	return names
}

// P39
func TestP39NeededIsThereAheadOfWhoNeedsIt(t *testing.T) {
	r := chance(39)
	var codes [5]int
	for range 10000 {
		list := anyNeedy(r)
		names := anyNames(r, list)
		want, code := closureRule(list, names)
		codes[code]++
		wantClosure(t, list, names, want, code)
		if code != 0 {
			continue
		}
		for i, name := range want {
			if slices.Contains(want[:i], name) {
				t.Errorf("%v: %s twice", want, name)
			}
			for _, p := range list {
				for _, n := range p.Needs {
					if p.Name == name && !slices.Contains(want[:i], n.Name) {
						t.Errorf("%v: %s needs %s", want, name, n.Name)
					}
				}
			}
		}
		wantClosure(t, list, want, want, 0)
	}
	for code, count := range codes {
		if count < 100 {
			t.Errorf("code %d came %d times alone", code, count)
		}
	}
}

// needersRule is Needers by the document's words, going on until no more come.
func needersRule(list []impl.Pack, name string) []string {
	if _, code := closureRule(list, nil); code != 0 {
		return nil
	}
	found := []string{name}
	for range list {
		for _, p := range list {
			needs := slices.ContainsFunc(p.Needs, func(n impl.Need) bool { return slices.Contains(found, n.Name) })
			if needs && !slices.Contains(found, p.Name) {
				found = append(found, p.Name)
			}
		}
	}
	return sorted(found[1:])
}

// P40
func TestP40NeedersHaveItInTheirClosure(t *testing.T) {
	r := chance(40)
	several := 0
	for range 4000 {
		list := anyNeedy(r)
		for _, name := range []string{"a", "b", "ab", "none", ""} {
			needers := impl.Needers(list, name)
			if !slices.Equal(needers, needersRule(list, name)) {
				t.Errorf("Needers(%s, %q) is %v; it must be %v", short(list), name, needers, needersRule(list, name))
			}
			if len(needers) > 2 {
				several++
			}
			for _, p := range list {
				names, code := impl.Closure(list, []string{p.Name})
				if code == impl.OrderFine && p.Name != name && slices.Contains(names, name) != slices.Contains(needers, p.Name) {
					t.Errorf("%s of %s: needs %v, needers of %s %v", p.Name, short(list), names, name, needers)
				}
			}
		}
	}
	if several < 500 {
		t.Errorf("%d alone", several)
	}
}

func TestNeedersByHand(t *testing.T) {
	list := []impl.Pack{needy("z", "1", "b"), needy("b", "1", "a>=2"), needy("a", "1", "none"), needy("c", "1"), needy("x", "1", "y"), needy("y", "1", "x", "c")}
	for name, want := range map[string][]string{"a": {"b", "z"}, "b": {"z"}, "z": nil, "c": {"x", "y"}, "x": {"y"}, "y": {"x"}, "none": {"a", "b", "z"}, "": nil, "q": nil} {
		if got := impl.Needers(list, name); !slices.Equal(got, want) {
			t.Errorf("Needers of %q are %v; they must be %v", name, got, want)
		}
	}
	if got := impl.Needers(nil, "a"); len(got) != 0 {
		t.Errorf("needers among none: %v", got)
	}
}

// P73
func TestP73NeededByOneIsNeededBySeveral(t *testing.T) {
	r := chance(73)
	several := 0
	for range 5000 {
		list := anyNeedy(r)
		names := anyNames(r, list)
		all, code := impl.Closure(list, names)
		var joined []string
		first := 0
		for _, name := range names {
			one, wrong := impl.Closure(list, []string{name})
			if first == 0 {
				first = wrong
			}
			for _, n := range one {
				if !slices.Contains(joined, n) {
					joined = append(joined, n)
				}
			}
		}
		_, wrong := impl.Closure(list, nil)
		if len(names) == 0 {
			first = wrong
		}
		if code != first || code == 0 && !slices.Equal(all, joined) {
			t.Errorf("Closure(%s, %v) is %v, %d; one by one %v, %d", short(list), names, all, code, joined, first)
		}
		if code == 0 && len(names) > 1 && len(all) > len(names) {
			several++
		}
	}
	if several < 300 {
		t.Errorf("%d alone", several)
	}
}

// P74
func TestP74WhatIsNotThereIsNotNeeded(t *testing.T) {
	r := chance(74)
	for range 1000 {
		list := anyNeedy(r)
		if _, code := closureRule(list, nil); code != 0 {
			continue
		}
		wantClosure(t, list, nil, nil, 0)
		wantClosure(t, list, []string{}, nil, 0)
		for _, name := range []string{"nobody", "", "A", "a b", "a\n", "\xff", "elevenlette"} {
			wantClosure(t, list, []string{name}, nil, impl.OrderNone)
		}
	}
	wantClosure(t, nil, []string{"a"}, nil, impl.OrderNone)
}

func TestOrdersShareNoMemory(t *testing.T) {
	r := chance(75)
	for range 200 {
		var recipes []impl.Recipe
		for _, one := range anyBuilders(r) {
			recipes = append(recipes, roomyRecipe(one))
		}
		recipes = roomy(recipes, builder("guard", "1"))
		wantApart(t, "orders", []any{recipes}, func() []any {
			order, code := impl.BuildOrder(recipes)
			return []any{order, code, impl.BuildRound(recipes)}
		})
		var packs []impl.Pack
		for _, one := range anyNeedy(r) {
			packs = append(packs, roomyPack(one))
		}
		packs = roomy(packs, needy("guard", "1"))
		names := roomy(anyNames(r, packs), "guard")
		wantApart(t, "closures", []any{packs, names}, func() []any {
			all, code := impl.Closure(packs, names)
			return []any{all, code, impl.Needers(packs, "a")}
		})
	}
}
