package tests

import (
	"slices"
	"testing"

	"loop.example/jackstay/impl"
)

// guarded is entries with spare room behind them that is filled, and all of that room.
func guarded(tree []impl.Entry) ([]impl.Entry, []impl.Entry) {
	whole := slices.Concat(tree, slices.Repeat([]impl.Entry{file("guard", 5, "guard")}, 5))
	return whole[:len(tree)], whole
}

func scribble(list []impl.Entry) {
	list = list[:cap(list)]
	for i := range list {
		list[i] = file("scribble", 1, "scribble")
	}
}

// apart checks that a call leaves its arguments, and the room behind them, as they are, and that its answer shares nothing with them.
func apart(t *testing.T, what string, a []impl.Entry, b []impl.Entry, call func(a, b []impl.Entry) []impl.Entry) {
	t.Helper()
	one, oneWhole := guarded(a)
	two, twoWhole := guarded(b)
	oneWas, twoWas := slices.Clone(oneWhole), slices.Clone(twoWhole)
	answer := call(one, two)
	if !slices.Equal(oneWhole, oneWas) || !slices.Equal(twoWhole, twoWas) {
		t.Errorf("%s writes into an argument, or behind it", what)
	}
	was := slices.Clone(answer)
	scribble(oneWhole)
	scribble(twoWhole)
	if !slices.Equal(answer, was) {
		t.Errorf("%s: the answer turns with an argument", what)
	}
	copy(oneWhole, oneWas)
	copy(twoWhole, twoWas)
	scribble(answer)
	if !slices.Equal(oneWhole, oneWas) || !slices.Equal(twoWhole, twoWas) {
		t.Errorf("%s: an argument turns with the answer", what)
	}
	if len(call(one, two)) != len(was) {
		t.Errorf("%s: something is kept between two calls", what)
	}
}

func TestTreesShareNoMemory(t *testing.T) {
	trees := append(someTrees(), noTrees()...)
	for _, tree := range trees {
		paths := []string{"", "nowhere", "a"}
		for _, e := range tree {
			paths = append(paths, e.Path)
		}
		for _, path := range paths[:min(len(paths), 20)] {
			apart(t, "TreePut", tree, nil, func(a, _ []impl.Entry) []impl.Entry {
				put, _ := impl.TreePut(a, dir(path, 3))
				return put
			})
			apart(t, "TreeDrop", tree, nil, func(a, _ []impl.Entry) []impl.Entry {
				left, _ := impl.TreeDrop(a, path)
				return left
			})
			apart(t, "TreeMove", tree, nil, func(a, _ []impl.Entry) []impl.Entry {
				moved, _ := impl.TreeMove(a, path, "zz")
				return moved
			})
		}
		for _, g := range []string{"**", "a/**", "*", "["} {
			apart(t, "TreePart", tree, nil, func(a, _ []impl.Entry) []impl.Entry {
				return impl.TreePart(a, g)
			})
		}
		apart(t, "what only looks", tree, nil, func(a, _ []impl.Entry) []impl.Entry {
			impl.TreeOk(a)
			one, _ := impl.TreeGet(a, "a")
			two, _ := impl.TreeFollow(a, "a")
			return []impl.Entry{one, two, file("x", 0, impl.TreeText(a))}
		})
		for _, other := range [][]impl.Entry{nil, {dir("zz", 7)}, tree} {
			apart(t, "TreeJoin", tree, other, func(a, b []impl.Entry) []impl.Entry {
				joined, _ := impl.TreeJoin(a, b)
				return joined
			})
		}
	}
}

// Two answers of the same call must be two memories.
func TestReadIsNewEachTime(t *testing.T) {
	text := impl.TreeText(fullTree())
	one, _ := impl.TreeRead(text)
	two, _ := impl.TreeRead(text)
	scribble(one)
	wantTree(t, "the second", two, fullTree())
}
