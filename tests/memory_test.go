package tests

import (
	"cmp"
	"fmt"
	"reflect"
	"slices"
	"testing"

	"loop.example/jackstay/impl"
)

// guarded is entries with spare room behind them that is filled, and all of that room.
func guarded(tree []impl.Entry) ([]impl.Entry, []impl.Entry) {
	whole := slices.Concat(tree, slices.Repeat([]impl.Entry{file("guard", 5, "guard")}, 5))
	return whole[:len(tree)], whole
}

func scribble(list []impl.Entry) {
	list = list[:cap(list)]
	for i := range list {
		list[i] = file("scribble", 1, "scribble")
	}
}

// apart checks that a call leaves its arguments, and the room behind them, as they are, and that its answer shares nothing with them.
func apart(t *testing.T, what string, a []impl.Entry, b []impl.Entry, call func(a, b []impl.Entry) []impl.Entry) {
	t.Helper()
	one, oneWhole := guarded(a)
	two, twoWhole := guarded(b)
	oneWas, twoWas := slices.Clone(oneWhole), slices.Clone(twoWhole)
	answer := call(one, two)
	if !slices.Equal(oneWhole, oneWas) || !slices.Equal(twoWhole, twoWas) {
		t.Errorf("%s writes into an argument, or behind it", what)
	}
	was := slices.Clone(answer)
	scribble(oneWhole)
	scribble(twoWhole)
	if !slices.Equal(answer, was) {
		t.Errorf("%s: the answer turns with an argument", what)
	}
	copy(oneWhole, oneWas)
	copy(twoWhole, twoWas)
	scribble(answer)
	if !slices.Equal(oneWhole, oneWas) || !slices.Equal(twoWhole, twoWas) {
		t.Errorf("%s: an argument turns with the answer", what)
	}
	if len(call(one, two)) != len(was) {
		t.Errorf("%s: something is kept between two calls", what)
	}
}

func TestTreesShareNoMemory(t *testing.T) {
	trees := append(someTrees(), noTrees()...)
	for _, tree := range trees {
		paths := []string{"", "nowhere", "a"}
		for _, e := range tree {
			paths = append(paths, e.Path)
		}
		for _, path := range paths[:min(len(paths), 20)] {
			apart(t, "TreePut", tree, nil, func(a, _ []impl.Entry) []impl.Entry {
				put, _ := impl.TreePut(a, dir(path, 3))
				return put
			})
			apart(t, "TreeDrop", tree, nil, func(a, _ []impl.Entry) []impl.Entry {
				left, _ := impl.TreeDrop(a, path)
				return left
			})
			apart(t, "TreeMove", tree, nil, func(a, _ []impl.Entry) []impl.Entry {
				moved, _ := impl.TreeMove(a, path, "zz")
				return moved
			})
		}
		for _, g := range []string{"**", "a/**", "*", "["} {
			apart(t, "TreePart", tree, nil, func(a, _ []impl.Entry) []impl.Entry {
				return impl.TreePart(a, g)
			})
		}
		apart(t, "what only looks", tree, nil, func(a, _ []impl.Entry) []impl.Entry {
			impl.TreeOk(a)
			one, _ := impl.TreeGet(a, "a")
			two, _ := impl.TreeFollow(a, "a")
			return []impl.Entry{one, two, file("x", 0, impl.TreeText(a))}
		})
		for _, other := range [][]impl.Entry{nil, {dir("zz", 7)}, tree} {
			apart(t, "TreeJoin", tree, other, func(a, b []impl.Entry) []impl.Entry {
				joined, _ := impl.TreeJoin(a, b)
				return joined
			})
		}
	}
}

// Two answers of the same call must be two memories.
func TestReadIsNewEachTime(t *testing.T) {
	text := impl.TreeText(fullTree())
	one, _ := impl.TreeRead(text)
	two, _ := impl.TreeRead(text)
	scribble(one)
	wantTree(t, "the second", two, fullTree())
}

// span is the memory of one list, its spare room included.
type span struct {
	from uintptr
	to   uintptr
}

// spansOf tells the memory of all lists of a value, one within the other.
func spansOf(v reflect.Value) []span {
	var list []span
	switch v.Kind() {
	case reflect.Slice:
		v = v.Slice3(0, v.Cap(), v.Cap())
		if v.Len() > 0 {
			list = append(list, span{v.Pointer(), v.Pointer() + uintptr(v.Len())*v.Type().Elem().Size()})
		}
		for i := range v.Len() {
			list = append(list, spansOf(v.Index(i))...)
		}
	case reflect.Struct:
		for i := range v.NumField() {
			list = append(list, spansOf(v.Field(i))...)
		}
	}
	return list
}

// wantNoShare checks that no two lists of all these values share memory.
func wantNoShare(t *testing.T, what string, values ...any) {
	t.Helper()
	var list []span
	for _, v := range values {
		list = append(list, spansOf(reflect.ValueOf(v))...)
	}
	slices.SortFunc(list, func(a, b span) int { return cmp.Compare(a.from, b.from) })
	for i := 1; i < len(list); i++ {
		if list[i].from < list[i-1].to {
			t.Errorf("%s: two lists share memory", what)
		}
	}
}

// snapshot tells all of a value; an empty list is told as none is.
func snapshot(v any) string {
	return told(reflect.ValueOf(v), false)
}

// short is how a value begins, for what a test tells.
func short(v any) string {
	return fmt.Sprintf("%.300s", snapshot(v))
}

// told tells a value, if asked for with what is in the spare room of its lists.
func told(v reflect.Value, room bool) string {
	switch v.Kind() {
	case reflect.Slice:
		if room {
			v = v.Slice3(0, v.Cap(), v.Cap())
		}
		text := "["
		for i := range v.Len() {
			text += told(v.Index(i), room) + ","
		}
		return text + "]"
	case reflect.Struct:
		text := "{"
		for i := range v.NumField() {
			text += told(v.Field(i), room) + ","
		}
		return text + "}"
	}
	return fmt.Sprintf("%#v", v)
}

// roomy is a list with spare room behind it, in which something stands.
func roomy[T any](list []T, guard T) []T {
	return append(slices.Clone(list), guard, guard, guard)[:len(list)]
}

// wantApart checks that a call leaves its arguments, and the room behind them, as they are, that its answers share nothing with them, nor with each other, and that a second call answers the same.
func wantApart(t *testing.T, what string, args []any, call func() []any) {
	t.Helper()
	full := func() string {
		text := ""
		for _, a := range args {
			text += told(reflect.ValueOf(a), true)
		}
		return text
	}
	was := full()
	answers := call()
	if full() != was {
		t.Errorf("%s: an argument, or the room behind it, is another one", what)
	}
	wantNoShare(t, what, append(slices.Clone(args), answers...)...)
	again := call()
	for i := range answers {
		if !same(answers[i], again[i]) {
			t.Errorf("%s: answer %d is another one the second time", what, i)
		}
	}
}
