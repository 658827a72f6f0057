package tests

import (
	"math/rand/v2"
	"slices"
	"strconv"
	"strings"
	"testing"

	"loop.example/jackstay/impl"
)

// filesRule is FilesOk by the document's words.
func filesRule(list []impl.File) bool {
	if len(list) > 6 {
		return false
	}
	fine := true
	for i, f := range list {
		fine = fine && whole(pathNameForm, f.Name) && f.Name != "." && f.Name != ".." && entryRule(file("x", 0, f.Text))
		for _, o := range list[:i] {
			fine = fine && o.Name != f.Name
		}
	}
	return fine
}

func fileNumber(i int) impl.File {
	return impl.File{Name: numbered("f")(i), Text: numbered("text ")(i)}
}

// someFiles are sources: texts, and hunks of which some fit and some do not.
func someFiles() []impl.File {
	return []impl.File{
		{Name: "src", Text: "one\ntwo\n"},
		{Name: "fix", Text: "@ 2 2\n-two\n+dos\n"},
		{Name: "more", Text: "@ 1 1\n+" + strings.Repeat("x", 70) + "\n"},
		{Name: "empty"},
		{Name: "near.9_-", Text: "@ 2 5\n a\n b\n-two\n c\n d\n"},
		{Name: "full", Text: strings.Repeat("~", 80)},
	}
}

func fileLists() [][]impl.File {
	return [][]impl.File{
		nil,
		{},
		{{Name: "a"}},
		{{Name: "tenletter9", Text: strings.Repeat("\n", 80)}},
		{{Name: "..."}, {Name: ".a"}, {Name: "-"}, {Name: "_"}, {Name: "0", Text: " ~\n"}},
		someFiles(),
		manyOf(impl.ListMax, fileNumber),
	}
}

func noFiles() [][]impl.File {
	list := [][]impl.File{
		manyOf(impl.ListMax+1, fileNumber),
		manyOf(100000, fileNumber),
		slices.Repeat([]impl.File{{Name: "a"}}, 2),
		{{Name: "a", Text: "x"}, {Name: "b"}, {Name: "a", Text: "y"}},
		{{}},
		{{Name: "a"}, {}},
		{{Name: "a", Text: strings.Repeat("x", 81)}},
		{{Name: "a", Text: strings.Repeat("x", 100000)}},
	}
	for _, name := range []string{".", "..", "a/b", "/", "A", "a b", "a\n", "elevenlette", "ä", "\xff"} {
		list = append(list, []impl.File{{Name: name}}, []impl.File{{Name: "x"}, {Name: name}})
	}
	for _, text := range []string{"\t", "\r", "\x1f", "\x7f", "\x00", "\xff", "ok\nä"} {
		list = append(list, []impl.File{{Name: "a", Text: text}}, []impl.File{{Name: "x"}, {Name: "a", Text: text}})
	}
	return list
}

func TestFilesOk(t *testing.T) {
	for i, list := range fileLists() {
		if !impl.FilesOk(list) || !filesRule(list) {
			t.Errorf("%d: %s are sources", i, short(list))
		}
	}
	for i, list := range noFiles() {
		if impl.FilesOk(list) || filesRule(list) {
			t.Errorf("%d: %s are no sources", i, short(list))
		}
	}
	for b := range 256 {
		s := string([]byte{byte(b)})
		for _, list := range [][]impl.File{{{Name: "a" + s}}, {{Name: "a", Text: s}}} {
			if impl.FilesOk(list) != filesRule(list) {
				t.Errorf("byte %d in %s", b, short(list))
			}
		}
	}
}

// wordsRule is a step, parted at its first three blanks.
func wordsRule(step string) []string {
	words := []string{""}
	for _, b := range step {
		if b == ' ' && len(words) < 4 {
			words = append(words, "")
			continue
		}
		words[len(words)-1] += string(b)
	}
	return words
}

// putRule is TreePut by the document's words.
func putRule(tree []impl.Entry, e impl.Entry) ([]impl.Entry, bool) {
	old, there := at(tree, e.Path)
	put := byPath(append(without(tree, func(o impl.Entry) bool { return o.Path == e.Path }), e)...)
	if !treeRule(put) || there && old.Kind != e.Kind {
		return tree, false
	}
	return put, true
}

// stepRule is StepDo by the document's words, of sources that are ok, a tree and a line.
func stepRule(files []impl.File, tree []impl.Entry, step string) ([]impl.Entry, int) {
	w := wordsRule(step)
	counts := map[string]int{"mkdir": 3, "mode": 3, "write": 4, "copy": 3, "patch": 3, "swap": 4, "move": 3, "link": 3, "drop": 2}
	if counts[w[0]] != len(w) {
		return tree, 1
	}
	e, there := at(tree, w[1])
	var source impl.File
	for _, f := range files {
		if len(w) > 2 && f.Name == w[2] {
			source = f
		}
	}
	var put impl.Entry
	switch w[0] {
	case "mkdir", "mode", "write":
		if len(w[2]) != 1 || !strings.Contains("01234567", w[2]) {
			return tree, 1
		}
		mode, _ := strconv.Atoi(w[2])
		switch {
		case w[0] == "mkdir":
			put = dir(w[1], mode)
		case w[0] == "write":
			put = file(w[1], mode, w[3]+"\n")
		case !there || e.Kind == 3:
			return tree, 3
		default:
			put = e
			put.Mode = mode
		}
	case "copy":
		if source.Name == "" {
			return tree, 3
		}
		put = file(w[1], 6, source.Text)
	case "patch", "swap":
		text, code := textStepRule(w, e, there, source)
		if code != 0 {
			return tree, code
		}
		put = file(w[1], e.Mode, text)
		if !entryRule(put) {
			return tree, 4
		}
	case "link":
		put = link(w[1], w[2])
	case "move":
		moved, ok := moveRule(tree, w[1], w[2])
		if !ok {
			return tree, 2
		}
		return moved, 0
	case "drop":
		if !there {
			return tree, 3
		}
		return without(tree, func(o impl.Entry) bool { return o.Path == w[1] || strings.HasPrefix(o.Path, w[1]+"/") }), 0
	}
	after, ok := putRule(tree, put)
	if !ok {
		return tree, 2
	}
	return after, 0
}

// textStepRule is the text that a patch or a swap makes.
func textStepRule(w []string, e impl.Entry, there bool, source impl.File) (string, int) {
	noFile := !there || e.Kind != 2
	if w[0] == "swap" {
		if w[2] == "" || strings.Contains(w[3], " ") {
			return "", 1
		}
		if noFile {
			return "", 3
		}
		text := ""
		for i := 0; i < len(e.Text); {
			if strings.HasPrefix(e.Text[i:], w[2]) {
				text += w[3]
				i += len(w[2])
				continue
			}
			text += e.Text[i : i+1]
			i++
		}
		return text, 0
	}
	if source.Name == "" || noFile {
		return "", 3
	}
	list, ok := hunksReadRule(source.Text)
	if !ok {
		return "", 5
	}
	lines := []string{""}
	for _, b := range e.Text {
		if b == '\n' {
			lines = append(lines, "")
			continue
		}
		lines[len(lines)-1] += string(b)
	}
	patched, _, ok := patchRule(lines, list, 2)
	if !ok {
		return "", 5
	}
	text := ""
	for i, line := range patched {
		if i > 0 {
			text += "\n"
		}
		text += line
	}
	return text, 0
}

// wantStep checks one step against what is asked, and the rule along with it.
func wantStep(t *testing.T, files []impl.File, tree []impl.Entry, step string, want []impl.Entry, code int) {
	t.Helper()
	got, gotCode := impl.StepDo(files, tree, step)
	if !slices.Equal(got, want) || gotCode != code {
		t.Errorf("StepDo(%s, %q) is %s, %d; it must be %s, %d", short(tree), step, short(got), gotCode, short(want), code)
	}
	rule, ruleCode := stepRule(files, tree, step)
	if !slices.Equal(rule, want) || ruleCode != code {
		t.Errorf("the rule of %s, %q is %s, %d", short(tree), step, short(rule), ruleCode)
	}
}

// wantStays checks a step that goes wrong.
func wantStays(t *testing.T, files []impl.File, tree []impl.Entry, step string, code int) {
	t.Helper()
	wantStep(t, files, tree, step, tree, code)
}

// stepTree has an entry of each kind, at the top and in a dir.
func stepTree() []impl.Entry {
	return byPath(dir("d", 7), dir("d/e", 5), file("d/f", 6, "one\ntwo\n"), link("d/l", "d/f"), file("f", 1, "aXbXc"), link("l", "f"))
}

// turnedAt is a tree with another entry at its path, or with one more.
func turnedAt(tree []impl.Entry, e impl.Entry) []impl.Entry {
	return byPath(append(without(tree, func(o impl.Entry) bool { return o.Path == e.Path }), e)...)
}

func TestStepsThatAreFine(t *testing.T) {
	tree := stepTree()
	for _, c := range []struct {
		step string
		want impl.Entry
	}{
		{"mkdir a 7", dir("a", 7)},
		{"mkdir a 0", dir("a", 0)},
		{"mkdir d 0", dir("d", 0)},
		{"mkdir d/e 7", dir("d/e", 7)},
		{"mkdir d/e/g 7", dir("d/e/g", 7)},
		{"mode d 1", dir("d", 1)},
		{"mode d/e 0", dir("d/e", 0)},
		{"mode f 7", file("f", 7, "aXbXc")},
		{"write a 3 x", file("a", 3, "x\n")},
		{"write a 3  x  y ", file("a", 3, " x  y \n")},
		{"write a 3 ", file("a", 3, "\n")},
		{"write f 3 new", file("f", 3, "new\n")},
		{"write d/e/a 7 " + strings.Repeat("~", 66), file("d/e/a", 7, strings.Repeat("~", 66)+"\n")},
		{"copy a src", file("a", 6, "one\ntwo\n")},
		{"copy f src", file("f", 6, "one\ntwo\n")},
		{"copy d/e/a empty", file("d/e/a", 6, "")},
		{"copy a full", file("a", 6, strings.Repeat("~", 80))},
		{"copy a near.9_-", file("a", 6, "@ 2 5\n a\n b\n-two\n c\n d\n")},
		{"patch d/f fix", file("d/f", 6, "one\ndos\n")},
		{"patch d/f empty", file("d/f", 6, "one\ntwo\n")},
		{"patch d/f near.9_-", file("d/f", 6, "one\n")},
		{"patch f more", file("f", 1, strings.Repeat("x", 70)+"\naXbXc")},
		{"swap f X yy", file("f", 1, "ayybyyc")},
		{"swap f X ", file("f", 1, "abc")},
		{"swap f aX Xa", file("f", 1, "XabXc")},
		{"swap f none x", file("f", 1, "aXbXc")},
		{"swap d/f o 0", file("d/f", 6, "0ne\ntw0\n")},
		{"link a nowhere", link("a", "nowhere")},
		{"link l d", link("l", "d")},
		{"link d/e/a a/b/c/d/e", link("d/e/a", "a/b/c/d/e")},
	} {
		wantStep(t, someFiles(), tree, c.step, turnedAt(tree, c.want), 0)
	}
	wantStep(t, nil, tree, "drop d", []impl.Entry{file("f", 1, "aXbXc"), link("l", "f")}, 0)
	wantStep(t, nil, tree, "drop l", without(tree, func(e impl.Entry) bool { return e.Path == "l" }), 0)
	wantStep(t, nil, tree, "move f g", byPath(append(without(tree, func(e impl.Entry) bool { return e.Path == "f" }), file("g", 1, "aXbXc"))...), 0)
	wantStep(t, nil, tree, "move d a", byPath(dir("a", 7), dir("a/e", 5), file("a/f", 6, "one\ntwo\n"), link("a/l", "d/f"), file("f", 1, "aXbXc"), link("l", "f")), 0)
	wantStep(t, nil, nil, "mkdir a 7", []impl.Entry{dir("a", 7)}, 0)
	wantStep(t, nil, nil, "write a 7 x", []impl.Entry{file("a", 7, "x\n")}, 0)
}

func TestStepsThatGoWrong(t *testing.T) {
	tree := turnedAt(stepTree(), file("g", 6, strings.Repeat("1", 41)))
	for _, c := range []struct {
		code  int
		steps []string
	}{
		{impl.StepForm, []string{
			"mkdir a 8", "mkdir a 07", "mkdir a -1", "mkdir a +1", "mkdir a x", "mkdir a ", "mkdir a 10", "mkdir A 8", "mkdir z/z 8",
			"mode f 8", "mode f 01", "mode f ", "mode nowhere 8", "mode l 8",
			"write a 8 x", "write a 00 x", "write a  x", "write a x 7", "write d 8 x", "write z/z 8 x",
			"swap f  x", "swap f X a b", "swap f X  ", "swap f  a b", "swap nowhere  x", "swap nowhere X a b", "swap d X a b",
		}},
		{impl.StepPlace, []string{
			"mkdir f 7", "mkdir l 7", "mkdir z/z 7", "mkdir f/z 7", "mkdir l/z 7", "mkdir d/l/z 7", "mkdir A 7", "mkdir . 7", "mkdir a/ 7", "mkdir /a 7", "mkdir elevenlette 7", "mkdir  7",
			"write d 7 x", "write l 7 x", "write z/z 7 x", "write f/z 7 x", "write A 7 x", "write  7 x",
			"copy d src", "copy l src", "copy z/z src", "copy A src", "copy  src",
			"move nowhere a", "move f d", "move f f", "move d d/e/d", "move f z/z", "move f l/f", "move f A", "move f ", "move  f", "move A f", "move d/l f",
			"link f d", "link d f", "link z/z f", "link A f", "link a A", "link a ", "link  f", "link a a/b/c/d/e/f", "link a ..",
		}},
		{impl.StepNone, []string{
			"mode nowhere 7", "mode l 7", "mode d/l 0", "mode A 7", "mode z/z 1", "mode  7",
			"copy a none", "copy a ", "copy d none", "copy A none", "copy z/z none", "copy a sr",
			"patch f none", "patch nowhere fix", "patch nowhere none", "patch d fix", "patch l fix", "patch d/l fix", "patch A fix", "patch f ", "patch nowhere src",
			"swap nowhere X y", "swap d X y", "swap l X y", "swap A X y", "swap  X y", "swap  f X",
			"drop nowhere", "drop d/z", "drop A", "drop ", "drop d/", "drop f/x",
		}},
		{impl.StepPatch, []string{"patch f fix", "patch d/f src", "patch f full", "patch f src"}},
		{impl.StepText, []string{"swap f X " + strings.Repeat("y", 39), "patch g more", "swap g 1 12"}},
	} {
		for _, step := range c.steps {
			wantStays(t, someFiles(), tree, step, c.code)
		}
	}
}

// P68
func TestP68WhatIsNoStepDoesNothing(t *testing.T) {
	tree := stepTree()
	for _, step := range []string{
		" ", "  ", "   ", "    ", "x", "what a b", "Mkdir a 7", "mkdirs a 7", "mkdi a 7", "MKDIR a 7", "copy", "step mkdir a 7", " mkdir a 7", "\"mkdir\" a 7", "rm f", "drop,f", "dropf",
		"mkdir", "mkdir ", "mkdir a", "mkdir a 7 ", "mkdir a 7 x", "mkdir  a 7", "mkdir a  7", "mkdir a 7 x y",
		"mode", "mode f", "mode f 7 ", "mode f 7 x", "mode  f 7",
		"write", "write a", "write a 7", "write  a 7", "write a  7",
		"copy a", "copy a src ", "copy a src x", "copy  a src", "copy a  src",
		"patch", "patch d/f", "patch d/f fix ", "patch d/f fix 2", "patch  d/f fix",
		"swap", "swap f", "swap f X", "swap f  X",
		"move", "move f", "move f g ", "move f g h", "move  f g",
		"link", "link a", "link a f ", "link a f g",
		"drop", "drop f ", "drop  f", "drop f d", "drop f d l", "drop f  ",
	} {
		wantStays(t, someFiles(), tree, step, impl.StepForm)
	}
	verbs := []string{"mkdir", "mode", "write", "copy", "patch", "swap", "move", "link", "drop"}
	counts := []int{3, 3, 4, 3, 3, 4, 3, 3, 2}
	for i, verb := range verbs {
		for count := 1; count <= 6; count++ {
			step := verb + strings.Repeat(" a", count-1)
			_, code := impl.StepDo(someFiles(), tree, step)
			if min(count, 4) != counts[i] && code != impl.StepForm {
				t.Errorf("%q has code %d", step, code)
			}
		}
	}
	r := chance(68)
	for range 3000 {
		first := anyText(r, []string{"m", "k", "d", "i", "r", "o", "e", "w", "t", "drop", "mode", "link", "copy"}, 4)
		step := first + []string{"", " f", " f 7", " f 7 x"}[r.IntN(4)]
		if !slices.Contains(verbs, first) {
			wantStays(t, someFiles(), tree, step, impl.StepForm)
		}
	}
}

func TestStepOfWhatIsNotOk(t *testing.T) {
	wantNothing := func(files []impl.File, tree []impl.Entry, step string) {
		t.Helper()
		got, code := impl.StepDo(files, tree, step)
		if len(got) != 0 || code != impl.StepForm {
			t.Errorf("StepDo(%s, %s, %.100q) is %s, %d", short(files), short(tree), step, short(got), code)
		}
	}
	for _, files := range noFiles() {
		wantNothing(files, stepTree(), "mkdir a 7")
		wantNothing(files, stepTree(), "drop f")
		wantNothing(files, nil, "write a 7 x")
	}
	for _, tree := range noTrees() {
		wantNothing(someFiles(), tree, "mkdir z 7")
		wantNothing(someFiles(), tree, "drop a")
		wantNothing(someFiles(), tree, "no step")
	}
	for _, step := range []string{"", "\n", "mkdir a 7\n", "mkdir\ta 7", "write a 7 \x1f", "write a 7 \x7f", "write a 7 ä", "write a 7 \xff", "write a 7 x\ny", "write a 7 " + strings.Repeat("x", 71), strings.Repeat("x", 100000)} {
		wantNothing(someFiles(), stepTree(), step)
	}
	long := "write a 7 " + strings.Repeat("x", 70)
	wantStep(t, nil, nil, long, []impl.Entry{file("a", 7, strings.Repeat("x", 70)+"\n")}, 0)
	for b := range 256 {
		s := string([]byte{byte(b)})
		if b < 32 || b > 126 {
			wantNothing(nil, stepTree(), "write a 7 x"+s)
			continue
		}
		wantStep(t, nil, nil, "write a 7 x"+s, []impl.Entry{file("a", 7, "x"+s+"\n")}, 0)
	}
}

// A tree with no room, texts and lines as many as may be, and one more.
func TestStepLimits(t *testing.T) {
	full := fullTree()
	for _, step := range []string{"mkdir e 7", "write e 7 x", "copy e src", "link e d"} {
		wantStays(t, someFiles(), full, step, impl.StepPlace)
		_, code := impl.StepDo(someFiles(), full[:15], step)
		if code != impl.StepFine {
			t.Errorf("%q has room", step)
		}
	}
	wantStep(t, nil, full, "mkdir d 0", turnedAt(full, dir("d", 0)), 0)
	wantStep(t, nil, full, "write d/a 0 x", turnedAt(full, file("d/a", 0, "x\n")), 0)
	for size := 79; size <= 81; size++ {
		code := 0
		if size > 80 {
			code = impl.StepText
		}
		tree := []impl.Entry{file("f", 3, "x"+strings.Repeat("y", 60))}
		later := "x" + strings.Repeat("y", 60)
		if code == 0 {
			later = strings.Repeat("z", size-60) + strings.Repeat("y", 60)
		}
		wantStep(t, nil, tree, "swap f x "+strings.Repeat("z", size-60), []impl.Entry{file("f", 3, later)}, code)
		more := []impl.File{{Name: "more", Text: "@ 1 1\n+" + strings.Repeat("z", size-62) + "\n"}}
		if code == 0 {
			later = strings.Repeat("z", size-62) + "\nx" + strings.Repeat("y", 60)
		}
		wantStep(t, more, tree, "patch f more", []impl.Entry{file("f", 3, later)}, code)
	}
	less := []impl.File{{Name: "none"}, {Name: "more", Text: "@ 1 1\n+x\n"}, {Name: "less", Text: "@ 1 1\n-x\n"}}
	for count := 28; count <= 32; count++ {
		text := "x\n" + strings.Repeat("\n", count-2)
		tree := []impl.Entry{file("f", 3, text)}
		for i, later := range []string{text, "x\n" + text, text[2:]} {
			lines := count + []int{0, 1, -1}[i]
			step := "patch f " + less[i].Name
			if max(lines, count) > impl.LineMax {
				wantStays(t, less, tree, step, impl.StepPatch)
				continue
			}
			wantStep(t, less, tree, step, []impl.Entry{file("f", 3, later)}, 0)
		}
	}
}

// What is behind the last newline is a line as well, also if it is empty.
func TestPatchTakesTheLastLine(t *testing.T) {
	for _, c := range []struct {
		text  string
		hunks string
		later string
		code  int
	}{
		{"", "@ 1 1\n+x\n", "x\n", 0},
		{"", "@ 1 1\n-\n", "", 0},
		{"", "@ 1 2\n-\n+x\n", "x", 0},
		{"", "@ 1 2\n \n+x\n", "\nx", 0},
		{"", "@ 2 1\n+x\n", "\nx", 0},
		{"", "", "", 0},
		{"a", "@ 1 1\n-a\n", "", 0},
		{"a\n", "@ 1 1\n-a\n", "", 0},
		{"a\n", "@ 1 2\n-a\n-\n", "", 0},
		{"a", "@ 1 2\n-a\n-\n", "a", impl.StepPatch},
		{"a\n", "@ 2 1\n-\n", "a", 0},
		{"a\n", "@ 3 1\n+b\n", "a\n\nb", 0},
		{"a\n", "@ 2 1\n+b\n", "a\nb\n", 0},
		{"a", "@ 2 1\n+b\n", "a\nb", 0},
		{"\n", "@ 1 2\n-\n-\n", "", 0},
		{"\n\n", "@ 2 1\n+x\n", "\nx\n\n", 0},
		{"a\nb", "@ 1 1\n", "a\nb", impl.StepPatch},
		{"a\nb", "@ 1 1\n-b", "a\nb", impl.StepPatch},
		{"a\nb", "x", "a\nb", impl.StepPatch},
		// A fuzz of two is taken, of three it would have to be.
		{"q\nw\ne\nr", "@ 1 3\n x\n y\n-e\n", "q\nw\nr", 0},
		{"q\nw\ne\nr", "@ 1 4\n q\n x\n y\n-e\n", "q\nw\ne\nr", impl.StepPatch},
		{"1\n2\n3\n4\n5\n6\n7\n8\nx", "@ 1 1\n-x\n", "1\n2\n3\n4\n5\n6\n7\n8", 0},
		{"1\n2\n3\n4\n5\n6\n7\n8\n9\nx", "@ 1 1\n-x\n", "1\n2\n3\n4\n5\n6\n7\n8\n9\nx", impl.StepPatch},
	} {
		files := []impl.File{{Name: "fix", Text: c.hunks}}
		wantStep(t, files, []impl.Entry{file("f", 2, c.text)}, "patch f fix", []impl.Entry{file("f", 2, c.later)}, c.code)
	}
}

func TestSwapGoesFromTheFrontOn(t *testing.T) {
	for _, c := range [][4]string{
		{"aaaaa", "aa", "b", "bba"},
		{"aaaaa", "aa", "a", "aaa"},
		{"aaa", "a", "aa", "aaaaaa"},
		{"ababa", "aba", "x", "xba"},
		{"a\nb", "a", "b", "b\nb"},
		{"aXa", "a", "", "X"},
		{"aXa", "aXa", "", ""},
		{"", "a", "b", ""},
		{"{}", "}", "{", "{{"},
		{"$1", "$1", "$2", "$2"},
	} {
		wantStep(t, nil, []impl.Entry{file("f", 2, c[0])}, "swap f "+c[1]+" "+c[2], []impl.Entry{file("f", 2, c[3])}, 0)
	}
}

// stepTexts are texts that someFiles fit to, and such that they do not.
var stepTexts = []string{"", "x", "one\ntwo\n", "two\n", "a\nb\ntwo\nc\nd", "one\nx\ntwo\n", "X\n" + strings.Repeat("one ", 18), strings.Repeat("\n", 40), strings.Repeat("ab", 38)}

func anyStepTree(r *rand.Rand) []impl.Entry {
	tree := anyTree(r, r.IntN(12)+r.IntN(2)*5)
	for i := range tree {
		if tree[i].Kind == 2 {
			tree[i].Text = stepTexts[r.IntN(len(stepTexts))]
		}
	}
	return tree
}

// anyStep is a step that may be fine in a tree, or nearly so.
func anyStep(r *rand.Rand, tree []impl.Entry) string {
	pick := func(list ...string) string { return list[r.IntN(len(list))] }
	path := func() string {
		if len(tree) > 0 && r.IntN(3) > 0 {
			return tree[r.IntN(len(tree))].Path
		}
		return pick(anyPath(r), anyPath(r), anyPath(r)+"/z", "A", "")
	}
	filePath := func() string {
		p := path()
		for range 5 {
			if e, _ := at(tree, p); e.Kind != 2 {
				p = path()
			}
		}
		return p
	}
	mode := pick("0", "1", "7", "7", "6", "6", "3", "8", "07", "x", "")
	source := pick("src", "fix", "fix", "more", "more", "empty", "near.9_-", "near.9_-", "full", "none", "")
	step := []string{
		"mkdir " + path() + " " + mode,
		"mode " + path() + " " + mode,
		"write " + path() + " " + mode + " " + pick("", "x", "one two  three", "~"),
		"copy " + path() + " " + source,
		"patch " + filePath() + " " + source,
		"swap " + filePath() + " " + pick("a", "o", "one", "X", "two", "", "ab") + " " + pick("", "b", "twotwo", "12345678901234567890", " ", "a b"),
		"move " + path() + " " + pick(anyPath(r), anyPath(r), path()),
		"link " + path() + " " + path(),
		"drop " + path(),
	}[r.IntN(9)]
	switch r.IntN(12) {
	case 0:
		return turned(r, step)
	case 1:
		return step + " x"
	}
	return step
}

// someTreesAndSteps are sources, trees and steps that may be done there.
func someTreesAndSteps(seed uint64, count int, use func(files []impl.File, tree []impl.Entry, step string)) {
	r := chance(seed)
	for range count {
		tree := anyStepTree(r)
		for range 40 {
			step := anyStep(r, tree)
			if whole(lineForm, step) {
				use(someFiles(), tree, step)
			}
		}
	}
}

func TestStepAgainstRule(t *testing.T) {
	codes := map[string]int{}
	someTreesAndSteps(61, 2500, func(files []impl.File, tree []impl.Entry, step string) {
		want, code := stepRule(files, tree, step)
		wantStep(t, files, tree, step, want, code)
		codes[wordsRule(step)[0]+" "+strconv.Itoa(code)]++
	})
	for verb, list := range map[string]string{"mkdir": "012", "mode": "013", "write": "012", "copy": "0123", "patch": "01345", "swap": "0134", "move": "012", "link": "012", "drop": "013"} {
		for _, code := range list {
			if codes[verb+" "+string(code)] < 50 {
				t.Errorf("%s with code %c came %d times alone", verb, code, codes[verb+" "+string(code)])
			}
		}
	}
}

// P28
func TestP28TreeIsATreeWhateverStepIsDone(t *testing.T) {
	someTreesAndSteps(28, 400, func(files []impl.File, tree []impl.Entry, step string) {
		after, code := impl.StepDo(files, tree, step)
		if !impl.TreeOk(after) || !treeRule(after) {
			t.Errorf("%q of %s makes no tree: %s", step, short(tree), short(after))
		}
		if code < impl.StepFine || code > impl.StepPatch || code != impl.StepFine && !slices.Equal(after, tree) {
			t.Errorf("%q of %s has code %d, and leaves %s", step, short(tree), code, short(after))
		}
	})
}

// P29
func TestP29WhatStepsSayIsDone(t *testing.T) {
	made := 0
	for _, tree := range someTrees() {
		written, code := impl.StepDo(nil, tree, "write zz 5 some text")
		if len(tree) == impl.TreeMax {
			if code != impl.StepPlace || !slices.Equal(written, tree) {
				t.Errorf("no room in %s", short(tree))
			}
			continue
		}
		made++
		e, there := impl.TreeGet(written, "zz")
		if code != 0 || !there || e != file("zz", 5, "some text\n") || len(written) != len(tree)+1 {
			t.Errorf("write into %s: %s", short(tree), short(written))
		}
		swapped, code := impl.StepDo(nil, written, "swap zz e E")
		e, _ = impl.TreeGet(swapped, "zz")
		if code != 0 || e != file("zz", 5, "somE tExt\n") {
			t.Errorf("swap makes %v, %d", e, code)
		}
		moved, code := impl.StepDo(nil, swapped, "move zz zy")
		_, old := impl.TreeGet(moved, "zz")
		e, _ = impl.TreeGet(moved, "zy")
		if code != 0 || old || e != file("zy", 5, "somE tExt\n") {
			t.Errorf("move makes %v, %d", e, code)
		}
		dropped, code := impl.StepDo(nil, moved, "drop zy")
		if code != 0 || !slices.Equal(dropped, tree) {
			t.Errorf("drop leaves %s of %s", short(dropped), short(tree))
		}
		_, code = impl.StepDo(nil, dropped, "drop zy")
		if code != impl.StepNone {
			t.Errorf("dropped twice: %d", code)
		}
	}
	if made < 100 {
		t.Errorf("%d alone", made)
	}
}

// P66
func TestP66DirMayHaveSomethingInIt(t *testing.T) {
	for _, tree := range someTrees() {
		for mode := range 8 {
			now, code := impl.StepDo(nil, tree, "mkdir zz "+strconv.Itoa(mode))
			if len(tree) == impl.TreeMax {
				continue
			}
			e, _ := impl.TreeGet(now, "zz")
			if code != 0 || e != dir("zz", mode) {
				t.Errorf("mkdir makes %v, %d", e, code)
			}
			if len(now) == impl.TreeMax {
				continue
			}
			with, code := impl.StepDo(nil, now, "write zz/x 4 x")
			if code != 0 || !slices.Equal(with, byPath(append(slices.Clone(now), file("zz/x", 4, "x\n"))...)) {
				t.Errorf("write into a dir: %s, %d", short(with), code)
			}
			back, code := impl.StepDo(nil, with, "drop zz")
			if code != 0 || !slices.Equal(back, tree) {
				t.Errorf("drop leaves %s of %s", short(back), short(tree))
			}
		}
	}
}

// P67
func TestP67ModeIsSet(t *testing.T) {
	var kinds [4]int
	for _, tree := range someTrees() {
		for _, e := range tree {
			mode := kinds[e.Kind] % 8
			kinds[e.Kind]++
			want, wantCode := slices.Clone(tree), impl.StepNone
			if e.Kind != 3 {
				e.Mode = mode
				want, wantCode = turnedAt(tree, e), 0
			}
			wantStep(t, nil, tree, "mode "+e.Path+" "+strconv.Itoa(mode), want, wantCode)
		}
	}
	if min(kinds[1], kinds[2], kinds[3]) < 50 {
		t.Errorf("%v", kinds)
	}
}

// stepsRule is StepsDo by the document's words.
func stepsRule(files []impl.File, steps []string) ([]impl.Entry, int, int) {
	if !filesRule(files) || len(steps) > 10 {
		return nil, 0, 1
	}
	var tree []impl.Entry
	for i, step := range steps {
		code := 1
		if whole(lineForm, step) {
			tree, code = stepRule(files, tree, step)
		}
		if code != 0 {
			return tree, i, code
		}
	}
	return tree, len(steps), 0
}

func wantSteps(t *testing.T, files []impl.File, steps []string) int {
	t.Helper()
	tree, count, code := impl.StepsDo(files, steps)
	want, wantCount, wantCode := stepsRule(files, steps)
	if !slices.Equal(tree, want) || count != wantCount || code != wantCode {
		t.Errorf("StepsDo(%.300q) is %s, %d, %d; it must be %s, %d, %d", steps, short(tree), count, code, short(want), wantCount, wantCode)
	}
	return code
}

// anySteps are such that most of them can be done, one behind the other.
func anySteps(r *rand.Rand, most int) []string {
	var steps []string
	var tree []impl.Entry
	for len(steps) < most && r.IntN(12) > 0 {
		step := anyStep(r, tree)
		if len(tree) < 3 && r.IntN(2) == 0 {
			step = []string{"mkdir a 7", "write b 6 one two", "copy c src"}[r.IntN(3)]
		}
		if !whole(lineForm, step) {
			continue
		}
		after, code := stepRule(someFiles(), tree, step)
		if code != 0 && r.IntN(30) > 0 {
			continue
		}
		tree = after
		steps = append(steps, step)
	}
	return steps
}

// P30
func TestP30StepsOneBehindTheOther(t *testing.T) {
	r := chance(30)
	var fine, wrong [12]int
	for range 3000 {
		steps := anySteps(r, 10)
		tree, count, code := impl.StepsDo(someFiles(), steps)
		var now []impl.Entry
		for i, step := range steps {
			after, k := impl.StepDo(someFiles(), now, step)
			if i < count && k != 0 || i == count && k != code {
				t.Errorf("step %d of %q has code %d; all %d, %d", i, steps, k, count, code)
			}
			if k != 0 {
				break
			}
			now = after
		}
		if !slices.Equal(now, tree) {
			t.Errorf("%q make %s, one by one %s", steps, short(tree), short(now))
		}
		wantSteps(t, someFiles(), steps)
		if code == 0 {
			fine[count]++
		} else {
			wrong[count]++
		}
	}
	for count := range 10 {
		if fine[count] < 10 || wrong[count] < 10 {
			t.Errorf("%d steps came %d times fine, %d times not", count, fine[count], wrong[count])
		}
	}
	if fine[10] < 10 {
		t.Errorf("as many as may be came %d times alone", fine[10])
	}
}

// P69
func TestP69OneMoreIsThatStepBehindThem(t *testing.T) {
	r := chance(69)
	done := 0
	for range 3000 {
		steps := anySteps(r, 9)
		tree, count, code := impl.StepsDo(someFiles(), steps)
		step := anyStep(r, tree)
		if !whole(lineForm, step) {
			continue
		}
		more, moreCount, moreCode := impl.StepsDo(someFiles(), append(slices.Clone(steps), step))
		want, wantCode := tree, code
		if code == 0 {
			want, wantCode = impl.StepDo(someFiles(), tree, step)
			if wantCode == 0 {
				count++
				done++
			}
		}
		if !slices.Equal(more, want) || moreCount != count || moreCode != wantCode {
			t.Errorf("%q and %q: %s, %d, %d", steps, step, short(more), moreCount, moreCode)
		}
	}
	if done < 500 {
		t.Errorf("%d alone", done)
	}
}

func TestStepsLimits(t *testing.T) {
	ten := manyOf(impl.StepMax, func(i int) string { return "write " + numbered("f")(i) + " 7 x" })
	tree, count, code := impl.StepsDo(nil, ten)
	if len(tree) != 10 || count != 10 || code != 0 {
		t.Errorf("ten steps: %s, %d, %d", short(tree), count, code)
	}
	wantNothing := func(files []impl.File, steps []string) {
		t.Helper()
		tree, count, code := impl.StepsDo(files, steps)
		if len(tree) != 0 || count != 0 || code != impl.StepForm {
			t.Errorf("StepsDo(%s, %.100q) is %s, %d, %d", short(files), steps, short(tree), count, code)
		}
	}
	wantNothing(nil, append(slices.Clone(ten), "write z 7 x"))
	wantNothing(nil, slices.Repeat([]string{"mkdir a 7"}, impl.StepMax+1))
	wantNothing(nil, slices.Repeat([]string{"mkdir a 7"}, 100000))
	for _, files := range noFiles() {
		wantNothing(files, ten)
		wantNothing(files, nil)
	}
	for _, files := range fileLists() {
		tree, count, code := impl.StepsDo(files, nil)
		if len(tree) != 0 || count != 0 || code != 0 {
			t.Errorf("no steps are %s, %d, %d", short(tree), count, code)
		}
	}
	// What is no line leaves what was done ahead of it.
	for _, step := range []string{"", "\n", "write a 7 \x7f", "write a 7 " + strings.Repeat("x", 71), "mkdir b 7\n"} {
		tree, count, code := impl.StepsDo(nil, []string{"mkdir a 7", step, "mkdir c 7"})
		if !slices.Equal(tree, []impl.Entry{dir("a", 7)}) || count != 1 || code != impl.StepForm {
			t.Errorf("behind a dir %.100q is %s, %d, %d", step, short(tree), count, code)
		}
		wantSteps(t, nil, []string{step})
	}
	for code, step := range []string{"mkdir b 7", "what", "mkdir x/y 7", "drop b", "swap f x " + strings.Repeat("x", 60), "patch f src"} {
		steps := []string{"copy f src", "write f 6 xx", step, "drop f"}
		tree, count, got := impl.StepsDo(someFiles(), steps)
		if got != code || code != 0 && (count != 2 || !slices.Equal(tree, []impl.Entry{file("f", 6, "xx\n")})) || code == 0 && (count != 4 || len(tree) != 1) {
			t.Errorf("%q: %s, %d, %d", steps, short(tree), count, got)
		}
	}
}

func TestStepsShareNoMemory(t *testing.T) {
	guard := impl.File{Name: "guard", Text: "guard"}
	files := roomy(someFiles(), guard)
	trees := append(someTrees()[:30], stepTree(), noTrees()[3])
	for _, tree := range trees {
		tree = roomy(tree, file("guard", 5, "guard"))
		steps := []string{"mkdir a 7", "mkdir zz 7", "mode a 3", "write zz 7 x", "copy zz src", "patch d/f fix", "patch f fix", "swap f X y", "move a zz", "move f g", "link zz a", "drop a", "drop f", "drop nowhere", "what", ""}
		for _, step := range steps {
			wantApart(t, "StepDo "+step, []any{files, tree}, func() []any {
				after, code := impl.StepDo(files, tree, step)
				return []any{after, code}
			})
		}
	}
	r := chance(62)
	for range 200 {
		steps := roomy(anySteps(r, 10), "guard")
		wantApart(t, "StepsDo", []any{files, steps}, func() []any {
			tree, count, code := impl.StepsDo(files, steps)
			return []any{tree, count, code}
		})
	}
	wantApart(t, "FilesOk", []any{files}, func() []any { return []any{impl.FilesOk(files)} })
	unsorted := roomy([]impl.File{{Name: "b"}, {Name: "a"}, {Name: "c"}, {Name: "a"}}, guard)
	wantApart(t, "FilesOk", []any{unsorted}, func() []any { return []any{impl.FilesOk(unsorted)} })
}
