package tests

import (
	"math/rand/v2"
	"regexp"
	"slices"
	"strconv"
	"strings"
	"testing"

	"loop.example/jackstay/impl"
)

var (
	hunkLineForm = regexp.MustCompile(`^[ +-][ -~]{0,80}$`)
	textLineForm = regexp.MustCompile(`^[ -~]{0,80}$`)
)

// sideRule is lines with one of two signs, without it.
func sideRule(h impl.Hunk, signs string) []string {
	var list []string
	for _, line := range h.Lines {
		if strings.Contains(signs, line[:1]) {
			list = append(list, line[1:])
		}
	}
	return list
}

// hunksRule is HunksOk by the document's words.
func hunksRule(list []impl.Hunk) bool {
	if len(list) > 4 {
		return false
	}
	for i, h := range list {
		if h.At < 1 || h.At > 999 || len(h.Lines) < 1 || len(h.Lines) > 30 {
			return false
		}
		for _, line := range h.Lines {
			if !whole(hunkLineForm, line) {
				return false
			}
		}
		if i > 0 && h.At < list[i-1].At+len(sideRule(list[i-1], " -")) {
			return false
		}
	}
	return true
}

func linesRule(lines []string) bool {
	fine := len(lines) <= 30
	for _, line := range lines {
		fine = fine && whole(textLineForm, line)
	}
	return fine
}

func hunk(at int, lines ...string) impl.Hunk {
	return impl.Hunk{At: at, Lines: lines}
}

func hunks(list ...impl.Hunk) []impl.Hunk {
	return list
}

// wordList is one line of each byte.
func wordList(s string) []string {
	var list []string
	for _, b := range s {
		list = append(list, string(b))
	}
	return list
}

func someHunks() [][]impl.Hunk {
	long := strings.Repeat("~", 80)
	return [][]impl.Hunk{
		nil,
		{},
		hunks(hunk(1, "+x")),
		hunks(hunk(999, "-x")),
		hunks(hunk(1, " ")),
		hunks(hunk(1, "+")),
		hunks(hunk(1, "-")),
		hunks(hunk(7, " "+long, "-"+long, "+"+long)),
		hunks(hunk(1, "+@ 1 1", "-@", " + ", "--", "++")),
		hunks(hunk(2, " b", "-c", "+C", " d"), hunk(7, "-g", "+G")),
		hunks(hunk(5, "+a"), hunk(5, "+b"), hunk(5, "+c"), hunk(5, "+d")),
		hunks(hunk(1, " a"), hunk(2, "-b"), hunk(3, "+c", "+d"), hunk(3, "+e")),
		hunks(hunk(998, " a"), hunk(999, "-b")),
		hunks(impl.Hunk{At: 1, Lines: slices.Repeat([]string{" a"}, 30)}, hunk(31, "+x")),
		hunks(impl.Hunk{At: 969, Lines: slices.Repeat([]string{"-a"}, 30)}, impl.Hunk{At: 999, Lines: slices.Repeat([]string{"+" + long}, 30)}, hunk(999, "+x"), hunk(999, "+y")),
	}
}

func noHunks() [][]impl.Hunk {
	return [][]impl.Hunk{
		hunks(hunk(0, "+x")),
		hunks(hunk(-1, "+x")),
		hunks(hunk(1000, "+x")),
		hunks(hunk(1<<62, "+x")),
		hunks(hunk(-1<<63, "+x")),
		hunks(hunk(1)),
		hunks(hunk(1, "")),
		hunks(hunk(1, "+x", "")),
		hunks(hunk(1, "x")),
		hunks(hunk(1, "*x")),
		hunks(hunk(1, "@x")),
		hunks(hunk(1, "\tx")),
		hunks(hunk(1, "+x\n")),
		hunks(hunk(1, "+\x1f")),
		hunks(hunk(1, "+\x7f")),
		hunks(hunk(1, "+\xff")),
		hunks(hunk(1, "+"+strings.Repeat("x", 81))),
		hunks(hunk(1, " "+strings.Repeat("x", 81))),
		hunks(impl.Hunk{At: 1, Lines: slices.Repeat([]string{"+a"}, 31)}),
		hunks(impl.Hunk{At: 1, Lines: slices.Repeat([]string{"+a"}, 100000)}),
		hunks(hunk(1, "+a"), hunk(1, "+b"), hunk(1, "+c"), hunk(1, "+d"), hunk(1, "+e")),
		hunks(hunk(2, " a", " b"), hunk(3, "+x")),
		hunks(hunk(2, " a", "-b"), hunk(3, "+x")),
		hunks(hunk(2, "-a", "+b"), hunk(2, "+x")),
		hunks(hunk(2, "+a"), hunk(1, "+x")),
		hunks(hunk(5, "+a"), hunk(5, "-a"), hunk(5, "+x")),
		hunks(hunk(999, "-b"), hunk(1000, "+x")),
		slices.Repeat(hunks(hunk(1, "+x")), 100000),
	}
}

// anyHunks may be ok or not; lines are few and much alike.
func anyHunks(r *rand.Rand) []impl.Hunk {
	at := 1
	return manyOf(r.IntN(5), func(int) impl.Hunk {
		at += r.IntN(4)
		h := impl.Hunk{At: at}
		for range 1 + r.IntN(5) {
			h.Lines = append(h.Lines, string(" -+"[r.IntN(3)])+string("ab"[r.IntN(2)]))
		}
		at += r.IntN(1 + len(sideRule(h, " -")) + 2)
		return h
	})
}

func TestHunksOk(t *testing.T) {
	for _, list := range someHunks() {
		if !impl.HunksOk(list) || !hunksRule(list) {
			t.Errorf("%s are hunks", short(list))
		}
	}
	for _, list := range noHunks() {
		if impl.HunksOk(list) || hunksRule(list) {
			t.Errorf("%s are no hunks", short(list))
		}
		if impl.HunksPut(list) != "" {
			t.Errorf("%s are no hunks, and have a text", short(list))
		}
		lines, far, ok := impl.Patch([]string{"a"}, list, 0)
		if len(lines) != 0 || len(far) != 0 || ok {
			t.Errorf("%s are no hunks, and are done", short(list))
		}
	}
	for b := range 256 {
		s := string([]byte{byte(b)})
		if impl.HunksOk(hunks(hunk(1, s))) != (b == ' ' || b == '-' || b == '+') || impl.HunksOk(hunks(hunk(1, "-"+s))) != (b >= 32 && b <= 126) {
			t.Errorf("byte %d", b)
		}
	}
	r := chance(51)
	var count [2]int
	for range 20000 {
		list := anyHunks(r)
		want := hunksRule(list)
		if impl.HunksOk(list) != want {
			t.Errorf("HunksOk(%s) is not %v", short(list), want)
		}
		if want {
			count[1]++
		} else {
			count[0]++
		}
	}
	if min(count[0], count[1]) < 1000 {
		t.Errorf("%v", count)
	}
}

func hunksTextRule(list []impl.Hunk) string {
	text := ""
	for _, h := range list {
		text += "@ " + strconv.Itoa(h.At) + " " + strconv.Itoa(len(h.Lines)) + "\n" + strings.Join(h.Lines, "\n") + "\n"
	}
	return text
}

// P22
func TestP22HunksAreReadBack(t *testing.T) {
	lists := someHunks()
	r := chance(22)
	for range 2000 {
		if list := anyHunks(r); hunksRule(list) {
			lists = append(lists, list)
		}
	}
	for _, list := range lists {
		text := hunksTextRule(list)
		back, ok := impl.HunksGet(text)
		if impl.HunksPut(list) != text || !ok || !same(back, list) {
			t.Errorf("%s is written as %.300q, and read as %s, %v", short(list), impl.HunksPut(list), short(back), ok)
		}
	}
}

var headForm = regexp.MustCompile(`^@ (0|[1-9][0-9]{0,3}) (0|[1-9][0-9]?)$`)

// hunksReadRule is HunksGet, with signs alone telling which line is a head: no line of a hunk begins as a head does.
func hunksReadRule(text string) ([]impl.Hunk, bool) {
	var list []impl.Hunk
	var counts []int
	if text != "" && !strings.HasSuffix(text, "\n") {
		return nil, false
	}
	for _, line := range strings.SplitAfter(text, "\n") {
		if line == "" {
			continue
		}
		line = strings.TrimSuffix(line, "\n")
		found := headForm.FindStringSubmatch(line)
		switch {
		case found != nil:
			at, _ := strconv.Atoi(found[1])
			count, _ := strconv.Atoi(found[2])
			list = append(list, impl.Hunk{At: at})
			counts = append(counts, count)
		case len(list) == 0 || line == "":
			return nil, false
		default:
			last := &list[len(list)-1]
			last.Lines = append(last.Lines, line)
		}
	}
	for i, h := range list {
		if counts[i] != len(h.Lines) {
			return nil, false
		}
	}
	if !hunksRule(list) {
		return nil, false
	}
	return list, true
}

func wantHunksRead(t *testing.T, text string) bool {
	t.Helper()
	list, ok := impl.HunksGet(text)
	want, wantOk := hunksReadRule(text)
	if ok != wantOk || !same(list, want) {
		t.Errorf("%.300q is read as %s, %v; it must be %v", text, short(list), ok, wantOk)
	}
	if ok && impl.HunksPut(list) != text {
		t.Errorf("%.300q is read, and written otherwise", text)
	}
	return ok
}

func TestHunksReadWrong(t *testing.T) {
	for _, text := range []string{"\n", "@", "@\n", "@ 1\n", "@ 1 1\n", "@ 1 1\n+x", "@ 1 1 \n+x\n", "@ 1 1\n+x\n\n", "\n@ 1 1\n+x\n", "@ 01 1\n+x\n", "@ 1 01\n+x\n", "@ +1 1\n+x\n", "@ -1 1\n+x\n", "@  1 1\n+x\n", "@ 1  1\n+x\n", "@1 1\n+x\n", " @ 1 1\n+x\n", "@ 1 0\n", "@ 0 1\n+x\n", "@ 1000 1\n+x\n", "@ 1 2\n+x\n", "@ 1 1\n+x\n+y\n", "@ 1 1\nx\n", "@ 1 1\n\n", "x\n", "+x\n", "@ 1 1\n+x\n@ 1\n", "@ 2 2\n a\n b\n@ 3 1\n+x\n", "@ 1 1\n+x\r\n", "@ a 1\n+x\n", "@ 1 a\n+x\n", "@ 1 1 1\n+x\n", "# 1 1\n+x\n", "@ 1 18446744073709551617\n+x\n", "@ 18446744073709551617 1\n+x\n", "@ 1 31\n" + strings.Repeat("+x\n", 31), "@ 1 1\n+" + strings.Repeat("x", 81) + "\n", strings.Repeat("@ 1 1\n+x\n", 5), strings.Repeat("@ 1 1\n+x\n", 10000), strings.Repeat("\n", 100000), strings.Repeat("x", 100000)} {
		if wantHunksRead(t, text) {
			t.Errorf("%.100q is read", text)
		}
	}
	for _, text := range []string{"", "@ 1 1\n+x\n", "@ 999 1\n+\n", "@ 1 30\n" + strings.Repeat("+x\n", 30), strings.Repeat("@ 1 1\n+x\n", 4), "@ 2 2\n a\n b\n@ 4 1\n+x\n", "@ 1 1\n+" + strings.Repeat("x", 80) + "\n"} {
		if !wantHunksRead(t, text) {
			t.Errorf("%.100q is not read", text)
		}
	}
	r := chance(52)
	for range 20000 {
		text := hunksTextRule(anyHunks(r))
		wantHunksRead(t, text)
		if text != "" {
			wantHunksRead(t, turned(r, text))
		}
	}
}

// diffRule is DiffOf by the document's words.
func diffRule(a []string, b []string) []impl.Hunk {
	if !linesRule(a) || !linesRule(b) || slices.Equal(a, b) {
		return nil
	}
	head, tail := 0, 0
	for n := 1; n <= len(a) && n <= len(b); n++ {
		if slices.Equal(a[:n], b[:n]) {
			head = n
		}
	}
	restA, restB := a[head:], b[head:]
	for n := 1; n <= len(restA) && n <= len(restB); n++ {
		if slices.Equal(restA[len(restA)-n:], restB[len(restB)-n:]) {
			tail = n
		}
	}
	h := impl.Hunk{At: 1 + head}
	for i := head - 1; i >= 0 && i >= head-2; i-- {
		h.At--
		h.Lines = slices.Insert(h.Lines, 0, " "+a[i])
	}
	for _, line := range restA[:len(restA)-tail] {
		h.Lines = append(h.Lines, "-"+line)
	}
	for _, line := range restB[:len(restB)-tail] {
		h.Lines = append(h.Lines, "+"+line)
	}
	for i := 0; i < tail && i < 2; i++ {
		h.Lines = append(h.Lines, " "+restA[len(restA)-tail+i])
	}
	if !hunksRule(hunks(h)) {
		return nil
	}
	return hunks(h)
}

// fewLines is all lists of few lines.
func fewLines() [][]string {
	var list [][]string
	for _, s := range wordsOf("ab", 5) {
		list = append(list, wordList(s))
	}
	for _, s := range wordsOf("abc", 3) {
		list = append(list, wordList(s))
	}
	return list
}

func anyLines(r *rand.Rand, most int) []string {
	return manyOf(r.IntN(most+1), func(int) string { return string("abcd"[r.IntN(4)]) })
}

// near is lines with some that are others, gone or new.
func near(r *rand.Rand, lines []string) []string {
	list := slices.Clone(lines)
	for range 1 + r.IntN(3) {
		place := r.IntN(len(list) + 1)
		switch r.IntN(3) {
		case 0:
			list = slices.Insert(list, place, string("abcdX"[r.IntN(5)]))
		case 1:
			list = slices.Delete(list, place, min(place+1, len(list)))
		case 2:
			if place < len(list) {
				list[place] = string("abcdX"[r.IntN(5)])
			}
		}
	}
	return list
}

// somePairs is lines, and others.
func somePairs() [][2][]string {
	var list [][2][]string
	few := fewLines()
	for _, a := range few {
		for _, b := range few {
			list = append(list, [2][]string{a, b})
		}
	}
	r := chance(53)
	for range 3000 {
		a := anyLines(r, 30)
		list = append(list, [2][]string{a, near(r, a)}, [2][]string{a, anyLines(r, 30)})
	}
	return list
}

func TestDiffAgainstRule(t *testing.T) {
	none := 0
	for _, p := range somePairs() {
		got, want := impl.DiffOf(p[0], p[1]), diffRule(p[0], p[1])
		if !same(got, want) {
			t.Errorf("DiffOf(%q, %q) is %s, it must be %s", p[0], p[1], short(got), short(want))
		}
		if len(got) == 0 && !slices.Equal(p[0], p[1]) {
			none++
		}
	}
	if none < 100 {
		t.Errorf("%d alone are too long", none)
	}
}

func TestDiffByHand(t *testing.T) {
	for _, c := range []struct{ a, b, want string }{
		{"", "", ""},
		{"abc", "abc", ""},
		{"", "a", "@ 1 1\n+a\n"},
		{"a", "", "@ 1 1\n-a\n"},
		{"a", "b", "@ 1 2\n-a\n+b\n"},
		{"abcde", "abcxe", "@ 2 5\n b\n c\n-d\n+x\n e\n"},
		{"abcdefg", "abcxefg", "@ 2 6\n b\n c\n-d\n+x\n e\n f\n"},
		{"aa", "aaa", "@ 1 3\n a\n a\n+a\n"},
		{"aaa", "aa", "@ 1 3\n a\n a\n-a\n"},
		{"aaaa", "aa", "@ 1 4\n a\n a\n-a\n-a\n"},
		{"ab", "aab", "@ 1 3\n a\n+a\n b\n"},
		{"abab", "ab", "@ 1 4\n a\n b\n-a\n-b\n"},
		{"bc", "abc", "@ 1 3\n+a\n b\n c\n"},
		{"bcd", "abcd", "@ 1 3\n+a\n b\n c\n"},
		{"abc", "abcd", "@ 2 3\n b\n c\n+d\n"},
	} {
		if got := impl.HunksPut(impl.DiffOf(wordList(c.a), wordList(c.b))); got != c.want {
			t.Errorf("DiffOf of %q and %q is %q, it must be %q", c.a, c.b, got, c.want)
		}
	}
}

func TestDiffLimits(t *testing.T) {
	lines := func(name string, count int) []string { return manyOf(count, numbered(name)) }
	head, tail := lines("head", 3), lines("tail", 3)
	for _, c := range []struct {
		a, b []string
		ok   bool
	}{
		{lines("a", 15), lines("b", 15), true},
		{lines("a", 15), lines("b", 16), false},
		{lines("a", 16), lines("b", 15), false},
		{nil, lines("b", 30), true},
		{lines("a", 30), nil, true},
		{nil, lines("b", 31), false},
		{lines("a", 31), nil, false},
		{lines("a", 31), lines("a", 30), false},
		{lines("a", 30), lines("a", 31), false},
		{lines("a", 30), lines("a", 29), true},
		{slices.Concat(head, lines("a", 14)), slices.Concat(head, lines("b", 14)), true},
		{slices.Concat(head, lines("a", 14)), slices.Concat(head, lines("b", 15)), false},
		{slices.Concat(head, lines("a", 13), tail), slices.Concat(head, lines("b", 13), tail), true},
		{slices.Concat(head, lines("a", 13), tail), slices.Concat(head, lines("b", 14), tail), false},
		{[]string{"x"}, []string{strings.Repeat("y", 80)}, true},
		{[]string{"x"}, []string{strings.Repeat("y", 81)}, false},
		{[]string{strings.Repeat("y", 81)}, []string{"x"}, false},
		{[]string{"x"}, []string{"a\nb"}, false},
		{[]string{"\x1f"}, []string{"x"}, false},
		{[]string{"\x7f"}, []string{"x"}, false},
		{[]string{""}, nil, true},
		{nil, []string{""}, true},
		{[]string{""}, []string{"", ""}, true},
	} {
		got := impl.DiffOf(c.a, c.b)
		if (len(got) == 1) != c.ok || !same(got, diffRule(c.a, c.b)) {
			t.Errorf("DiffOf(%.200q, %.200q) is %s", c.a, c.b, short(got))
		}
	}
}

// trimRule is a hunk without lines with a blank at its ends.
func trimRule(h impl.Hunk, fuzz int) impl.Hunk {
	part := impl.Hunk{At: h.At, Lines: slices.Clone(h.Lines)}
	for i := 0; i < fuzz && len(part.Lines) > 0 && part.Lines[0][0] == ' '; i++ {
		part.At++
		part.Lines = part.Lines[1:]
	}
	for i := 0; i < fuzz && len(part.Lines) > 0 && part.Lines[len(part.Lines)-1][0] == ' '; i++ {
		part.Lines = part.Lines[:len(part.Lines)-1]
	}
	return part
}

// patchRule is Patch by the document's words, on the whole of the lines each time.
func patchRule(lines []string, list []impl.Hunk, fuzz int) ([]string, []int, bool) {
	if !linesRule(lines) || !hunksRule(list) || fuzz < 0 || fuzz > 2 {
		return nil, nil, false
	}
	now := slices.Clone(lines)
	end, later := 0, 0
	var numbers []int
	for _, h := range list {
		place, part, ok := placeRule(now, h, fuzz, end, later)
		if !ok {
			return lines, nil, false
		}
		elder, young := sideRule(part, " -"), sideRule(part, " +")
		number := place - (part.At - 1 + later)
		now = slices.Concat(now[:place], young, now[place+len(elder):])
		end = place + len(young)
		later += number + len(sideRule(h, " +")) - len(sideRule(h, " -"))
		numbers = append(numbers, number)
	}
	if !linesRule(now) {
		return lines, nil, false
	}
	return now, numbers, true
}

func placeRule(now []string, h impl.Hunk, fuzz int, end int, later int) (int, impl.Hunk, bool) {
	for f := 0; f <= fuzz; f++ {
		part := trimRule(h, f)
		elder := sideRule(part, " -")
		best, found := 0, false
		for place := end; place+len(elder) <= len(now); place++ {
			d := place - (part.At - 1 + later)
			if max(d, -d) > 8 || !slices.Equal(now[place:place+len(elder)], elder) {
				continue
			}
			if !found || max(d, -d) < max(best, -best) {
				best, found = d, true
			}
		}
		if found {
			return part.At - 1 + later + best, part, true
		}
	}
	return 0, impl.Hunk{}, false
}

func wantPatch(t *testing.T, lines []string, list []impl.Hunk, fuzz int, want []string, far []int, ok bool) {
	t.Helper()
	gotLines, gotFar, gotOk := impl.Patch(lines, list, fuzz)
	if !slices.Equal(gotLines, want) || !slices.Equal(gotFar, far) || gotOk != ok {
		t.Errorf("Patch(%.300q, %s, %d) is %.300q, %v, %v; it must be %.300q, %v, %v", lines, short(list), fuzz, gotLines, gotFar, gotOk, want, far, ok)
	}
	rule, ruleFar, ruleOk := patchRule(lines, list, fuzz)
	if !slices.Equal(rule, want) || !slices.Equal(ruleFar, far) || ruleOk != ok {
		t.Errorf("the rule of %.300q, %s, %d is %.300q, %v, %v", lines, short(list), fuzz, rule, ruleFar, ruleOk)
	}
}

// wantDone and wantNot have lines of one byte each.
func wantDone(t *testing.T, lines string, list []impl.Hunk, fuzz int, want string, far ...int) {
	t.Helper()
	wantPatch(t, wordList(lines), list, fuzz, wordList(want), far, true)
}

func wantNot(t *testing.T, lines string, list []impl.Hunk, fuzz int) {
	t.Helper()
	wantPatch(t, wordList(lines), list, fuzz, wordList(lines), nil, false)
}

func TestPatchElsewhere(t *testing.T) {
	one := hunks(hunk(2, "-x", "+X"))
	wantDone(t, "axb", one, 0, "aXb", 0)
	wantDone(t, "xab", one, 0, "Xab", -1)
	wantDone(t, "abx", one, 0, "abX", 1)
	wantDone(t, "xax", one, 0, "Xax", -1)
	wantDone(t, "xxx", one, 0, "xXx", 0)
	wantNot(t, "abc", one, 0)
	wantNot(t, "", one, 0)
	wantNot(t, "abc", one, 2)
	// As far as may be, either way, and one more.
	ten := hunks(hunk(10, "-x", "+X"))
	wantDone(t, "axaaaaaaaaaaaaaaaaaa", ten, 0, "aXaaaaaaaaaaaaaaaaaa", -8)
	wantNot(t, "xaaaaaaaaaaaaaaaaaaa", ten, 0)
	wantDone(t, "aaaaaaaaaaaaaaaaaxaa", ten, 0, "aaaaaaaaaaaaaaaaaXaa", 8)
	wantNot(t, "aaaaaaaaaaaaaaaaaaxa", ten, 0)
	wantDone(t, "axaaaaaaaaaaaaaaaxaa", ten, 0, "aXaaaaaaaaaaaaaaaxaa", -8)
	wantDone(t, "axaaaaaaaaaaaaaaxaaa", ten, 0, "axaaaaaaaaaaaaaaXaaa", 7)
	// What only comes in fits wherever there is a place.
	in := hunks(hunk(4, "+X"))
	wantDone(t, "abc", in, 0, "abcX", 0)
	wantDone(t, "abcd", in, 0, "abcXd", 0)
	wantDone(t, "ab", in, 0, "abX", -1)
	wantDone(t, "", in, 0, "X", -3)
	wantDone(t, "", hunks(hunk(9, "+X")), 0, "X", -8)
	wantNot(t, "", hunks(hunk(10, "+X")), 0)
	wantNot(t, "", hunks(hunk(999, "+X")), 2)
	wantDone(t, "", hunks(hunk(1, "+X")), 0, "X", 0)
	wantNot(t, "", hunks(hunk(1, "-X")), 0)
}

func TestPatchFuzz(t *testing.T) {
	both := hunks(hunk(3, " b", " c", "-d", "+D", " e", " f"))
	wantDone(t, "_abcdefg", hunks(hunk(3, " b", " c", "-d", "+D", " e", " f")), 0, "_abcDefg", 0)
	wantNot(t, "__xcdefg", both, 0)
	wantDone(t, "__xcdefg", both, 1, "__xcDefg", 0)
	wantDone(t, "__xcdexg", both, 1, "__xcDexg", 0)
	wantNot(t, "__xydefg", both, 1)
	wantDone(t, "__xydefg", both, 2, "__xyDefg", 0)
	wantDone(t, "__xydxyg", both, 2, "__xyDxyg", 0)
	wantNot(t, "__bcxefg", both, 2)
	wantDone(t, "d", both, 2, "D", -4)
	wantDone(t, "de", both, 2, "De", -4)
	// Three that stay are one too many.
	three := hunks(hunk(1, " a", " b", " c", "-d", " e", " f", " g"))
	wantNot(t, "xxxdefg", three, 2)
	wantDone(t, "xxcdefg", three, 2, "xxcefg", 0)
	wantNot(t, "abcdxxx", three, 2)
	wantDone(t, "abcdexx", three, 2, "abcexx", 0)
	// Only what stays, at an end, may be other; and as many at each end as it has.
	wantNot(t, "xb", hunks(hunk(1, "-a", " b")), 2)
	wantNot(t, "bx", hunks(hunk(1, " b", "-a")), 2)
	wantNot(t, "xbcd", hunks(hunk(1, " a", "-b", " x", "-d")), 2)
	wantDone(t, "xb", hunks(hunk(1, " a", "-b")), 2, "x", 0)
	wantDone(t, "bx", hunks(hunk(1, "-b", " a")), 2, "x", 0)
	wantDone(t, "xb", hunks(hunk(1, " a", "+n", " b")), 1, "xnb", 0)
	wantDone(t, "xb", hunks(hunk(1, "+n", " a", " b")), 2, "nxb", 0)
	// What comes in at an end is no line that stays.
	wantNot(t, "xb", hunks(hunk(1, "+n", " a", "-b")), 2)
	// Less fuzz goes ahead of less way.
	wantDone(t, "ab_ac", hunks(hunk(1, "-a", " c")), 2, "ab_c", 3)
	wantDone(t, "ab_", hunks(hunk(1, "-a", " c")), 2, "b_", 0)
	wantDone(t, "abc_abd", hunks(hunk(1, "-a", " b", " d")), 2, "abc_bd", 4)
	wantDone(t, "abc_abe", hunks(hunk(1, "-a", " b", " d")), 2, "bc_abe", 0)
	// A hunk of which nothing is left fits where it is looked for.
	wantNot(t, "q", hunks(hunk(1, " a")), 0)
	wantDone(t, "q", hunks(hunk(1, " a")), 1, "q", 0)
	wantDone(t, "", hunks(hunk(1, " a")), 1, "", -1)
	wantDone(t, "q", hunks(hunk(1, " a", " b")), 1, "q", 0)
	wantDone(t, "", hunks(hunk(1, " a", " b", " c", " d")), 2, "", -2)
	wantNot(t, "", hunks(hunk(1, " a", " b", " c", " d", " e")), 2)
	wantDone(t, "qqqq", hunks(hunk(1, " a", " b", " c"), hunk(4, "-q")), 2, "qqq", 0, 0)
}

func TestPatchOneBehindTheOther(t *testing.T) {
	wantDone(t, "abcdefg", hunks(hunk(2, "-b"), hunk(4, "-d"), hunk(6, "-f")), 0, "aceg", 0, 0, 0)
	wantDone(t, "abcdefg", hunks(hunk(2, "+1", "+2"), hunk(4, "+3"), hunk(6, "-f")), 0, "a12bc3deg", 0, 0, 0)
	wantDone(t, "__abcdefg", hunks(hunk(2, "-b"), hunk(4, "-d"), hunk(6, "-f")), 0, "__aceg", 2, 0, 0)
	wantDone(t, "bcxdefg", hunks(hunk(2, "-b"), hunk(4, "-d"), hunk(6, "-f")), 0, "cxeg", -1, 1, 0)
	// Not ahead of the end of what the hunk ahead put, but right there.
	wantDone(t, "aab", hunks(hunk(1, "-a", "+b"), hunk(2, "-b", "+c")), 0, "bac", 0, 1)
	wantNot(t, "aa", hunks(hunk(1, "-a", "+b"), hunk(2, "-b", "+c")), 0)
	wantDone(t, "ab", hunks(hunk(1, "-a", "+b"), hunk(2, "-b", "+c")), 0, "bc", 0, 0)
	wantDone(t, "xab", hunks(hunk(2, "-a", "+b"), hunk(3, "-x", " b"), hunk(5, "+d"))[:1], 0, "xbb", 0)
	wantNot(t, "xab", hunks(hunk(2, "-a", "+b"), hunk(3, "-x")), 0)
	wantDone(t, "a", hunks(hunk(1, "+1"), hunk(1, "+2"), hunk(1, "+3"), hunk(1, "+4")), 0, "1234a", 0, 0, 0, 0)
	wantDone(t, "", hunks(hunk(1, "+1"), hunk(9, "+2")), 0, "12", 0, -8)
	wantNot(t, "", hunks(hunk(1, "+1"), hunk(10, "+2")), 0)
	// A line that stays, and was left off by a fuzz, was not put: the next one may be there.
	wantDone(t, "abx", hunks(hunk(1, "-a", " y"), hunk(3, "-b")), 1, "x", 0, -1)
	wantNot(t, "abx", hunks(hunk(1, "-a", " b"), hunk(3, "-b")), 1)
	// How far all ahead were counts for those behind, as far as each goes by itself.
	wantDone(t, "________a________b________c", hunks(hunk(1, "-a"), hunk(2, "-b"), hunk(3, "-c")), 0, "________________________", 8, 8, 8)
	wantNot(t, "________a_________b________c", hunks(hunk(1, "-a"), hunk(2, "-b"), hunk(3, "-c")), 0)
}

func TestPatchLimits(t *testing.T) {
	full := manyOf(impl.LineMax, numbered("l"))
	wantPatch(t, full, nil, 0, full, nil, true)
	wantPatch(t, append(slices.Clone(full), "x"), nil, 0, nil, nil, false)
	wantPatch(t, full, hunks(hunk(1, "+x")), 0, full, nil, false)
	wantPatch(t, full[:29], hunks(hunk(30, "+x")), 0, append(slices.Clone(full[:29]), "x"), []int{0}, true)
	wantPatch(t, full[:29], hunks(hunk(30, "+x", "+y")), 0, full[:29], nil, false)
	// More than there may be, but not in the end.
	wantPatch(t, full, hunks(hunk(1, "+x"), hunk(30, "-l29")), 0, slices.Concat([]string{"x"}, full[:29]), []int{0, 0}, true)
	wantPatch(t, full, hunks(hunk(1, "+x", "+y"), hunk(30, "-l29")), 0, full, nil, false)
	many := impl.Hunk{At: 1, Lines: slices.Repeat([]string{"+x"}, 30)}
	wantPatch(t, nil, hunks(many), 0, slices.Repeat([]string{"x"}, 30), []int{0}, true)
	wantPatch(t, nil, hunks(many, many, many, many), 0, nil, nil, false)
	long := strings.Repeat("~", 80)
	wantPatch(t, []string{long, ""}, hunks(hunk(1, "-"+long, " ", "+"+long)), 0, []string{"", long}, []int{0}, true)
	for fuzz := -2; fuzz <= impl.FuzzMax+2; fuzz++ {
		lines, ok := []string{"a"}, fuzz >= 0 && fuzz <= impl.FuzzMax
		if !ok {
			lines = nil
		}
		wantPatch(t, []string{"a"}, nil, fuzz, lines, nil, ok)
	}
	for _, line := range []string{strings.Repeat("x", 81), "\n", "\x1f", "\x7f", "\xff", "a\nb"} {
		wantPatch(t, []string{"a", line}, nil, 0, nil, nil, false)
		wantPatch(t, []string{"a", line}, hunks(hunk(1, "-a")), 0, nil, nil, false)
	}
	for b := range 256 {
		line := string([]byte{byte(b)})
		_, _, ok := impl.Patch([]string{line}, nil, 0)
		if ok != (b >= 32 && b <= 126) {
			t.Errorf("byte %d", b)
		}
	}
}

// hunksOf are ok, and made of lines, so that they fit there or nearly so.
func hunksOf(r *rand.Rand, lines []string) []impl.Hunk {
	var list []impl.Hunk
	from := r.IntN(2) * r.IntN(len(lines)+1)
	for range r.IntN(5) {
		from += r.IntN(3)
		if from > len(lines) {
			break
		}
		h := impl.Hunk{At: from + 1}
		to := min(len(lines), from+r.IntN(6))
		for _, line := range lines[from:to] {
			if r.IntN(4) == 0 {
				h.Lines = append(h.Lines, "+"+string("abcd"[r.IntN(4)]))
			}
			h.Lines = append(h.Lines, string("   -"[r.IntN(4)])+line)
		}
		if len(h.Lines) == 0 {
			h.Lines = []string{"+x"}
		}
		if len(list) > 0 && r.IntN(3) == 0 {
			h.At += r.IntN(3)
			from = h.At - 1
		}
		list = append(list, h)
		from += len(sideRule(h, " -"))
	}
	return list
}

// someTries are lines with hunks that may fit.
func someTries(seed uint64, count int, use func(lines []string, list []impl.Hunk)) {
	r := chance(seed)
	for range count {
		lines := anyLines(r, 16)
		list := hunksOf(r, lines)
		if r.IntN(4) == 0 {
			list = anyHunks(r)
		}
		switch r.IntN(4) {
		case 0:
			lines = near(r, lines)
		case 1:
			lines = slices.Concat(anyLines(r, 10), lines)
		case 2:
			lines = lines[min(len(lines), r.IntN(10)):]
		}
		use(lines, list)
	}
}

func TestPatchAgainstRule(t *testing.T) {
	var count [3][2]int
	far := map[int]int{}
	someTries(54, 60000, func(lines []string, list []impl.Hunk) {
		for fuzz := range 3 {
			want, numbers, ok := patchRule(lines, list, fuzz)
			wantPatch(t, lines, list, fuzz, want, numbers, ok)
			if !ok {
				count[fuzz][0]++
				continue
			}
			count[fuzz][1]++
			for _, n := range numbers {
				far[n]++
			}
		}
	})
	for fuzz := range 3 {
		if min(count[fuzz][0], count[fuzz][1]) < 5000 {
			t.Errorf("fuzz %d: %v", fuzz, count[fuzz])
		}
	}
	for d := -impl.FarMax; d <= impl.FarMax; d++ {
		if far[d] < 20 {
			t.Errorf("%d lines away came %d times alone", d, far[d])
		}
	}
}

// P23
func TestP23WhatMakesLinesOfOthersMakesThem(t *testing.T) {
	for _, p := range somePairs() {
		list := impl.DiffOf(p[0], p[1])
		if len(list) == 0 {
			continue
		}
		for fuzz := range 3 {
			lines, far, ok := impl.Patch(p[0], list, fuzz)
			if !ok || !slices.Equal(lines, p[1]) || !slices.Equal(far, []int{0}) {
				t.Errorf("%q to %q: %s leads to %q, %v, %v", p[0], p[1], short(list), lines, far, ok)
			}
		}
	}
	for _, lines := range fewLines() {
		if len(impl.DiffOf(lines, lines)) != 0 {
			t.Errorf("%q and itself", lines)
		}
	}
}

// P24
func TestP24TurnedAboutItLeadsBack(t *testing.T) {
	for _, p := range somePairs() {
		list := impl.DiffOf(p[0], p[1])
		for i := range list {
			for k, line := range list[i].Lines {
				list[i].Lines[k] = strings.NewReplacer("-", "+", "+", "-").Replace(line[:1]) + line[1:]
			}
		}
		if len(list) == 0 {
			continue
		}
		lines, far, ok := impl.Patch(p[1], list, 0)
		if !ok || !slices.Equal(lines, p[0]) || !slices.Equal(far, []int{0}) {
			t.Errorf("%q back to %q: %s leads to %q, %v, %v", p[1], p[0], short(list), lines, far, ok)
		}
	}
}

// P25
func TestP25AsManyLinesAsTheyTell(t *testing.T) {
	done, not := 0, 0
	someTries(25, 20000, func(lines []string, list []impl.Hunk) {
		if !impl.HunksOk(list) {
			return
		}
		for fuzz := range 3 {
			got, far, ok := impl.Patch(lines, list, fuzz)
			want := len(lines)
			for _, h := range list {
				want += len(sideRule(h, "+")) - len(sideRule(h, "-"))
			}
			if ok && (len(got) != want || len(far) != len(list)) || !ok && (!slices.Equal(got, lines) || len(far) != 0) {
				t.Errorf("%q by %s are %q, %v, %v", lines, short(list), got, far, ok)
			}
			if ok {
				done++
			} else {
				not++
			}
		}
	})
	if min(done, not) < 1000 {
		t.Errorf("%d done, %d not", done, not)
	}
}

// P26
func TestP26WithoutFuzzAsWithOne(t *testing.T) {
	someTries(26, 20000, func(lines []string, list []impl.Hunk) {
		want, far, ok := impl.Patch(lines, list, 0)
		for fuzz := 1; ok && fuzz < 3; fuzz++ {
			got, gotFar, gotOk := impl.Patch(lines, list, fuzz)
			if !gotOk || !slices.Equal(got, want) || !slices.Equal(gotFar, far) {
				t.Errorf("%q by %s with fuzz %d: %q, %v, %v", lines, short(list), fuzz, got, gotFar, gotOk)
			}
		}
	})
}

// P27
func TestP27NoHunksLeaveLines(t *testing.T) {
	for _, lines := range append(fewLines(), manyOf(30, numbered("l"))) {
		for fuzz := range 3 {
			wantPatch(t, lines, nil, fuzz, lines, nil, true)
			wantPatch(t, lines, []impl.Hunk{}, fuzz, lines, nil, true)
		}
	}
}

// P64
func TestP64LinesPutAheadMakeItFitLater(t *testing.T) {
	r := chance(64)
	for _, p := range somePairs() {
		list := impl.DiffOf(p[0], p[1])
		ahead := manyOf(r.IntN(impl.FarMax+1), func(int) string { return string("abz"[r.IntN(3)]) })
		if len(list) == 0 || len(ahead)+max(len(p[0]), len(p[1])) > impl.LineMax {
			continue
		}
		lines, far, ok := impl.Patch(slices.Concat(ahead, p[0]), list, 0)
		if !ok || len(far) != 1 || far[0] > len(ahead) || len(lines) != len(ahead)+len(p[1]) {
			t.Errorf("%q behind %q by %s: %q, %v, %v", p[0], ahead, short(list), lines, far, ok)
		}
		plain := slices.Repeat([]string{"z"}, len(ahead))
		lines, far, ok = impl.Patch(slices.Concat(plain, p[0]), list, 0)
		if !ok || far[0] == len(plain) && !slices.Equal(lines, slices.Concat(plain, p[1])) {
			t.Errorf("%q behind %d others by %s: %q, %v, %v", p[0], len(plain), short(list), lines, far, ok)
		}
	}
}

// P65
func TestP65DoneTwice(t *testing.T) {
	once, twice := 0, 0
	for _, p := range somePairs() {
		list := impl.DiffOf(p[0], p[1])
		if len(list) == 0 {
			continue
		}
		lines, _, ok := impl.Patch(p[1], list, 0)
		if ok && len(lines)-len(p[1]) != len(p[1])-len(p[0]) || !ok && !slices.Equal(lines, p[1]) {
			t.Errorf("%q by %s once more: %q, %v", p[1], short(list), lines, ok)
		}
		if ok {
			twice++
		} else {
			once++
		}
	}
	if min(once, twice) < 100 {
		t.Errorf("%d once, %d twice", once, twice)
	}
	wantDone(t, "ab", hunks(hunk(1, " a", "+x")), 0, "axb", 0)
	wantDone(t, "axb", hunks(hunk(1, " a", "+x")), 0, "axxb", 0)
	wantNot(t, "axb", hunks(hunk(1, " a", "+x", " b")), 0)
}

// P87
func TestP87FirstHunks(t *testing.T) {
	seen := 0
	someTries(87, 20000, func(lines []string, list []impl.Hunk) {
		if !impl.HunksOk(list) {
			return
		}
		for fuzz := range 3 {
			_, far, ok := impl.Patch(lines, list, fuzz)
			for k := range list {
				if !impl.HunksOk(list[:k]) {
					t.Errorf("the first %d of %s are not ok", k, short(list))
				}
				_, first, done := impl.Patch(lines, list[:k], fuzz)
				if ok && (!done || !slices.Equal(first, far[:k])) {
					t.Errorf("the first %d of %s to %q tell %v, all %v", k, short(list), lines, first, far)
				}
				if ok && k > 1 {
					seen++
				}
			}
		}
	})
	if seen < 1000 {
		t.Errorf("%d alone", seen)
	}
}

func TestPatchesShareNoMemory(t *testing.T) {
	tries := 0
	use := func(lines []string, list []impl.Hunk) {
		tries++
		lines = roomy(lines, "guard")
		for i := range list {
			list[i].Lines = roomy(list[i].Lines, "+guard")
		}
		list = roomy(list, hunk(999))
		other := roomy(append(slices.Clone(lines), "x"), "guard")
		wantApart(t, "patches", []any{lines, list, other}, func() []any {
			done, far, ok := impl.Patch(lines, list, tries%3)
			back, read := impl.HunksGet(impl.HunksPut(list))
			return []any{impl.HunksOk(list), impl.HunksPut(list), done, far, ok, back, read, impl.DiffOf(lines, other), impl.DiffOf(other, lines)}
		})
	}
	someTries(55, 3000, use)
	use(manyOf(31, numbered("l")), nil)
	use([]string{"a"}, hunks(hunk(0, "+x")))
	use(manyOf(30, numbered("l")), hunks(hunk(1, "+x")))
	wantPatchTwice := func() []string {
		lines, _, _ := impl.Patch([]string{"a"}, hunks(hunk(1, "+x")), 0)
		return lines
	}
	wantNoShare(t, "Patch twice", wantPatchTwice(), wantPatchTwice())
}
