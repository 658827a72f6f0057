package tests

import (
	"math/rand/v2"
	"reflect"
	"regexp"
	"slices"
	"strconv"
	"strings"
	"testing"

	"loop.example/jackstay/impl"
)

var (
	packNameForm = regexp.MustCompile(`^[a-z][a-z0-9]{0,9}$`)
	lineForm     = regexp.MustCompile(`^[ -~]{1,80}$`)
	pathNameForm = regexp.MustCompile(`^[a-z0-9._-]{1,10}$`)
	sumForm      = regexp.MustCompile(`^[0-9a-f]{16}$`)
)

// whole says whether a form takes a text as a whole; a regexp's end would also do ahead of a last newline in some dialects, so the newline is looked for.
func whole(form *regexp.Regexp, s string) bool {
	return form.MatchString(s) && !strings.Contains(s, "\n")
}

// expandRule is Expand by the document's words, mark by mark, without a panic.
func expandRule(lets []impl.Let, text string) (string, int) {
	fine := len(lets) <= 8 && whole(lineForm, text)
	for _, l := range lets {
		fine = fine && whole(packNameForm, l.Name) && whole(lineForm, l.Text)
	}
	if !fine {
		return "", 1
	}
	return expandWithin(lets, text, "")
}

// expandWithin has the names whose text it is in as one text, a slash behind each.
func expandWithin(lets []impl.Let, text string, within string) (string, int) {
	out := ""
	for i := 0; i < len(text); i++ {
		if !strings.HasPrefix(text[i:], "${") {
			out += text[i : i+1]
			continue
		}
		end := strings.Index(text[i:], "}")
		if end < 0 || !whole(packNameForm, text[i+2:i+end]) {
			return "", 1
		}
		name := text[i+2 : i+end]
		found := ""
		for k := len(lets) - 1; k >= 0; k-- {
			if lets[k].Name == name {
				found = lets[k].Text
			}
		}
		if found == "" {
			return "", 3
		}
		if strings.Contains("/"+within, "/"+name+"/") {
			return "", 4
		}
		inner, code := expandWithin(lets, found, within+name+"/")
		if code != 0 {
			return "", code
		}
		out += inner
		if len(out) > 80 {
			return "", 5
		}
		i += end
	}
	if len(out) > 80 {
		return "", 5
	}
	return out, 0
}

func wantExpand(t *testing.T, lets []impl.Let, text string, want string, code int) {
	t.Helper()
	got, gotCode := impl.Expand(lets, text)
	if got != want || gotCode != code {
		t.Errorf("Expand(%.200q, %.100q) is %q, %d; it must be %q, %d", lets, text, got, gotCode, want, code)
	}
}

var (
	ten   = "0123456789"
	forty = strings.Repeat(ten, 4)
)

// someLets has plain texts, names in names, rounds, and what is wrong within.
func someLets() []impl.Let {
	return []impl.Let{{Name: "a", Text: "x${b}z"}, {Name: "b", Text: "y"}, {Name: "c", Text: "<${d}>"}, {Name: "d", Text: "${c}"}, {Name: "e", Text: forty}, {Name: "f", Text: "${none}"}, {Name: "g", Text: "${e}${e}${e}"}, {Name: "h", Text: "$"}}
}

func TestExpandByHand(t *testing.T) {
	lets := someLets()
	for _, c := range []struct {
		text string
		want string
		code int
	}{
		{"plain", "plain", 0},
		{"${b}", "y", 0},
		{"${a}", "xyz", 0},
		{"-${a}${b} ${a}-", "-xyzy xyz-", 0},
		{"$", "$", 0},
		{"$a", "$a", 0},
		{"{b}", "{b}", 0},
		{"}", "}", 0},
		{"$ {b}", "$ {b}", 0},
		{"$${b}", "$y", 0},
		{"${b}}", "y}", 0},
		{"{${b}}", "{y}", 0},
		{"${", "", 1},
		{"${b", "", 1},
		{"}${", "", 1},
		{"${}", "", 1},
		{"${ b}", "", 1},
		{"${b }", "", 1},
		{"${B}", "", 1},
		{"${1}", "", 1},
		{"${b-}", "", 1},
		{"${${b}}", "", 1},
		{"${a${b}}", "", 1},
		{"${elevenlette}", "", 1},
		{"${tenletters}", "", 3},
		{"${z}", "", 3},
		{"${f}", "", 3},
		{"${c}", "", 4},
		{"${d}", "", 4},
		{"${g}", "", 5},
		{"${h}{b}", "${b}", 0},
		{"${h}${h}", "$$", 0},
		// From the front on.
		{"${z}${", "", 3},
		{"${}${z}", "", 1},
		{"${c}${z}", "", 4},
		{"${z}${c}", "", 3},
		{"${g}${c}", "", 5},
		{"${c}${g}", "", 4},
		{"${f}${g}", "", 3},
		{"${b}${", "", 1},
		// How long it is.
		{"${e}${e}", forty + forty, 0},
		{"${e}${e}x", "", 5},
		{"x${e}${e}", "", 5},
		{"${e}x${e}", "", 5},
		{"${e}${e}${b}", "", 5},
		{"${e}${e}${b}${z}", "", 5},
		{"${e}${e}${z}", "", 3},
		{"${e}${e}${c}", "", 4},
		{"${e}${e}${", "", 1},
		{"${e}${e}x${z}", "", 3},
		{"${e}${e}x${", "", 1},
		{"${e}${e}x${f}", "", 3},
		{"${e}012345678901234567890123456789012345678${b}", forty + "012345678901234567890123456789012345678y", 0},
		{"${e}0123456789012345678901234567890123456789${b}", "", 5},
		{forty + "0123456789012345678901234567890123456789", forty + forty, 0},
		{forty + "012345678901234567890123456789012345${b}", forty + "012345678901234567890123456789012345y", 0},
		{forty + "0123456789012345678901234567890123456${b}", "", 1},
	} {
		wantExpand(t, lets, c.text, c.want, c.code)
	}
	wantExpand(t, []impl.Let{{Name: "a", Text: "${z}${a}"}}, "${a}", "", 3)
	wantExpand(t, []impl.Let{{Name: "a", Text: "${a}${z}"}}, "${a}", "", 4)
	wantExpand(t, []impl.Let{{Name: "a", Text: "${a}${"}}, "${a}", "", 4)
	wantExpand(t, []impl.Let{{Name: "a", Text: "${a}${"}}, "a", "a", 0)
	wantExpand(t, []impl.Let{{Name: "b", Text: "1"}, {Name: "a", Text: "${b}"}, {Name: "b", Text: "2"}, {Name: "a", Text: "3"}}, "${a}${b}", "11", 0)
	wantExpand(t, []impl.Let{{Name: "tenletter9", Text: "1"}}, "${tenletter9}", "1", 0)
	// Twice, one beside the other, is not within each other.
	wantExpand(t, []impl.Let{{Name: "a", Text: "${b}${b}"}, {Name: "b", Text: "${c}${c}"}, {Name: "c", Text: "1"}}, "${a}${b}${c}${a}", "11111111111", 0)
}

// What stands ahead of a mark, in the text around, doesn't count within what stands for it.
func TestExpandCountsEachTextByItself(t *testing.T) {
	lets := []impl.Let{{Name: "e", Text: forty}, {Name: "f", Text: "${b}${z}"}, {Name: "b", Text: "yy"}}
	wantExpand(t, lets, "${e}"+forty[:39]+"${f}", "", 3)
	wantExpand(t, lets, "${e}"+forty[:39]+"${b}", "", 5)
	wantExpand(t, lets, "${e}${e}${f}", "", 3)
	wantExpand(t, []impl.Let{{Name: "a", Text: strings.Repeat("x", 80)}}, "${a}", strings.Repeat("x", 80), 0)
	wantExpand(t, []impl.Let{{Name: "a", Text: strings.Repeat("x", 80)}}, " ${a}", "", 5)
	wantExpand(t, []impl.Let{{Name: "a", Text: strings.Repeat("x", 80)}}, "${a} ", "", 5)
}

func TestExpandLimits(t *testing.T) {
	var lets []impl.Let
	for i := range 9 {
		lets = append(lets, impl.Let{Name: "n" + strconv.Itoa(i), Text: "${n" + strconv.Itoa(i+1) + "}"})
	}
	lets[7].Text = "end"
	wantExpand(t, lets[:8], "${n0}", "end", 0)
	wantExpand(t, lets[:8], "plain", "plain", 0)
	wantExpand(t, lets, "plain", "", 1)
	wantExpand(t, nil, "", "", 1)
	wantExpand(t, nil, strings.Repeat("x", 80), strings.Repeat("x", 80), 0)
	wantExpand(t, nil, strings.Repeat("x", 81), "", 1)
	wantExpand(t, nil, strings.Repeat("x", 100000), "", 1)
	for b := range 256 {
		s := string([]byte{byte(b)})
		want, code := s, 0
		if b < 32 || b > 126 {
			want, code = "", 1
		}
		wantExpand(t, nil, s, want, code)
		wantExpand(t, []impl.Let{{Name: "a", Text: s}}, "${a}", want, code)
		name := b >= 'a' && b <= 'z'
		if name {
			code = 0
		} else {
			code = 1
		}
		wantExpand(t, []impl.Let{{Name: s, Text: "x"}}, "y", strings.Repeat("y", 1-code), code)
	}
	for _, l := range []impl.Let{{}, {Name: "a"}, {Text: "a"}, {Name: "elevenlette", Text: "a"}, {Name: "a", Text: strings.Repeat("x", 81)}, {Name: "a b", Text: "a"}, {Name: "9", Text: "a"}, {Name: "A", Text: "a"}} {
		wantExpand(t, []impl.Let{l}, "plain", "", 1)
		wantExpand(t, []impl.Let{{Name: "b", Text: "x"}, l}, "${b}", "", 1)
	}
}

func anyText(r *rand.Rand, bits []string, most int) string {
	text := ""
	for range 1 + r.IntN(most) {
		text += bits[r.IntN(len(bits))]
	}
	return text
}

func anyLets(r *rand.Rand) []impl.Let {
	bits := []string{"x", "y", " ", "$", "{", "}", "${a}", "${b}", "${c}", "${d}", "${e}", ten}
	if r.IntN(2) == 0 {
		bits = []string{"x", ten, "${b}", "${c}", "${d}", "${e}"}
	}
	var lets []impl.Let
	for range r.IntN(10) {
		lets = append(lets, impl.Let{Name: string("abcdefg"[r.IntN(7)]), Text: anyText(r, bits, 5)})
	}
	return lets
}

// longLets are all there, each made of those behind it, so that little is wrong with them but how long they are.
func longLets(r *rand.Rand) []impl.Let {
	return manyOf(7, func(i int) impl.Let {
		bits := []string{"x", "${" + string("abcdefg"[min(i+1, 6)]) + "}", "${" + string("abcdefg"[min(i+2, 6)]) + "}"}
		if i == 6 {
			bits = []string{ten, ten[:5]}
		}
		return impl.Let{Name: string("abcdefg"[i]), Text: anyText(r, bits, 3)}
	})
}

func TestExpandAgainstRule(t *testing.T) {
	r := chance(41)
	bits := []string{"x", " ", "$", "{", "}", "${", "${a}", "${b}", "${c}", "${d}", "${e}", "${f}", "${g}", ten + ten}
	var codes [6]int
	for range 60000 {
		lets, text := anyLets(r), anyText(r, bits, 6)
		if r.IntN(3) == 0 {
			lets = longLets(r)
		}
		want, code := expandRule(lets, text)
		wantExpand(t, lets, text, want, code)
		codes[code]++
	}
	for code, count := range codes {
		if count < 500 && code != 2 {
			t.Errorf("code %d came %d times alone", code, count)
		}
	}
}

// Many names that stand for many others must not take long: all in the end is short, or refused soon.
func TestExpandEndsSoon(t *testing.T) {
	var lets []impl.Let
	for i := range 7 {
		lets = append(lets, impl.Let{Name: string("abcdefgh"[i]), Text: strings.Repeat("${"+string("abcdefgh"[i+1])+"}", 20)})
	}
	lets = append(lets, impl.Let{Name: "h", Text: "${z}"})
	wantExpand(t, lets, strings.Repeat("${a}", 20), "", 3)
	lets[7].Text = "x"
	wantExpand(t, lets, strings.Repeat("${a}", 20), "", 5)
	wantExpand(t, lets, "${g}", strings.Repeat("x", 20), 0)
	wantExpand(t, lets, strings.Repeat("${g}", 4), strings.Repeat("x", 80), 0)
}

// P17
func TestP17PlainTextStandsForItself(t *testing.T) {
	r := chance(17)
	bits := []string{"x", "y ", "$", "{", "}", "${a}", "${b}", "${c}"}
	plain := 0
	for range 20000 {
		lets, text := anyLets(r), anyText(r, bits, 8)
		told, code := impl.Expand(lets, text)
		if code == 0 && !strings.Contains(told, "${") {
			plain++
			wantExpand(t, lets, told, told, 0)
		}
	}
	if plain < 1000 {
		t.Errorf("%d plain ones alone", plain)
	}
	wantExpand(t, []impl.Let{{Name: "a", Text: "$"}, {Name: "b", Text: "y"}}, "${a}{b}", "${b}", 0)
	wantExpand(t, []impl.Let{{Name: "a", Text: "${b}"}, {Name: "b", Text: "$"}}, "${a}{z}", "${z}", 0)
}

// P18
func TestP18NameStandsForWhatItsTextStandsFor(t *testing.T) {
	r := chance(18)
	fine := 0
	for range 20000 {
		lets := anyLets(r)
		for i, l := range lets {
			if slices.IndexFunc(lets, func(o impl.Let) bool { return o.Name == l.Name }) != i {
				continue
			}
			own, code := impl.Expand(lets, "${"+l.Name+"}")
			text, textCode := impl.Expand(lets, l.Text)
			if code != textCode && code != 4 || own != text && code == 0 {
				t.Errorf("%q: %q is %q, %d; its text %q, %d", lets, l.Name, own, code, text, textCode)
			}
			if code == 0 && len(own) < 76 {
				fine++
				wantExpand(t, lets, "<-${"+l.Name+"}->", "<-"+own+"->", 0)
			}
		}
	}
	if fine < 1000 {
		t.Errorf("%d fine ones alone", fine)
	}
}

// P62
func TestP62WithoutNamesNothingStandsForSomething(t *testing.T) {
	texts := append(wordsOf("${}aA", 5), someVersions()...)
	for _, text := range texts {
		want, code := text, 0
		if strings.Contains(text, "${") {
			first := strings.SplitN(text, "${", 2)[1]
			name, _, closed := strings.Cut(first, "}")
			want, code = "", 3
			if !closed || !whole(packNameForm, name) {
				code = 1
			}
		}
		if text == "" {
			code = 1
		}
		wantExpand(t, nil, text, want, code)
		wantExpand(t, []impl.Let{}, text, want, code)
	}
}

// manyOf is so many of something.
func manyOf[T any](count int, make func(i int) T) []T {
	var list []T
	for i := range count {
		list = append(list, make(i))
	}
	return list
}

func numbered(name string) func(i int) string {
	return func(i int) string { return name + strconv.Itoa(i) }
}

func letAt(i int) impl.Let {
	return impl.Let{Name: numbered("let")(i), Text: "text " + strconv.Itoa(i)}
}

func needAt(i int) impl.Need {
	list := []impl.Need{{}, {Kind: impl.NeedSame, Version: "1.2"}, {Kind: impl.NeedFrom, Version: "0.10"}, {Kind: impl.NeedLess, Version: "9.0.0.1"}}
	n := list[i%4]
	n.Name = numbered("need")(i)
	return n
}

func sourceAt(i int) impl.Source {
	return impl.Source{Name: numbered("src.")(i), Sum: impl.Sum(strconv.Itoa(i))}
}

func pieceAt(i int) impl.Piece {
	return impl.Piece{Name: numbered("piece")(i), Glob: []string{"**", "doc/**", "*.c", "[!a]?", "a/b", "x"}[i%6]}
}

func stepAt(i int) string {
	return []string{"mkdir ${let0} 7", " ${name}", "${version} ", "no step at all", "write a 6 ${let1} of it", "$"}[i%6]
}

// smallRecipe is fine, and has as little as can be.
func smallRecipe() impl.Recipe {
	return impl.Recipe{Name: "zip", Version: "1.2"}
}

// fullRecipe is fine, and meets each limit of a list.
func fullRecipe() impl.Recipe {
	r := smallRecipe()
	r.Lets = manyOf(impl.ListMax, letAt)
	r.Builds = manyOf(impl.ListMax, needAt)
	r.Runs = manyOf(impl.ListMax, needAt)
	r.Sources = manyOf(impl.ListMax, sourceAt)
	r.Pieces = manyOf(impl.ListMax, pieceAt)
	r.Steps = manyOf(impl.StepMax, stepAt)
	return r
}

func anyRecipe(r *rand.Rand) impl.Recipe {
	return impl.Recipe{
		Name:    []string{"zip", "a", "tenletter9"}[r.IntN(3)],
		Version: someVersions()[r.IntN(len(someVersions()))],
		Lets:    manyOf(r.IntN(4), letAt),
		Builds:  manyOf(r.IntN(4), needAt),
		Runs:    manyOf(r.IntN(4), needAt),
		Sources: manyOf(r.IntN(4), sourceAt),
		Pieces:  manyOf(r.IntN(4), pieceAt),
		Steps:   manyOf(r.IntN(4), func(int) string { return "step " + stepAt(1+r.IntN(3)) }),
	}
}

// someRecipes are fine, and small enough to be read back.
func someRecipes() []impl.Recipe {
	list := []impl.Recipe{smallRecipe(), fullRecipe()}
	list = append(list, impl.Recipe{Name: "tenletter9", Version: "999.999.999.999", Lets: []impl.Let{{Name: "tenletter9", Text: strings.Repeat("~", 80)}, {Name: "b", Text: " "}, {Name: "c", Text: "  ${b}  "}}, Steps: []string{strings.Repeat("x", 80), " ", "  two", "${c}|", "${tenletter9}"}})
	list = append(list, impl.Recipe{Name: "a", Version: "0", Builds: []impl.Need{{Name: "a"}}, Lets: []impl.Let{{Name: "a", Text: "1"}}, Sources: []impl.Source{{Name: "a", Sum: "0123456789abcdef"}, {Name: "a.b-c_d.e0", Sum: "ffffffffffffffff"}}, Pieces: []impl.Piece{{Name: "b", Glob: "[a]/*/?/**/" + strings.Repeat("x", 29)}}})
	r := chance(4)
	for range 200 {
		list = append(list, anyRecipe(r))
	}
	return list
}

// recipeTextRule is what RecipePut writes of a recipe that is fine.
func recipeTextRule(r impl.Recipe) string {
	text := "name " + r.Name + "\nversion " + r.Version + "\n"
	for _, l := range r.Lets {
		text += "let " + l.Name + " " + l.Text + "\n"
	}
	for _, n := range r.Builds {
		text += "build " + impl.NeedPut(n) + "\n"
	}
	for _, n := range r.Runs {
		text += "run " + impl.NeedPut(n) + "\n"
	}
	for _, s := range r.Sources {
		text += "source " + s.Name + " " + s.Sum + "\n"
	}
	for _, p := range r.Pieces {
		text += "piece " + p.Name + " " + p.Glob + "\n"
	}
	for _, s := range r.Steps {
		text += "step " + s + "\n"
	}
	return text
}

// same says whether two values are the same, where an empty list and none are.
func same(a any, b any) bool {
	return snapshot(a) == snapshot(b)
}

// recipeRule is RecipeCheck by the document's words.
func recipeRule(r impl.Recipe) int {
	name := func(s string) bool { return whole(packNameForm, s) }
	line := func(s string) bool { return whole(lineForm, s) }
	fine := name(r.Name) && impl.VersionOk(r.Version) && max(len(r.Lets), len(r.Builds), len(r.Runs), len(r.Sources), len(r.Pieces)) <= 6 && len(r.Steps) <= 10
	lets, builds, runs, sources, pieces := []string{"name", "version"}, []string{}, []string{r.Name}, []string{}, []string{r.Name}
	for _, l := range r.Lets {
		fine = fine && name(l.Name) && line(l.Text)
		lets = append(lets, l.Name)
	}
	for _, n := range r.Builds {
		fine = fine && impl.NeedOk(n)
		builds = append(builds, n.Name)
	}
	for _, n := range r.Runs {
		fine = fine && impl.NeedOk(n)
		runs = append(runs, n.Name)
	}
	for _, s := range r.Sources {
		fine = fine && whole(pathNameForm, s.Name) && s.Name != "." && s.Name != ".." && whole(sumForm, s.Sum)
		sources = append(sources, s.Name)
	}
	for _, p := range r.Pieces {
		fine = fine && name(p.Name) && impl.GlobOk(p.Glob)
		pieces = append(pieces, p.Name)
	}
	for _, s := range r.Steps {
		fine = fine && line(s)
	}
	if !fine {
		return 1
	}
	for _, list := range [][]string{lets, builds, runs, sources, pieces} {
		for i, s := range list {
			if slices.Contains(list[:i], s) {
				return 2
			}
		}
	}
	all := slices.Concat([]impl.Let{{Name: "name", Text: r.Name}, {Name: "version", Text: r.Version}}, r.Lets)
	var texts []string
	for _, l := range r.Lets {
		texts = append(texts, "${"+l.Name+"}")
	}
	for _, text := range append(texts, r.Steps...) {
		if _, code := expandRule(all, text); code != 0 {
			return code
		}
	}
	return 0
}

// wantCheck also asks that what is not fine has the fixed answers.
func wantCheck(t *testing.T, r impl.Recipe, code int) {
	t.Helper()
	if got := impl.RecipeCheck(r); got != code {
		t.Errorf("RecipeCheck(%s) is %d, it must be %d", short(r), got, code)
	}
	if rule := recipeRule(r); rule != code {
		t.Errorf("the rule of %s is %d, not %d", short(r), rule, code)
	}
	if code != 0 && (len(impl.RecipeSteps(r)) != 0 || impl.RecipePut(r) != "") {
		t.Errorf("%s is not fine, and has steps, or a text", short(r))
	}
	if back, ok := impl.RecipeGet(recipeTextRule(r)); ok && code != 0 && same(back, r) {
		t.Errorf("%s is not fine, and is read", short(r))
	}
}

// with is the small recipe, or the full one, with something else.
func with(r impl.Recipe, turn func(r *impl.Recipe)) impl.Recipe {
	turn(&r)
	return r
}

func TestRecipeCheckFine(t *testing.T) {
	for _, r := range someRecipes() {
		wantCheck(t, r, 0)
	}
	// A recipe may be built by itself, though it may not need itself to run; and each list has names of its own.
	wantCheck(t, with(smallRecipe(), func(r *impl.Recipe) { r.Builds = []impl.Need{{Name: "zip"}} }), 0)
	wantCheck(t, with(smallRecipe(), func(r *impl.Recipe) {
		r.Lets = []impl.Let{{Name: "zip", Text: "x"}, {Name: "a", Text: "y"}}
		r.Builds, r.Runs = []impl.Need{{Name: "a"}, {Name: "name"}}, []impl.Need{{Name: "a"}, {Name: "version"}}
		r.Sources = []impl.Source{{Name: "a", Sum: "0000000000000000"}, {Name: "zip", Sum: "0000000000000000"}}
		r.Pieces = []impl.Piece{{Name: "a", Glob: "**"}, {Name: "b", Glob: "**"}}
		r.Steps = []string{"a", "a"}
	}), 0)
}

func TestRecipeLimits(t *testing.T) {
	for i, turn := range []func(r *impl.Recipe){
		func(r *impl.Recipe) { r.Lets = manyOf(impl.ListMax+1, letAt) },
		func(r *impl.Recipe) { r.Builds = manyOf(impl.ListMax+1, needAt) },
		func(r *impl.Recipe) { r.Runs = manyOf(impl.ListMax+1, needAt) },
		func(r *impl.Recipe) { r.Sources = manyOf(impl.ListMax+1, sourceAt) },
		func(r *impl.Recipe) { r.Pieces = manyOf(impl.ListMax+1, pieceAt) },
		func(r *impl.Recipe) { r.Steps = manyOf(impl.StepMax+1, func(int) string { return "x" }) },
	} {
		for _, r := range []impl.Recipe{smallRecipe(), fullRecipe()} {
			if code := impl.RecipeCheck(with(r, turn)); code != impl.RecipeForm {
				t.Errorf("one more of list %d is %d", i, code)
			}
			wantCheck(t, with(r, turn), 1)
		}
	}
}

// One too many is told ahead of a name that comes twice among them.
func TestRecipeTooManyAheadOfTwice(t *testing.T) {
	wantCheck(t, with(smallRecipe(), func(r *impl.Recipe) { r.Lets = slices.Repeat(manyOf(1, letAt), impl.ListMax+1) }), 1)
	wantCheck(t, with(smallRecipe(), func(r *impl.Recipe) { r.Builds = slices.Repeat(manyOf(1, needAt), impl.ListMax+1) }), 1)
	wantCheck(t, with(smallRecipe(), func(r *impl.Recipe) { r.Runs = slices.Repeat(manyOf(1, needAt), impl.ListMax+1) }), 1)
	wantCheck(t, with(smallRecipe(), func(r *impl.Recipe) { r.Sources = slices.Repeat(manyOf(1, sourceAt), impl.ListMax+1) }), 1)
	wantCheck(t, with(smallRecipe(), func(r *impl.Recipe) { r.Pieces = slices.Repeat(manyOf(1, pieceAt), impl.ListMax+1) }), 1)
	wantCheck(t, with(smallRecipe(), func(r *impl.Recipe) { r.Lets = slices.Repeat(manyOf(1, letAt), impl.ListMax) }), 2)
}

func TestRecipeWrongForm(t *testing.T) {
	base := fullRecipe()
	for _, name := range []string{"", "9", "9zip", "Zip", "z-p", "z.p", "z p", "elevenlette", "z\n", "\xff"} {
		wantCheck(t, with(base, func(r *impl.Recipe) { r.Name = name }), 1)
		wantCheck(t, with(smallRecipe(), func(r *impl.Recipe) { r.Lets = []impl.Let{{Name: name, Text: "x"}} }), 1)
		wantCheck(t, with(smallRecipe(), func(r *impl.Recipe) { r.Builds = []impl.Need{{Name: name}} }), 1)
		wantCheck(t, with(smallRecipe(), func(r *impl.Recipe) { r.Runs = []impl.Need{{Name: "a"}, {Name: name}} }), 1)
		wantCheck(t, with(smallRecipe(), func(r *impl.Recipe) { r.Pieces = []impl.Piece{{Name: name, Glob: "**"}} }), 1)
	}
	for _, v := range noVersions() {
		wantCheck(t, with(base, func(r *impl.Recipe) { r.Version = v }), 1)
	}
	for _, text := range []string{"", strings.Repeat("x", 81), "\x1f", "\x7f", "a\nb", "a\n", "\t", "ä", "\xff"} {
		wantCheck(t, with(smallRecipe(), func(r *impl.Recipe) { r.Lets = []impl.Let{{Name: "a", Text: text}} }), 1)
		wantCheck(t, with(smallRecipe(), func(r *impl.Recipe) { r.Steps = []string{"x", text} }), 1)
	}
	for _, n := range noNeeds() {
		wantCheck(t, with(smallRecipe(), func(r *impl.Recipe) { r.Builds = []impl.Need{n} }), 1)
		wantCheck(t, with(smallRecipe(), func(r *impl.Recipe) { r.Runs = []impl.Need{n} }), 1)
	}
	for _, s := range []impl.Source{{}, {Name: "a"}, {Sum: "0123456789abcdef"}, {Name: ".", Sum: "0123456789abcdef"}, {Name: "..", Sum: "0123456789abcdef"}, {Name: "a/b", Sum: "0123456789abcdef"}, {Name: "elevenlette", Sum: "0123456789abcdef"}, {Name: "A", Sum: "0123456789abcdef"}, {Name: "a", Sum: "0123456789abcde"}, {Name: "a", Sum: "0123456789abcdef0"}, {Name: "a", Sum: "0123456789abcdeF"}, {Name: "a", Sum: "0123456789abcdeg"}, {Name: "a", Sum: "0123456789abcde "}} {
		wantCheck(t, with(smallRecipe(), func(r *impl.Recipe) { r.Sources = []impl.Source{s} }), 1)
		wantCheck(t, with(smallRecipe(), func(r *impl.Recipe) { r.Sources = []impl.Source{sourceAt(0), s} }), 1)
	}
	for _, g := range []string{"", "[", "a b", "A", "a//b", "a/b/c/d/e/f", strings.Repeat("x", 41), "[!]"} {
		wantCheck(t, with(smallRecipe(), func(r *impl.Recipe) { r.Pieces = []impl.Piece{{Name: "a", Glob: g}} }), 1)
	}
	for b := range 256 {
		s := string([]byte{byte(b)})
		letter, figure := b >= 'a' && b <= 'z', b >= '0' && b <= '9'
		code := func(ok bool) int {
			if ok {
				return 0
			}
			return 1
		}
		wantCheck(t, impl.Recipe{Name: s, Version: "1"}, code(letter))
		wantCheck(t, with(smallRecipe(), func(r *impl.Recipe) { r.Sources = []impl.Source{{Name: "x" + s, Sum: "0123456789abcdef"}} }), code(letter || figure || s == "." || s == "_" || s == "-"))
		wantCheck(t, with(smallRecipe(), func(r *impl.Recipe) { r.Sources = []impl.Source{{Name: "x", Sum: "0123456789abcde" + s}} }), code(b >= 'a' && b <= 'f' || figure))
		wantCheck(t, with(smallRecipe(), func(r *impl.Recipe) { r.Steps = []string{s} }), code(b >= 32 && b <= 126))
	}
}

// P21
func TestP21NoNameTwice(t *testing.T) {
	base := fullRecipe()
	for place := range impl.ListMax {
		for other := range impl.ListMax {
			if other == place {
				continue
			}
			wantCheck(t, with(base, func(r *impl.Recipe) {
				r.Lets = slices.Clone(r.Lets)
				r.Lets[place].Name = r.Lets[other].Name
			}), 2)
			wantCheck(t, with(base, func(r *impl.Recipe) {
				r.Builds = slices.Clone(r.Builds)
				r.Builds[place].Name = r.Builds[other].Name
			}), 2)
			wantCheck(t, with(base, func(r *impl.Recipe) {
				r.Runs = slices.Clone(r.Runs)
				r.Runs[place].Name = r.Runs[other].Name
			}), 2)
			wantCheck(t, with(base, func(r *impl.Recipe) {
				r.Sources = slices.Clone(r.Sources)
				r.Sources[place].Name = r.Sources[other].Name
			}), 2)
			wantCheck(t, with(base, func(r *impl.Recipe) {
				r.Pieces = slices.Clone(r.Pieces)
				r.Pieces[place].Name = r.Pieces[other].Name
			}), 2)
		}
		for _, own := range []string{"name", "version"} {
			wantCheck(t, with(base, func(r *impl.Recipe) {
				r.Lets = slices.Clone(r.Lets)
				r.Lets[place].Name = own
			}), 2)
		}
		wantCheck(t, with(base, func(r *impl.Recipe) {
			r.Runs = slices.Clone(r.Runs)
			r.Runs[place].Name = r.Name
		}), 2)
		wantCheck(t, with(base, func(r *impl.Recipe) {
			r.Pieces = slices.Clone(r.Pieces)
			r.Pieces[place].Name = r.Name
		}), 2)
		wantCheck(t, with(base, func(r *impl.Recipe) {
			r.Pieces = slices.Clone(r.Pieces)
			r.Pieces[place].Name = "No"
		}), 1)
	}
}

// The codes, one ahead of the other.
func TestRecipeCodesInOrder(t *testing.T) {
	lets := func(list ...impl.Let) func(steps ...string) impl.Recipe {
		return func(steps ...string) impl.Recipe {
			return impl.Recipe{Name: "zip", Version: "1.2", Lets: list, Steps: steps}
		}
	}
	let := func(name string, text string) impl.Let { return impl.Let{Name: name, Text: text} }
	wantCheck(t, lets(let("a", "x"), let("a", "y"))("\n"), 1)
	wantCheck(t, lets(let("a", "${"), let("a", "y"))(), 2)
	wantCheck(t, lets(let("a", "${z}"), let("name", "y"))(), 2)
	wantCheck(t, lets(let("a", "${"))(), 1)
	wantCheck(t, lets(let("a", "${A}"))("x"), 1)
	wantCheck(t, lets(let("a", "${z}"))(), 3)
	wantCheck(t, lets(let("a", "${a}"))(), 4)
	wantCheck(t, lets(let("a", forty), let("b", "${a}${a}x"))(), 5)
	wantCheck(t, lets(let("a", forty), let("b", "${a}${a}"))("${b}"), 0)
	wantCheck(t, lets(let("a", forty), let("b", "${a}${a}"))("x${b}"), 5)
	wantCheck(t, lets()("${"), 1)
	wantCheck(t, lets()("${a}"), 3)
	wantCheck(t, lets()("x", "${a}"), 3)
	wantCheck(t, lets(let("a", "${b}"), let("b", "${a}"))(), 4)
	wantCheck(t, lets(let("a", "${z}"), let("b", "${b}"))("${"), 3)
	wantCheck(t, lets(let("b", "${b}"), let("a", "${z}"))("${"), 4)
	wantCheck(t, lets(let("b", "x"), let("a", "${z}"))("${"), 3)
	wantCheck(t, lets(let("b", "x"))("${z}", "${"), 3)
	wantCheck(t, lets(let("b", "x"))("${", "${z}"), 1)
	// A let may stand for one that comes behind it, and for name and version, which are ahead of all.
	wantCheck(t, lets(let("a", "${b}-${name}"), let("b", "${version}"))("${a}"), 0)
	if got := impl.RecipeSteps(lets(let("a", "${b}-${name}"), let("b", "${version}"))("${a}!")); !slices.Equal(got, []string{"1.2-zip!"}) {
		t.Errorf("%q", got)
	}
}

func TestRecipeCheckAgainstRule(t *testing.T) {
	r := chance(42)
	var codes [6]int
	bits := []string{"x", "${name}", "${version}", "${a}", "${b}", "${c}", "${d}", "${", ten + ten}
	for range 20000 {
		recipe := anyRecipe(r)
		recipe.Lets = manyOf(r.IntN(5), func(i int) impl.Let {
			return impl.Let{Name: []string{"a", "b", "c", "d", "name"}[(i+r.IntN(2))%5], Text: anyText(r, bits, 3)}
		})
		if r.IntN(4) == 0 {
			recipe.Lets = longLets(r)[1:]
		}
		recipe.Steps = manyOf(r.IntN(3), func(int) string { return anyText(r, bits, 4) })
		code := recipeRule(recipe)
		wantCheck(t, recipe, code)
		codes[code]++
	}
	for code, count := range codes {
		if count < 100 {
			t.Errorf("code %d came %d times alone", code, count)
		}
	}
}

// P20
func TestP20StepsAreAsManyAsTold(t *testing.T) {
	for _, r := range someRecipes() {
		steps := impl.RecipeSteps(r)
		if len(steps) != len(r.Steps) {
			t.Errorf("%q: %q", r.Steps, steps)
			continue
		}
		all := slices.Concat([]impl.Let{{Name: "name", Text: r.Name}, {Name: "version", Text: r.Version}}, r.Lets)
		for i, step := range r.Steps {
			want, _ := expandRule(all, step)
			if steps[i] != want || !whole(lineForm, steps[i]) {
				t.Errorf("%q is %q, not %q", step, steps[i], want)
			}
		}
		r.Steps = []string{"${name}", "${version}", "${name}-${version}"}
		if got := impl.RecipeSteps(r); !slices.Equal(got, []string{r.Name, r.Version, r.Name + "-" + r.Version}) {
			t.Errorf("%q", got)
		}
	}
}

// P63
func TestP63PlainStepMore(t *testing.T) {
	for _, r := range someRecipes() {
		for _, plain := range []string{"x", "write a 6 $ { }", strings.Repeat("~", 80)} {
			more := with(r, func(r *impl.Recipe) { r.Steps = append(slices.Clone(r.Steps), plain) })
			want := append(impl.RecipeSteps(r), plain)
			if len(r.Steps) == impl.StepMax {
				want = nil
			}
			if got := impl.RecipeSteps(more); !slices.Equal(got, want) {
				t.Errorf("%q with %q more: %q", r.Steps, plain, got)
			}
		}
	}
}

// P19
func TestP19RecipeIsReadBack(t *testing.T) {
	for _, r := range someRecipes() {
		text := recipeTextRule(r)
		if got := impl.RecipePut(r); got != text {
			t.Errorf("%v is written as %q", r, got)
		}
		back, ok := impl.RecipeGet(text)
		if !ok || !same(back, r) {
			t.Errorf("%q (%d bytes) is read as %v, %v", text, len(text), back, ok)
		}
	}
}

// recipeOfBytes is fine, and has a text of so many bytes.
func recipeOfBytes(size int) impl.Recipe {
	r := fullRecipe()
	r.Steps = nil
	r.Lets = manyOf(impl.ListMax, func(i int) impl.Let { return impl.Let{Name: numbered("let")(i), Text: forty + forty} })
	for len(recipeTextRule(r)) < size {
		left := size - len(recipeTextRule(r)) - len("step \n")
		if left > 80 {
			left = min(80, left-len("step \n")-1)
		}
		r.Steps = append(r.Steps, strings.Repeat("x", left))
	}
	return r
}

func TestRecipeMaxBytes(t *testing.T) {
	for size := impl.RecipeMax - 3; size <= impl.RecipeMax+3; size++ {
		r := recipeOfBytes(size)
		wantCheck(t, r, 0)
		text := impl.RecipePut(r)
		if len(text) != size || text != recipeTextRule(r) {
			t.Fatalf("%d bytes, not %d", len(text), size)
		}
		back, ok := impl.RecipeGet(text)
		if ok != (size <= impl.RecipeMax) || ok && !same(back, r) || !ok && !same(back, impl.Recipe{}) {
			t.Errorf("%d bytes are read: %v", size, ok)
		}
	}
	for _, text := range []string{strings.Repeat("step x\n", 100000), strings.Repeat("\n", 100000), strings.Repeat("x", 100000)} {
		if _, ok := impl.RecipeGet(text); ok {
			t.Error("a long text is read")
		}
	}
}

var recipeForm = regexp.MustCompile(`^name ([^\n]*)\nversion ([^\n]*)\n((?:let [^ \n]* [^\n]*\n)*)((?:build [^\n]*\n)*)((?:run [^\n]*\n)*)((?:source [^ \n]* [^\n]*\n)*)((?:piece [^ \n]* [^\n]*\n)*)((?:step [^\n]*\n)*)$`)

// recipeReadRule is RecipeGet by a form of the whole text.
func recipeReadRule(text string) (impl.Recipe, bool) {
	found := recipeForm.FindStringSubmatch(text)
	if found == nil || len(text) > 1500 {
		return impl.Recipe{}, false
	}
	r := impl.Recipe{Name: found[1], Version: found[2]}
	fine := true
	rows := func(block string, use func(words []string)) {
		for _, line := range strings.SplitAfter(block, "\n") {
			if line != "" {
				use(strings.SplitN(strings.TrimSuffix(line, "\n"), " ", 3))
			}
		}
	}
	need := func(to *[]impl.Need) func(words []string) {
		return func(words []string) {
			n, ok := impl.NeedGet(strings.Join(words[1:], " "))
			fine = fine && ok
			*to = append(*to, n)
		}
	}
	rows(found[3], func(w []string) { r.Lets = append(r.Lets, impl.Let{Name: w[1], Text: w[2]}) })
	rows(found[4], need(&r.Builds))
	rows(found[5], need(&r.Runs))
	rows(found[6], func(w []string) { r.Sources = append(r.Sources, impl.Source{Name: w[1], Sum: w[2]}) })
	rows(found[7], func(w []string) { r.Pieces = append(r.Pieces, impl.Piece{Name: w[1], Glob: w[2]}) })
	rows(found[8], func(w []string) { r.Steps = append(r.Steps, strings.Join(w[1:], " ")) })
	if !fine || recipeRule(r) != 0 {
		return impl.Recipe{}, false
	}
	return r, true
}

func wantRead(t *testing.T, text string) bool {
	t.Helper()
	r, ok := impl.RecipeGet(text)
	want, wantOk := recipeReadRule(text)
	if ok != wantOk || !same(r, want) {
		t.Errorf("%.300q is read as %s, %v; it must be %v", text, short(r), ok, wantOk)
	}
	if ok && impl.RecipePut(r) != text {
		t.Errorf("%q is read, and written otherwise", text)
	}
	return ok
}

// What is not just so is not read: lines that are gone, twice, elsewhere, and bytes that are others.
func TestRecipeReadWrong(t *testing.T) {
	for _, text := range []string{"", "\n", "name zip\n", "version 1\n", "name zip\nversion 1", "name zip\n\nversion 1\n", "name zip\nversion 1\n\n", "\nname zip\nversion 1\n", "name  zip\nversion 1\n", "name zip \nversion 1\n", "name zip\nversion 1 \n", "name zip\r\nversion 1\r\n", "name zip\nversion 01\n", "Name zip\nversion 1\n", "name zip\nversion 1\nstep\n", "name zip\nversion 1\nstep \n", "name zip\nversion 1\nlet a\n", "name zip\nversion 1\nlet a \n", "name zip\nversion 1\nlet  a\n", "name zip\nversion 1\nsource a  0123456789abcdef\n", "name zip\nversion 1\nsource a 0123456789abcdef \n", "name zip\nversion 1\npiece a ** \n", "name zip\nversion 1\npiece a\n", "name zip\nversion 1\nbuild a >=1\n", "name zip\nversion 1\nbuild\n", "name zip\nversion 1\nrun \n", "name zip\nversion 1\nversion 1\n", "name zip\nname zip\nversion 1\n", "name zip\nversion 1\nname zip\n", "name zip\nversion 1\nstep x\nlet a y\n", "name zip\nversion 1\nrun a\nbuild b\n", "name zip\nversion 1\nstep x\nversion 1\n", "nameversion 1\n"} {
		if wantRead(t, text) {
			t.Errorf("%q is read", text)
		}
	}
	for _, text := range []string{"name zip\nversion 1\n", "name zip\nversion 1\nstep  \n", "name zip\nversion 1\nlet a  \n", "name zip\nversion 1\nlet a  b  c \nstep step x\n", "name zip\nversion 1\nstep let a b\nstep name zip\n"} {
		if !wantRead(t, text) {
			t.Errorf("%q is not read", text)
		}
	}
	r := chance(43)
	for i, recipe := range someRecipes() {
		lines := strings.SplitAfter(recipeTextRule(recipe), "\n")
		lines = lines[:len(lines)-1]
		for k := range lines {
			wantRead(t, strings.Join(slices.Delete(slices.Clone(lines), k, k+1), ""))
			wantRead(t, strings.Join(slices.Insert(slices.Clone(lines), k, lines[k]), ""))
			other := slices.Clone(lines)
			o := r.IntN(len(lines))
			other[k], other[o] = other[o], other[k]
			wantRead(t, strings.Join(other, ""))
		}
		if i < 60 {
			for range 50 {
				wantRead(t, turned(r, strings.Join(lines, "")))
			}
		}
	}
}

// roomyRecipe is a recipe with spare room behind each of its lists.
func roomyRecipe(r impl.Recipe) impl.Recipe {
	r.Lets = roomy(r.Lets, impl.Let{Name: "guard"})
	r.Builds = roomy(r.Builds, impl.Need{Name: "guard"})
	r.Runs = roomy(r.Runs, impl.Need{Name: "guard"})
	r.Sources = roomy(r.Sources, impl.Source{Name: "guard"})
	r.Pieces = roomy(r.Pieces, impl.Piece{Name: "guard"})
	r.Steps = roomy(r.Steps, "guard")
	return r
}

func TestRecipesShareNoMemory(t *testing.T) {
	for _, r := range append(someRecipes()[:20], with(fullRecipe(), func(r *impl.Recipe) { r.Steps = []string{"${z}"} }), with(fullRecipe(), func(r *impl.Recipe) { r.Runs = append(r.Runs[:5:5], impl.Need{Name: r.Name}) })) {
		r = roomyRecipe(r)
		wantApart(t, "recipes", []any{r}, func() []any {
			text, code := impl.Expand(r.Lets, "${let0}")
			back, ok := impl.RecipeGet(impl.RecipePut(r))
			return []any{text, code, impl.RecipeCheck(r), impl.RecipeSteps(r), impl.RecipePut(r), back, ok}
		})
	}
	one, _ := impl.RecipeGet(recipeTextRule(fullRecipe()))
	two, _ := impl.RecipeGet(recipeTextRule(fullRecipe()))
	wantNoShare(t, "RecipeGet twice", one, two)
	if !reflect.DeepEqual(one, two) {
		t.Error("read twice it is another one")
	}
}
