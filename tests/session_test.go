package tests

import (
	"math/rand/v2"
	"regexp"
	"slices"
	"strconv"
	"strings"
	"testing"

	"loop.example/jackstay/impl"
)

// exampleLines, and what is told of them, stand so in the document.
const exampleLines = `build tar
want tar
build zip
fall tar 5
tree
want tar
tree
out zip
owner bin/tar
owner lib
build pax
want pax
fall zipdoc 90000
owner doc/zip
out tar
out zip
out zipdoc
out zip
tree
want pax
owner bin/tar
out none
build none
what`

const exampleTold = `fine
none
fine
fell
fine
dir 7 bin
file 5 bin/tar 4
TAR

dir 7 lib
link lib/z lib/zip
dir 7 lib/zip
file 6 lib/zip/zip.c 13
int zip = 1;

needs
[tar]
[]
fine
clash
fell
[zipdoc]
fine
needs
fine
fine
fine
[pax]
none
what
what
`

func wantSession(t *testing.T, lines []string, want string) {
	t.Helper()
	if got := impl.Session(lines); got != want {
		t.Errorf("%q: %q is told; it must be %q", lines, got, want)
	}
	if rule := sessionRule(lines); rule != want {
		t.Errorf("%q: the rule tells %q, not %q", lines, rule, want)
	}
}

func TestSessionExample(t *testing.T) {
	wantSession(t, strings.Split(exampleLines, "\n"), exampleTold)
}

// sessionRecipes are the document's, as texts.
func sessionRecipes() map[string]string {
	return map[string]string{
		"zip": "name zip\nversion 1.2\nlet dir lib/${name}\nsource zip.c " + sumRule("int zip;\n") + "\nsource fix " + sumRule("@ 1 2\n-int zip;\n+int zip = 1;\n") + "\npiece zipdoc doc/**\nstep mkdir lib 7\nstep mkdir ${dir} 7\nstep copy ${dir}/zip.c zip.c\nstep patch ${dir}/zip.c fix\nstep mkdir doc 7\nstep write doc/zip 4 zip ${version}\nstep link lib/z ${dir}\n",
		"tar": "name tar\nversion 2\nrun zip>=1.1\nstep mkdir bin 7\nstep write bin/tar 5 tar\nstep swap bin/tar tar TAR\n",
		"pax": "name pax\nversion 1\nstep mkdir bin 7\nstep write bin/tar 5 pax\n",
	}
}

var (
	oneForm  = regexp.MustCompile(`^(build|want|out|owner) ([^ ]*)$`)
	fallForm = regexp.MustCompile(`^fall ([^ ]*) (0|[1-9][0-9]{0,5})$`)
)

// sessionRule is Session, by forms of lines and the functions of this chapter and the one ahead.
func sessionRule(lines []string) string {
	f := impl.Farm{Files: []impl.File{{Name: "zip.c", Text: "int zip;\n"}, {Name: "fix", Text: "@ 1 2\n-int zip;\n+int zip = 1;\n"}}}
	text := ""
	for i, line := range lines {
		if i == 30 {
			break
		}
		var told string
		f, told = lineRule(f, line)
		text += told
	}
	return text
}

func lineRule(f impl.Farm, line string) (impl.Farm, string) {
	root, _ := rootReadRule(f.Disk.Text)
	if line == "tree" {
		tree, _ := joinedRule(root.Packs)
		return f, textRule(tree)
	}
	if found := fallForm.FindStringSubmatch(line); found != nil {
		bytes, _ := strconv.Atoi(found[2])
		return farmFallRule(f, found[1], bytes), "fell\n"
	}
	found := oneForm.FindStringSubmatch(line)
	if found == nil {
		return f, "what\n"
	}
	words := strings.Fields("fine form twice none needs clash full elder")
	code := 0
	switch found[1] {
	case "want":
		f, code = farmWantRule(f, found[2])
	case "out":
		root, code = outRule(root, found[2])
		f.Disk.Text = rootTextRule(root)
	case "owner":
		return f, "[" + impl.RootOwner(root, found[2]) + "]\n"
	case "build":
		r, ok := impl.RecipeGet(sessionRecipes()[found[2]])
		if !ok {
			return f, "what\n"
		}
		words = strings.Fields("fine recipe none sum step - full")
		f, code = farmBuildRule(f, r)
	}
	return f, words[code] + "\n"
}

func TestSessionLineByLine(t *testing.T) {
	for told, list := range map[string][]string{
		"what\n": {
			"", " ", "what", "tree ", " tree", "trees", "Tree", "tree x", "tree\n", "build", "build ", "build none", "build Zip", "build zip ", "build  zip", " build zip", "build zip tar", "build zipdoc", "build\tzip", "BUILD zip", "build zip\n",
			"want", "want a b", "want zip ", "want  zip", " want zip", "wants zip", "out", "out a b", "out zip ", "owner", "owner a b", "owner bin/tar ", "fine", "[]", "form x", "elder zip",
			"fall", "fall zip", "fall zip ", "fall zip x", "fall zip -1", "fall zip +1", "fall zip 01", "fall zip 00", "fall zip 1000000", "fall zip 9999999", "fall zip 99999999999999999999", "fall zip 1 ", "fall zip 1 2", "fall zip  1", "fall  zip 1", " fall zip 1", "fall zip 1\n", "fall zip 1.", "fall 1", "fell zip 1", "\xff", strings.Repeat("x", 100000), strings.Repeat(" ", 100000), "want" + strings.Repeat(" ", 100000),
		},
		"none\n": {"want zip", "want none", "want Zip", "want ", "want \xff", "want zip\n", "want " + strings.Repeat("x", 100000), "out zip", "out none", "out ", "out A"},
		"[]\n":   {"owner bin/tar", "owner lib", "owner ", "owner /", "owner A", "owner " + strings.Repeat("a/", 100000)},
		"fell\n": {"fall zip 0", "fall zip 5", "fall zip 999999", "fall none 5", "fall  5", "fall A 100000"},
		"fine\n": {"build zip", "build tar", "build pax"},
		"":       {"tree"},
	} {
		for _, line := range list {
			wantSession(t, []string{line}, told)
		}
	}
	wantSession(t, nil, "")
	wantSession(t, []string{}, "")
	wantSession(t, []string{"build zip", "want zip", "want zip", "tree", "owner lib/z", "owner lib/zip/zip.c", "owner lib/zip", "want zipdoc", "out zip", "tree", "build pax", "want pax", "want tar", "build tar", "want tar", "out pax", "want tar", "out zipdoc"}, "fine\nfine\nfine\ndir 7 lib\nlink lib/z lib/zip\ndir 7 lib/zip\nfile 6 lib/zip/zip.c 13\nint zip = 1;\n\n[zip]\n[zip]\n[]\nfine\nneeds\ndir 7 doc\nfile 4 doc/zip 8\nzip 1.2\n\ndir 7 lib\nlink lib/z lib/zip\ndir 7 lib/zip\nfile 6 lib/zip/zip.c 13\nint zip = 1;\n\nfine\nfine\nnone\nfine\nclash\nfine\nfine\nfine\n")
}

// A fall at each byte: the root is there as a whole, or not at all.
func TestSessionFallsAtEachByte(t *testing.T) {
	ahead := []string{"build zip", "build tar", "want zipdoc"}
	whole := impl.Session(append(slices.Clone(ahead), "want tar", "tree"))
	none := impl.Session(append(slices.Clone(ahead), "what", "tree"))
	_, whole, _ = strings.Cut(whole, "fine\nfine\nfine\nfine\n")
	_, none, _ = strings.Cut(none, "fine\nfine\nfine\nwhat\n")
	turns := 0
	was := none
	for bytes := range 1500 {
		told := impl.Session(append(slices.Clone(ahead), "fall tar "+strconv.Itoa(bytes), "tree"))
		_, tree, _ := strings.Cut(told, "fell\n")
		if tree != whole && tree != none {
			t.Errorf("%d bytes: %q", bytes, told)
		}
		if tree != was {
			turns++
		}
		was = tree
	}
	if turns != 1 || was != whole || whole == none {
		t.Errorf("%d turns, in the end %q", turns, was)
	}
}

// anySessionLines are lines of a session, of which most do something.
func anySessionLines(r *rand.Rand, most int) []string {
	names := []string{"zip", "tar", "pax", "zipdoc", "zip", "tar", "none", "", "Zip"}
	paths := []string{"bin/tar", "lib", "lib/z", "doc/zip", "lib/zip/zip.c", "", "nowhere"}
	bytes := []string{"0", "5", "90000", "600", "700", "999999", "1000000", "05", "x"}
	return manyOf(r.IntN(most+1), func(int) string {
		name := names[r.IntN(len(names))]
		switch r.IntN(9) {
		case 0, 1:
			return "build " + name
		case 2, 3:
			return "want " + name
		case 4:
			return "out " + name
		case 5:
			return "fall " + name + " " + bytes[r.IntN(len(bytes))]
		case 6:
			return "owner " + paths[r.IntN(len(paths))]
		case 7:
			return []string{"what", "", "tree ", "build", "fall zip", "fall zip 1 2", "out a b"}[r.IntN(7)]
		}
		return "tree"
	})
}

func TestSessionIsTheRule(t *testing.T) {
	r := chance(84)
	words := map[string]int{}
	for range 1500 {
		lines := anySessionLines(r, 34)
		want := sessionRule(lines)
		wantSession(t, lines, want)
		for _, line := range strings.Split(want, "\n") {
			words[line]++
		}
	}
	for _, word := range strings.Fields("fine none needs clash fell what [] [tar] [pax] [zip] [zipdoc]") {
		if words[word] < 10 {
			t.Errorf("%s was told %d times alone", word, words[word])
		}
	}
}

// P53
func TestP53FirstLinesAreToldFirst(t *testing.T) {
	r := chance(53)
	sessions := [][]string{strings.Split(exampleLines, "\n"), slices.Repeat([]string{"what"}, 40)}
	for range 150 {
		sessions = append(sessions, anySessionLines(r, 36))
	}
	for _, lines := range sessions {
		all := impl.Session(lines)
		for i := range lines {
			if first := impl.Session(lines[:i]); !strings.HasPrefix(all, first) {
				t.Errorf("%q: of %d lines %q is told, of all %q", lines, i, first, all)
			}
		}
	}
	// Thirty lines are told, and no more.
	wantSession(t, slices.Repeat([]string{"what"}, 29), strings.Repeat("what\n", 29))
	wantSession(t, slices.Repeat([]string{"what"}, 30), strings.Repeat("what\n", 30))
	wantSession(t, slices.Repeat([]string{"what"}, 31), strings.Repeat("what\n", 30))
	wantSession(t, append(slices.Repeat([]string{""}, 29), "build zip", "want zip"), strings.Repeat("what\n", 29)+"fine\n")
	wantSession(t, slices.Repeat([]string{"build zip"}, 100000), strings.Repeat("fine\n", 30))
}

// P84
func TestP84WhoOnlyLooksChangesNothing(t *testing.T) {
	r := chance(841)
	for range 300 {
		lines := anySessionLines(r, 29)
		place := r.IntN(len(lines) + 1)
		ahead := impl.Session(lines[:place])
		all := impl.Session(lines)
		behind := strings.TrimPrefix(all, ahead)
		for _, look := range []string{"what", "", "tree x", "build none", "build zip ", "fall zip", "fall zip 01", "fall tar 1000000", "want tar ", "out  zip", "owner", "tree", "owner bin/tar", "owner lib/z"} {
			told := impl.Session(slices.Insert(slices.Clone(lines), place, look))
			own := strings.TrimPrefix(impl.Session(append(slices.Clone(lines[:place]), look)), ahead)
			if told != ahead+own+behind {
				t.Errorf("%q with %q at %d: %q, and without %q", lines, look, place, told, all)
			}
		}
	}
}
