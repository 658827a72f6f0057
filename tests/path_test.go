package tests

import (
	"regexp"
	"strings"
	"testing"
	"time"

	"loop.example/jackstay/impl"
)

// somePaths are paths of one name up to five, with names that are nearly others.
func somePaths() []string {
	names := []string{"a", "b", "ab", "a.b", "a-b", "_", "...", ".a", "0", "tenletters"}
	list := append([]string{}, names...)
	for _, one := range names {
		for _, two := range names {
			list = append(list, one+"/"+two)
		}
	}
	return append(list, "a/b/c", "a/b/a", "a/a/a", "a/a/a/a", "a/b/c/d", "a/b/c/d/e", "b/b/b/b/b", "a.b/a-b/_/0/...", "tenletters/tenletters/tenletters/tenletters/tenletters")
}

// noPaths are texts that are no paths, each for another reason.
func noPaths() []string {
	return []string{"", "/", "//", "a/", "/a", "a//b", ".", "..", "./a", "a/.", "a/..", "../a", "A", "aB", "a b", "a*", "a\n", "a\x00", "\x7f", "ä", "\xff", "a\\b", "a:b", "`", "{", "elevenlette", "a/elevenlette", "a/b/c/d/e/f", "a/b/c/d/e/", strings.Repeat("a/", 100000), strings.Repeat("a", 100000)}
}

// wordsOf are all texts of at most so many bytes of some.
func wordsOf(bytes string, size int) []string {
	list := []string{""}
	from := 0
	for range size {
		to := len(list)
		for _, s := range list[from:to] {
			for i := range len(bytes) {
				list = append(list, s+bytes[i:i+1])
			}
		}
		from = to
	}
	return list
}

func TestPathOk(t *testing.T) {
	for _, s := range somePaths() {
		if !impl.PathOk(s) {
			t.Errorf("%q is a path", s)
		}
	}
	for _, s := range noPaths() {
		if impl.PathOk(s) {
			t.Errorf("%.40q is no path", s)
		}
	}
	name := regexp.MustCompile(`^[a-z0-9._-]{1,10}$`)
	for _, s := range append(wordsOf("az09._-/A`{:", 4), wordsOf("a./", 9)...) {
		want := strings.Count(s, "/") < 5
		for _, n := range strings.Split(s, "/") {
			want = want && name.MatchString(n) && n != "." && n != ".."
		}
		if impl.PathOk(s) != want {
			t.Errorf("PathOk(%q) is not %v", s, want)
		}
	}
	for b := range 256 {
		want := b >= 'a' && b <= 'z' || b >= '0' && b <= '9' || b == '_' || b == '-'
		if impl.PathOk(string([]byte{byte(b)})) != want || impl.PathOk(string([]byte{'a', byte(b), 'a'})) != (want || b == '.' || b == '/') {
			t.Errorf("byte %d", b)
		}
	}
}

func TestWrongPathsHaveFixedAnswers(t *testing.T) {
	for _, s := range noPaths() {
		if impl.PathUp(s) != "" || impl.PathLast(s) != "" || impl.PathIn(s, s) || impl.PathIn("a", s) || impl.PathIn(s, "a") {
			t.Errorf("of %.40q something is told", s)
		}
		if impl.PathMove(s, "a", "b") != "" || impl.PathMove("a", s, "b") != "" || impl.PathMove("a", "a", s) != "" || impl.PathMove(s, s, "b") != "" {
			t.Errorf("%.40q is moved", s)
		}
	}
	if impl.PathIn("a", "a/") || impl.PathIn("a", "a/b/") || impl.PathIn("a/", "a/b") {
		t.Error("a slash at the end is of no path")
	}
}

// P1
func TestP1PathIsUpAndLast(t *testing.T) {
	for _, s := range somePaths() {
		up, last := impl.PathUp(s), impl.PathLast(s)
		if strings.Contains(s, "/") != (up != "") || strings.Contains(last, "/") || last == "" {
			t.Errorf("%q: %q, %q", s, up, last)
		}
		if up == "" && last != s || up != "" && (up+"/"+last != s || !impl.PathIn(up, s)) {
			t.Errorf("%q: %q, %q", s, up, last)
		}
	}
}

// P2
func TestP2PathInGoesUpAndDown(t *testing.T) {
	for _, place := range somePaths() {
		for _, s := range somePaths() {
			in := s == place || strings.HasPrefix(s, place+"/")
			if impl.PathIn(place, s) != in {
				t.Errorf("PathIn(%q, %q) is not %v", place, s, in)
			}
			up := impl.PathUp(s)
			if s != place && up != "" && impl.PathIn(place, up) != in {
				t.Errorf("PathIn(%q, %q) and of %q", place, s, up)
			}
			higher := impl.PathUp(place)
			if in && higher != "" && !impl.PathIn(higher, s) {
				t.Errorf("PathIn(%q, %q)", higher, s)
			}
		}
	}
}

// P3
func TestP3PathMoveAndBack(t *testing.T) {
	for _, s := range somePaths() {
		for _, from := range somePaths() {
			for _, to := range []string{"x", "a", "x/y", "a/b/c", "x/y/z/v/w"} {
				want := ""
				if impl.PathIn(from, s) && impl.PathOk(to+s[len(from):]) {
					want = to + s[len(from):]
				}
				moved := impl.PathMove(s, from, to)
				if moved != want {
					t.Errorf("PathMove(%q, %q, %q) is %q", s, from, to, moved)
				}
				if moved != "" && (!impl.PathIn(to, moved) || impl.PathMove(moved, to, from) != s) {
					t.Errorf("%q, moved to %q, not back", s, moved)
				}
			}
		}
	}
	if impl.PathMove("a/b/c", "a", "x/y/z") != "x/y/z/b/c" || impl.PathMove("a/b/c", "a", "x/y/z/v") != "" {
		t.Error("five names may be, six not")
	}
}

// P85
func TestP85PathUpAsOftenAsSlashes(t *testing.T) {
	for _, s := range somePaths() {
		ups := 0
		for at := impl.PathUp(s); at != ""; at = impl.PathUp(at) {
			ups++
		}
		if ups != strings.Count(s, "/") {
			t.Errorf("%q goes up %d times", s, ups)
		}
	}
}

var globShape = regexp.MustCompile(`^[a-z0-9._*?-]$|^\[!?[a-z0-9._-]+\]$`)

// globTokens parts a name of a pattern; false if it is none.
func globTokens(name string) ([]string, bool) {
	tokens := regexp.MustCompile(`\[[^\]]*\]|(?s:.)`).FindAllString(name, -1)
	for _, token := range tokens {
		if !globShape.MatchString(token) {
			return nil, false
		}
	}
	return tokens, len(tokens) > 0
}

// globRule is a pattern as a regular expression over names with a slash behind each; nil if it is no pattern.
func globRule(g string) *regexp.Regexp {
	names := strings.Split(g, "/")
	if len(g) > impl.GlobMax || len(names) > impl.PartMax {
		return nil
	}
	rule := "^"
	for _, name := range names {
		tokens, ok := globTokens(name)
		if !ok {
			return nil
		}
		if name == "**" {
			rule += "([^/]+/)*"
			continue
		}
		for _, token := range tokens {
			switch {
			case token == "*":
				rule += "[^/]*"
			case token == "?":
				rule += "[^/]"
			case len(token) > 1:
				rule += "[" + strings.ReplaceAll(strings.ReplaceAll(token[1:], "-", `\-`), "!", "^")
			default:
				rule += regexp.QuoteMeta(token)
			}
		}
		rule += "/"
	}
	return regexp.MustCompile(rule + "$")
}

func TestGlobAgainstRule(t *testing.T) {
	globs := append(wordsOf("a*?/", 5), wordsOf("ab*?[]!/-.", 4)...)
	globs = append(globs, "[!a]b", "[ab-]", "[a-c]", "[!a-c]*", "**/[!a]", "a/**/b", "**/a/**", "**/**/**/**/**", "*/**/*", "a**b", "***", "**a", "a**", "**/***", "[a][b]", "[!!a]", "[a!]", "[[a]", "[a]]", "[a/b]", "[*]", "[?]", "[.]", "..", "./..", "[!_]*/[0-9]", "*.*", "a?b*")
	paths := []string{"a", "b", "aa", "ab", "ba", "a.b", "a-b", "-", "c", "...", ".a", "aaa", "aab", "a/a", "a/b", "ab/a", "b/a", "a/a/a", "a/b/a", "a/b/c", "a/a/a/a", "a/b/c/d/e", "a/c/d/e/b", "_/0"}
	for _, g := range globs {
		rule := globRule(g)
		if impl.GlobOk(g) != (rule != nil) {
			t.Errorf("GlobOk(%q) is not %v", g, rule != nil)
		}
		for _, s := range paths {
			want := rule != nil && rule.MatchString(s+"/")
			if impl.GlobHas(g, s) != want {
				t.Errorf("GlobHas(%q, %q) is not %v", g, s, want)
			}
		}
	}
}

func TestGlobLimits(t *testing.T) {
	forty := strings.Repeat("a", 40)
	for g, want := range map[string]bool{
		"": false, forty: true, forty + "a": false, strings.Repeat("*", 41): false, "a/b/c/d/e": true, "a/b/c/d/e/f": false, "**/**/**/**/**/**": false, "elevenlette": true,
		"/": false, "a/": false, "/a": false, "a//b": false, "[": false, "]": false, "[]": false, "[!]": false, "[!!]": false, "[a": false, "[!a": false, "a]": false, "[A]": false, "[a b]": false, "[a\xff]": false, "A": false, "a b": false, "!a": false, "a\n": false, "\xff": false, "\x00": false,
		".": true, "..": true, "[.]": true, "[!.]": true, "[a-z]": true, "***": true,
	} {
		if impl.GlobOk(g) != want {
			t.Errorf("GlobOk(%q) is not %v", g, want)
		}
	}
	for b := range 256 {
		want := b >= 'a' && b <= 'z' || b >= '0' && b <= '9' || b == '.' || b == '_' || b == '-'
		one, class := string([]byte{byte(b)}), string([]byte{'[', 'a', byte(b), ']'})
		if impl.GlobOk(one) != (want || b == '*' || b == '?') || impl.GlobOk(class) != want {
			t.Errorf("byte %d", b)
		}
	}
	for _, s := range noPaths() {
		if impl.GlobHas("**", s) || impl.GlobHas("*", s) || impl.GlobHas(s, s) {
			t.Errorf("%.40q is no path, and is taken", s)
		}
	}
	if impl.GlobHas("A", "a") || impl.GlobHas("[", "a") || impl.GlobHas("", "a") || impl.GlobHas(forty+"*", "a") {
		t.Error("what is no pattern takes nothing")
	}
}

// Many stars must not make a call long.
func TestGlobEndsSoon(t *testing.T) {
	began := time.Now()
	for range 100 {
		if impl.GlobHas(strings.Repeat("*", 39)+"b", "aaaaaaaaaa") || impl.GlobHas(strings.Repeat("*a", 19)+"b", "aaaaaaaaaa") {
			t.Error("taken")
		}
		if !impl.GlobHas(strings.Repeat("*", 39)+"a", "aaaaaaaaaa") {
			t.Error("not taken")
		}
	}
	if time.Since(began) > 10*time.Second {
		t.Error("too long")
	}
}

// P4
func TestP4PathIsOneOfItself(t *testing.T) {
	globs := append(wordsOf("a*?/", 3), "a/**", "**/b", "[!a]*", "a/[ab]", "*/*")
	for _, s := range somePaths() {
		if impl.GlobHas(s, s) != (len(s) <= impl.GlobMax) || !impl.GlobHas("**", s) {
			t.Errorf("%q is none of itself, or of two stars", s)
		}
		for _, g := range append(globs, s) {
			if impl.GlobHas(g, s) && impl.GlobOk("**/"+g) && !impl.GlobHas("**/"+g, s) {
				t.Errorf("%q behind two stars does not take %q", g, s)
			}
		}
	}
}

// P5
func TestP5StarTakesOneName(t *testing.T) {
	for _, s := range somePaths() {
		up := impl.PathUp(s)
		if impl.GlobHas("*", s) != (up == "") {
			t.Errorf("star and %q", s)
		}
		if up != "" && impl.GlobHas(up+"/*", s) != (len(up)+2 <= impl.GlobMax) {
			t.Errorf("%q does not take %q", up+"/*", s)
		}
	}
	if impl.GlobHas("a/*", "a") || impl.GlobHas("a/*", "a/b/c") || impl.GlobHas("*/a", "a") || impl.GlobHas("*", "a/b/c/d/e") {
		t.Error("a star takes one name and no more")
	}
}

// P54
func TestP54ClassTakesOneByte(t *testing.T) {
	bytes := "abcdefghijklmnopqrstuvwxyz0123456789._-"
	for i := range len(bytes) {
		for k := range len(bytes) {
			b, c := bytes[i:i+1], bytes[k:k+1]
			name := "x" + c
			if impl.GlobHas("x["+b+"]", name) != (b == c) || impl.GlobHas("x[!"+b+"]", name) != (b != c) || !impl.GlobHas("x?", name) {
				t.Errorf("class of %q, and %q", b, c)
			}
		}
	}
	for _, s := range []string{"x", "xab", "x/a", "x/a/b"} {
		if impl.GlobHas("x[ab]", s) || impl.GlobHas("x[!c]", s) || impl.GlobHas("x?", s) {
			t.Errorf("%q is not of one byte more", s)
		}
	}
	if !impl.GlobHas("[abc]", "c") || impl.GlobHas("[!abc]", "c") || impl.GlobHas("[a-c]", "b") || !impl.GlobHas("[a-c]x", "-x") {
		t.Error("a class has just its bytes")
	}
}

// P55
func TestP55TwoStarsTakeAnyNames(t *testing.T) {
	for _, s := range somePaths() {
		last := impl.PathLast(s)
		if !impl.GlobHas("**/"+last, s) || !impl.GlobHas("**/"+last+"/**", s) || !impl.GlobHas("**/**/**/**/**", s) {
			t.Errorf("two stars and %q", s)
		}
	}
	for i, c := range []struct {
		glob string
		path string
		has  bool
	}{{"a/**", "a", true}, {"a/**", "ab", false}, {"a/**/b", "a/b", true}, {"a/**/b", "a/x/y/z/b", true}, {"a/**/b", "a", false}, {"a/**/b", "a/b/c", false}, {"**/a/**", "a", true}, {"**/a/**", "b/c", false}, {"**/*", "a", true}, {"*/**", "a", true}, {"*/**/*", "a", false}, {"*/**/*", "a/b", true}, {"a**", "a/b", false}, {"a**", "ab", true}, {"***", "a/b", false}, {"***", "ab", true}} {
		if impl.GlobHas(c.glob, c.path) != c.has {
			t.Errorf("%d: GlobHas(%q, %q) is not %v", i, c.glob, c.path, c.has)
		}
	}
}
