package tests

import (
	"bytes"
	"go/ast"
	"go/format"
	"go/parser"
	"go/token"
	"os"
	"path/filepath"
	"strings"
	"testing"
)

// mayImport are the packages of the library that the language page allows.
const mayImport = ` "bytes" "cmp" "container/heap" "errors" "iter" "maps" "math" "math/bits" "slices" "sort" "strconv" "strings" "sync" "sync/atomic" "unicode" "unicode/utf8" `

const longestFunction = 60

// The language page, as far as it is plain to be seen: imports, layout, length of functions, no lines for the compiler.
func TestLanguage(t *testing.T) {
	names, err := filepath.Glob("../impl/*")
	if err != nil || len(names) != 10 {
		t.Fatalf("ten layers, a file each: %v, %v", names, err)
	}
	for _, name := range names {
		text, err := os.ReadFile(name)
		if err != nil {
			t.Fatal(err)
		}
		laid, err := format.Source(text)
		if err != nil || !bytes.Equal(laid, text) {
			t.Errorf("%s: not laid out by gofmt: %v", name, err)
		}
		if bytes.Contains(text, []byte("//go:")) || bytes.Contains(text, []byte("+build")) {
			t.Errorf("%s: a line for the compiler", name)
		}
		lookAtFile(t, name, text)
	}
}

func lookAtFile(t *testing.T, name string, text []byte) {
	places := token.NewFileSet()
	parsed, err := parser.ParseFile(places, name, text, 0)
	if err != nil {
		t.Fatal(err)
	}
	for _, i := range parsed.Imports {
		if !strings.Contains(mayImport, " "+i.Path.Value+" ") {
			t.Errorf("%s: imports %s", name, i.Path.Value)
		}
	}
	for _, d := range parsed.Decls {
		f, ok := d.(*ast.FuncDecl)
		if ok && places.Position(f.End()).Line-places.Position(f.Pos()).Line >= longestFunction {
			t.Errorf("%s: %s is too long", name, f.Name.Name)
		}
	}
}
