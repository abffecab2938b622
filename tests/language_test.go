package tests

import (
	"bytes"
	"go/ast"
	"go/format"
	"go/parser"
	"go/token"
	"os"
	"path/filepath"
	"slices"
	"strconv"
	"testing"
)

// What the language page asks of the program's text, as far as the text alone
// shows it: its layout, its imports, and how long its functions are.

var allowedImports = []string{"bytes", "cmp", "container/heap", "errors", "iter", "maps", "math", "math/bits",
	"slices", "sort", "strconv", "strings", "sync", "sync/atomic", "unicode", "unicode/utf8"}

const maxLines = 60

func TestLanguage(t *testing.T) {
	paths, err := filepath.Glob("../impl/*")
	if err != nil || len(paths) == 0 {
		t.Fatalf("no files of the program: %v", err)
	}
	for _, path := range paths {
		if filepath.Ext(path) != ".go" {
			t.Errorf("%s: not a Go file", path)
			continue
		}
		text, err := os.ReadFile(path)
		if err != nil {
			t.Fatal(err)
		}
		checkFile(t, path, text)
	}
}

func checkFile(t *testing.T, path string, text []byte) {
	laid, err := format.Source(text)
	if err != nil || !bytes.Equal(laid, text) {
		t.Errorf("%s: not in gofmt's layout (%v)", path, err)
	}
	set := token.NewFileSet()
	file, err := parser.ParseFile(set, path, text, 0)
	if err != nil {
		t.Fatal(err)
	}
	for _, i := range file.Imports {
		name, err := strconv.Unquote(i.Path.Value)
		if err != nil || !slices.Contains(allowedImports, name) {
			t.Errorf("%s: imports %s", path, i.Path.Value)
		}
	}
	for _, d := range file.Decls {
		if f, ok := d.(*ast.FuncDecl); ok {
			lines := set.Position(f.End()).Line - set.Position(f.Pos()).Line + 1
			if lines > maxLines {
				t.Errorf("%s: %s has %d lines", path, f.Name.Name, lines)
			}
		}
	}
}
