package tests

import (
	"bytes"
	"go/ast"
	"go/format"
	"go/parser"
	"go/token"
	"os"
	"path/filepath"
	"slices"
	"strings"
	"testing"
)

const mostLines = 60

var allowedImports = strings.Fields(`bytes cmp container/heap errors iter maps math math/bits slices sort strconv strings
	sync sync/atomic unicode unicode/utf8`)

// TestRules holds the program against those rules of the language that its text alone shows: imports, directives, layout, and the length of functions.
func TestRules(t *testing.T) {
	paths, err := filepath.Glob("../impl/*")
	if err != nil || len(paths) < 11 {
		t.Fatalf("the program has the files %v (%v)", paths, err)
	}
	for _, path := range paths {
		if !strings.HasSuffix(path, ".go") {
			t.Errorf("%s is no Go file", path)
			continue
		}
		text, err := os.ReadFile(path)
		if err != nil {
			t.Fatal(err)
		}
		checkText(t, path, text)
	}
}

func checkText(t *testing.T, path string, text []byte) {
	set := token.NewFileSet()
	file, err := parser.ParseFile(set, path, text, parser.ParseComments)
	if err != nil {
		t.Fatal(err)
	}
	if neat, err := format.Source(text); err != nil || !bytes.Equal(neat, text) {
		t.Errorf("%s is not in gofmt's layout (%v)", path, err)
	}
	for _, i := range file.Imports {
		if name := strings.Trim(i.Path.Value, `"`); !slices.Contains(allowedImports, name) {
			t.Errorf("%s imports %s", path, name)
		}
	}
	for _, group := range file.Comments {
		for _, c := range group.List {
			if strings.HasPrefix(c.Text, "//go:") || strings.HasPrefix(c.Text, "// +build") {
				t.Errorf("%s has the directive %s", path, c.Text)
			}
		}
	}
	for _, d := range file.Decls {
		if f, ok := d.(*ast.FuncDecl); ok {
			if lines := set.Position(f.End()).Line - set.Position(f.Pos()).Line + 1; lines > mostLines {
				t.Errorf("%s: %s has %d lines", path, f.Name.Name, lines)
			}
		}
	}
}
