package tests

import (
	"bytes"
	"go/ast"
	"go/format"
	"go/parser"
	"go/token"
	"os"
	"path/filepath"
	"strings"
	"testing"
)

// The program keeps to ../shared/LANGUAGE.md, as far as a look at its text can tell.

const mayImport = " bytes cmp container/heap errors iter maps math math/bits slices sort strconv strings sync sync/atomic unicode unicode/utf8 "

const maxLines = 60

func TestProgramKeepsToTheLanguage(t *testing.T) {
	entries, err := os.ReadDir("../impl")
	if err != nil {
		t.Fatal(err)
	}
	for _, e := range entries {
		if !strings.HasSuffix(e.Name(), ".go") {
			t.Errorf("impl/%s is no Go file", e.Name())
			continue
		}
		lookAtFile(t, filepath.Join("../impl", e.Name()))
	}
}

func lookAtFile(t *testing.T, path string) {
	text, err := os.ReadFile(path)
	if err != nil {
		t.Fatal(err)
	}
	if formatted, err := format.Source(text); err != nil || !bytes.Equal(formatted, text) {
		t.Errorf("%s has not gofmt's layout: %v", path, err)
	}
	if bytes.Contains(text, []byte("//go:")) || bytes.Contains(text, []byte("// +build")) {
		t.Errorf("%s has a line for the compiler", path)
	}
	fset := token.NewFileSet()
	file, err := parser.ParseFile(fset, path, text, 0)
	if err != nil {
		t.Fatal(err)
	}
	for _, i := range file.Imports {
		if name := strings.Trim(i.Path.Value, "\""); !strings.Contains(mayImport, " "+name+" ") {
			t.Errorf("%s imports %s", path, name)
		}
	}
	ast.Inspect(file, func(n ast.Node) bool {
		if sel, ok := n.(*ast.SelectorExpr); ok && (sel.Sel.Name == "Pull" || sel.Sel.Name == "Pull2") {
			t.Errorf("%s has iter.%s", path, sel.Sel.Name)
		}
		return true
	})
	for _, d := range file.Decls {
		if f, ok := d.(*ast.FuncDecl); ok {
			lines := fset.Position(f.End()).Line - fset.Position(f.Pos()).Line + 1
			if lines > maxLines {
				t.Errorf("%s: %s has %d lines", path, f.Name.Name, lines)
			}
		}
	}
}
