package tests

import (
	"bytes"
	"go/ast"
	"go/format"
	"go/parser"
	"go/token"
	"os"
	"path/filepath"
	"strconv"
	"strings"
	"testing"
)

const mayImport = " bytes cmp container/heap errors iter maps math math/bits slices sort strconv strings sync sync/atomic unicode unicode/utf8 "

const longestFunction = 60

// The program keeps to what can be seen of its language page in its text: imports, layout, no long function.
func TestLanguage(t *testing.T) {
	paths, err := filepath.Glob("../impl/*.go")
	if err != nil || len(paths) == 0 {
		t.Fatalf("no program in ../impl: %v", err)
	}
	for _, path := range paths {
		text, err := os.ReadFile(path)
		if err != nil {
			t.Fatal(err)
		}
		laid, err := format.Source(text)
		if err != nil {
			t.Fatal(err)
		}
		if !bytes.Equal(laid, text) {
			t.Errorf("%s: not in gofmt's layout", path)
		}
		if bytes.Contains(text, []byte("//"+"go:")) {
			t.Errorf("%s: a line that speaks to the compiler", path)
		}
		lookAtFile(t, path, text)
	}
}

func lookAtFile(t *testing.T, path string, text []byte) {
	fset := token.NewFileSet()
	f, err := parser.ParseFile(fset, path, text, parser.SkipObjectResolution)
	if err != nil {
		t.Fatal(err)
	}
	for _, i := range f.Imports {
		name, _ := strconv.Unquote(i.Path.Value)
		if !strings.Contains(mayImport, " "+name+" ") {
			t.Errorf("%s: may not import %s", path, name)
		}
	}
	for _, d := range f.Decls {
		fn, ok := d.(*ast.FuncDecl)
		if !ok {
			continue
		}
		lines := fset.Position(fn.End()).Line - fset.Position(fn.Pos()).Line + 1
		if lines > longestFunction {
			t.Errorf("%s: %s has %d lines", path, fn.Name.Name, lines)
		}
	}
}
