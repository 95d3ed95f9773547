package tests

import (
	"bytes"
	"go/ast"
	"go/format"
	"go/parser"
	"go/token"
	"os"
	"path/filepath"
	"strconv"
	"strings"
	"testing"
)

const allowedImports = " bytes cmp container/heap errors iter maps math math/bits slices sort strconv strings sync sync/atomic unicode unicode/utf8 "

const longestFunction = 60

func TestFormOfTheProgram(t *testing.T) {
	files, err := filepath.Glob("../impl/*.go")
	if err != nil || len(files) == 0 {
		t.Fatalf("the program's files are not found: %v", err)
	}
	for _, name := range files {
		source, err := os.ReadFile(name)
		if err != nil {
			t.Fatal(err)
		}
		if tidy, err := format.Source(source); err != nil || !bytes.Equal(tidy, source) {
			t.Errorf("%s is not in gofmt's layout", name)
		}
		positions := token.NewFileSet()
		file, err := parser.ParseFile(positions, name, source, parser.ParseComments|parser.SkipObjectResolution)
		if err != nil {
			t.Fatal(err)
		}
		checkForm(t, positions, file)
	}
}

func checkForm(t *testing.T, positions *token.FileSet, file *ast.File) {
	for _, spec := range file.Imports {
		if path, _ := strconv.Unquote(spec.Path.Value); !strings.Contains(allowedImports, " "+path+" ") {
			t.Errorf("%s: import of %s", positions.Position(spec.Pos()), path)
		}
	}
	for _, group := range file.Comments {
		for _, comment := range group.List {
			if strings.HasPrefix(comment.Text, "//go:") || strings.HasPrefix(comment.Text, "// +build") {
				t.Errorf("%s: a directive", positions.Position(comment.Pos()))
			}
		}
	}
	for _, decl := range file.Decls {
		f, ok := decl.(*ast.FuncDecl)
		if !ok {
			continue
		}
		first, last := positions.Position(f.Pos()), positions.Position(f.End())
		if lines := last.Line - first.Line + 1; lines > longestFunction {
			t.Errorf("%s: the function %s has %d lines", first, f.Name.Name, lines)
		}
	}
}
