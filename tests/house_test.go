package tests

import (
	"bytes"
	"go/ast"
	"go/format"
	"go/parser"
	"go/token"
	"os"
	"path/filepath"
	"strings"
	"testing"
)

// A little above the some 60 lines that the language page asks for.
const mostLines = 65

const allowedImports = " bytes cmp container/heap errors iter maps math math/big math/bits slices sort strconv strings sync sync/atomic unicode unicode/utf8 "

func programFiles(t *testing.T) []string {
	files, err := filepath.Glob("../impl/*.go")
	if err != nil || len(files) == 0 {
		t.Fatal("no program here: ", err)
	}
	return files
}

func TestLayout(t *testing.T) {
	for _, name := range programFiles(t) {
		text, err := os.ReadFile(name)
		if err != nil {
			t.Fatal(err)
		}
		laid, err := format.Source(text)
		if err != nil {
			t.Fatal(name, err)
		}
		if !bytes.Equal(text, laid) {
			t.Errorf("%s is not laid out by gofmt", name)
		}
	}
}

func TestImportsAndSizes(t *testing.T) {
	set := token.NewFileSet()
	for _, name := range programFiles(t) {
		file, err := parser.ParseFile(set, name, nil, parser.ParseComments)
		if err != nil {
			t.Fatal(err)
		}
		for _, i := range file.Imports {
			if path := strings.Trim(i.Path.Value, "\""); !strings.Contains(allowedImports, " "+path+" ") {
				t.Errorf("%s imports %s", name, path)
			}
		}
		for _, d := range file.Decls {
			if f, ok := d.(*ast.FuncDecl); ok {
				if lines := set.Position(f.End()).Line - set.Position(f.Pos()).Line + 1; lines > mostLines {
					t.Errorf("%s: %s has %d lines", name, f.Name.Name, lines)
				}
			}
		}
		for _, group := range file.Comments {
			for _, c := range group.List {
				if strings.HasPrefix(c.Text, "//go:") || strings.HasPrefix(c.Text, "// +build") {
					t.Errorf("%s: %s", name, c.Text)
				}
			}
		}
	}
}
