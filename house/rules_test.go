package house

import (
	"bytes"
	"go/ast"
	"go/format"
	"go/parser"
	"go/token"
	"io/fs"
	"os"
	"path/filepath"
	"strconv"
	"strings"
	"testing"
)

// library: what the program may import beside its own packages.
const library = " bytes cmp container/heap errors iter maps math math/bits slices sort strconv strings sync sync/atomic unicode unicode/utf8 "

const longest = 60 // lines of a function

// programFiles: all Go files of the program, without its tests and without those that are laid beside it.
func programFiles(t *testing.T) []string {
	t.Helper()
	var out []string
	err := filepath.WalkDir("..", func(path string, d fs.DirEntry, err error) error {
		if err != nil {
			return err
		}
		if d.IsDir() && (d.Name() == "sharedtests" || d.Name() == ".git") {
			return filepath.SkipDir
		}
		if strings.HasSuffix(path, ".go") && !strings.HasSuffix(path, "_test.go") {
			out = append(out, path)
		}
		return nil
	})
	if err != nil || len(out) < 18 {
		t.Fatal(out, err)
	}
	return out
}

func TestProgramKeepsToItsLanguage(t *testing.T) {
	for _, name := range programFiles(t) {
		text, err := os.ReadFile(name)
		if err != nil {
			t.Fatal(err)
		}
		if neat, err := format.Source(text); err != nil || !bytes.Equal(neat, text) {
			t.Error(name, "is not laid out by gofmt", err)
		}
		files := token.NewFileSet()
		file, err := parser.ParseFile(files, name, text, parser.ParseComments)
		if err != nil {
			t.Fatal(err)
		}
		checkImports(t, name, file)
		checkComments(t, name, file)
		checkLengths(t, name, files, file)
	}
}

func checkImports(t *testing.T, name string, file *ast.File) {
	for _, i := range file.Imports {
		path, err := strconv.Unquote(i.Path.Value)
		if err != nil || !strings.HasPrefix(path, "mercator/") && !strings.Contains(library, " "+path+" ") {
			t.Error(name, "imports", path)
		}
	}
}

func checkComments(t *testing.T, name string, file *ast.File) {
	for _, group := range file.Comments {
		for _, c := range group.List {
			if strings.HasPrefix(c.Text, "//go:") || strings.HasPrefix(c.Text, "// +build") {
				t.Error(name, c.Text)
			}
		}
	}
}

func checkLengths(t *testing.T, name string, files *token.FileSet, file *ast.File) {
	for _, d := range file.Decls {
		if f, ok := d.(*ast.FuncDecl); ok {
			if lines := files.Position(f.End()).Line - files.Position(f.Pos()).Line + 1; lines > longest {
				t.Error(name, f.Name.Name, lines)
			}
		}
	}
}
