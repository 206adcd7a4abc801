// Package rules holds the program's own text against the rules of its language.
package rules

import (
	"bytes"
	"go/ast"
	"go/format"
	"go/parser"
	"go/token"
	"os"
	"path/filepath"
	"slices"
	"strconv"
	"strings"
	"testing"
)

const (
	root     = ".."
	mostLong = 60 // lines of a function
)

func library() []string {
	return []string{"bytes", "cmp", "container/heap", "errors", "iter", "maps", "math", "math/bits", "slices", "sort", "strconv", "strings", "sync", "sync/atomic", "unicode", "unicode/utf8"}
}

// layers: from the lowest on; each may call those ahead of it.
func layers() []string {
	return []string{"api", "num", "pack", "lex", "tree", "show", "name", "eval", "ins", "asm", "gen", "vm", "opt", "mem", "red", "plan", "chunk", "job", "fold", "dep", "arena", "ver", "attempt", "graph", "mach", "script", "image", "trace", "run", "flow", "walk"}
}

// notTheProgram: folders whose text isn't bound by the rules.
func notTheProgram(folder string) bool {
	return strings.HasPrefix(folder, ".") || folder == "sharedtests" || folder == "rules"
}

type file struct {
	folder, path string
	text         []byte
	set          *token.FileSet
	tree         *ast.File
}

// program: all files of the program's packages, and the names of what else lies in their folders.
func program(t *testing.T) ([]file, []string) {
	t.Helper()
	paths, err := filepath.Glob(filepath.Join(root, "*", "*"))
	if err != nil || len(paths) == 0 {
		t.Fatal("no files", err)
	}
	var files []file
	var others []string
	for _, path := range paths {
		folder := filepath.Base(filepath.Dir(path))
		if notTheProgram(folder) || strings.HasSuffix(path, "_test.go") {
			continue
		}
		if !strings.HasSuffix(path, ".go") {
			others = append(others, path)
			continue
		}
		f := file{folder: folder, path: path, set: token.NewFileSet()}
		if f.text, err = os.ReadFile(path); err != nil {
			t.Fatal(err)
		}
		if f.tree, err = parser.ParseFile(f.set, path, f.text, parser.ParseComments); err != nil {
			t.Fatal(err)
		}
		files = append(files, f)
	}
	return files, others
}

func TestImports(t *testing.T) {
	files, _ := program(t)
	for _, f := range files {
		for _, x := range f.tree.Imports {
			path, _ := strconv.Unquote(x.Path.Value)
			own, is := strings.CutPrefix(path, "outrider/")
			if !is {
				if !slices.Contains(library(), path) {
					t.Errorf("%s imports %s", f.path, path)
				}
				continue
			}
			place, other := slices.Index(layers(), f.folder), slices.Index(layers(), own)
			if place >= 0 && other >= place {
				t.Errorf("%s imports %s, which isn't below it", f.path, path)
			}
		}
	}
}

func TestOnlyGoFiles(t *testing.T) {
	_, others := program(t)
	for _, path := range others {
		t.Errorf("%s is no Go file", path)
	}
}

func TestLayout(t *testing.T) {
	files, _ := program(t)
	for _, f := range files {
		if want, err := format.Source(f.text); err != nil || !bytes.Equal(want, f.text) {
			t.Errorf("%s isn't laid out as gofmt does", f.path)
		}
		for _, group := range f.tree.Comments {
			for _, c := range group.List {
				if strings.HasPrefix(c.Text, "//go:") || strings.HasPrefix(c.Text, "// +build") {
					t.Errorf("%s: %s", f.path, c.Text)
				}
			}
		}
	}
}

func TestFunctionsAreShort(t *testing.T) {
	files, _ := program(t)
	for _, f := range files {
		for _, d := range f.tree.Decls {
			x, is := d.(*ast.FuncDecl)
			if !is {
				continue
			}
			if long := f.set.Position(x.End()).Line - f.set.Position(x.Pos()).Line + 1; long > mostLong {
				t.Errorf("%s: %s has %d lines", f.path, x.Name.Name, long)
			}
		}
	}
}
