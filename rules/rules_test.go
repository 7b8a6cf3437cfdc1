// Package rules has tests of the program's form: what its packages import, and how they are written.
package rules

import (
	"bytes"
	"go/ast"
	"go/format"
	"go/parser"
	"go/token"
	"io/fs"
	"os"
	"path/filepath"
	"slices"
	"strconv"
	"strings"
	"testing"
)

const (
	root      = ".."
	mostLines = 60
)

// layers stand in the order of the document's map: a layer may import those ahead of it, and api.
var layers = []string{"block", "codec", "wal", "pager", "tree", "table", "hash", "seal", "keys", "cred", "session", "token", "grant", "audit", "authority", "proto"}

var library = []string{"bytes", "cmp", "container/heap", "errors", "iter", "maps", "math", "math/bits", "slices", "sort", "strconv", "strings", "sync", "sync/atomic", "unicode", "unicode/utf8"}

// programFiles are the Go files of the program, without tests, by their paths from the root on.
func programFiles(t *testing.T) []string {
	t.Helper()
	var files []string
	err := filepath.WalkDir(root, func(path string, d fs.DirEntry, err error) error {
		if err != nil {
			return err
		}
		if d.IsDir() {
			if d.Name() == "sharedtests" || strings.HasPrefix(d.Name(), ".") && path != root {
				return filepath.SkipDir
			}
			return nil
		}
		if strings.HasSuffix(path, ".go") && !strings.HasSuffix(path, "_test.go") {
			files = append(files, path)
		}
		return nil
	})
	if err != nil || len(files) <= len(layers) {
		t.Fatal(files, err)
	}
	return files
}

func parse(t *testing.T, path string) (*token.FileSet, *ast.File, []byte) {
	t.Helper()
	text, err := os.ReadFile(path)
	if err != nil {
		t.Fatal(err)
	}
	set := token.NewFileSet()
	file, err := parser.ParseFile(set, path, text, parser.ParseComments)
	if err != nil {
		t.Fatal(err)
	}
	return set, file, text
}

// mayImport tells whether a package of the program may import a path; api, and packages that are no layers, have no place in the order.
func mayImport(name, path string) bool {
	own, isOwn := strings.CutPrefix(path, "holdfast/")
	if !isOwn {
		return slices.Contains(library, path)
	}
	from, to := slices.Index(layers, name), slices.Index(layers, own)
	return from < 0 || to < 0 || to < from
}

func TestLayersAreAllThere(t *testing.T) {
	for _, name := range append([]string{"api"}, layers...) {
		if found, _ := filepath.Glob(filepath.Join(root, name, "*.go")); len(found) == 0 {
			t.Errorf("package %s is not there", name)
		}
	}
}

func TestImports(t *testing.T) {
	for _, path := range programFiles(t) {
		_, file, _ := parse(t, path)
		for _, spec := range file.Imports {
			if name, _ := strconv.Unquote(spec.Path.Value); !mayImport(file.Name.Name, name) {
				t.Errorf("%s imports %s", path, name)
			}
		}
	}
}

func TestLayout(t *testing.T) {
	for _, path := range programFiles(t) {
		_, _, text := parse(t, path)
		if laid, err := format.Source(text); err != nil || !bytes.Equal(laid, text) {
			t.Errorf("%s is not laid out as gofmt does", path)
		}
	}
}

func TestNoDirectives(t *testing.T) {
	for _, path := range programFiles(t) {
		_, file, _ := parse(t, path)
		for _, group := range file.Comments {
			for _, comment := range group.List {
				if strings.HasPrefix(comment.Text, "//go:") || strings.HasPrefix(comment.Text, "// +build") {
					t.Errorf("%s: %s", path, comment.Text)
				}
			}
		}
	}
}

func TestFunctionsAreShort(t *testing.T) {
	for _, path := range programFiles(t) {
		set, file, _ := parse(t, path)
		for _, declared := range file.Decls {
			f, ok := declared.(*ast.FuncDecl)
			if ok && set.Position(f.End()).Line-set.Position(f.Pos()).Line >= mostLines {
				t.Errorf("%s: function %s has more than %d lines", path, f.Name.Name, mostLines)
			}
		}
	}
}
