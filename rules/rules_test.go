// Package rules holds the project's files against the rules of the language and of the layers.
package rules

import (
	"bytes"
	"go/ast"
	"go/format"
	"go/parser"
	"go/token"
	"io/fs"
	"os"
	"path/filepath"
	"slices"
	"strconv"
	"strings"
	"testing"
)

const longest = 60

var library = []string{"bytes", "cmp", "container/heap", "errors", "iter", "maps", "math", "math/bits", "slices", "sort", "strconv", "strings", "sync", "sync/atomic", "unicode", "unicode/utf8"}

// layers stand in their order: a package may call those ahead of it.
var layers = []string{"api", "arith", "heap", "iso", "lex", "tree", "parse", "show", "check", "sem", "ir", "lower", "live", "interp", "profile", "cache", "trace", "snap", "record", "fold", "guards", "reads", "dead", "virt", "tvm", "driver", "forth", "scheme", "engine"}

type source struct {
	folder string
	path   string
	text   []byte
	file   *ast.File
	set    *token.FileSet
}

// programFiles are the module's Go files that are no tests.
func programFiles(t *testing.T) []source {
	t.Helper()
	var l []source
	err := filepath.WalkDir("..", func(path string, entry fs.DirEntry, err error) error {
		if err != nil {
			return err
		}
		if entry.IsDir() && (entry.Name() == ".git" || entry.Name() == "sharedtests") {
			return filepath.SkipDir
		}
		if entry.IsDir() || !strings.HasSuffix(path, ".go") || strings.HasSuffix(path, "_test.go") {
			return nil
		}
		text, err := os.ReadFile(path)
		if err != nil {
			return err
		}
		set := token.NewFileSet()
		file, err := parser.ParseFile(set, path, text, parser.ParseComments)
		l = append(l, source{filepath.Base(filepath.Dir(path)), path, text, file, set})
		return err
	})
	if err != nil || len(l) == 0 {
		t.Fatal(len(l), "files are read:", err)
	}
	return l
}

func TestEveryLayerIsThere(t *testing.T) {
	there := map[string]int{}
	for _, s := range programFiles(t) {
		there[s.folder]++
	}
	for _, layer := range layers {
		if there[layer] == 0 {
			t.Error("there is no package", layer)
		}
	}
}

// mayImport tells whether a package of that folder may import that path.
func mayImport(folder, path string) bool {
	name, own := strings.CutPrefix(path, "swath/")
	if !own {
		return slices.Contains(library, path)
	}
	at, called := slices.Index(layers, folder), slices.Index(layers, name)
	return at < 0 || called < at
}

func TestImports(t *testing.T) {
	for _, s := range programFiles(t) {
		for _, spec := range s.file.Imports {
			path, err := strconv.Unquote(spec.Path.Value)
			if err != nil || !mayImport(s.folder, path) {
				t.Error(s.path, "imports", spec.Path.Value)
			}
		}
	}
}

func TestNoDirectives(t *testing.T) {
	for _, s := range programFiles(t) {
		for _, group := range s.file.Comments {
			for _, remark := range group.List {
				if strings.HasPrefix(remark.Text, "//go:") || strings.HasPrefix(remark.Text, "// +build") {
					t.Error(s.path, remark.Text)
				}
			}
		}
	}
}

func TestShortFunctions(t *testing.T) {
	for _, s := range programFiles(t) {
		for _, decl := range s.file.Decls {
			f, ok := decl.(*ast.FuncDecl)
			if !ok {
				continue
			}
			if lines := s.set.Position(f.End()).Line - s.set.Position(f.Pos()).Line + 1; lines > longest {
				t.Error(s.path, f.Name.Name, "has", lines, "lines")
			}
		}
	}
}

func TestLayout(t *testing.T) {
	for _, s := range programFiles(t) {
		if want, err := format.Source(s.text); err != nil || !bytes.Equal(want, s.text) {
			t.Error(s.path, "is not laid out as gofmt does it", err)
		}
	}
}
