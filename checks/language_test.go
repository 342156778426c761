package checks

import (
	"bytes"
	"go/ast"
	"go/format"
	"go/parser"
	"go/token"
	"os"
	"path/filepath"
	"slices"
	"strconv"
	"strings"
	"testing"
)

// layers: the packages by their layers' numbers, from 1 on; api stands below them all.
var layers = strings.Fields("api wide real pair bucket ranks gate word ticket phaser label slab pool snap recorder registry expo scrape telem drive linear ring rules alarm lines")

// library: what the program may use of Go's library.
var library = strings.Fields("bytes cmp container/heap errors iter maps math math/big math/bits slices sort strconv strings sync sync/atomic unicode unicode/utf8")

const longestFunction = 60

// source is a file of the program's.
type source struct {
	path, pack string
	text       []byte
	set        *token.FileSet
	tree       *ast.File
}

// sources tells all Go files of the program's packages, tests left out.
func sources(t *testing.T) []source {
	t.Helper()
	paths, err := filepath.Glob("../*/*.go")
	if err != nil {
		t.Fatal(err)
	}
	var all []source
	for _, path := range paths {
		pack := filepath.Base(filepath.Dir(path))
		if pack == "sharedtests" || strings.HasSuffix(path, "_test.go") {
			continue
		}
		s := source{path: path, pack: pack, set: token.NewFileSet()}
		if s.text, err = os.ReadFile(path); err != nil {
			t.Fatal(err)
		}
		if s.tree, err = parser.ParseFile(s.set, path, s.text, parser.ParseComments); err != nil {
			t.Fatal(err)
		}
		all = append(all, s)
	}
	return all
}

// imports tells what a file imports.
func (s source) imports(t *testing.T) []string {
	t.Helper()
	var all []string
	for _, i := range s.tree.Imports {
		path, err := strconv.Unquote(i.Path.Value)
		if err != nil {
			t.Fatal(err)
		}
		all = append(all, path)
	}
	return all
}

func TestEveryLayerIsThere(t *testing.T) {
	there := map[string]bool{}
	for _, s := range sources(t) {
		there[s.tree.Name.Name] = s.tree.Name.Name == s.pack
	}
	for _, layer := range layers {
		if !there[layer] {
			t.Errorf("no package %s in the folder %s", layer, layer)
		}
	}
}

// height tells a layer's number; of a package that is none, that of the highest layer that it stands on.
func height(pack string, imports map[string][]string) int {
	if layer := slices.Index(layers, pack); layer >= 0 {
		return layer
	}
	highest := 0
	for _, path := range imports[pack] {
		if own, ok := strings.CutPrefix(path, "gnomon/"); ok {
			highest = max(highest, height(own, imports))
		}
	}
	return highest
}

func TestImports(t *testing.T) {
	imports := map[string][]string{}
	for _, s := range sources(t) {
		imports[s.pack] = append(imports[s.pack], s.imports(t)...)
	}
	for pack, paths := range imports {
		for _, path := range paths {
			own, isOwn := strings.CutPrefix(path, "gnomon/")
			if !isOwn && !slices.Contains(library, path) {
				t.Errorf("%s imports %s, which the language rules out", pack, path)
			}
			if isOwn && slices.Contains(layers, pack) && height(own, imports) >= height(pack, imports) {
				t.Errorf("%s imports %s, which is no layer below it, or stands on one that isn't", pack, path)
			}
		}
	}
}

func TestNoLinesForTheCompiler(t *testing.T) {
	for _, s := range sources(t) {
		for _, group := range s.tree.Comments {
			for _, c := range group.List {
				if strings.HasPrefix(c.Text, "//go:") || strings.HasPrefix(c.Text, "// +build") {
					t.Errorf("%s: %s", s.set.Position(c.Pos()), c.Text)
				}
			}
		}
	}
}

func TestLayoutIsThatOfGofmt(t *testing.T) {
	for _, s := range sources(t) {
		if want, err := format.Source(s.text); err != nil || !bytes.Equal(s.text, want) {
			t.Errorf("%s isn't laid out as gofmt does it (%v)", s.path, err)
		}
	}
}

func TestFunctionsAreShort(t *testing.T) {
	for _, s := range sources(t) {
		for _, d := range s.tree.Decls {
			f, ok := d.(*ast.FuncDecl)
			if !ok {
				continue
			}
			from, to := s.set.Position(f.Pos()), s.set.Position(f.End())
			if n := to.Line - from.Line + 1; n > longestFunction {
				t.Errorf("%s: %s has %d lines", from, f.Name.Name, n)
			}
		}
	}
}

func TestGoFilesAlone(t *testing.T) {
	for _, layer := range layers {
		files, err := os.ReadDir(filepath.Join("..", layer))
		if err != nil {
			t.Fatal(err)
		}
		for _, f := range files {
			if f.IsDir() || !strings.HasSuffix(f.Name(), ".go") {
				t.Errorf("%s/%s is no Go file", layer, f.Name())
			}
		}
	}
}
