package frame

import (
	"go/ast"
	"go/parser"
	"go/token"
	"path/filepath"
	"slices"
	"strconv"
	"strings"
	"testing"
)

const module = "yardarm/"

// layers are the packages in the document's order: the layer n stands at the place n less 1.
var layers = strings.Fields("digit lex order bits graph scc topo path level names history line format print rules index match ww wr rw depend mixing dirty verdict proof session guard ceiling infer blame query report")

// library is what the program may take of Go's library: the language's list, without what the document rules out.
var library = strings.Fields("bytes cmp errors iter maps math math/bits slices sort strconv strings sync sync/atomic unicode unicode/utf8")

// calls tells, as in the document's map, which layers a layer calls besides api.
func calls() map[string][]int {
	return map[string][]int{
		"digit": {}, "lex": {1}, "order": {}, "bits": {}, "graph": {3}, "scc": {4, 5}, "topo": {5}, "path": {4, 5, 6},
		"level": {}, "names": {2}, "history": {2, 9}, "line": {1, 2, 9, 10}, "format": {10, 11, 12}, "print": {11, 12},
		"rules": {11}, "index": {11, 15}, "match": {16}, "ww": {3, 16}, "wr": {16, 17}, "rw": {3, 16, 17, 18},
		"depend": {5, 16, 18, 19, 20}, "mixing": {5, 9, 16, 21}, "dirty": {9, 16}, "verdict": {7, 8, 16, 22, 23},
		"proof": {16, 21, 22, 23}, "session": {16}, "guard": {9, 16, 26}, "ceiling": {5, 6, 9, 21, 22, 23, 24},
		"infer": {5, 7, 9, 16, 21, 22, 23}, "blame": {5, 6, 16, 21, 22, 23, 24}, "query": {2, 9, 10},
		"report": {1, 9, 11, 13, 14, 15, 16, 22, 24, 27, 28, 29, 30, 31},
	}
}

// sources tells a package's files but its tests.
func sources(t *testing.T, pack string) []*ast.File {
	t.Helper()
	paths, err := filepath.Glob(filepath.Join("..", pack, "*.go"))
	if err != nil {
		t.Fatal(err)
	}
	var files []*ast.File
	for _, path := range paths {
		if strings.HasSuffix(path, "_test.go") {
			continue
		}
		file, err := parser.ParseFile(token.NewFileSet(), path, nil, parser.ParseComments)
		if err != nil {
			t.Fatal(err)
		}
		files = append(files, file)
	}
	if len(files) == 0 {
		t.Errorf("package %s has no files", pack)
	}
	return files
}

// imports tells the paths that a package's files import.
func imports(t *testing.T, pack string) []string {
	t.Helper()
	var all []string
	for _, file := range sources(t, pack) {
		for _, spec := range file.Imports {
			path, err := strconv.Unquote(spec.Path.Value)
			if err != nil {
				t.Fatal(err)
			}
			all = append(all, path)
		}
	}
	return all
}

// program tells the layers, and all other packages of the project that they come to, but api, which is given.
func program(t *testing.T) []string {
	t.Helper()
	all := slices.Clone(layers)
	for at := 0; at < len(all); at++ {
		for _, path := range imports(t, all[at]) {
			pack, own := strings.CutPrefix(path, module)
			if own && pack != "api" && !slices.Contains(all, pack) {
				all = append(all, pack)
			}
		}
	}
	return all
}

// Of the library only what the language's rules name, and nothing from outside.
func TestLibrary(t *testing.T) {
	for _, pack := range program(t) {
		for _, path := range imports(t, pack) {
			if !strings.HasPrefix(path, module) && !slices.Contains(library, path) {
				t.Errorf("package %s imports %s", pack, path)
			}
		}
	}
}

// A layer calls, of the layers, those alone that the document's map names.
func TestLayers(t *testing.T) {
	may := calls()
	for _, pack := range layers {
		for _, path := range imports(t, pack) {
			other := slices.Index(layers, strings.TrimPrefix(path, module))
			if strings.HasPrefix(path, module) && other >= 0 && !slices.Contains(may[pack], other+1) {
				t.Errorf("layer %s imports layer %s", pack, layers[other])
			}
		}
	}
}

// Nothing runs beside anything else, and no line speaks to the tools.
func TestPlain(t *testing.T) {
	for _, pack := range program(t) {
		for _, file := range sources(t, pack) {
			ast.Inspect(file, func(n ast.Node) bool {
				switch x := n.(type) {
				case *ast.GoStmt:
					t.Errorf("package %s starts a goroutine", pack)
				case *ast.Comment:
					if strings.HasPrefix(x.Text, "//go:") || strings.HasPrefix(x.Text, "// +build") {
						t.Errorf("package %s has %s", pack, x.Text)
					}
				}
				return true
			})
		}
	}
}
