package console

import (
	"go/parser"
	"go/token"
	"path/filepath"
	"slices"
	"strconv"
	"strings"
	"testing"
)

// imports are the project's packages that a package's files call, its tests' not.
func imports(t *testing.T, pack string) []string {
	t.Helper()
	files, _ := filepath.Glob(filepath.Join("..", pack, "*.go"))
	if len(files) == 0 {
		t.Fatalf("no file of package %s", pack)
	}
	var l []string
	for _, name := range files {
		if strings.HasSuffix(name, "_test.go") {
			continue
		}
		f, err := parser.ParseFile(token.NewFileSet(), name, nil, parser.ImportsOnly)
		if err != nil {
			t.Fatal(err)
		}
		for _, i := range f.Imports {
			path, _ := strconv.Unquote(i.Path.Value)
			if called, ok := strings.CutPrefix(path, "garner/"); ok {
				l = append(l, called)
			}
		}
	}
	return l
}

// TestMap: each layer calls those that DOC.md's map, or its chapter, names for it, and package api.
func TestMap(t *testing.T) { // DOC.md, 'The map'
	layers := strings.Fields("wire crc disk cells tasks epoch tid slice perm version node tree row record log catalog txn snap logger ckpt recover model judge store script console")
	named := [][]int{
		5: {3, 4}, 6: {5, 7}, 11: {5, 8, 9, 10}, 12: {5, 8, 9, 10, 11}, 13: {1}, 14: {5, 7, 13}, 15: {1, 2, 13},
		16: {8, 13}, // The map names 13 alone, its chapter slice, too.
		17: {5, 6, 7, 12, 13, 14, 15, 16}, 18: {5, 6, 7, 12, 13, 14, 16}, 19: {5, 6, 15}, 20: {5, 15, 18}, 21: {3, 15, 16}, 22: {13, 16}, 23: {13, 16, 22},
		24: {3, 4, 5, 6, 7, 12, 13, 14, 15, 16, 17, 18, 19, 20, 21}, 25: {13, 15, 16}, 26: {21, 23, 24, 25},
	}
	for i, pack := range layers {
		may := []string{"api"}
		for _, n := range named[i+1] {
			may = append(may, layers[n-1])
		}
		for _, called := range imports(t, pack) {
			if !slices.Contains(may, called) {
				t.Errorf("layer %d, %s, calls %s", i+1, pack, called)
			}
		}
	}
	for _, i := range imports(t, "api") {
		t.Errorf("package api calls %s", i)
	}
}
