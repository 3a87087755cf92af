package tests

import (
	"bytes"
	"go/format"
	"go/parser"
	"go/token"
	"os"
	"path/filepath"
	"strconv"
	"strings"
	"testing"
)

const allowedImports = " bytes cmp container/heap errors iter maps math math/big math/bits slices sort strconv strings sync sync/atomic unicode unicode/utf8 "

func programFiles(t *testing.T) []string {
	t.Helper()
	files, err := filepath.Glob("../impl/*")
	if err != nil || len(files) == 0 {
		t.Fatalf("no program: %v", err)
	}
	return files
}

func TestProgramImports(t *testing.T) {
	for _, name := range programFiles(t) {
		if !strings.HasSuffix(name, ".go") {
			t.Errorf("%s: no Go file", name)
			continue
		}
		file, err := parser.ParseFile(token.NewFileSet(), name, nil, parser.ImportsOnly)
		if err != nil {
			t.Fatal(err)
		}
		for _, i := range file.Imports {
			path, _ := strconv.Unquote(i.Path.Value)
			if !strings.Contains(allowedImports, " "+path+" ") {
				t.Errorf("%s imports %s", name, path)
			}
		}
	}
}

func TestProgramLayout(t *testing.T) {
	for _, name := range programFiles(t) {
		text, err := os.ReadFile(name)
		if err != nil {
			t.Fatal(err)
		}
		laid, err := format.Source(text)
		if err != nil {
			t.Fatal(err)
		}
		if !bytes.Equal(text, laid) {
			t.Errorf("%s: not in gofmt's layout", name)
		}
	}
}
