// Package language holds the program to the rules of shared/LANGUAGE.md that its text shows.
package language

import (
	"bytes"
	"go/ast"
	"go/format"
	"go/parser"
	"go/token"
	"os"
	"path/filepath"
	"slices"
	"strconv"
	"strings"
	"testing"
)

// allowed: what the program may import of the library.
var allowed = []string{"bytes", "cmp", "container/heap", "errors", "iter", "maps", "math", "math/bits", "slices", "sort", "strconv", "strings", "sync", "sync/atomic", "unicode", "unicode/utf8"}

// longest is how many lines a function has at most.
const longest = 60

// foreign: is a folder none of the program's? A check may lay folders of these names beside it.
func foreign(folder string) bool {
	return folder == "sharedtests" || folder == "form" || folder == "try" || strings.HasPrefix(folder, "gabion")
}

// eachFile calls by with each Go file of the program, its tests aside.
func eachFile(t *testing.T, by func(path string, text []byte, set *token.FileSet, file *ast.File)) {
	paths, err := filepath.Glob("../*/*.go")
	if err != nil || len(paths) == 0 {
		t.Fatal("no files:", err)
	}
	for _, path := range paths {
		if strings.HasSuffix(path, "_test.go") || foreign(filepath.Base(filepath.Dir(path))) {
			continue
		}
		text, err := os.ReadFile(path)
		if err != nil {
			t.Fatal(err)
		}
		set := token.NewFileSet()
		file, err := parser.ParseFile(set, path, text, parser.ParseComments)
		if err != nil {
			t.Fatal(err)
		}
		by(path, text, set, file)
	}
}

// Rule 1: what is imported.
func TestImports(t *testing.T) {
	eachFile(t, func(path string, text []byte, set *token.FileSet, file *ast.File) {
		for _, x := range file.Imports {
			name, _ := strconv.Unquote(x.Path.Value)
			if !slices.Contains(allowed, name) && !strings.HasPrefix(name, "gabion/") {
				t.Error(path, "imports", name)
			}
		}
		if bytes.Contains(text, []byte("iter.Pull")) {
			t.Error(path, "pulls from an iterator")
		}
	})
}

// Rule 2: no other files beside the Go files, no lines for the compiler, no printing.
func TestNothingButGo(t *testing.T) {
	eachFile(t, func(path string, _ []byte, _ *token.FileSet, file *ast.File) {
		for _, g := range file.Comments {
			for _, c := range g.List {
				if strings.HasPrefix(c.Text, "//go:") || strings.HasPrefix(c.Text, "// +build") || strings.HasPrefix(c.Text, "//line") {
					t.Error(path, c.Text)
				}
			}
		}
		ast.Inspect(file, func(n ast.Node) bool {
			if c, ok := n.(*ast.CallExpr); ok {
				if f, ok := c.Fun.(*ast.Ident); ok && (f.Name == "print" || f.Name == "println") {
					t.Error(path, "prints")
				}
			}
			return true
		})
		beside, err := os.ReadDir(filepath.Dir(path))
		if err != nil {
			t.Fatal(err)
		}
		for _, f := range beside {
			if !strings.HasSuffix(f.Name(), ".go") {
				t.Error(path, "stands beside", f.Name())
			}
		}
	})
}

// Rule 3: a text that is written out isn't made runes.
func TestNoTextsMadeRunes(t *testing.T) {
	eachFile(t, func(path string, _ []byte, _ *token.FileSet, file *ast.File) {
		ast.Inspect(file, func(n ast.Node) bool {
			c, ok := n.(*ast.CallExpr)
			if !ok || len(c.Args) != 1 {
				return true
			}
			list, ok := c.Fun.(*ast.ArrayType)
			if !ok {
				return true
			}
			of, ok := list.Elt.(*ast.Ident)
			text, is := c.Args[0].(*ast.BasicLit)
			if ok && is && text.Kind == token.STRING && (of.Name == "rune" || of.Name == "int32") {
				t.Error(path, "makes runes of", text.Value)
			}
			return true
		})
	})
}

// Rule 3: what comes in to a function that others call is asked for its type by inner functions alone.
func TestTypesAskedWithin(t *testing.T) {
	eachFile(t, func(path string, _ []byte, _ *token.FileSet, file *ast.File) {
		for _, d := range file.Decls {
			f, ok := d.(*ast.FuncDecl)
			if !ok || !f.Name.IsExported() || f.Body == nil {
				continue
			}
			var comes []string
			for _, x := range f.Type.Params.List {
				for _, n := range x.Names {
					comes = append(comes, n.Name)
				}
			}
			ast.Inspect(f.Body, func(n ast.Node) bool {
				if x, ok := n.(*ast.TypeAssertExpr); ok {
					if of, ok := x.X.(*ast.Ident); ok && slices.Contains(comes, of.Name) {
						t.Error(path, f.Name.Name, "asks", of.Name, "for its type")
					}
				}
				return true
			})
		}
	})
}

// Rule 3c: what is asked whether it is another interface is used as that only where it is.
func TestInterfacesAskedWithin(t *testing.T) {
	faces := map[string]bool{}
	eachFile(t, func(_ string, _ []byte, _ *token.FileSet, file *ast.File) {
		ast.Inspect(file, func(n ast.Node) bool {
			if x, ok := n.(*ast.TypeSpec); ok {
				if _, ok := x.Type.(*ast.InterfaceType); ok {
					faces[x.Name.Name] = true
				}
			}
			return true
		})
	})
	eachFile(t, func(path string, _ []byte, _ *token.FileSet, file *ast.File) {
		held := map[*ast.TypeAssertExpr]bool{}
		ast.Inspect(file, func(n ast.Node) bool {
			switch x := n.(type) {
			case *ast.IfStmt:
				held[askedIn(x)] = true
			case *ast.TypeAssertExpr:
				if x.Type != nil && faces[lastName(x.Type)] && !held[x] {
					t.Error(path, "uses a", lastName(x.Type), "where it may be none")
				}
			}
			return true
		})
	})
}

// askedIn: the assertion of an if of the form "if v, ok := x.(T); ok {}"; nil: it is of another one.
func askedIn(x *ast.IfStmt) *ast.TypeAssertExpr {
	set, ok := x.Init.(*ast.AssignStmt)
	if !ok || len(set.Lhs) != 2 || len(set.Rhs) != 1 || x.Else != nil || lastName(x.Cond) == "" || lastName(x.Cond) != lastName(set.Lhs[1]) {
		return nil
	}
	a, _ := set.Rhs[0].(*ast.TypeAssertExpr)
	return a
}

// lastName: a name, its package's aside; "": it is none.
func lastName(x ast.Expr) string {
	switch x := x.(type) {
	case *ast.Ident:
		return x.Name
	case *ast.SelectorExpr:
		return x.Sel.Name
	}
	return ""
}

// Rules 3a, 3b: what stands at package level: constants, errors and short tables whose values are written out.
func TestPackageLevel(t *testing.T) {
	eachFile(t, func(path string, _ []byte, _ *token.FileSet, file *ast.File) {
		for _, d := range file.Decls {
			switch x := d.(type) {
			case *ast.FuncDecl:
				if x.Recv == nil && x.Name.Name == "init" {
					t.Error(path, "has an init")
				}
			case *ast.GenDecl:
				if x.Tok != token.VAR {
					continue
				}
				for _, s := range x.Specs {
					if !mayStand(s.(*ast.ValueSpec)) {
						t.Error(path, "has at package level", s.(*ast.ValueSpec).Names[0].Name)
					}
				}
			}
		}
	})
}

// mayStand: is a variable's value an error of one text, or a literal that holds no map, pointer, function or call?
func mayStand(s *ast.ValueSpec) bool {
	if len(s.Values) != len(s.Names) {
		return false
	}
	for _, v := range s.Values {
		if c, ok := v.(*ast.CallExpr); ok {
			f, ok := c.Fun.(*ast.SelectorExpr)
			if !ok || f.Sel.Name != "New" || len(c.Args) != 1 {
				return false
			}
			continue
		}
		if _, ok := v.(*ast.CompositeLit); !ok {
			return false
		}
		plain := true
		ast.Inspect(v, func(n ast.Node) bool {
			switch x := n.(type) {
			case *ast.MapType, *ast.StarExpr, *ast.FuncLit, *ast.CallExpr:
				plain = false
			case *ast.UnaryExpr:
				plain = plain && x.Op != token.AND
			}
			return true
		})
		if !plain {
			return false
		}
	}
	return true
}

// Rule 9: functions of at most some 60 lines, and gofmt's layout.
func TestLayout(t *testing.T) {
	eachFile(t, func(path string, text []byte, set *token.FileSet, file *ast.File) {
		for _, d := range file.Decls {
			f, ok := d.(*ast.FuncDecl)
			if ok && set.Position(f.End()).Line-set.Position(f.Pos()).Line >= longest {
				t.Error(path, f.Name.Name, "is too long")
			}
		}
		if neat, err := format.Source(text); err != nil || !bytes.Equal(neat, text) {
			t.Error(path, "isn't in gofmt's layout")
		}
	})
}
