package tests

import (
	"go/ast"
	"go/parser"
	"go/token"
	"path/filepath"
	"slices"
	"testing"
)

// TestNoStatementReadsWhatItChanges looks at the program's text, because what a compiler makes of
// such a statement need not show that its result is left open by the language.
func TestNoStatementReadsWhatItChanges(t *testing.T) {
	files, err := filepath.Glob(filepath.Join("..", "impl", "*.go"))
	if err != nil || len(files) == 0 {
		t.Fatalf("no files of the program: %v", err)
	}
	set := token.NewFileSet()
	for _, name := range files {
		file, err := parser.ParseFile(set, name, nil, parser.SkipObjectResolution)
		if err != nil {
			t.Fatal(err)
		}
		for _, place := range changedAndRead(file) {
			t.Errorf("%s: a statement passes an address on and reads the variable, too", set.Position(place))
		}
	}
}

func TestChangedAndReadIsFound(t *testing.T) {
	cases := []struct {
		statement string
		found     int
	}{
		{"return next, execute(p, &next, token), true", 1}, {"return execute(p, &next, token), next.Pc", 1},
		{"n := next.Pc + execute(p, &next, token)", 1}, {"list[i] = take(&i)", 1}, {"show(x, take(&x))", 1},
		{"if take(&x) == x {\n}", 1}, {"for take(&x) {\nshow(x)\n}", 0}, {"var a, b = x, take(&x)", 1},
		{"written := execute(p, &next, token)", 0}, {"x = take(&x)", 0}, {"return &x", 0}, {"return x, take(&y)", 0},
		{"if take(&x) {\nshow(x)\n}", 0}, {"func() {\ntake(&x)\nshow(x)\n}()", 0}, {"both := []*int{&x.a, &x.b}", 0},
	}
	for _, c := range cases {
		file, err := parser.ParseFile(token.NewFileSet(), "", "package p\nfunc f() {\n"+c.statement+"\n}", parser.SkipObjectResolution)
		if err != nil {
			t.Fatal(err)
		}
		if got := changedAndRead(file); len(got) != c.found {
			t.Errorf("%s: found %d times", c.statement, len(got))
		}
	}
}

// changedAndRead are the places of statements that pass the address of a variable on to a call and name it elsewhere.
func changedAndRead(file *ast.File) []token.Pos {
	var places []token.Pos
	ast.Inspect(file, func(n ast.Node) bool {
		statement, ok := n.(ast.Stmt)
		if !ok {
			return true
		}
		var changed, read []string
		for _, part := range partsOf(statement) {
			lookAt(part, false, &changed, &read)
		}
		if slices.ContainsFunc(changed, func(name string) bool { return slices.Contains(read, name) }) {
			places = append(places, statement.Pos())
		}
		return true
	})
	return places
}

// partsOf are the expressions of a statement that are evaluated together.
// A variable that is set is no part, as it is set after all of them.
func partsOf(statement ast.Stmt) []ast.Expr {
	switch s := statement.(type) {
	case *ast.ReturnStmt:
		return s.Results
	case *ast.ExprStmt:
		return []ast.Expr{s.X}
	case *ast.SendStmt:
		return []ast.Expr{s.Chan, s.Value}
	case *ast.IfStmt:
		return []ast.Expr{s.Cond}
	case *ast.ForStmt:
		return []ast.Expr{s.Cond}
	case *ast.SwitchStmt:
		return []ast.Expr{s.Tag}
	case *ast.RangeStmt:
		return []ast.Expr{s.X}
	case *ast.AssignStmt:
		parts := slices.Clone(s.Rhs)
		for _, left := range s.Lhs {
			if _, plain := left.(*ast.Ident); !plain {
				parts = append(parts, left)
			}
		}
		return parts
	case *ast.DeclStmt:
		return valuesOf(s.Decl.(*ast.GenDecl))
	}
	return nil
}

func valuesOf(d *ast.GenDecl) []ast.Expr {
	var values []ast.Expr
	for _, spec := range d.Specs {
		if v, ok := spec.(*ast.ValueSpec); ok {
			values = append(values, v.Values...)
		}
	}
	return values
}

// lookAt collects names; a function literal has statements of its own.
func lookAt(part ast.Expr, called bool, changed, read *[]string) {
	if part == nil {
		return
	}
	ast.Inspect(part, func(n ast.Node) bool {
		switch x := n.(type) {
		case *ast.FuncLit:
			return false
		case *ast.SelectorExpr:
			lookAt(x.X, called, changed, read)
			return false
		case *ast.CallExpr:
			lookAt(x.Fun, called, changed, read)
			for _, argument := range x.Args {
				lookAt(argument, true, changed, read)
			}
			return false
		case *ast.UnaryExpr:
			if x.Op == token.AND {
				if name := rootOf(x.X); name != "" && called {
					*changed = append(*changed, name)
				}
				return false
			}
		case *ast.Ident:
			*read = append(*read, x.Name)
		}
		return true
	})
}

// rootOf is the variable that an addressed part belongs to.
func rootOf(e ast.Expr) string {
	for {
		switch x := e.(type) {
		case *ast.Ident:
			return x.Name
		case *ast.SelectorExpr:
			e = x.X
		case *ast.IndexExpr:
			e = x.X
		case *ast.ParenExpr:
			e = x.X
		default:
			return ""
		}
	}
}
