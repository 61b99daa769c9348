package engine

import (
	"go/ast"
	"go/parser"
	"go/token"
	"testing"
)

// withFunction returns the names of a file's structs that have a field whose type is a function.
func withFunction(file *ast.File) map[string]bool {
	names := map[string]bool{}
	ast.Inspect(file, func(n ast.Node) bool {
		spec, ok := n.(*ast.TypeSpec)
		if !ok {
			return true
		}
		if s, ok := spec.Type.(*ast.StructType); ok {
			for _, f := range s.Fields.List {
				if _, ok := f.Type.(*ast.FuncType); ok {
					names[spec.Name.Name] = true
				}
			}
		}
		return true
	})
	return names
}

// listsIn returns the elements of each list literal in a function whose elements' type has one of the names.
func listsIn(file *ast.File, function string, names map[string]bool) [][]ast.Expr {
	var out [][]ast.Expr
	for _, d := range file.Decls {
		f, ok := d.(*ast.FuncDecl)
		if !ok || f.Name.Name != function {
			continue
		}
		ast.Inspect(f, func(n ast.Node) bool {
			if c, ok := n.(*ast.CompositeLit); ok {
				if a, ok := c.Type.(*ast.ArrayType); ok {
					if of, ok := a.Elt.(*ast.Ident); ok && names[of.Name] {
						out = append(out, c.Elts)
					}
				}
			}
			return true
		})
	}
	return out
}

// isSelected reports whether a struct's literal has a field x.y, not called, such as a method value.
func isSelected(e ast.Expr) bool {
	c, ok := e.(*ast.CompositeLit)
	if !ok {
		return false
	}
	for _, v := range c.Elts {
		if pair, ok := v.(*ast.KeyValueExpr); ok {
			v = pair.Value
		}
		if _, ok := v.(*ast.SelectorExpr); ok {
			return true
		}
	}
	return false
}

// TestCheckpointSteps: section 'Ways' of DOC.md for layer 15: the steps of a checkpoint are a list, each one's function in a field, the last one's a method value. No call can tell that, so the test looks at the text.
func TestCheckpointSteps(t *testing.T) {
	file, err := parser.ParseFile(token.NewFileSet(), "engine.go", nil, 0)
	if err != nil {
		t.Fatal(err)
	}
	lists := listsIn(file, "Checkpoint", withFunction(file))
	if len(lists) != 1 {
		t.Fatalf("Ways, layer 15: Checkpoint has %d lists of steps with a function in a field, want 1", len(lists))
	}
	steps := lists[0]
	if len(steps) < 2 {
		t.Fatalf("Ways, layer 15: Checkpoint has %d steps in its list, want all of them", len(steps))
	}
	if !isSelected(steps[len(steps)-1]) {
		t.Error("Ways, layer 15: the last step of a Checkpoint is no method value")
	}
}
