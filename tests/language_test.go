package tests

import (
	"bytes"
	"go/ast"
	"go/format"
	"go/parser"
	"go/token"
	"os"
	"path/filepath"
	"slices"
	"strconv"
	"strings"
	"testing"
)

const mostLines = 60

var libraryAllowed = []string{
	"bytes", "cmp", "container/heap", "errors", "iter", "maps", "math", "math/bits", "slices", "sort", "strconv",
	"strings", "sync", "sync/atomic", "unicode", "unicode/utf8",
}

var syncAllowed = []string{"Mutex", "RWMutex", "WaitGroup", "Once"}

// TestLanguage holds the program's files to what of the language page a look at the text can tell.
func TestLanguage(t *testing.T) {
	entries, err := os.ReadDir(filepath.Join("..", "impl"))
	if err != nil {
		t.Fatal(err)
	}
	seen := 0
	for _, entry := range entries {
		name := entry.Name()
		if strings.HasSuffix(name, "_test.go") {
			continue
		}
		if entry.IsDir() || !strings.HasSuffix(name, ".go") {
			t.Errorf("impl/%s is no Go file", name)
			continue
		}
		text, err := os.ReadFile(filepath.Join("..", "impl", name))
		if err != nil {
			t.Fatal(err)
		}
		seen++
		for _, fault := range languageFaults(text) {
			t.Errorf("impl/%s: %s", name, fault)
		}
	}
	if seen == 0 {
		t.Error("impl has no Go file")
	}
}

func TestFolders(t *testing.T) {
	entries, err := os.ReadDir("..")
	if err != nil {
		t.Fatal(err)
	}
	for _, entry := range entries {
		// .git belongs to the checkout, sharedtests to the copy that .ci/run makes.
		if entry.IsDir() && !slices.Contains([]string{"impl", "tests", ".ci", ".git", "sharedtests"}, entry.Name()) {
			t.Errorf("the project has no folder %s", entry.Name())
		}
	}
}

func languageFaults(text []byte) []string {
	fset := token.NewFileSet()
	file, err := parser.ParseFile(fset, "program.go", text, parser.ParseComments)
	if err != nil {
		return []string{err.Error()}
	}
	faults := layoutFaults(text)
	faults = append(faults, importFaults(file)...)
	faults = append(faults, commentFaults(file)...)
	for _, decl := range file.Decls {
		switch d := decl.(type) {
		case *ast.FuncDecl:
			if lines := fset.Position(d.End()).Line - fset.Position(d.Pos()).Line + 1; lines > mostLines {
				faults = append(faults, d.Name.Name+" has "+strconv.Itoa(lines)+" lines")
			}
		case *ast.GenDecl:
			faults = append(faults, variableFaults(d)...)
		}
	}
	faults = append(faults, meansFaults(file)...)
	return append(faults, tableFaults(file)...)
}

func layoutFaults(text []byte) []string {
	laid, err := format.Source(text)
	if err != nil || !bytes.Equal(laid, text) {
		return []string{"not in gofmt's layout"}
	}
	return nil
}

func importFaults(file *ast.File) []string {
	var faults []string
	for _, i := range file.Imports {
		path, _ := strconv.Unquote(i.Path.Value)
		if !slices.Contains(libraryAllowed, path) {
			faults = append(faults, "imports "+path)
		}
		// The looks below go by the library's own names.
		if i.Name != nil {
			faults = append(faults, "gives an import another name: "+i.Name.Name)
		}
	}
	return faults
}

func commentFaults(file *ast.File) []string {
	var faults []string
	for _, group := range file.Comments {
		for _, c := range group.List {
			if strings.HasPrefix(c.Text, "//go:") || strings.HasPrefix(c.Text, "// +build") {
				faults = append(faults, "has the line "+c.Text)
			}
		}
	}
	return faults
}

func variableFaults(d *ast.GenDecl) []string {
	if d.Tok != token.VAR {
		return nil
	}
	var faults []string
	for _, s := range d.Specs {
		spec := s.(*ast.ValueSpec)
		if len(spec.Values) != len(spec.Names) {
			faults = append(faults, "package-level variable without a value of its own: "+spec.Names[0].Name)
		}
		for _, v := range spec.Values {
			faults = append(faults, startFaults(v)...)
		}
	}
	return faults
}

func startFaults(value ast.Expr) []string {
	var faults []string
	if lit, ok := value.(*ast.BasicLit); ok && (lit.Kind == token.STRING || lit.Kind == token.FLOAT) {
		faults = append(faults, "package-level variable of the value "+lit.Value)
	}
	ast.Inspect(value, func(n ast.Node) bool {
		switch x := n.(type) {
		case *ast.MapType, *ast.FuncLit, *ast.FuncType:
			faults = append(faults, "package-level map or function")
		case *ast.UnaryExpr:
			if x.Op == token.AND {
				faults = append(faults, "package-level pointer")
			}
		case *ast.CallExpr:
			if !isNamed(x.Fun, "errors", "New") {
				faults = append(faults, "package-level value made by a call")
			}
		}
		return true
	})
	return faults
}

// tableFaults tells where a variable of the package is written to, or where what it is made of gets out. It goes by names: a local one should have another.
func tableFaults(file *ast.File) []string {
	names := variableNames(file)
	var faults []string
	look := func(what string, places ...ast.Expr) {
		for _, e := range places {
			if name := rootName(e); slices.Contains(names, name) {
				faults = append(faults, what+" the package-level variable "+name)
			}
		}
	}
	ast.Inspect(file, func(n ast.Node) bool {
		switch x := n.(type) {
		case *ast.AssignStmt:
			look("assigns", x.Lhs...)
		case *ast.IncDecStmt:
			look("counts", x.X)
		case *ast.RangeStmt:
			look("ranges into", x.Key, x.Value)
		case *ast.UnaryExpr:
			if x.Op == token.AND {
				look("takes the address of", x.X)
			}
		case *ast.SliceExpr:
			look("hands out a piece of", x.X)
		}
		return true
	})
	return faults
}

func variableNames(file *ast.File) []string {
	var names []string
	for _, decl := range file.Decls {
		d, ok := decl.(*ast.GenDecl)
		if !ok || d.Tok != token.VAR {
			continue
		}
		for _, s := range d.Specs {
			for _, name := range s.(*ast.ValueSpec).Names {
				names = append(names, name.Name)
			}
		}
	}
	return names
}

// rootName is the variable of which e is a part, or e itself.
func rootName(e ast.Expr) string {
	switch x := e.(type) {
	case *ast.Ident:
		return x.Name
	case *ast.IndexExpr:
		return rootName(x.X)
	case *ast.SelectorExpr:
		return rootName(x.X)
	case *ast.ParenExpr:
		return rootName(x.X)
	}
	return ""
}

func isNamed(e ast.Expr, pack, name string) bool {
	s, ok := e.(*ast.SelectorExpr)
	if !ok {
		return false
	}
	x, ok := s.X.(*ast.Ident)
	return ok && x.Name == pack && s.Sel.Name == name
}

func meansFaults(file *ast.File) []string {
	var faults []string
	ast.Inspect(file, func(n ast.Node) bool {
		switch x := n.(type) {
		case *ast.MapType:
			if v, ok := x.Value.(*ast.Ident); ok && (v.Name == "bool" || v.Name == "string") {
				faults = append(faults, "a map of "+v.Name+" values")
			}
		case *ast.SelectorExpr:
			if isNamed(x, "iter", "Pull") || isNamed(x, "iter", "Pull2") {
				faults = append(faults, "uses iter."+x.Sel.Name)
			}
			if p, ok := x.X.(*ast.Ident); ok && p.Name == "sync" && !slices.Contains(syncAllowed, x.Sel.Name) {
				faults = append(faults, "uses sync."+x.Sel.Name)
			}
		case *ast.CallExpr:
			faults = append(faults, callFaults(x)...)
		}
		return true
	})
	return faults
}

func callFaults(call *ast.CallExpr) []string {
	if f, ok := call.Fun.(*ast.Ident); ok && (f.Name == "print" || f.Name == "println") {
		return []string{"prints"}
	}
	if a, ok := call.Fun.(*ast.ArrayType); ok && len(call.Args) == 1 {
		element, named := a.Elt.(*ast.Ident)
		lit, constant := call.Args[0].(*ast.BasicLit)
		if named && constant && element.Name == "rune" && lit.Kind == token.STRING {
			return []string{"turns a constant text into runes"}
		}
	}
	return nil
}

// TestLanguageFaultsAreSeen keeps the look itself from going blind.
func TestLanguageFaultsAreSeen(t *testing.T) {
	long := "func f() {\n" + strings.Repeat("\t_ = 0\n", mostLines) + "}"
	for _, body := range []string{
		"import \"fmt\"", "import \"unsafe\"", "import \"time\"", "import \"math/rand\"", "import \"os\"",
		"import . \"strings\"",
		"//go:noinline\nfunc f() {}", "// +build linux\n\nfunc f() {}",
		"func f( ) {}", long,
		"var x int", "var x = \"text\"", "var x = 1.5", "var x = map[string]int{}", "var x = func() {}", "var x = &struct{}{}",
		"var x = f()\n\nfunc f() int { return 0 }",
		"import \"iter\"\n\nvar x = []int{1}\n\nfunc f(s iter.Seq[int]) { iter.Pull(s) }",
		"import \"sync\"\n\nfunc f(m *sync.Map) {}",
		"func f() { println(1) }", "func f() []rune { return []rune(\"abc\") }", "func f(m map[int]bool) {}",
		"func f(",
		"var x = [2]int{1, 2}\n\nfunc f() { x[0] = 2 }", "var x = [1][1]int{{1}}\n\nfunc f() { (x[0])[0]++ }",
		"var x = 1\n\nfunc f() *int { return &x }", "var x = [2]int{1, 2}\n\nfunc f() []int { return x[:1] }",
		"var x = 1\n\nfunc f(list []int) {\n\tfor x = range list {\n\t}\n}",
	} {
		if len(languageFaults([]byte("package impl\n\n"+body+"\n"))) == 0 {
			t.Errorf("not seen: %.60q", body)
		}
	}
	right := "package impl\n\nimport \"errors\"\n\nvar errNone = errors.New(\"none\")\n\nvar table = [2]int{1, 2}\n\nfunc f() error { return errNone }\n\nfunc g(i int) int { return table[i] }\n"
	if faults := languageFaults([]byte(right)); len(faults) != 0 {
		t.Errorf("seen where there is none: %q", faults)
	}
}
