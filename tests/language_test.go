package tests

import (
	"bytes"
	"go/ast"
	"go/format"
	"go/parser"
	"go/token"
	"go/types"
	"os"
	"path/filepath"
	"strconv"
	"strings"
	"testing"
)

const allowedImports = " bytes cmp container/heap errors iter maps math math/bits slices sort strconv strings sync sync/atomic unicode unicode/utf8 "

// What a text alone shows of the rules of the language: imports, layout, lines that talk to the compiler, long functions.
func TestProgramKeepsToTheLanguage(t *testing.T) {
	files, err := filepath.Glob("../impl/*")
	if err != nil || len(files) == 0 {
		t.Fatal(files, err)
	}
	for _, path := range files {
		text, err := os.ReadFile(path)
		if err != nil {
			t.Fatal(err)
		}
		if laid, err := format.Source(text); err != nil || !bytes.Equal(laid, text) {
			t.Errorf("%s: not in gofmt's layout: %v", path, err)
		}
		if bytes.Contains(text, []byte("//go:")) || bytes.Contains(text, []byte("// +build")) {
			t.Errorf("%s: a line that talks to the compiler", path)
		}
		checkFile(t, path, text)
	}
}

func checkFile(t *testing.T, path string, text []byte) {
	fset := token.NewFileSet()
	file, err := parser.ParseFile(fset, path, text, 0)
	if err != nil {
		t.Fatal(err)
	}
	for _, i := range file.Imports {
		name, _ := strconv.Unquote(i.Path.Value)
		if !strings.Contains(allowedImports, " "+name+" ") {
			t.Errorf("%s: imports %s", path, name)
		}
	}
	for _, d := range file.Decls {
		if f, ok := d.(*ast.FuncDecl); ok {
			if n := fset.Position(f.End()).Line - fset.Position(f.Pos()).Line + 1; n > 60 {
				t.Errorf("%s: %s has %d lines", path, f.Name.Name, n)
			}
		}
	}
}

// The document's chapter 'Ways' asks for edges that are walked by labelled loops.
func TestSchedulesHaveLabelledLoops(t *testing.T) {
	file, err := parser.ParseFile(token.NewFileSet(), "../impl/l3_schedule.go", nil, 0)
	if err != nil {
		t.Fatal(err)
	}
	loops := 0
	ast.Inspect(file, func(n ast.Node) bool {
		if l, ok := n.(*ast.LabeledStmt); ok {
			switch l.Stmt.(type) {
			case *ast.ForStmt, *ast.RangeStmt:
				loops++
			}
		}
		return true
	})
	if loops == 0 {
		t.Error("no labelled loop")
	}
}

// The document's chapter 'Ways' asks for asks that are told apart by cases that fall through.
func TestLocksHaveCasesThatFallThrough(t *testing.T) {
	file, err := parser.ParseFile(token.NewFileSet(), "../impl/l4_lock.go", nil, 0)
	if err != nil {
		t.Fatal(err)
	}
	falls := 0
	ast.Inspect(file, func(n ast.Node) bool {
		if b, ok := n.(*ast.BranchStmt); ok && b.Tok == token.FALLTHROUGH {
			falls++
		}
		return true
	})
	if falls == 0 {
		t.Error("no case falls through")
	}
}

// The document's chapter 'Ways' asks for faults that wrap one another, asked for by kind and taken apart.
func TestStoresHaveFaultsThatWrap(t *testing.T) {
	file, err := parser.ParseFile(token.NewFileSet(), "../impl/l5_occ.go", nil, 0)
	if err != nil {
		t.Fatal(err)
	}
	found := map[string]int{}
	ast.Inspect(file, func(n ast.Node) bool {
		switch x := n.(type) {
		case *ast.SelectorExpr:
			if from, ok := x.X.(*ast.Ident); ok && from.Name == "errors" {
				found[x.Sel.Name]++
			}
		case *ast.FuncDecl:
			if x.Recv != nil {
				found[x.Name.Name]++
			}
		}
		return true
	})
	for _, name := range []string{"Is", "As", "New", "Unwrap", "Error"} {
		if found[name] == 0 {
			t.Errorf("no %s: %v", name, found)
		}
	}
}

// The document's chapter 'Ways' asks for entries by an iterator, and for what is compared as structs.
func TestLogsHaveIteratorsAndStructsThatAreCompared(t *testing.T) {
	file, err := parser.ParseFile(token.NewFileSet(), "../impl/l6_log.go", nil, 0)
	if err != nil {
		t.Fatal(err)
	}
	structs := structsOf(file)
	results := resultsOf(file)
	ranged, compared := 0, 0
	ast.Inspect(file, func(n ast.Node) bool {
		switch x := n.(type) {
		case *ast.RangeStmt:
			if strings.HasPrefix(results[calledIn(x.X)], "iter.Seq") {
				ranged++
			}
		case *ast.BinaryExpr:
			if (x.Op == token.EQL || x.Op == token.NEQ) && structs[results[calledIn(x.X)]] > 0 {
				compared++
			}
		}
		return true
	})
	if ranged == 0 || compared == 0 {
		t.Error(ranged, compared)
	}
}

// The document's chapter 'Ways' asks for moves that are undone, as closures: what does one answers how it is undone.
func TestCallsAreUndoneByClosures(t *testing.T) {
	file, err := parser.ParseFile(token.NewFileSet(), "../impl/l7_linear.go", nil, 0)
	if err != nil {
		t.Fatal(err)
	}
	results := resultsOf(file)
	answered, called := 0, map[string]int{}
	ast.Inspect(file, func(n ast.Node) bool {
		switch x := n.(type) {
		case *ast.ReturnStmt:
			if len(x.Results) == 1 {
				if _, ok := x.Results[0].(*ast.FuncLit); ok {
					answered++
				}
			}
		case *ast.AssignStmt:
			if call, ok := x.Rhs[0].(*ast.CallExpr); ok {
				if f, ok := call.Fun.(*ast.SelectorExpr); ok && results[f.Sel.Name] == "func()" {
					called[types.ExprString(x.Lhs[0])] = 0
				}
			}
		case *ast.CallExpr:
			if _, ok := called[calledIn(x)]; ok {
				called[calledIn(x)]++
			}
		}
		return true
	})
	if answered == 0 || len(called) == 0 {
		t.Error(answered, called)
	}
	for name, many := range called {
		if many == 0 {
			t.Errorf("%s is never called", name)
		}
	}
}

// The document's chapter 'Ways' asks for groups as shifts of one word behind a method that is told as a value.
func TestGroupsAreWordsBehindMethodValues(t *testing.T) {
	file, err := parser.ParseFile(token.NewFileSet(), "../impl/l8_quorum.go", nil, 0)
	if err != nil {
		t.Fatal(err)
	}
	shifts := shiftingMethods(file)
	told := 0
	ast.Inspect(file, func(n ast.Node) bool {
		if call, ok := n.(*ast.CallExpr); ok {
			for _, given := range call.Args {
				if x, ok := given.(*ast.SelectorExpr); ok && shifts[x.Sel.Name] > 0 {
					told++
				}
			}
		}
		return true
	})
	if told == 0 {
		t.Error(shifts)
	}
}

// The document's chapter 'Ways' asks for nodes behind an interface that is called, and asserted.
func TestRegistersHaveNodesBehindAnInterface(t *testing.T) {
	file, err := parser.ParseFile(token.NewFileSet(), "../impl/l9_register.go", nil, 0)
	if err != nil {
		t.Fatal(err)
	}
	interfaces := interfacesOf(file)
	called, asserted := 0, 0
	for _, d := range file.Decls {
		f, ok := d.(*ast.FuncDecl)
		if !ok {
			continue
		}
		given := givenAs(f, interfaces)
		if f.Name.IsExported() && len(given) > 0 {
			t.Errorf("%s is given an interface", f.Name.Name)
		}
		ast.Inspect(f, func(n ast.Node) bool {
			switch x := n.(type) {
			case *ast.SelectorExpr:
				called += given[types.ExprString(x.X)]
			case *ast.TypeAssertExpr:
				asserted += given[types.ExprString(x.X)]
			}
			return true
		})
	}
	if called == 0 || asserted == 0 {
		t.Error(interfaces, called, asserted)
	}
}

// The document's chapter 'Ways' asks for steps as method expressions in a table.
func TestSynodsHaveStepsAsMethodExpressionsInATable(t *testing.T) {
	file, err := parser.ParseFile(token.NewFileSet(), "../impl/l10_synod.go", nil, 0)
	if err != nil {
		t.Fatal(err)
	}
	methods := methodsOf(file)
	rows := 0
	ast.Inspect(file, func(n ast.Node) bool {
		table, ok := n.(*ast.CompositeLit)
		if !ok {
			return true
		}
		if _, ok := table.Type.(*ast.ArrayType); !ok {
			return true
		}
		for _, row := range table.Elts {
			found := 0
			ast.Inspect(row, func(n ast.Node) bool {
				if x, ok := n.(*ast.SelectorExpr); ok {
					found += methods[types.ExprString(x)]
				}
				return true
			})
			if found > 0 {
				rows++
			}
		}
		return true
	})
	if rows < 3 {
		t.Error(methods, rows)
	}
	// functions may not stand at package level, not in a table either
	for _, d := range file.Decls {
		if x, ok := d.(*ast.GenDecl); ok && x.Tok == token.VAR {
			t.Error("a variable at package level")
		}
	}
}

// The document's chapter 'Ways' asks for a node that embeds its clock, whose methods are promoted.
func TestLeasesHaveNodesThatEmbedTheirClock(t *testing.T) {
	file, err := parser.ParseFile(token.NewFileSet(), "../impl/l11_lease.go", nil, 0)
	if err != nil {
		t.Fatal(err)
	}
	methods := methodsOf(file)
	results := resultsOf(file)
	embedded := embeddedIn(file)
	promoted := 0
	for _, d := range file.Decls {
		f, ok := d.(*ast.FuncDecl)
		if !ok {
			continue
		}
		// what a receiver, or the answer of a function, asks for by the name of another type's method
		ast.Inspect(f, func(n ast.Node) bool {
			x, ok := n.(*ast.SelectorExpr)
			if !ok {
				return true
			}
			node := results[calledIn(x.X)]
			if f.Recv != nil && len(f.Recv.List[0].Names) == 1 && types.ExprString(x.X) == f.Recv.List[0].Names[0].Name {
				node = types.ExprString(f.Recv.List[0].Type)
			}
			clock := embedded[node]
			promoted += methods[clock+"."+x.Sel.Name] + methods["*"+clock+"."+x.Sel.Name]
			return true
		})
	}
	if len(embedded) == 0 || promoted == 0 {
		t.Error(embedded, promoted)
	}
}

// The document's chapter 'Ways' asks for members that are gone deleted from a map, which is ranged over and told in order.
func TestFencesHaveMembersInAMap(t *testing.T) {
	file, err := parser.ParseFile(token.NewFileSet(), "../impl/l12_epoch.go", nil, 0)
	if err != nil {
		t.Fatal(err)
	}
	fields := mapFieldsOf(file)
	isMap := func(x ast.Expr) bool {
		field, ok := x.(*ast.SelectorExpr)
		return ok && fields[field.Sel.Name] == "Member"
	}
	deleted, sorted := 0, 0
	for _, d := range file.Decls {
		ranged := 0
		ast.Inspect(d, func(n ast.Node) bool {
			switch x := n.(type) {
			case *ast.RangeStmt:
				if isMap(x.X) {
					ranged++
				}
			case *ast.CallExpr:
				if calledIn(x) == "delete" && isMap(x.Args[0]) {
					deleted++
				}
				// what was ranged over ahead of this is sorted by it
				if strings.HasPrefix(types.ExprString(x.Fun), "slices.Sort") {
					sorted += ranged
				}
			}
			return true
		})
	}
	if deleted == 0 || sorted == 0 {
		t.Error(fields, deleted, sorted)
	}
}

// The document's chapter 'Ways' asks for ways as channels, taken by select, in one place: what is taken is of the channel's parcels, and nobody waits.
func TestNetsHaveWaysTakenBySelect(t *testing.T) {
	file, err := parser.ParseFile(token.NewFileSet(), "../impl/l13_snapshot.go", nil, 0)
	if err != nil {
		t.Fatal(err)
	}
	channels := map[string]string{}
	ast.Inspect(file, func(n ast.Node) bool {
		if named, ok := n.(*ast.TypeSpec); ok {
			if c, ok := named.Type.(*ast.ChanType); ok {
				channels[named.Name.Name] = types.ExprString(c.Value)
			}
		}
		return true
	})
	places, waits := 0, 0
	for _, d := range file.Decls {
		f, ok := d.(*ast.FuncDecl)
		if !ok || f.Recv == nil || channels[types.ExprString(f.Recv.List[0].Type)] != "Parcel" {
			continue
		}
		on := f.Recv.List[0].Names[0].Name
		ast.Inspect(f, func(n ast.Node) bool {
			if s, ok := n.(*ast.SelectStmt); ok {
				places += takesFrom(s, on)
				waits += 1 - defaultsOf(s)
			}
			return true
		})
	}
	if places != 1 || waits != 0 {
		t.Error(channels, places, waits)
	}
}

// The document's chapter 'Ways' asks for a generic join over a generic type: what counters and bags both are put together by.
func TestThingsGrowByAGenericJoin(t *testing.T) {
	file, err := parser.ParseFile(token.NewFileSet(), "../impl/l14_crdt.go", nil, 0)
	if err != nil {
		t.Fatal(err)
	}
	generic := genericTypesOf(file)
	joins, called := map[string]int{}, map[string]int{}
	for _, d := range file.Decls {
		f, ok := d.(*ast.FuncDecl)
		if !ok || f.Type.TypeParams == nil {
			continue
		}
		for _, field := range f.Type.Params.List {
			if name, _, _ := strings.Cut(types.ExprString(field.Type), "["); generic[name] > 0 {
				joins[f.Name.Name]++
			}
		}
	}
	ast.Inspect(file, func(n ast.Node) bool {
		call, ok := n.(*ast.CallExpr)
		if ok && joins[calledIn(call)] > 0 {
			// what puts two of one place together tells what is joined
			called[types.ExprString(call.Args[len(call.Args)-1])]++
		}
		return true
	})
	if len(generic) == 0 || len(joins) == 0 || len(called) < 2 {
		t.Error(generic, joins, called)
	}
}

// The document's chapter 'Ways' asks for faults that give up by panic, and are caught: each recover stands in a function literal that is deferred.
func TestCommitsGiveUpByPanicAndAreCaught(t *testing.T) {
	file, err := parser.ParseFile(token.NewFileSet(), "../impl/l15_commit.go", nil, 0)
	if err != nil {
		t.Fatal(err)
	}
	gives := map[string]int{}
	caught, recovers, asks := 0, 0, 0
	for _, d := range file.Decls {
		if f, ok := d.(*ast.FuncDecl); ok && callsOf(f, "panic") > 0 {
			gives[f.Name.Name] = callsOf(f, "panic")
		}
	}
	ast.Inspect(file, func(n ast.Node) bool {
		switch x := n.(type) {
		case *ast.DeferStmt:
			if literal, ok := x.Call.Fun.(*ast.FuncLit); ok {
				caught += callsOf(literal, "recover")
			}
		case *ast.CallExpr:
			asks += gives[calledIn(x)]
			if calledIn(x) == "recover" {
				recovers++
			}
		}
		return true
	})
	// grounds that are asked for give up, one by one
	if len(gives) == 0 || caught == 0 || recovers != caught || asks < 10 {
		t.Error(gives, caught, recovers, asks)
	}
}

// The document's chapter 'Ways' asks for lists cut by a third index, and copied: what is put behind a cut list is always put behind a third index.
func TestConfigsHaveListsCutByAThirdIndexAndCopied(t *testing.T) {
	file, err := parser.ParseFile(token.NewFileSet(), "../impl/l16_config.go", nil, 0)
	if err != nil {
		t.Fatal(err)
	}
	cut, open := 0, 0
	ast.Inspect(file, func(n ast.Node) bool {
		call, ok := n.(*ast.CallExpr)
		if !ok || calledIn(call) != "append" {
			return true
		}
		if x, ok := call.Args[0].(*ast.SliceExpr); ok && x.Slice3 {
			cut++
		} else if ok {
			open++
		}
		return true
	})
	if copied := callsOf(file, "copy"); cut < 2 || open > 0 || copied < 2 {
		t.Error(cut, open, copied)
	}
}

// callsOf counts the calls of a function by its name.
func callsOf(n ast.Node, name string) int {
	many := 0
	ast.Inspect(n, func(n ast.Node) bool {
		if x, ok := n.(*ast.CallExpr); ok && calledIn(x) == name {
			many++
		}
		return true
	})
	return many
}

// genericTypesOf are the names of the types of a file that have type parameters, each with how many.
func genericTypesOf(file *ast.File) map[string]int {
	found := map[string]int{}
	ast.Inspect(file, func(n ast.Node) bool {
		if x, ok := n.(*ast.TypeSpec); ok && x.TypeParams != nil {
			found[x.Name.Name] = x.TypeParams.NumFields()
		}
		return true
	})
	return found
}

// takesFrom counts the cases of a select that take from a channel.
func takesFrom(s *ast.SelectStmt, channel string) int {
	many := 0
	for _, c := range s.Body.List {
		taken, ok := c.(*ast.CommClause).Comm.(*ast.AssignStmt)
		if !ok {
			continue
		}
		if x, ok := taken.Rhs[0].(*ast.UnaryExpr); ok && x.Op == token.ARROW && types.ExprString(x.X) == channel {
			many++
		}
	}
	return many
}

// defaultsOf counts the cases of a select that wait for nothing: 0 or 1.
func defaultsOf(s *ast.SelectStmt) int {
	many := 0
	for _, c := range s.Body.List {
		if c.(*ast.CommClause).Comm == nil {
			many++
		}
	}
	return many
}

// mapFieldsOf are the fields of structs of a file that are maps, each with the type of the map's values.
func mapFieldsOf(file *ast.File) map[string]string {
	found := map[string]string{}
	ast.Inspect(file, func(n ast.Node) bool {
		if x, ok := n.(*ast.Field); ok {
			if m, ok := x.Type.(*ast.MapType); ok {
				for _, name := range x.Names {
					found[name.Name] = types.ExprString(m.Value)
				}
			}
		}
		return true
	})
	return found
}

// embeddedIn are the types that structs of a file embed, by the name of the struct.
func embeddedIn(file *ast.File) map[string]string {
	found := map[string]string{}
	ast.Inspect(file, func(n ast.Node) bool {
		spec, ok := n.(*ast.TypeSpec)
		if !ok {
			return true
		}
		if x, ok := spec.Type.(*ast.StructType); ok {
			for _, field := range x.Fields.List {
				if len(field.Names) == 0 {
					found[spec.Name.Name] = types.ExprString(field.Type)
				}
			}
		}
		return true
	})
	return found
}

// methodsOf are the methods of a file as expressions: the type, a dot and the name.
func methodsOf(file *ast.File) map[string]int {
	found := map[string]int{}
	for _, d := range file.Decls {
		if f, ok := d.(*ast.FuncDecl); ok && f.Recv != nil {
			found[types.ExprString(f.Recv.List[0].Type)+"."+f.Name.Name] = 1
		}
	}
	return found
}

// interfacesOf are the names of the interfaces of a file, each with the number of its methods.
func interfacesOf(file *ast.File) map[string]int {
	found := map[string]int{}
	ast.Inspect(file, func(n ast.Node) bool {
		if x, ok := n.(*ast.TypeSpec); ok {
			if i, ok := x.Type.(*ast.InterfaceType); ok {
				found[x.Name.Name] = i.Methods.NumFields()
			}
		}
		return true
	})
	return found
}

// givenAs are the names of what a function is given as one of these types.
func givenAs(f *ast.FuncDecl, wanted map[string]int) map[string]int {
	found := map[string]int{}
	for _, field := range f.Type.Params.List {
		for _, name := range field.Names {
			if wanted[types.ExprString(field.Type)] > 0 {
				found[name.Name] = 1
			}
		}
	}
	return found
}

// shiftingMethods are the names of the methods of a file in which something is shifted, each with how often.
func shiftingMethods(file *ast.File) map[string]int {
	found := map[string]int{}
	for _, d := range file.Decls {
		f, ok := d.(*ast.FuncDecl)
		if !ok || f.Recv == nil {
			continue
		}
		ast.Inspect(f, func(n ast.Node) bool {
			if x, ok := n.(*ast.BinaryExpr); ok && (x.Op == token.SHL || x.Op == token.SHR) {
				found[f.Name.Name]++
			}
			return true
		})
	}
	return found
}

// structsOf are the names of the struct types of a file, each with the number of its fields.
func structsOf(file *ast.File) map[string]int {
	found := map[string]int{}
	ast.Inspect(file, func(n ast.Node) bool {
		if x, ok := n.(*ast.TypeSpec); ok {
			if s, ok := x.Type.(*ast.StructType); ok {
				found[x.Name.Name] = s.Fields.NumFields()
			}
		}
		return true
	})
	return found
}

// resultsOf are the first results of the functions of a file, as their types are written without what is in brackets.
func resultsOf(file *ast.File) map[string]string {
	found := map[string]string{}
	for _, d := range file.Decls {
		if f, ok := d.(*ast.FuncDecl); ok && f.Type.Results.NumFields() > 0 {
			name, _, _ := strings.Cut(types.ExprString(f.Type.Results.List[0].Type), "[")
			found[f.Name.Name] = name
		}
	}
	return found
}

// calledIn is the name of the function that an expression calls, if it is such a call.
func calledIn(x ast.Expr) string {
	if call, ok := x.(*ast.CallExpr); ok {
		if name, ok := call.Fun.(*ast.Ident); ok {
			return name.Name
		}
	}
	return ""
}
