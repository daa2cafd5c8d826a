package syntax

import (
	"slices"
	"strings"
	"testing"

	"tracebook/api"
)

func field(s string) api.Expr { return api.Expr{Op: api.EField, Name: s} }
func num(n int) api.Expr      { return api.Expr{Op: api.EConst, V: api.Value{Kind: api.VInt, N: n}} }
func text(s string) api.Expr  { return api.Expr{Op: api.EConst, V: api.Value{Kind: api.VText, S: s}} }
func node2(op api.ExprOp, kids ...api.Expr) api.Expr {
	return api.Expr{Op: op, Kids: kids}
}
func callOf(name string, kids ...api.Expr) api.Expr {
	return api.Expr{Op: api.ECall, Name: name, Kids: kids}
}

// chain returns ENot n times, of a constant.
func chain(n int) api.Expr {
	e := num(1)
	for range n {
		e = node2(api.ENot, e)
	}
	return e
}

// bush returns an expression of 2n + 1 nodes and few levels.
func bush(n int) api.Expr {
	if n == 0 {
		return field("a")
	}
	left := (n - 1) / 2
	return node2(api.EAdd, bush(left), bush(n-1-left))
}

func TestIdentifiers(t *testing.T) {
	for s, want := range map[string]bool{"a": true, "z9_": true, "a0": true, "from": true, "where": true, "ands": true, strings.Repeat("a", 40): true, "": false, strings.Repeat("a", 41): false, "_a": false, "9a": false, "A": false, "aB": false, "a.b": false, "a b": false, "and": false, "or": false, "not": false, "null": false, "true": false, "false": false, "\xc3\xa4": false} {
		if isIdentifier(s) != want || (Query(api.Query{From: s}) == api.OK) != want {
			t.Error(s)
		}
	}
}

func TestExpr(t *testing.T) {
	for i, c := range []struct {
		e   api.Expr
		err api.Errno
	}{
		{num(5), api.OK}, {text("a ~'"), api.OK}, {api.Expr{Op: api.EConst}, api.OK}, {field("k"), api.OK}, {callOf("min", field("a"), num(1)), api.OK}, {callOf("abs", field("a")), api.OK},
		{bush(99), api.OK}, {node2(api.ENeg, bush(99)), api.OK}, {node2(api.ENeg, node2(api.ENeg, bush(99))), api.ErrLong}, {bush(100), api.ErrLong}, {chain(15), api.OK}, {chain(16), api.ErrDeep}, {node2(99, bush(100)), api.ErrLong}, {node2(99, chain(15)), api.ErrDeep}, {node2(api.EAdd, chain(15), node2(99)), api.ErrDeep},
		{api.Expr{}, api.ErrArg}, {api.Expr{Op: 17}, api.ErrArg}, {api.Expr{Op: -1}, api.ErrArg},
		{api.Expr{Op: api.EConst, Name: "a", V: api.Value{Kind: 9}}, api.ErrArg}, {api.Expr{Op: api.EConst, Kids: []api.Expr{num(1)}}, api.ErrArg}, {api.Expr{Op: api.EField, Name: "A", V: api.Value{N: 1}}, api.ErrArg}, {api.Expr{Op: api.EField, Name: "a", Kids: []api.Expr{num(1)}}, api.ErrArg},
		{node2(api.ENot), api.ErrArg}, {node2(api.ENeg, num(1), num(2)), api.ErrArg}, {node2(api.EAdd, num(1)), api.ErrArg}, {node2(api.EOr, num(1), num(2), num(3)), api.ErrArg}, {api.Expr{Op: api.EAdd, Name: "a", Kids: []api.Expr{num(1), num(2)}}, api.ErrArg}, {api.Expr{Op: api.ENot, V: api.Value{N: 1}, Kids: []api.Expr{num(1)}}, api.ErrArg}, {api.Expr{Op: api.ECall, Name: "abs", V: api.Value{N: 1}, Kids: []api.Expr{num(1)}}, api.ErrArg},
		{num(api.MaxInt + 1), api.ErrRange}, {api.Expr{Op: api.EConst, V: api.Value{Kind: 9}}, api.ErrType}, {api.Expr{Op: api.EConst, V: api.Value{N: 1}}, api.ErrArg}, {text(strings.Repeat("\x01", 201)), api.ErrLong}, {text("\x01"), api.ErrForm}, {text("\""), api.ErrForm}, {text("\x7f"), api.ErrForm}, {text("\n"), api.ErrForm}, {text(strings.Repeat(" ", 200)), api.OK},
		{field("A"), api.ErrName}, {field("and"), api.ErrName}, {field(""), api.ErrName},
		{callOf("min", num(1)), api.ErrArg}, {callOf("sin", num(1)), api.ErrNone}, {callOf("Sin"), api.ErrName}, {callOf("abs"), api.ErrArg}, {callOf("len", num(1), num(1)), api.ErrArg}, {callOf("starts", num(1), num(1)), api.OK}, {callOf("has", num(1), num(1)), api.OK}, {callOf("max", num(1), num(1)), api.OK},
		{callOf("sin", field("A")), api.ErrNone}, {node2(api.EAdd, callOf("sin", field("A")), field("B")), api.ErrNone}, {node2(api.EAdd, node2(api.ENeg, field("A")), callOf("sin")), api.ErrName},
	} {
		if err := Expr(c.e); err != c.err {
			t.Error(i, err)
		}
		if err := Step(api.QStep{Op: api.QWhere, Cond: c.e}); err != c.err {
			t.Error(i, err)
		}
		if c.err != api.OK && len(Columns(c.e)) > 0 {
			t.Error(i)
		}
		for _, kid := range c.e.Kids {
			if c.err == api.OK && Expr(kid) != api.OK {
				t.Error("a part", i)
			}
		}
	}
}

func TestCombined(t *testing.T) {
	a, b := bush(49), callOf("min", chain(13), node2(api.EAdd, field("k"), field("b")))
	for op := api.EAdd; op <= api.EOr; op++ {
		e := node2(op, a, b)
		if Expr(e) != api.OK || !slices.Equal(Columns(e), []string{"a", "b", "k"}) {
			t.Error(op, Expr(e), Columns(e))
		}
	}
	if len(Columns(num(1))) != 0 {
		t.Error("no columns")
	}
}

// A tree that shares its parts can have far more nodes than memory; counting them stops early.
func TestShared(t *testing.T) {
	e := num(1)
	for range 60 {
		e = node2(api.EAdd, e, e)
	}
	if Expr(e) != api.ErrLong || Step(api.QStep{Op: api.QWhere, Cond: e}) != api.ErrLong {
		t.Error(Expr(e))
	}
}

func manyNames(n int) []string {
	var l []string
	for i := range n {
		l = append(l, "c"+string(rune('a'+i)))
	}
	return l
}

func TestStep(t *testing.T) {
	item := func(e api.Expr, as string) api.Item { return api.Item{E: e, As: as} }
	agg := func(fn, col, as string) api.Agg { return api.Agg{Fn: fn, Col: col, As: as} }
	var items17 []api.Item
	var sorts17 []api.Sort
	var aggs17 []api.Agg
	for _, name := range manyNames(17) {
		items17 = append(items17, item(num(1), name))
		sorts17 = append(sorts17, api.Sort{Col: name})
		aggs17 = append(aggs17, agg("count", "", name))
	}
	for i, c := range []struct {
		s   api.QStep
		err api.Errno
	}{
		{api.QStep{}, api.ErrArg}, {api.QStep{Op: 10}, api.ErrArg}, {api.QStep{Op: -1}, api.ErrArg}, {api.QStep{Op: 10, N: 5}, api.ErrArg},
		{api.QStep{Op: api.QWhere, Cond: num(1), N: 1}, api.ErrArg}, {api.QStep{Op: api.QWhere, Cond: field("A"), Cols: []string{"a"}}, api.ErrArg}, {api.QStep{Op: api.QLimit, Cond: api.Expr{Kids: []api.Expr{{}}}}, api.ErrArg}, {api.QStep{Op: api.QLimit, N: -1, Table: "t"}, api.ErrArg}, {api.QStep{Op: api.QSort, Items: items17[:1]}, api.ErrArg}, {api.QStep{Op: api.QSelect, Sorts: sorts17[:1]}, api.ErrArg}, {api.QStep{Op: api.QCoalesce, Aggs: aggs17[:1]}, api.ErrArg}, {api.QStep{Op: api.QCoalesce, Table: "t"}, api.ErrArg},
		{api.QStep{Op: api.QSelect}, api.ErrShort}, {api.QStep{Op: api.QSelect, Items: items17}, api.ErrLong}, {api.QStep{Op: api.QSelect, Items: items17[1:]}, api.OK}, {api.QStep{Op: api.QSelect, Items: []api.Item{item(field("A"), "A")}}, api.ErrName}, {api.QStep{Op: api.QSelect, Items: []api.Item{item(callOf("sin"), "A")}}, api.ErrNone}, {api.QStep{Op: api.QSelect, Items: []api.Item{item(num(1), "")}}, api.ErrName}, {api.QStep{Op: api.QSelect, Items: []api.Item{item(num(1), "a"), item(num(1), "a"), item(num(1), "A")}}, api.ErrTwice},
		{api.QStep{Op: api.QGroup}, api.ErrShort}, {api.QStep{Op: api.QGroup, Cols: manyNames(17)}, api.ErrLong}, {api.QStep{Op: api.QGroup, Aggs: aggs17}, api.ErrLong}, {api.QStep{Op: api.QGroup, Aggs: aggs17[1:]}, api.OK}, {api.QStep{Op: api.QGroup, Cols: manyNames(16)}, api.OK}, {api.QStep{Op: api.QGroup, Cols: []string{"k", "k", "A"}}, api.ErrTwice}, {api.QStep{Op: api.QGroup, Cols: []string{"A"}, Aggs: []api.Agg{agg("x", "", "")}}, api.ErrName},
		{api.QStep{Op: api.QGroup, Aggs: []api.Agg{agg("x", "A", "A")}}, api.ErrNone}, {api.QStep{Op: api.QGroup, Aggs: []api.Agg{agg("count", "k", "n")}}, api.ErrNone}, {api.QStep{Op: api.QGroup, Aggs: []api.Agg{agg("sum", "", "n")}}, api.ErrNone}, {api.QStep{Op: api.QGroup, Aggs: []api.Agg{agg("sum", "A", "n")}}, api.ErrName}, {api.QStep{Op: api.QGroup, Aggs: []api.Agg{agg("first", "a", "")}}, api.ErrName}, {api.QStep{Op: api.QGroup, Aggs: []api.Agg{agg("min", "a", "n"), agg("max", "a", "n")}}, api.ErrTwice}, {api.QStep{Op: api.QGroup, Cols: []string{"k"}, Aggs: []api.Agg{agg("count", "", "k")}}, api.ErrTwice}, {api.QStep{Op: api.QGroup, Cols: []string{"k"}, Aggs: []api.Agg{agg("count", "", "n"), agg("sum", "k", "s"), agg("first", "k", "f")}}, api.OK},
		{api.QStep{Op: api.QSort}, api.ErrShort}, {api.QStep{Op: api.QSort, Sorts: sorts17}, api.ErrLong}, {api.QStep{Op: api.QSort, Sorts: sorts17[1:]}, api.OK}, {api.QStep{Op: api.QSort, Sorts: []api.Sort{{Col: "a"}, {Col: "a", Desc: true}}}, api.ErrTwice}, {api.QStep{Op: api.QSort, Sorts: []api.Sort{{Col: "or"}}}, api.ErrName},
		{api.QStep{Op: api.QLimit}, api.OK}, {api.QStep{Op: api.QLimit, N: api.MaxRows}, api.OK}, {api.QStep{Op: api.QLimit, N: api.MaxRows + 1}, api.ErrRange}, {api.QStep{Op: api.QLimit, N: -1}, api.ErrRange},
		{api.QStep{Op: api.QJoin}, api.ErrName}, {api.QStep{Op: api.QJoin, Table: "t"}, api.ErrShort}, {api.QStep{Op: api.QJoin, Table: "t", Cols: manyNames(17)}, api.ErrLong}, {api.QStep{Op: api.QJoin, Table: "t", Cols: []string{"k", "k"}}, api.ErrTwice}, {api.QStep{Op: api.QJoin, Table: "t", Cols: []string{"k"}}, api.OK},
		{api.QStep{Op: api.QOverlap, Table: "t"}, api.OK}, {api.QStep{Op: api.QOverlap, Table: "T"}, api.ErrName}, {api.QStep{Op: api.QOverlap, Table: "t", Cols: manyNames(17)}, api.ErrLong}, {api.QStep{Op: api.QNearest, Table: "t", Cols: []string{""}}, api.ErrName}, {api.QStep{Op: api.QNearest, Table: "t", Cols: []string{"a"}}, api.OK},
		{api.QStep{Op: api.QCoalesce}, api.OK}, {api.QStep{Op: api.QCoalesce, Cols: manyNames(17)}, api.ErrLong}, {api.QStep{Op: api.QCoalesce, Cols: []string{"a", "a"}}, api.ErrTwice},
	} {
		if err := Step(c.s); err != c.err {
			t.Error(i, err)
		}
		q := api.Query{From: "t", Steps: []api.QStep{{Op: api.QLimit}, c.s, {Op: 99}}}
		if err := Query(q); c.err != api.OK && err != c.err {
			t.Error(i, err)
		}
		if !Same(q, q) || Same(q, api.Query{From: "t"}) {
			t.Error(i)
		}
	}
}

func TestQuery(t *testing.T) {
	limit := api.QStep{Op: api.QLimit}
	for i, c := range []struct {
		q   api.Query
		err api.Errno
	}{{api.Query{}, api.ErrName}, {api.Query{From: "t"}, api.OK}, {api.Query{From: "t", Steps: slices.Repeat([]api.QStep{limit}, 16)}, api.OK}, {api.Query{From: "t", Steps: slices.Repeat([]api.QStep{{}}, 17)}, api.ErrLong}, {api.Query{From: "T", Steps: slices.Repeat([]api.QStep{{}}, 17)}, api.ErrName}} {
		if err := Query(c.q); err != c.err {
			t.Error(i, err)
		}
	}
}

func TestSame(t *testing.T) {
	e := node2(api.EAdd, field("a"), num(1))
	step := func() api.QStep {
		return api.QStep{Op: 1, Cond: e, Items: []api.Item{{E: e, As: "a"}}, Cols: []string{"a"}, Aggs: []api.Agg{{Fn: "a"}}, Sorts: []api.Sort{{Col: "a"}}, N: 1, Table: "t"}
	}
	a := api.Query{From: "f", Steps: []api.QStep{step()}}
	for i, change := range []func(s *api.QStep){
		func(s *api.QStep) { s.Op = 2 }, func(s *api.QStep) { s.Cond = field("a") }, func(s *api.QStep) { s.Cond = node2(api.EAdd, field("a"), num(2)) }, func(s *api.QStep) { s.Cond = node2(api.EAdd, field("b"), num(1)) }, func(s *api.QStep) { s.Items[0].As = "b" }, func(s *api.QStep) { s.Items[0].E = num(1) }, func(s *api.QStep) { s.Cols[0] = "b" }, func(s *api.QStep) { s.Aggs[0].As = "b" }, func(s *api.QStep) { s.Sorts[0].Desc = true }, func(s *api.QStep) { s.N = 2 }, func(s *api.QStep) { s.Table = "" },
	} {
		b := api.Query{From: "f", Steps: []api.QStep{step()}}
		if !Same(a, b) {
			t.Error("equal")
		}
		change(&b.Steps[0])
		if Same(a, b) || Same(b, a) || !Same(b, b) {
			t.Error(i)
		}
	}
	if Same(a, api.Query{From: "g", Steps: a.Steps}) || !Same(api.Query{Steps: []api.QStep{}}, api.Query{}) {
		t.Error("From")
	}
}
