package format

import (
	"math/rand"
	"strings"
	"testing"

	"tracebook/api"
	"tracebook/parse"
	"tracebook/syntax"
)

func field(s string) api.Expr    { return api.Expr{Op: api.EField, Name: s} }
func value(v api.Value) api.Expr { return api.Expr{Op: api.EConst, V: v} }
func integer(n int) api.Expr     { return value(api.Value{Kind: api.VInt, N: n}) }
func text(s string) api.Expr     { return value(api.Value{Kind: api.VText, S: s}) }
func of(op api.ExprOp, kids ...api.Expr) api.Expr {
	return api.Expr{Op: op, Kids: kids}
}
func call(name string, kids ...api.Expr) api.Expr {
	return api.Expr{Op: api.ECall, Name: name, Kids: kids}
}

func sameExpr(a, b api.Expr) bool {
	where := func(e api.Expr) api.Query {
		return api.Query{Steps: []api.QStep{{Op: api.QWhere, Cond: e}}}
	}
	return syntax.Same(where(a), where(b))
}

func TestExpr(t *testing.T) {
	a, b, c := field("a"), field("b"), field("c")
	for want, e := range map[string]api.Expr{
		"(a - (b - c)) * (-2)": of(api.EMul, of(api.ESub, a, of(api.ESub, b, c)), integer(-2)),
		"-5":                   of(api.ENeg, integer(5)), "-(-5)": of(api.ENeg, integer(-5)), "--a": of(api.ENeg, of(api.ENeg, a)), "-(a + b)": of(api.ENeg, of(api.EAdd, a, b)), "-(not a)": of(api.ENeg, of(api.ENot, a)), "-abs(a)": of(api.ENeg, call("abs", a)),
		"not a = b": of(api.ENot, of(api.EEq, a, b)), "(not a) = b": of(api.EEq, of(api.ENot, a), b), "(a = b) = c": of(api.EEq, of(api.EEq, a, b), c), "a = (b = c)": of(api.EEq, a, of(api.EEq, b, c)), "not not a": of(api.ENot, of(api.ENot, a)), "not (a and b)": of(api.ENot, of(api.EAnd, a, b)), "not a and b": of(api.EAnd, of(api.ENot, a), b), "a and not b": of(api.EAnd, a, of(api.ENot, b)),
		"abs((-5))": call("abs", integer(-5)), "abs(-5)": call("abs", of(api.ENeg, integer(5))), "min(a or b, not c)": call("min", of(api.EOr, a, b), of(api.ENot, c)),
		"a + b + c": of(api.EAdd, of(api.EAdd, a, b), c), "a + (b + c)": of(api.EAdd, a, of(api.EAdd, b, c)), "a * b + c": of(api.EAdd, of(api.EMul, a, b), c), "a * (b + c)": of(api.EMul, a, of(api.EAdd, b, c)), "a / b % c": of(api.EMod, of(api.EDiv, a, b), c), "a / (b % c)": of(api.EDiv, a, of(api.EMod, b, c)), "a - -b": of(api.ESub, a, of(api.ENeg, b)), "-a * b": of(api.EMul, of(api.ENeg, a), b), "-(a * b)": of(api.ENeg, of(api.EMul, a, b)),
		"a or b and c": of(api.EOr, a, of(api.EAnd, b, c)), "(a or b) and c": of(api.EAnd, of(api.EOr, a, b), c), "a or (b or c)": of(api.EOr, a, of(api.EOr, b, c)), "a and b or c": of(api.EOr, of(api.EAnd, a, b), c), "a and b and c": of(api.EAnd, of(api.EAnd, a, b), c),
		"a + b < c - 1": of(api.ELt, of(api.EAdd, a, b), of(api.ESub, c, integer(1))), "a <= b": of(api.ELe, a, b), "a != null": of(api.ENe, a, value(api.Value{})), "true": value(api.Value{Kind: api.VBool, N: 1}), "false": value(api.Value{Kind: api.VBool}), `"a b"`: text("a b"), "0": integer(0), "(-1)": integer(-1),
	} {
		s, err := Expr(e)
		if s != want || err != api.OK {
			t.Error(s, want, err)
		}
		if got, _, err := parse.Expr(s); !sameExpr(got, e) || err != api.OK {
			t.Error(s, err)
		}
	}
}

func TestQuery(t *testing.T) {
	a := field("a")
	agg := func(fn, col, as string) api.Agg { return api.Agg{Fn: fn, Col: col, As: as} }
	for want, l := range map[string][]api.QStep{
		"from t": nil, "from t | where a": {{Op: api.QWhere, Cond: a}}, "from t | select a as b, 1 as c": {{Op: api.QSelect, Items: []api.Item{{E: a, As: "b"}, {E: integer(1), As: "c"}}}},
		"from t | group name: count() as n": {{Op: api.QGroup, Cols: []string{"name"}, Aggs: []api.Agg{agg("count", "", "n")}}}, "from t | group: count() as n, sum(a) as s": {{Op: api.QGroup, Aggs: []api.Agg{agg("count", "", "n"), agg("sum", "a", "s")}}}, "from t | group a, b": {{Op: api.QGroup, Cols: []string{"a", "b"}}},
		"from t | sort a desc, b": {{Op: api.QSort, Sorts: []api.Sort{{Col: "a", Desc: true}, {Col: "b"}}}}, "from t | limit 7": {{Op: api.QLimit, N: 7}}, "from t | join u on a, b": {{Op: api.QJoin, Table: "u", Cols: []string{"a", "b"}}}, "from t | overlap u": {{Op: api.QOverlap, Table: "u"}}, "from t | nearest u on a": {{Op: api.QNearest, Table: "u", Cols: []string{"a"}}}, "from t | coalesce": {{Op: api.QCoalesce}}, "from t | coalesce a, b | limit 1": {{Op: api.QCoalesce, Cols: []string{"a", "b"}}, {Op: api.QLimit, N: 1}},
	} {
		q := api.Query{From: "t", Steps: l}
		s, err := Query(q)
		if s != want || err != api.OK {
			t.Error(s, want, err)
		}
		if got, _, err := parse.Query(s); !syntax.Same(got, q) || err != api.OK {
			t.Error(s, err)
		}
	}
	q, _, _ := parse.Query("from slices | where dur >= 5 and not open")
	if s, _ := Query(q); s != "from slices | where 5 <= dur and not open" {
		t.Error(s)
	}
}

func TestErrors(t *testing.T) {
	long := text(strings.Repeat("x", 200))
	sum := long
	for range 9 {
		sum = of(api.EAdd, sum, long)
	}
	for i, c := range []struct {
		e   api.Expr
		err api.Errno
	}{{api.Expr{}, api.ErrArg}, {field("A"), api.ErrName}, {sum, api.ErrLong}, {sum.Kids[0], api.OK}} {
		if s, err := Expr(c.e); err != c.err || err != api.OK && s != "" {
			t.Error(i, err)
		}
		if s, err := Query(api.Query{From: "t", Steps: []api.QStep{{Op: api.QWhere, Cond: c.e}}}); err != c.err || err != api.OK && s != "" {
			t.Error(i, err)
		}
	}
	if s, err := Query(api.Query{}); s != "" || err != api.ErrName {
		t.Error(s, err)
	}
	// 2000 bytes are permitted, and one more is not.
	e := sum.Kids[0]
	s, _ := Expr(e)
	exact := of(api.EAdd, e, text(strings.Repeat("x", api.MaxQuery-len(s)-5)))
	if s, err := Expr(exact); len(s) != api.MaxQuery || err != api.OK {
		t.Error(len(s), err)
	}
	exact.Kids[1].V.S += "x"
	if _, err := Expr(exact); err != api.ErrLong {
		t.Error(err)
	}
}

func random(r *rand.Rand, levels int) api.Expr {
	if levels == 0 || r.Intn(5) == 0 {
		return []api.Expr{integer(r.Intn(9)), integer(-1 - r.Intn(9)), text("x y"), value(api.Value{}), field("a"), field("desc")}[r.Intn(6)]
	}
	op := api.ENot + api.ExprOp(r.Intn(14))
	switch op {
	case api.ENot, api.ENeg:
		return of(op, random(r, levels-1))
	case api.ECall:
		return call([]string{"min", "has"}[r.Intn(2)], random(r, levels-1), random(r, levels-1))
	}
	return of(op, random(r, levels-1), random(r, levels-1))
}

func TestRoundTrip(t *testing.T) {
	r := rand.New(rand.NewSource(1))
	texts := map[string]api.Expr{}
	for range 20000 {
		e := random(r, 3)
		s, err := Expr(e)
		if err != api.OK {
			t.Fatal(err)
		}
		if got, at, err := parse.Expr(s); !sameExpr(got, e) || err != api.OK {
			t.Fatal(s, at, err)
		}
		if other, ok := texts[s]; ok && !sameExpr(other, e) {
			t.Fatal("two expressions with the text", s)
		}
		texts[s] = e
		checkNeeded(t, e, s)
	}
}

// checkNeeded removes the parentheses around the second operand of an operator.
func checkNeeded(t *testing.T, e api.Expr, s string) {
	if e.Op < api.EAdd || e.Op > api.EOr || !strings.HasSuffix(s, ")") || e.Kids[1].Op == api.EConst || e.Kids[1].Op == api.ECall {
		return
	}
	inside, _ := Expr(e.Kids[1])
	if !strings.HasSuffix(s, "("+inside+")") {
		return
	}
	without := strings.TrimSuffix(s, "("+inside+")") + inside
	if got, _, err := parse.Expr(without); err == api.OK && sameExpr(got, e) {
		t.Fatal("not needed", s)
	}
}
