package parse

import (
	"math/rand"
	"strconv"
	"strings"
	"testing"

	"tracebook/api"
	"tracebook/syntax"
)

func field(s string) api.Expr { return api.Expr{Op: api.EField, Name: s} }
func integer(n int) api.Expr  { return constant(api.Value{Kind: api.VInt, N: n}) }
func text(s string) api.Expr  { return constant(api.Value{Kind: api.VText, S: s}) }
func neg(e api.Expr) api.Expr { return api.Expr{Op: api.ENeg, Kids: []api.Expr{e}} }
func not(e api.Expr) api.Expr { return api.Expr{Op: api.ENot, Kids: []api.Expr{e}} }
func call(name string, kids ...api.Expr) api.Expr {
	return api.Expr{Op: api.ECall, Name: name, Kids: kids}
}

func where(e api.Expr) api.Query {
	return api.Query{From: "x", Steps: []api.QStep{{Op: api.QWhere, Cond: e}}}
}

func sameExpr(a, b api.Expr) bool { return syntax.Same(where(a), where(b)) }

func TestExpr(t *testing.T) {
	a, b, c := field("a"), field("b"), field("c")
	for s, want := range map[string]api.Expr{
		"1 + 2 * x": binary(api.EAdd, integer(1), binary(api.EMul, integer(2), field("x"))),
		"-5":        neg(integer(5)), "(-5)": integer(-5), "( - 5 )": integer(-5), "(-5) * 2": binary(api.EMul, integer(-5), integer(2)), "(-5 + 1)": binary(api.EAdd, neg(integer(5)), integer(1)), "abs(-5)": call("abs", neg(integer(5))), "((-5))": integer(-5), "(--5)": neg(neg(integer(5))), "-(-5)": neg(integer(-5)), "(-a)": neg(a), "abs((-5))": call("abs", integer(-5)), "(-0)": integer(0),
		"not a = b and c": binary(api.EAnd, not(binary(api.EEq, a, b)), c), "not not a": not(not(a)), "not (a and b)": not(binary(api.EAnd, a, b)),
		"a or b and c": binary(api.EOr, a, binary(api.EAnd, b, c)), "a or b or c": binary(api.EOr, binary(api.EOr, a, b), c), "a and b and c": binary(api.EAnd, binary(api.EAnd, a, b), c), "a and (b and c)": binary(api.EAnd, a, binary(api.EAnd, b, c)),
		"a - b - c": binary(api.ESub, binary(api.ESub, a, b), c), "a - (b - c)": binary(api.ESub, a, binary(api.ESub, b, c)), "a / b * c % 2": binary(api.EMod, binary(api.EMul, binary(api.EDiv, a, b), c), integer(2)), "a - -b": binary(api.ESub, a, neg(b)), "-a * b": binary(api.EMul, neg(a), b), "a--b": binary(api.ESub, a, neg(b)),
		"a > b": binary(api.ELt, b, a), "a >= b": binary(api.ELe, b, a), "a < b": binary(api.ELt, a, b), "a <= b": binary(api.ELe, a, b), "a != b": binary(api.ENe, a, b), "a=b": binary(api.EEq, a, b), "a>=b": binary(api.ELe, b, a), "(a < b) < c": binary(api.ELt, binary(api.ELt, a, b), c), "a + b > c": binary(api.ELt, c, binary(api.EAdd, a, b)),
		"null": constant(api.Value{}), "true": constant(api.Value{Kind: api.VBool, N: 1}), "false": constant(api.Value{Kind: api.VBool}), `"a ~'"`: text("a ~'"), `""`: text(""), "1000000000000000": integer(api.MaxInt),
		"from": field("from"), "where": field("where"), "desc": field("desc"), "nulls": field("nulls"), "a_1": field("a_1"), "z9z": field("z9z"), "min(a, b + 1)": call("min", a, binary(api.EAdd, b, integer(1))), "abs ( a )": call("abs", a), "len((a))": call("len", a), "starts(a,not b)": call("starts", a, not(b)),
		" \t\r\na ": a,
	} {
		e, at, err := Expr(s)
		if !sameExpr(e, want) || at != 0 || err != api.OK {
			t.Error(s, e, at, err)
		}
		q, at, err := Query("from x | where " + s)
		if !syntax.Same(q, where(want)) || at != 0 || err != api.OK {
			t.Error(s, q, at, err)
		}
	}
}

func TestExprErrors(t *testing.T) {
	for s, want := range map[string]int{
		"1 <": 3, "": 0, "  ": 2, "a < b < c": 6, "a = b = c": 6, "a b": 2, "a not b": 2, "1a": 1, "01": 0, "a + 007": 4, "1000000000000001": 0, "a A": 2, "A": 0, "_a": 0, "a.b": 1, "!": 0, "a ! = b": 2, "a == b": 3, "a <> b": 3, "\"a": 0, "\"a\n\"": 0, "a \"": 2, "'a'": 0, "\xc3": 0,
		"(": 1, "()": 1, "(a": 2, "(a))": 3, "a)": 1, "f(": 2, "f(,)": 2, "f(a,)": 4, "f(a b)": 4, "f(a": 3, "(-": 2, "(-5": 3, "(-5 6)": 4, "and": 0, "a and": 5, "a and or": 6, "not": 3, "a or not": 8, "* a": 0, "+a": 0, "-": 1, "a , b": 2, "a | b": 2, "a : b": 2, "null(": 4, "true false": 5, "5(": 1, "\"a\"(": 3, "(a)(": 3, "a#": 1,
	} {
		e, at, err := Expr(s)
		if !sameExpr(e, api.Expr{}) || at != want || err != api.ErrSyntax {
			t.Error(s, at, want, err)
		}
	}
	for s, want := range map[string]api.Errno{"sin(a)": api.ErrNone, "min(a)": api.ErrArg, "f()": api.ErrNone, "abs()": api.ErrArg, strings.Repeat("not ", 16) + "a": api.ErrDeep, strings.Repeat("a+", 100) + "a": api.ErrLong, strings.Repeat("(", 900) + "a" + strings.Repeat(")", 900): api.OK, strings.Repeat("-", 1999) + "a": api.ErrLong, strings.Repeat(" ", 1999) + "a": api.OK, strings.Repeat(" ", 2000) + "a": api.ErrLong, strings.Repeat("a", 41): api.ErrName} {
		if e, at, err := Expr(s); at != 0 || err != want || err != api.OK && !sameExpr(e, api.Expr{}) {
			t.Error(s[:min(len(s), 10)], at, err)
		}
	}
}

func TestQuery(t *testing.T) {
	a := field("a")
	agg := func(fn, col, as string) api.Agg { return api.Agg{Fn: fn, Col: col, As: as} }
	for s, want := range map[string][]api.QStep{
		"from t":                                            nil,
		"from t | where a < 5":                              {{Op: api.QWhere, Cond: binary(api.ELt, a, integer(5))}},
		"from t | select a as b, 1 + a as c":                {{Op: api.QSelect, Items: []api.Item{{E: a, As: "b"}, {E: binary(api.EAdd, integer(1), a), As: "c"}}}},
		"from t | group : count() as n":                     {{Op: api.QGroup, Aggs: []api.Agg{agg("count", "", "n")}}},
		"from t | group a, b":                               {{Op: api.QGroup, Cols: []string{"a", "b"}}},
		"from t | group a : sum(b) as s , first ( c ) as f": {{Op: api.QGroup, Cols: []string{"a"}, Aggs: []api.Agg{agg("sum", "b", "s"), agg("first", "c", "f")}}},
		"from t | sort a desc, b, desc desc":                {{Op: api.QSort, Sorts: []api.Sort{{Col: "a", Desc: true}, {Col: "b"}, {Col: "desc", Desc: true}}}},
		"from t | limit 0 | limit 20000":                    {{Op: api.QLimit}, {Op: api.QLimit, N: 20000}},
		"from t | join u on a, b":                           {{Op: api.QJoin, Table: "u", Cols: []string{"a", "b"}}},
		"from t | join on on on":                            {{Op: api.QJoin, Table: "on", Cols: []string{"on"}}},
		"from t | overlap u | nearest u on a":               {{Op: api.QOverlap, Table: "u"}, {Op: api.QNearest, Table: "u", Cols: []string{"a"}}},
		"from t | overlap on on a":                          {{Op: api.QOverlap, Table: "on", Cols: []string{"a"}}},
		"from t | coalesce | coalesce a, b":                 {{Op: api.QCoalesce}, {Op: api.QCoalesce, Cols: []string{"a", "b"}}},
		" from\tt|where a|limit 1 ":                         {{Op: api.QWhere, Cond: a}, {Op: api.QLimit, N: 1}},
	} {
		q, at, err := Query(s)
		if !syntax.Same(q, api.Query{From: "t", Steps: want}) || at != 0 || err != api.OK {
			t.Error(s, q, at, err)
		}
	}
}

func TestQueryErrors(t *testing.T) {
	for s, want := range map[string]int{
		"": 0, "a": 0, "from": 4, "from ": 5, "from not": 5, "from 5": 5, "from a b": 7, "from a |": 8, "from a | foo": 9, "from a | 5": 9, "from a | | limit 1": 9, "FROM a": 0, "fromage": 0,
		"from a | group": 14, "from a | group :": 16, "from a | group a,": 17, "from a | group a : count": 24, "from a | group a : count(": 25, "from a | group a : count(5)": 25, "from a | group a : count()": 26, "from a | group a : count() as": 29, "from a | group a : count() as n,": 32, "from a | group a : count(a,b) as n": 26, "from a | group a b": 17,
		"from a | limit 007": 15, "from a | limit": 14, "from a | limit -1": 15, "from a | limit n": 15, "from a | limit 1 2": 17, "from a | sort": 13, "from a | sort a asc": 16, "from a | sort a desc desc": 21, "from a | sort a,": 16, "from a | sort (a)": 14,
		"from a | join b": 15, "from a | join b on": 18, "from a | join": 13, "from a | join b a": 16, "from a | overlap": 16, "from a | overlap b c": 19, "from a | overlap b on": 21, "from a | nearest b on c,": 24, "from a | coalesce a,": 20, "from a | coalesce and": 18, "from a | coalesce 5": 18,
		"from a | select": 15, "from a | select a": 17, "from a | select a as": 20, "from a | select a as b,": 23, "from a | select a b": 18, "from a | where": 14, "from a | where a as": 17, "from a | where a < b < c": 21, "from a ; b": 7, "from a | where a $": 17,
	} {
		q, at, err := Query(s)
		if !syntax.Same(q, api.Query{}) || at != want || err != api.ErrSyntax {
			t.Error(s, at, want, err)
		}
	}
	for s, want := range map[string]api.Errno{"from a | limit 20001": api.ErrRange, "from a | sort k, k": api.ErrTwice, "from a | group a : sin(k) as n": api.ErrNone, "from a | group a : sum() as n": api.ErrNone, "from " + strings.Repeat("a", 41): api.ErrName, "from a" + strings.Repeat("|limit 1", 17): api.ErrLong, "from a" + strings.Repeat(" ", 1994): api.OK, "from a" + strings.Repeat(" ", 1995): api.ErrLong, "x" + strings.Repeat(" ", 2000): api.ErrLong} {
		if q, at, err := Query(s); at != 0 || err != want || err != api.OK && !syntax.Same(q, api.Query{}) {
			t.Error(s[:min(len(s), 30)], at, err)
		}
	}
}

// parenthesized writes an expression with parentheses around every operator and negative number.
func parenthesized(e api.Expr) string {
	var kids []string
	for _, kid := range e.Kids {
		kids = append(kids, parenthesized(kid))
	}
	switch e.Op {
	case api.EConst:
		switch {
		case e.V.Kind == api.VNull:
			return "null"
		case e.V.Kind == api.VBool:
			return strconv.FormatBool(e.V.N == 1)
		case e.V.Kind == api.VText:
			return `"` + e.V.S + `"`
		case e.V.N < 0:
			return "(" + strconv.Itoa(e.V.N) + ")"
		}
		return strconv.Itoa(e.V.N)
	case api.EField:
		return e.Name
	case api.ENot:
		return "(not " + kids[0] + ")"
	case api.ENeg:
		// Two signs, because one before a number in parentheses would be a negative number.
		if e.Kids[0].Op == api.EConst && e.Kids[0].V.Kind == api.VInt && e.Kids[0].V.N >= 0 {
			return "(-(" + kids[0] + "))"
		}
		return "(-" + kids[0] + ")"
	case api.ECall:
		return e.Name + "(" + strings.Join(kids, ", ") + ")"
	}
	ops := strings.Fields("+ - * / % = != < <= and or")
	return "(" + kids[0] + " " + ops[e.Op-api.EAdd] + " " + kids[1] + ")"
}

func random(r *rand.Rand, levels int) api.Expr {
	if levels == 0 || r.Intn(5) == 0 {
		return []api.Expr{integer(r.Intn(9)), integer(-1 - r.Intn(9)), text("x.y"), constant(api.Value{}), constant(api.Value{Kind: api.VBool, N: r.Intn(2)}), field("a"), field("desc")}[r.Intn(7)]
	}
	op := api.ENot + api.ExprOp(r.Intn(14))
	switch op {
	case api.ENot, api.ENeg:
		return api.Expr{Op: op, Kids: []api.Expr{random(r, levels-1)}}
	case api.ECall:
		return call("min", random(r, levels-1), random(r, levels-1))
	}
	return binary(op, random(r, levels-1), random(r, levels-1))
}

func TestEveryExpressionHasText(t *testing.T) {
	r := rand.New(rand.NewSource(1))
	for range 5000 {
		e := random(r, 4)
		s := parenthesized(e)
		if got, at, err := Expr(s); !sameExpr(got, e) || at != 0 || err != api.OK {
			t.Fatal(s, at, err)
		}
		spaced := strings.NewReplacer(" ", "\n \t", "(", " ( ", ")", "\r) ", ",", " , ").Replace(s)
		if got, _, err := Expr(spaced); err != api.OK || !sameExpr(got, e) {
			t.Fatal(spaced, err)
		}
		q, _, err := Query("from t | where " + s + " | limit 1")
		if err != api.OK || len(q.Steps) != 2 || !sameExpr(q.Steps[0].Cond, e) || q.Steps[1].N != 1 {
			t.Fatal(s, err)
		}
	}
}

// rests are ends with which beginnings of queries can go on.
var rests = []string{"", "a", "1", "from a", "| limit 1", "as a", "(a) as a", ") as a", ": count() as n", "on a", "b on a", "a as a", "limit 1", "() as a", "where a"}

// canGoOn reports whether a query begins with a text, closing up to four parentheses.
func canGoOn(s string) bool {
	for _, rest := range rests {
		for _, operand := range []string{"", "a", "a as a"} {
			for n := range 5 {
				for _, as := range []string{"", " as a"} {
					if _, _, err := Query(s + " " + operand + strings.Repeat(")", n) + as + " " + rest); err != api.ErrSyntax {
						return true
					}
				}
			}
		}
	}
	return false
}

// TestPosition checks that the tokens before a fault begin a query, and do not with the faulty token.
func TestPosition(t *testing.T) {
	r := rand.New(rand.NewSource(2))
	words := strings.Fields("from a where select group sort limit join overlap nearest coalesce on as desc and or not null 5 \"t\" | | , : ( ) = < + - * count ? 07")
	for range 1500 {
		s := []string{"from a", "from a | where a", "from a | select a", "from a | group a", "from a | sort a", "from a | join b"}[r.Intn(6)]
		for range 1 + r.Intn(6) {
			s += " " + words[r.Intn(len(words))]
		}
		_, at, err := Query(s)
		if err != api.ErrSyntax {
			continue
		}
		if !canGoOn(s[:at]) {
			t.Fatal("too late", s, at)
		}
		if at < len(s) && canGoOn(s[:at]+strings.Fields(s[at:])[0]) {
			t.Fatal("too early", s, at)
		}
	}
}
