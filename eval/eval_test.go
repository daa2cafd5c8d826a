package eval

import (
	"math"
	"math/big"
	"math/rand"
	"strings"
	"testing"

	"tracebook/api"
	"tracebook/column"
	"tracebook/format"
	"tracebook/parse"
	"tracebook/typing"
)

func text(s string) api.Value { return api.Value{Kind: api.VText, S: s} }

var cols = []api.Column{{Name: "k", Type: api.VInt}, {Name: "s", Type: api.VText}, {Name: "b", Type: api.VBool}, {Name: "z", Type: api.VInt}, {Name: "t", Type: api.VBool}}

func expr(t *testing.T, s string) api.Expr {
	e, _, err := parse.Expr(s)
	if err != api.OK {
		t.Fatal(s, err)
	}
	return e
}

func TestExpr(t *testing.T) {
	row := []api.Value{integer(7), text("abc"), boolean(true), null(), null()}
	yes, no, none := boolean(true), boolean(false), null()
	for s, want := range map[string]api.Value{
		"k": integer(7), "s": text("abc"), "b": yes, "z": none, "5": integer(5), "null": none, `"x"`: text("x"),
		"not b": no, "not false": yes, "not null": none, "not t": none,
		"null and false": no, "false and null": no, "null and true": none, "true and null": none, "null and null": none, "b and b": yes, "b and false": no, "t and false": no,
		"null or true": yes, "true or null": yes, "null or false": none, "false or null": none, "false or false": no, "t or t": none,
		"k / -2": integer(-3), "k % -2": integer(1), "(-7) / 2": integer(-3), "(-7) % 2": integer(-1), "-7 / 2": integer(-3), "-6 % 2": integer(0), "1 / 0": none, "1 % 0": none, "k + z": none, "z / 0": none, "k * 2 - 1": integer(13), "-k": integer(-7), "-z": none,
		"1000000000000000 + 1": none, "0 - 1000000000000000": integer(-api.MaxInt), "(-1000000000000000) - 1": none, "1000000000000000 * 2": none, "100000000 * 10000000": integer(api.MaxInt), "-(-1000000000000000)": integer(api.MaxInt),
		"k = 7": yes, "k != 7": no, "k = null": none, "null = null": none, "s = \"abc\"": yes, "b = true": yes, "b != t": none, "k < 8": yes, "k <= 7": yes, "k < 7": no, "s < \"abd\"": yes, "s < \"ab\"": no, "\"\" <= s": yes, "null < k": none,
		"abs(-7)": integer(7), "abs(k)": integer(7), "abs(z)": none, "len(s)": integer(3), "len(\"\")": integer(0), "len(null)": none, `min("b", "ab")`: text("ab"), "max(k, 9)": integer(9), "min(k, null)": none, "max(3, 3)": integer(3), `max(s, "b")`: text("b"),
		`has("abc", "")`: yes, `starts("abc", "")`: yes, `has(s, "bc")`: yes, `has(s, "cb")`: no, `starts(s, "ab")`: yes, `starts(s, "b")`: no, `has(s, null)`: none, `starts("", "a")`: no,
		"not (b and false) or t": yes, "k > 3 and s != \"\"": yes,
	} {
		e := expr(t, s)
		if got := Expr(cols, row, e); got != want {
			t.Error(s, got, want)
		}
		if Cond(cols, row, e) != (want == yes) {
			t.Error("Cond", s)
		}
	}
}

func TestNotAccepted(t *testing.T) {
	row := []api.Value{integer(7)}
	k := cols[:1]
	for i, c := range []struct {
		row []api.Value
		e   api.Expr
	}{
		{row, expr(t, "k + s")}, {row, expr(t, `k = "a"`)}, {row, api.Expr{}}, {nil, expr(t, "5")}, {append(row, null()), expr(t, "5")}, {[]api.Value{text("a")}, expr(t, "5")}, {[]api.Value{integer(api.MaxInt + 1)}, expr(t, "true")},
	} {
		if v := Expr(k, c.row, c.e); v != null() || Cond(k, c.row, c.e) {
			t.Error(i, v)
		}
	}
	twice := []api.Column{{Name: "k", Type: api.VInt}, {Name: "k", Type: api.VText}}
	if v := Expr(twice, []api.Value{integer(1), text("a")}, expr(t, "k")); v != integer(1) {
		t.Error(v)
	}
}

func TestAgg(t *testing.T) {
	five := []api.Value{integer(5), null(), integer(-2), integer(5)}
	for i, c := range []struct {
		fn   string
		l    []api.Value
		want api.Value
	}{
		{"count", nil, integer(0)}, {"count", five, integer(4)}, {"sum", five, integer(8)}, {"sum", nil, integer(0)}, {"sum", []api.Value{null()}, integer(0)}, {"sum", []api.Value{integer(api.MaxInt), integer(1), integer(-1)}, integer(api.MaxInt)}, {"sum", []api.Value{integer(api.MaxInt), integer(1)}, null()}, {"sum", []api.Value{integer(1), text("")}, null()}, {"sum", []api.Value{boolean(true)}, null()}, {"sum", []api.Value{integer(math.MaxInt), integer(math.MaxInt), integer(math.MinInt), integer(math.MinInt), integer(5)}, integer(3)},
		{"min", five, integer(-2)}, {"max", five, integer(5)}, {"min", []api.Value{null()}, null()}, {"max", nil, null()}, {"max", []api.Value{boolean(false), integer(-9), text("a"), text("b")}, text("b")}, {"min", []api.Value{text("a"), integer(3), boolean(true)}, boolean(true)}, {"min", []api.Value{{Kind: api.VText, S: "a", N: 1}, text("a")}, api.Value{Kind: api.VText, S: "a", N: 1}}, {"max", []api.Value{{Kind: api.VText, S: "a", N: 1}, text("a")}, api.Value{Kind: api.VText, S: "a", N: 1}},
		{"first", five, integer(5)}, {"first", five[1:], null()}, {"first", nil, null()}, {"sin", five, null()}, {"", five, null()},
	} {
		if got := Agg(c.fn, c.l); got != c.want {
			t.Error(i, got)
		}
	}
}

func TestSums(t *testing.T) {
	r := rand.New(rand.NewSource(1))
	values := []int{0, 1, -1, api.MaxInt, -api.MaxInt, math.MaxInt, math.MinInt, 3}
	for range 5000 {
		want := new(big.Int)
		var l []api.Value
		for range r.Intn(7) {
			n := values[r.Intn(len(values))]
			l = append(l, integer(n))
			want.Add(want, big.NewInt(int64(n)))
		}
		v := Agg("sum", l)
		if new(big.Int).Abs(want).Cmp(big.NewInt(api.MaxInt)) > 0 {
			if v != null() {
				t.Fatal(l, v)
			}
		} else if v != integer(int(want.Int64())) {
			t.Fatal(l, v)
		}
	}
}

func TestFold(t *testing.T) {
	for s, want := range map[string]string{
		"k + 2 * 3": "k + 6", `1 + "a"`: `1 + "a"`, "1 / 0": "null", "k + 1 / 0": "k + null", "not true": "false", "-5": "(-5)", "abs(-5)": "5", `min("b", "a")`: `"a"`, "k": "k", "5": "5", "2 < 1 + 1": "false", "1 + k + 2": "1 + k + 2", "1 + (\"a\" + 2)": "1 + (\"a\" + 2)", "(not 1) or 2 < 3": "(not 1) or true", "null and false": "false", "z = 1 and 1 = 1": "z = 1 and true", "sum": "sum",
	} {
		want = strings.ReplaceAll(want, "(not 1) or", "not 1 or")
		if got, err := format.Expr(Fold(expr(t, s))); got != want || err != api.OK {
			t.Error(s, got, err)
		}
	}
	bad := api.Expr{Op: api.EAdd, Kids: []api.Expr{{Op: api.EConst}, {Op: api.EField, Name: "A"}}}
	if got := Fold(bad); got.Op != api.EAdd || len(got.Kids) != 2 {
		t.Error(got)
	}
}

func random(r *rand.Rand, levels int) api.Expr {
	constant := func(v api.Value) api.Expr { return api.Expr{Op: api.EConst, V: v} }
	if levels == 0 || r.Intn(6) == 0 {
		return []api.Expr{constant(integer(r.Intn(5) - 2)), constant(integer(api.MaxInt)), constant(text("a")), constant(null()), constant(boolean(r.Intn(2) == 0)), {Op: api.EField, Name: cols[r.Intn(5)].Name}}[r.Intn(6)]
	}
	op := api.ENot + api.ExprOp(r.Intn(14))
	e := api.Expr{Op: op, Kids: []api.Expr{random(r, levels-1)}}
	if op == api.ECall {
		e.Name = []string{"min", "max", "has", "starts", "abs", "len"}[r.Intn(6)]
	}
	if op != api.ENot && op != api.ENeg && e.Name != "abs" && e.Name != "len" {
		e.Kids = append(e.Kids, random(r, levels-1))
	}
	return e
}

func TestRandom(t *testing.T) {
	r := rand.New(rand.NewSource(2))
	accepted := 0
	for range 100000 {
		e := random(r, 3)
		k, err := typing.Expr(cols, e)
		if err != api.OK {
			continue
		}
		accepted++
		row := []api.Value{integer(r.Intn(5) - 2), text("ab"[:r.Intn(3)]), boolean(r.Intn(2) == 0), null(), boolean(r.Intn(2) == 0)}
		if r.Intn(3) == 0 {
			row[r.Intn(5)] = null()
		}
		v := Expr(cols, row, e)
		if v.Kind != api.VNull && v.Kind != k || column.Value(v.Kind, v) != api.OK {
			t.Fatal(e, v, k)
		}
		folded := Fold(e)
		if w := Expr(cols, row, folded); w != v {
			t.Fatal(e, folded, v, w)
		}
		if _, err := typing.Expr(cols, folded); err != api.OK {
			t.Fatal(e, folded, err)
		}
		if e.Op == api.EAnd || e.Op == api.EOr {
			checkLogic(t, row, e)
		}
	}
	if accepted < 5000 {
		t.Error("few expressions", accepted)
	}
}

// checkLogic checks that operands can be exchanged, and the rule for not.
func checkLogic(t *testing.T, row []api.Value, e api.Expr) {
	not := func(e api.Expr) api.Expr { return api.Expr{Op: api.ENot, Kids: []api.Expr{e}} }
	a, b := e.Kids[0], e.Kids[1]
	exchanged := api.Expr{Op: e.Op, Kids: []api.Expr{b, a}}
	other := api.Expr{Op: api.EAnd + api.EOr - e.Op, Kids: []api.Expr{not(a), not(b)}}
	if Expr(cols, row, exchanged) != Expr(cols, row, e) || Expr(cols, row, not(e)) != Expr(cols, row, other) {
		t.Fatal(e, row)
	}
}
