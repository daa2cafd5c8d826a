package plan

import (
	"math"
	"slices"
	"strings"
	"testing"

	"tracebook/api"
	"tracebook/eval"
	"tracebook/parse"
	"tracebook/syntax"
	"tracebook/table"
	"tracebook/typing"
)

// of returns a table; columns that begin with s are texts, all others integers.
func of(name, names string) api.Named {
	x := api.Named{Name: name}
	for _, name := range strings.Fields(names) {
		c := api.Column{Name: name, Type: api.VInt}
		if name[0] == 's' {
			c.Type = api.VText
		}
		x.Table.Cols = append(x.Table.Cols, c)
	}
	return x
}

func database() []api.Named {
	return []api.Named{of("a", "k m s from to"), of("b", "from to v"), of("c", "k w"), of("e", "from u")}
}

func query(t *testing.T, s string) api.Query {
	t.Helper()
	q, _, err := parse.Query(s)
	if err != api.OK {
		t.Fatal(s, err)
	}
	return q
}

func TestTexts(t *testing.T) {
	for s, want := range map[string]string{
		"from a":                                                            "scan a\n",
		"from a | where k < 5 and 2 <= k":                                   "step where k < 5 and 2 <= k\nscan a k 2 4\n",
		"from a | where 5 < k and k < 3":                                    "step where 5 < k and k < 3\nscan a k 1 0\n",
		"from a | where k = 5 or k = 6":                                     "step where k = 5 or k = 6\nscan a\n",
		"from a | where -5 < k":                                             "step where (-5) < k\nscan a k -4 1000000000000000\n",
		"from a | limit 3 | where k < 5":                                    "step where k < 5\nstep limit 3\nscan a\n",
		"from a | where m < 1 and k < 2 and m = 0":                          "step where m < 1 and k < 2 and m = 0\nscan a m 0 0\n",
		"from a | where k <= 1 + 2":                                         "step where k <= 3\nscan a k -1000000000000000 3\n",
		"from a | where 3 = k":                                              "step where 3 = k\nscan a k 3 3\n",
		"from a | where k < (-1000000000000000)":                            "step where k < (-1000000000000000)\nscan a k 1 0\n",
		"from a | where 1000000000000000 < k":                               "step where 1000000000000000 < k\nscan a k 1 0\n",
		"from a | where 1000000000000000 <= k":                              "step where 1000000000000000 <= k\nscan a k 1000000000000000 1000000000000000\n",
		"from a | where s = \"x\" and k != 3":                               "step where s = \"x\" and k != 3\nscan a\n",
		"from a | where s < \"x\" and (not (k < 3) and (m <= 4 and k = 2))": "step where s < \"x\" and (not k < 3 and (m <= 4 and k = 2))\nscan a m -1000000000000000 4\n",
		"from a | where k < null and k < m and m < 7":                       "step where k < null and k < m and m < 7\nscan a m -1000000000000000 6\n",
		"from a | where k > 3 | where k < 2 + 2":                            "step where k < 4\nstep where 3 < k\nscan a k 4 1000000000000000\n",
		"from a | where 1 < 2 and k < 3":                                    "step where true and k < 3\nscan a k -1000000000000000 2\n",
		"from a | overlap b | join c on k":                                  "hash join c on k\nspans overlap b\nscan a\n",
		"from a | nearest e | select k + 1 * 2 as n":                        "step select k + 1 * 2 as n\nmerge nearest e\nscan a\n",
		"from a | coalesce | sort from desc":                                "step sort from desc\nstep coalesce\nscan a\n",
	} {
		p, err := Of(database(), query(t, s))
		if got := Text(p); got != want || err != api.OK {
			t.Error(s, got, err)
		}
		checkPlan(t, s, p)
	}
}

// checkPlan checks that the query of a plan is the query with folded conditions, with the same columns.
func checkPlan(t *testing.T, s string, p api.Plan) {
	q := query(t, s)
	want := api.Query{From: q.From, Steps: slices.Clone(q.Steps)}
	for i := range want.Steps {
		if want.Steps[i].Op == api.QWhere {
			want.Steps[i].Cond = eval.Fold(want.Steps[i].Cond)
		}
	}
	got, ok := Query(p)
	cols, err := Check(database(), p)
	typed, _ := typing.Query(database(), q)
	if !ok || !syntax.Same(got, want) || err != api.OK || !slices.Equal(cols, typed) {
		t.Error(s, got, cols, err)
	}
}

func TestOfErrors(t *testing.T) {
	for s, want := range map[string]api.Errno{"from z": api.ErrTable, "from a | where z < 3": api.ErrColumn, "from a | where k": api.ErrType} {
		if p, err := Of(database(), query(t, s)); err != want || p.Op != 0 || len(p.Kids) > 0 {
			t.Error(s, err)
		}
	}
	if _, err := Of([]api.Named{{}}, api.Query{}); err != api.ErrName {
		t.Error(err)
	}
}

func scan(col string, low, high int) api.Plan {
	return api.Plan{Op: api.PScan, Table: "a", Col: col, Low: low, High: high}
}

func around(op api.PlanOp, s api.QStep, kid api.Plan) api.Plan {
	return api.Plan{Op: op, Step: s, Kids: []api.Plan{kid}}
}

func TestFormed(t *testing.T) {
	limit := api.QStep{Op: api.QLimit, N: 3}
	join := api.QStep{Op: api.QJoin, Table: "c", Cols: []string{"k"}}
	full := scan("k", 0, 5)
	full.Kids = []api.Plan{scan("", 0, 0)}
	stepped := scan("k", 0, 5)
	stepped.Step = limit
	condition := scan("", 0, 0)
	condition.Step.Cond.Kids = []api.Expr{{}}
	named := around(api.PStep, limit, scan("", 0, 0))
	named.Table = "a"
	bound := around(api.PStep, limit, scan("", 0, 0))
	bound.High = 1
	column := around(api.PStep, limit, scan("", 0, 0))
	column.Col = "k"
	low := around(api.PStep, limit, scan("", 0, 0))
	low.Low = 1
	two := around(api.PStep, limit, scan("", 0, 0))
	two.Kids = append(two.Kids, two.Kids[0])
	for i, c := range []struct {
		p   api.Plan
		err api.Errno
	}{
		{scan("", 0, 0), api.OK}, {scan("k", -api.MaxInt, api.MaxInt), api.OK}, {scan("k", 1, 0), api.OK}, {scan("k", 5, 5), api.OK}, {around(api.PStep, limit, scan("k", 0, 5)), api.OK}, {around(api.PHash, join, scan("", 0, 0)), api.OK}, {around(api.PStep, join, scan("", 0, 0)), api.OK},
		{api.Plan{}, api.ErrArg}, {api.Plan{Op: 6}, api.ErrArg}, {api.Plan{Op: api.PStep}, api.ErrArg}, {scan("", 1, 0), api.ErrArg}, {scan("", 0, 1), api.ErrArg}, {scan("k", 2, 1), api.ErrArg}, {scan("k", 2, 0), api.ErrArg}, {scan("k", -api.MaxInt-1, 0), api.ErrArg}, {scan("k", 0, api.MaxInt+1), api.ErrArg}, {scan("k", math.MinInt, math.MaxInt), api.ErrArg},
		{full, api.ErrArg}, {stepped, api.ErrArg}, {condition, api.ErrArg}, {named, api.ErrArg}, {column, api.ErrArg}, {low, api.ErrArg}, {bound, api.ErrArg}, {two, api.ErrArg}, {around(api.PStep, limit, api.Plan{}), api.ErrArg}, {around(api.PStep, limit, scan("k", 2, 1)), api.ErrArg},
		{around(api.PSpans, join, scan("", 0, 0)), api.ErrArg}, {around(api.PMerge, join, scan("", 0, 0)), api.ErrArg}, {around(api.PHash, limit, scan("", 0, 0)), api.ErrArg}, {around(9, limit, scan("", 0, 0)), api.ErrArg},
	} {
		_, err := Check(database(), c.p)
		_, ok := Query(c.p)
		if err != c.err || ok != (c.err == api.OK) || (Text(c.p) != "") != ok {
			t.Error(i, err, ok, Text(c.p))
		}
	}
}

func TestCheckErrors(t *testing.T) {
	unknown := around(api.PStep, api.QStep{Op: 77, Table: "x"}, scan("z", 0, 5))
	if q, ok := Query(unknown); !ok || q.From != "a" || len(q.Steps) != 1 || q.Steps[0].Op != 77 || Text(unknown) != "" {
		t.Error(q, ok)
	}
	other := scan("", 0, 0)
	other.Table = "Z z"
	if q, ok := Query(other); !ok || q.From != "Z z" || Text(other) != "" {
		t.Error(q, ok)
	}
	for i, c := range []struct {
		d   []api.Named
		p   api.Plan
		err api.Errno
	}{{[]api.Named{{}}, api.Plan{}, api.ErrName}, {database(), unknown, api.ErrArg}, {database(), other, api.ErrName}, {nil, scan("", 0, 0), api.ErrTable}, {database(), scan("z", 0, 5), api.ErrColumn}, {database(), scan("s", 0, 5), api.ErrType}, {database(), around(api.PStep, api.QStep{Op: api.QSort, Sorts: []api.Sort{{Col: "z"}}}, scan("z", 0, 5)), api.ErrColumn}, {database(), around(api.PStep, api.QStep{Op: api.QLimit}, scan("s", 0, 5)), api.ErrType}} {
		if cols, err := Check(c.d, c.p); err != c.err || len(cols) > 0 {
			t.Error(i, err)
		}
	}
	if Text(scan("Z z", 0, 5)) != "scan a Z z 0 5\n" {
		t.Error(Text(scan("Z z", 0, 5)))
	}
	long := api.Expr{Op: api.EConst, V: api.Value{Kind: api.VText, S: strings.Repeat("x", 200)}}
	sum := long
	for range 10 {
		sum = api.Expr{Op: api.EAdd, Kids: []api.Expr{sum, long}}
	}
	if p := around(api.PStep, api.QStep{Op: api.QWhere, Cond: sum}, scan("", 0, 0)); Text(p) != "" {
		t.Error("a text that is too long")
	}
}

// The bounds lose no row for which the condition is true.
func TestBounds(t *testing.T) {
	d := database()
	values := []api.Value{{}}
	for _, n := range []int{-api.MaxInt, -3, -2, -1, 0, 1, 2, 3, api.MaxInt} {
		values = append(values, api.Value{Kind: api.VInt, N: n})
	}
	text := api.Value{Kind: api.VText, S: "x"}
	for _, cond := range []string{"k < 2", "2 < k", "k <= (-1) and (-2) <= k", "k = 1", "1 = k and m < 3", "m < 3 and k = 2", "k < 1 and 0 < k", "k <= 1000000000000000", "k < (-1000000000000000)", "k < 2 or k = 3", "not k < 2", "k < m and k < 2"} {
		q := query(t, "from a | where "+cond)
		p, _ := Of(d, q)
		s := p.Kids[0]
		for _, k := range values {
			for _, m := range values {
				row := []api.Value{k, m, text, k, m}
				if !eval.Cond(d[0].Table.Cols, row, q.Steps[0].Cond) || s.Col == "" {
					continue
				}
				v := row[table.Col(d[0].Table, s.Col)]
				if v.Kind == api.VNull || v.N < s.Low || v.N > s.High {
					t.Error(cond, k, m, s)
				}
			}
		}
	}
}
