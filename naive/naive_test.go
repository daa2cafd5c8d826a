package naive

import (
	"math/rand"
	"slices"
	"strings"
	"testing"

	"tracebook/api"
	"tracebook/eval"
	"tracebook/parse"
	"tracebook/table"
	"tracebook/temporal"
	"tracebook/typing"
)

func row(values ...any) []api.Value {
	var l []api.Value
	for _, v := range values {
		switch v := v.(type) {
		case int:
			l = append(l, api.Value{Kind: api.VInt, N: v})
		case string:
			l = append(l, api.Value{Kind: api.VText, S: v})
		case bool:
			n := 0
			if v {
				n = 1
			}
			l = append(l, api.Value{Kind: api.VBool, N: n})
		default:
			l = append(l, api.Value{})
		}
	}
	return l
}

// of returns a table; columns that begin with s are texts, with b booleans, all others integers.
func of(names string, rows ...[]api.Value) api.Table {
	t := api.Table{Rows: rows}
	for _, name := range strings.Fields(names) {
		c := api.Column{Name: name, Type: api.VInt}
		switch name[0] {
		case 's':
			c.Type = api.VText
		case 'b':
			c.Type = api.VBool
		}
		t.Cols = append(t.Cols, c)
	}
	return t
}

func run(t *testing.T, d []api.Named, s string) api.Table {
	t.Helper()
	q, _, err := parse.Query(s)
	if err != api.OK {
		t.Fatal(s, err)
	}
	got, err := Run(d, q)
	if err != api.OK {
		t.Fatal(s, err)
	}
	return got
}

func example() []api.Named {
	return []api.Named{
		{Name: "t", Table: of("s n", row("a", 1), row("b", 2), row("a", 3))},
		{Name: "u", Table: of("s v", row("b", 1), row("a", 2), row(nil, 3), row("b", 4))},
		{Name: "e", Table: of("n b")},
		{Name: "m", Table: of("s n", row("b", nil), row(nil, 5), row("b", 2), row(nil, 1), row("a", nil))},
		{Name: "x", Table: of("from to s", row(0, 10, "a"), row(5, 7, "b"))},
		{Name: "y", Table: of("from to v", row(6, 20, 1), row(0, 2, 2))},
	}
}

func TestSteps(t *testing.T) {
	for s, want := range map[string]api.Table{
		"from t":                of("s n", row("a", 1), row("b", 2), row("a", 3)),
		"from t | where n != 2": of("s n", row("a", 1), row("a", 3)),
		"from m | where n < 3":  of("s n", row("b", 2), row(nil, 1)),
		"from m | where null":   of("s n"),
		"from t | select n * 2 as n, s = \"a\" as b":                                              of("n b", row(2, true), row(4, false), row(6, true)),
		"from t | group s : sum(n) as n":                                                          of("s n", row("a", 4), row("b", 2)),
		"from m | group s : sum(n) as n, count() as c, first(n) as f, min(n) as lo, max(n) as hi": of("s n c f lo hi", row(nil, 6, 2, 5, 1, 5), row("a", 0, 1, nil, nil, nil), row("b", 2, 2, nil, 2, 2)),
		"from m | group s":                                         of("s", row(nil), row("a"), row("b")),
		"from e | group : count() as c":                            of("c", row(0)),
		"from e | group : sum(n) as n, max(n) as m, first(b) as b": of("n m b", row(0, nil, nil)),
		"from e | group n : count() as c":                          of("n c"),
		"from t | group : count() as c":                            of("c", row(3)),
		"from t | group n, s : first(s) as sf":                     of("n s sf", row(1, "a", "a"), row(2, "b", "b"), row(3, "a", "a")),
		"from m | sort s desc, n":                                  of("s n", row("b", nil), row("b", 2), row("a", nil), row(nil, 1), row(nil, 5)),
		"from t | limit 2":                                         of("s n", row("a", 1), row("b", 2)),
		"from t | limit 0":                                         of("s n"),
		"from t | limit 9":                                         of("s n", row("a", 1), row("b", 2), row("a", 3)),
		"from t | join u on s":                                     of("s n v", row("a", 1, 2), row("b", 2, 1), row("b", 2, 4), row("a", 3, 2)),
		"from m | join u on s | limit 2":                           of("s n v", row("b", nil, 1), row("b", nil, 4)),
		"from t | select s as s | join t on s":                     of("s n", row("a", 1), row("a", 3), row("b", 2), row("a", 1), row("a", 3)),
		"from x | overlap y":                                       of("from to s v", row(6, 10, "a", 1), row(0, 2, "a", 2), row(6, 7, "b", 1)),
		"from x | select from as from, s as s | nearest y":         of("from s to v", row(0, "a", 2, 2), row(5, "b", 2, 2)),
		"from x | coalesce":                                        of("from to", row(0, 10)),
		"from x | coalesce s":                                      of("s from to", row("a", 0, 10), row("b", 5, 7)),
	} {
		if got := run(t, example(), s); !table.Same(got, want) {
			t.Error(s, got)
		}
	}
	self := run(t, []api.Named{{Name: "t", Table: of("s", row("a"), row("b"), row("a"))}}, "from t | join t on s")
	if len(self.Rows) != 5 {
		t.Error(self)
	}
}

func TestErrors(t *testing.T) {
	long := api.Named{Name: "l", Table: of("n", slices.Repeat([][]api.Value{row(1)}, 142)...)}
	more := api.Named{Name: "k", Table: of("n v", slices.Repeat([][]api.Value{row(1, 2)}, 141)...)}
	d := append(example(), long, more)
	for s, want := range map[string]api.Errno{"from z": api.ErrTable, "from t | where z = 1": api.ErrColumn, "from l | join k on n": api.ErrLong, "from l | join k on n | limit 1": api.ErrLong, "from l | limit 100 | join k on n": api.OK, "from x | overlap y | overlap y": api.ErrTwice} {
		q, _, _ := parse.Query(s)
		if got, err := Run(d, q); err != want || err != api.OK && !table.Same(got, api.Table{}) {
			t.Error(s, err)
		}
	}
	limit := api.QStep{Op: api.QLimit, N: 1}
	bad := of("n", row("a"))
	for i, c := range []struct {
		d   []api.Named
		t   api.Table
		s   api.QStep
		err api.Errno
	}{{[]api.Named{{Name: ""}}, bad, api.QStep{}, api.ErrName}, {nil, bad, api.QStep{}, api.ErrType}, {nil, of("n"), api.QStep{}, api.ErrArg}, {nil, of("n"), api.QStep{Op: api.QSort, Sorts: []api.Sort{{Col: "k"}}}, api.ErrColumn}, {nil, of("n", row(1), row(2)), limit, api.OK}} {
		if got, err := Step(c.d, c.t, c.s); err != c.err || err != api.OK && !table.Same(got, api.Table{}) {
			t.Error(i, err)
		}
	}
	if got, err := Run([]api.Named{{Name: ""}}, api.Query{}); err != api.ErrName || !table.Same(got, api.Table{}) {
		t.Error(err)
	}
}

// join by the definition of layer 41, for steps that typing accepts.
func TestTemporal(t *testing.T) {
	d := example()
	x, y := d[4].Table, d[5].Table
	want, _ := temporal.Overlap(x, y, nil)
	got, err := Step(d, x, api.QStep{Op: api.QOverlap, Table: "y"})
	if !table.Same(got, want) || err != api.OK {
		t.Error(got, err)
	}
}

func randomTable(r *rand.Rand, names string) api.Table {
	t := of(names)
	for range r.Intn(12) {
		var l []api.Value
		for _, c := range t.Cols {
			switch {
			case r.Intn(6) == 0:
				l = append(l, api.Value{})
			case c.Type == api.VText:
				l = append(l, row([]string{"a", "b"}[r.Intn(2)])...)
			default:
				l = append(l, row(r.Intn(5))...)
			}
		}
		t.Rows = append(t.Rows, l)
	}
	return t
}

func TestProperties(t *testing.T) {
	r := rand.New(rand.NewSource(1))
	texts := []string{"from t | where n < 3 | where s = \"a\"", "from t | group s: count() as c", "from t | sort n | limit 3", "from t | join u on s | where v <= n", "from t | select n + n as n, s as s | group s: sum(n) as m", "from t | overlap w | coalesce s", "from t | nearest w | sort from desc"}
	for range 400 {
		d := []api.Named{{Name: "t", Table: randomTable(r, "s n from to")}, {Name: "u", Table: randomTable(r, "s v")}, {Name: "w", Table: randomTable(r, "from to v")}}
		d[2].Table.Cols[2].Name = "w"
		both := run(t, d, "from t | where n < 3 and s = \"a\"")
		if !table.Same(run(t, d, texts[0]), both) {
			t.Fatal("two conditions", d)
		}
		total := 0
		for _, x := range run(t, d, texts[1]).Rows {
			total += x[1].N
		}
		if total != len(d[0].Table.Rows) {
			t.Fatal("groups", d)
		}
		for _, s := range texts {
			if strings.Contains(s, "nearest") {
				d[2].Table.Cols[1].Name = "till"
			}
			checkLast(t, d, s)
			d[2].Table.Cols[1].Name = "to"
		}
	}
}

// checkLast checks that a query is its last step over the result of the steps before, and its columns.
func checkLast(t *testing.T, d []api.Named, s string) {
	q, _, _ := parse.Query(s)
	whole, err := Run(d, q)
	cols, typed := typing.Query(d, q)
	if err != api.OK || typed != api.OK || !slices.Equal(whole.Cols, cols) || table.Check(whole) != api.OK {
		t.Fatal(s, err, typed)
	}
	n := len(q.Steps) - 1
	before, _ := Run(d, api.Query{From: q.From, Steps: q.Steps[:n]})
	if last, err := Step(d, before, q.Steps[n]); !table.Same(last, whole) || err != api.OK {
		t.Fatal(s, err)
	}
	if q.Steps[n].Op == api.QWhere {
		for _, row := range whole.Rows {
			if !eval.Cond(whole.Cols, row, q.Steps[n].Cond) {
				t.Fatal(s, row)
			}
		}
	}
}

// Rows with nulls have no partners, and those behind them still have.
func TestJoinNulls(t *testing.T) {
	d := []api.Named{{Name: "a", Table: of("s n", row(nil, 1), row("x", 2), row("y", nil), row("x", 4))}, {Name: "b", Table: of("s v", row(nil, 7), row("x", 8))}}
	if got := run(t, d, "from a | join b on s"); !table.Same(got, of("s n v", row("x", 2, 8), row("x", 4, 8))) {
		t.Error(got)
	}
}
