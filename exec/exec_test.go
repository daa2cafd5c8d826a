package exec

import (
	"math/rand"
	"slices"
	"strings"
	"testing"

	"tracebook/api"
	"tracebook/eval"
	"tracebook/naive"
	"tracebook/parse"
	"tracebook/plan"
	"tracebook/table"
)

func integer(n int) api.Value { return api.Value{Kind: api.VInt, N: n} }
func text(s string) api.Value { return api.Value{Kind: api.VText, S: s} }

// of returns a table; columns that begin with s are texts, all others integers.
func of(names string) api.Table {
	var t api.Table
	for _, name := range strings.Fields(names) {
		c := api.Column{Name: name, Type: api.VInt}
		if name[0] == 's' {
			c.Type = api.VText
		}
		t.Cols = append(t.Cols, c)
	}
	return t
}

func random(r *rand.Rand, names string, rows int) api.Table {
	t := of(names)
	far := r.Intn(10) == 0
	for range r.Intn(rows) {
		var l []api.Value
		for _, c := range t.Cols {
			switch {
			case r.Intn(8) == 0:
				l = append(l, api.Value{})
			case c.Type == api.VText:
				l = append(l, text([]string{"a", "b", "a\"1", "1"}[r.Intn(4)]))
			case far:
				l = append(l, integer(r.Intn(2*api.MaxInt)-api.MaxInt))
			default:
				l = append(l, integer(r.Intn(14)-2))
			}
		}
		t.Rows = append(t.Rows, l)
	}
	return t
}

func query(t *testing.T, s string) api.Query {
	t.Helper()
	q, _, err := parse.Query(s)
	if err != api.OK {
		t.Fatal(s, err)
	}
	return q
}

var texts = []string{
	"from a", "from a | where n < 3", "from a | where 3 < n and n < 9 and s = \"a\"", "from a | where n = 4 or n = 5", "from a | where n < 0 and 0 < n", "from a | where n + 1 < 3 and from <= n", "from a | where n < 5 | limit 2 | where 0 < n",
	"from a | join b on s", "from a | join c on s, n", "from a | join c on n, s | where n < 5", "from a | overlap b", "from a | overlap d on s", "from a | overlap d on s, n | coalesce s", "from a | nearest e", "from a | nearest f on s", "from a | nearest g on n, s | sort from desc",
	"from a | group s: sum(n) as n, count() as c | sort n desc | limit 1", "from a | select n * n as n, s as s | join c on s, n", "from a | coalesce | overlap b | nearest f", "from a | where n <= 1000000000000000 | join a2 on s",
}

// database returns tables that fit the texts.
func database(r *rand.Rand, rows int) []api.Named {
	return []api.Named{
		{Name: "a", Table: random(r, "s n from to", rows)}, {Name: "b", Table: random(r, "s v from to", rows)}, {Name: "c", Table: random(r, "n s v", rows)},
		{Name: "d", Table: random(r, "n to s from w", rows)}, {Name: "e", Table: random(r, "from v", rows)}, {Name: "f", Table: random(r, "v from s", rows)}, {Name: "g", Table: random(r, "v s from n", rows)}, {Name: "a2", Table: random(r, "s k", rows)},
	}
}

// TestNaive compares results with the definition; errors, too.
func TestNaive(t *testing.T) {
	r := rand.New(rand.NewSource(1))
	for range 400 {
		d := database(r, 25)
		for _, s := range texts {
			q := query(t, s)
			want, wantErr := naive.Run(d, q)
			got, err := Query(d, q)
			if err != wantErr || !table.Same(got, want) {
				t.Fatal(s, d, got, want, err, wantErr)
			}
			if err != api.OK {
				continue
			}
			p, _ := plan.Of(d, q)
			cols, checked := plan.Check(d, p)
			if checked != api.OK || !slices.Equal(cols, got.Cols) || table.Check(got) != api.OK {
				t.Fatal(s, cols, got.Cols)
			}
			checkLast(t, d, p, got)
			checkRead(t, d, p)
		}
	}
}

// checkLast compares a plan with its last step over the result of its Kid.
func checkLast(t *testing.T, d []api.Named, p api.Plan, whole api.Table) {
	if p.Op == api.PScan {
		return
	}
	before, err := Run(d, p.Kids[0])
	if err != api.OK {
		t.Fatal(err)
	}
	if want, err := naive.Step(d, before, p.Step); err != api.OK || !table.Same(want, whole) {
		t.Fatal(p, want, whole, err)
	}
	// The form of a node has no effect on the result.
	plain := api.Plan{Op: api.PStep, Step: p.Step, Kids: p.Kids}
	if same, err := Run(d, plain); err != api.OK || !table.Same(same, whole) {
		t.Fatal(plain, same, err)
	}
}

func checkRead(t *testing.T, d []api.Named, p api.Plan) {
	n, err := Read(d, p)
	for p.Op != api.PScan {
		p = p.Kids[0]
	}
	from, _ := table.Find(d, p.Table)
	want := 0
	for _, row := range from.Rows {
		field := api.Expr{Op: api.EField, Name: p.Col}
		bound := func(n int) api.Expr { return api.Expr{Op: api.EConst, V: integer(n)} }
		low := api.Expr{Op: api.ELe, Kids: []api.Expr{bound(p.Low), field}}
		high := api.Expr{Op: api.ELe, Kids: []api.Expr{field, bound(p.High)}}
		if p.Col == "" || eval.Cond(from.Cols, row, api.Expr{Op: api.EAnd, Kids: []api.Expr{low, high}}) {
			want++
		}
	}
	if n != want || err != api.OK {
		t.Fatal(p, n, want, err)
	}
}

func TestExamples(t *testing.T) {
	a := of("n")
	for _, n := range []int{5, 2, 1, 3} {
		a.Rows = append(a.Rows, []api.Value{integer(n)})
	}
	a.Rows = append(a.Rows, []api.Value{{}})
	d := []api.Named{{Name: "a", Table: a}}
	p, _ := plan.Of(d, query(t, "from a | where n < 3 | limit 1"))
	got, err := Run(d, p)
	if n, other := Read(d, p); n != 2 || len(got.Rows) != 1 || got.Rows[0][0].N != 2 || err != api.OK || other != api.OK {
		t.Error(got, n, err)
	}
	none := api.Plan{Op: api.PScan, Table: "a", Col: "n", Low: 1}
	got, err = Run(d, none)
	if n, other := Read(d, none); n != 0 || len(got.Rows) != 0 || len(got.Cols) != 1 || err != api.OK || other != api.OK {
		t.Error(got, n, err)
	}
	if n, _ := Read(d, api.Plan{Op: api.PScan, Table: "a"}); n != 5 {
		t.Error(n)
	}
}

func TestErrors(t *testing.T) {
	d := []api.Named{{Name: "a", Table: of("n s")}}
	limit := api.QStep{Op: api.QLimit, N: -1}
	for i, c := range []struct {
		d   []api.Named
		p   api.Plan
		err api.Errno
	}{{[]api.Named{{}}, api.Plan{}, api.ErrName}, {d, api.Plan{}, api.ErrArg}, {d, api.Plan{Op: api.PScan, Table: "z"}, api.ErrTable}, {d, api.Plan{Op: api.PScan, Table: "a", Col: "s", Low: 1}, api.ErrType}, {d, api.Plan{Op: api.PStep, Step: limit, Kids: []api.Plan{{Op: api.PScan, Table: "a"}}}, api.ErrRange}} {
		if got, err := Run(c.d, c.p); err != c.err || !table.Same(got, api.Table{}) {
			t.Error(i, err)
		}
		if n, err := Read(c.d, c.p); err != c.err || n != 0 {
			t.Error(i, err)
		}
	}
	if got, err := Query(d, query(t, "from a | where z = 1")); err != api.ErrColumn || !table.Same(got, api.Table{}) {
		t.Error(err)
	}
}

// Too many rows are an error, even if a later step would leave few of them.
func TestLong(t *testing.T) {
	a := of("n from to")
	a.Rows = slices.Repeat([][]api.Value{{integer(1), integer(0), integer(9)}}, 142)
	b := of("n v")
	b.Rows = slices.Repeat([][]api.Value{{integer(1), integer(2)}}, 141)
	c := of("from to v")
	c.Rows = slices.Repeat([][]api.Value{{integer(3), integer(5), integer(2)}}, 141)
	e := b
	e.Rows = slices.Repeat(b.Rows[:1], 200)
	d := []api.Named{{Name: "a", Table: a}, {Name: "b", Table: b}, {Name: "c", Table: c}, {Name: "e", Table: e}}
	for s, want := range map[string]api.Errno{"from a | join b on n | limit 1": api.ErrLong, "from a | overlap c | limit 1": api.ErrLong, "from a | limit 140 | join b on n": api.OK, "from a | limit 140 | overlap c": api.OK, "from a | limit 100 | join e on n": api.OK} {
		got, err := Query(d, query(t, s))
		if n, other := naive.Run(d, query(t, s)); err != want || other != want || !table.Same(got, n) {
			t.Error(s, err, other)
		}
	}
}

// Many rows with and without an overlap are combined in a short time.
func TestMany(t *testing.T) {
	a, b := of("from to"), of("from to v")
	for i := range api.MaxRows {
		a.Rows = append(a.Rows, []api.Value{integer(10 * i), integer(10*i + 5)})
		b.Rows = append(b.Rows, []api.Value{integer(10*i + 4), integer(10*i + 9), integer(i)})
	}
	d := []api.Named{{Name: "a", Table: a}, {Name: "b", Table: b}}
	got, err := Query(d, query(t, "from a | overlap b"))
	if err != api.OK || len(got.Rows) != api.MaxRows || got.Rows[7][0].N != 74 || got.Rows[7][1].N != 75 || got.Rows[7][2].N != 7 {
		t.Error(len(got.Rows), err)
	}
}
