package delta

import (
	"math/rand"
	"slices"
	"testing"

	"tracebook/api"
	"tracebook/naive"
	"tracebook/parse"
	"tracebook/table"
)

func integer(n int) api.Value { return api.Value{Kind: api.VInt, N: n} }
func text(s string) api.Value { return api.Value{Kind: api.VText, S: s} }

// of returns a table with a column n of integers.
func of(l ...int) api.Table {
	t := api.Table{Cols: []api.Column{{Name: "n", Type: api.VInt}}}
	for _, n := range l {
		t.Rows = append(t.Rows, []api.Value{integer(n)})
	}
	return t
}

func changes(l ...int) []api.Change {
	var c []api.Change
	for i := 0; i < len(l); i += 2 {
		c = append(c, api.Change{Row: []api.Value{integer(l[i])}, N: l[i+1]})
	}
	return c
}

func equal(a, b []api.Change) bool {
	return slices.EqualFunc(a, b, func(x, y api.Change) bool { return x.N == y.N && slices.Equal(x.Row, y.Row) })
}

func TestExamples(t *testing.T) {
	if c, err := Diff(of(1, 1, 2), of(1, 3)); !equal(c, changes(1, -1, 2, -1, 3, 1)) || err != api.OK {
		t.Error(c, err)
	}
	if got, err := Apply(of(2, 1, 1), changes(1, -1, 2, -1, 3, 1)); !table.Same(got, of(1, 3)) || err != api.OK {
		t.Error(got, err)
	}
	for s, want := range map[string]bool{"from t | where n < 3": true, "from t | where n < 3 | limit 1": false, "from t": true, "from u": false, "from t | select n as n | join u on n | overlap v": true, "from t | join t on n": false, "from t | overlap t": false, "from t | nearest u": false, "from t | group n": false, "from t | sort n": false, "from t | coalesce": false, "from u | join t on n": false} {
		q, _, err := parse.Query(s)
		if err != api.OK || Linear(q, "t") != want {
			t.Error(s, err)
		}
	}
	if Linear(api.Query{From: "t", Steps: []api.QStep{{}}}, "t") || Linear(api.Query{}, "") {
		t.Error("a query that is not valid")
	}
}

func TestDiffErrors(t *testing.T) {
	bad := of(1)
	bad.Rows[0] = nil
	other := of()
	other.Cols = []api.Column{{Name: "m", Type: api.VInt}}
	long := of(make([]int, api.MaxRows+1)...)
	for i, c := range []struct {
		a, b api.Table
		err  api.Errno
	}{{bad, long, api.ErrForm}, {of(), long, api.ErrLong}, {of(), other, api.ErrForm}, {of(), of(), api.OK}} {
		if l, err := Diff(c.a, c.b); err != c.err || len(l) > 0 {
			t.Error(i, err)
		}
	}
}

func TestApplyErrors(t *testing.T) {
	word := []api.Change{{Row: []api.Value{text("a")}, N: 1}}
	bad := of(1)
	bad.Rows[0] = nil
	for i, c := range []struct {
		t   api.Table
		l   []api.Change
		err api.Errno
	}{
		{bad, changes(1, 0), api.ErrForm}, {of(), []api.Change{{N: 1}}, api.ErrForm}, {of(), changes(1, 0), api.ErrForm}, {of(), changes(1, api.MaxRows+1), api.ErrForm}, {of(), changes(1, -api.MaxRows-1), api.ErrForm}, {of(), changes(2, 1, 1, 1), api.ErrForm}, {of(), changes(1, 1, 1, 1), api.ErrForm},
		{of(), word, api.ErrType}, {of(), append(changes(5, -1), word...), api.ErrType}, {of(), changes(api.MaxInt+1, 0), api.ErrForm}, {of(), changes(api.MaxInt+1, 1), api.ErrRange},
		{of(1), changes(1, -2), api.ErrNone}, {of(1), changes(1, -1, 2, -1), api.ErrNone}, {of(1), changes(1, api.MaxRows, 2, -1), api.ErrNone}, {of(1), changes(1, api.MaxRows), api.ErrLong}, {of(1), changes(1, api.MaxRows-1), api.OK}, {of(), changes(1, api.MaxRows), api.OK}, {of(1, 2), changes(1, -1, 2, -1), api.OK}, {of(make([]int, api.MaxRows)...), changes(0, -api.MaxRows), api.OK},
	} {
		if got, err := Apply(c.t, c.l); err != c.err || err != api.OK && !table.Same(got, api.Table{}) {
			t.Error(i, err)
		}
	}
}

func random(r *rand.Rand) api.Table {
	t := api.Table{Cols: []api.Column{{Name: "n", Type: api.VInt}, {Name: "s", Type: api.VText}}}
	for range r.Intn(10) {
		t.Rows = append(t.Rows, randomRow(r))
	}
	return t
}

func randomRow(r *rand.Rand) []api.Value {
	row := []api.Value{integer(r.Intn(3)), text([]string{"a", "b"}[r.Intn(2)])}
	if r.Intn(5) == 0 {
		row[r.Intn(2)] = api.Value{}
	}
	return row
}

func sorted(t api.Table) api.Table {
	s, _ := table.Sorted(t, []api.Sort{{Col: "n"}, {Col: "s"}})
	return s
}

func TestRandom(t *testing.T) {
	r := rand.New(rand.NewSource(1))
	for range 3000 {
		a, b := random(r), random(r)
		there, err := Diff(a, b)
		if err != api.OK {
			t.Fatal(err)
		}
		for i, c := range there {
			count := func(t api.Table) int {
				n := 0
				for _, row := range t.Rows {
					if slices.Equal(row, c.Row) {
						n++
					}
				}
				return n
			}
			if c.N != count(b)-count(a) || c.N == 0 || i > 0 && compare(there[i-1].Row, c.Row) >= 0 {
				t.Fatal(a, b, there)
			}
		}
		got, err := Apply(a, there)
		if err != api.OK || !table.Same(got, sorted(b)) {
			t.Fatal(a, b, there, got, err)
		}
		if again, _ := Diff(a, got); !equal(again, there) {
			t.Fatal("again", again, there)
		}
		back, _ := Diff(b, a)
		for i := range back {
			back[i].N = -back[i].N
		}
		none, _ := Diff(a, a)
		if !equal(back, there) || len(none) > 0 {
			t.Fatal("back", back, there)
		}
	}
}

func TestGrow(t *testing.T) {
	r := rand.New(rand.NewSource(2))
	for range 500 {
		d := []api.Named{{Name: "t", Table: random(r)}, {Name: "u", Table: random(r)}}
		d[1].Table.Cols[0].Name = "m"
		rows := [][]api.Value{randomRow(r), randomRow(r)}[:r.Intn(3)]
		for _, s := range []string{"from t | where n < 2", "from t | select n + 1 as n, s as s | join u on s", "from t | limit 2", "from t | group s: count() as c", "from u | join t on s"} {
			q, _, _ := parse.Query(s)
			l, err := Grow(d, q, "t", rows)
			if err != api.OK {
				t.Fatal(s, err)
			}
			before, _ := naive.Run(d, q)
			larger := slices.Clone(d)
			larger[0].Table.Rows = slices.Concat(d[0].Table.Rows, rows)
			after, _ := naive.Run(larger, q)
			if want, _ := Diff(before, after); !equal(l, want) {
				t.Fatal(s, l, want)
			}
			for _, c := range l {
				if Linear(q, "t") && c.N < 0 {
					t.Fatal(s, l)
				}
			}
		}
	}
}

func TestGrowErrors(t *testing.T) {
	d := []api.Named{{Name: "t", Table: of(1)}, {Name: "l", Table: of(make([]int, 142)...)}, {Name: "k", Table: of(make([]int, 141)...)}}
	d[2].Table.Cols = []api.Column{{Name: "n", Type: api.VInt}, {Name: "v", Type: api.VInt}}
	for i := range d[2].Table.Rows {
		d[2].Table.Rows[i] = []api.Value{integer(i % 140 / 139), integer(1)}
	}
	query := func(s string) api.Query {
		q, _, _ := parse.Query(s)
		return q
	}
	one := [][]api.Value{{integer(1)}}
	for i, c := range []struct {
		d    []api.Named
		q    string
		name string
		rows [][]api.Value
		err  api.Errno
	}{
		{[]api.Named{{}}, "from z", "z", nil, api.ErrName}, {d, "from z", "z", nil, api.ErrTable}, {d, "from t | sort k", "z", nil, api.ErrColumn}, {d, "from t", "z", [][]api.Value{nil}, api.ErrTable},
		{d, "from t", "t", [][]api.Value{{integer(1)}, nil}, api.ErrForm}, {d, "from t", "t", [][]api.Value{{text("a")}, nil}, api.ErrType}, {d, "from t", "t", slices.Repeat(one, api.MaxRows), api.ErrLong}, {d, "from t", "t", slices.Repeat(one, api.MaxRows-1), api.OK},
		{d, "from l | join k on n", "k", slices.Repeat([][]api.Value{{integer(0), integer(1)}}, 5), api.ErrLong},
	} {
		if l, err := Grow(c.d, query(c.q), c.name, c.rows); err != c.err || err != api.OK && len(l) > 0 {
			t.Error(i, err)
		}
	}
}
