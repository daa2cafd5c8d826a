package temporal

import (
	"math/rand"
	"slices"
	"strings"
	"testing"

	"tracebook/api"
	"tracebook/table"
)

func row(values ...any) []api.Value {
	var l []api.Value
	for _, v := range values {
		switch v := v.(type) {
		case int:
			l = append(l, api.Value{Kind: api.VInt, N: v})
		case string:
			l = append(l, api.Value{Kind: api.VText, S: v})
		default:
			l = append(l, api.Value{})
		}
	}
	return l
}

// of returns a table; the columns s and u are texts, all others integers.
func of(names string, rows ...[]api.Value) api.Table {
	t := api.Table{Rows: rows}
	for _, name := range strings.Fields(names) {
		c := api.Column{Name: name, Type: api.VInt}
		if name == "s" || name == "u" {
			c.Type = api.VText
		}
		t.Cols = append(t.Cols, c)
	}
	return t
}

func TestOverlap(t *testing.T) {
	a := of("s from to", row("x", 0, 10), row("y", 0, 10))
	b := of("s from to v", row("x", 5, 20, 1), row("x", 10, 12, 2))
	got, err := Overlap(a, b, []string{"s"})
	if !table.Same(got, of("s from to v", row("x", 5, 10, 1))) || err != api.OK {
		t.Error(got, err)
	}
	if _, err := Overlap(a, b, nil); err != api.ErrTwice {
		t.Error(err)
	}
	// Columns in another order, nulls, spans that are empty, and negative and great times.
	a = of("to s from", row(10, "x", 0), row(nil, "x", 0), row(5, "x", 5), row(-1, nil, -9), row(api.MaxInt, "z", -api.MaxInt))
	b = of("v from to", row(1, 2, 4), row(2, nil, 4), row(3, 9, 8), row(4, -5, 20))
	want := of("to s from v", row(4, "x", 2, 1), row(10, "x", 0, 4), row(-1, nil, -5, 4), row(4, "z", 2, 1), row(20, "z", -5, 4))
	if got, err = Overlap(a, b, nil); !table.Same(got, want) || err != api.OK {
		t.Error(got, err)
	}
	// Nulls do not agree.
	if got, err := Overlap(of("s from to", row(nil, 0, 9)), of("s from to", row(nil, 0, 9)), []string{"s"}); len(got.Rows) != 0 || err != api.OK {
		t.Error(got, err)
	}
}

func TestNearest(t *testing.T) {
	b := of("from v", row(3, 1), row(5, 2), row(5, 3), row(9, 4), row(nil, 5))
	got, err := Nearest(of("from", row(7), row(2), row(nil), row(9), row(-4)), b, nil)
	if !table.Same(got, of("from v", row(7, 3), row(2, nil), row(nil, nil), row(9, 4), row(-4, nil))) || err != api.OK {
		t.Error(got, err)
	}
	b = of("v s from", row(1, "x", 3), row(2, "y", 5), row(3, nil, 6))
	got, err = Nearest(of("s from n", row("x", 9, 0), row("y", 4, 1), row(nil, 9, 2)), b, []string{"s"})
	if !table.Same(got, of("s from n v", row("x", 9, 0, 1), row("y", 4, 1, nil), row(nil, 9, 2, nil))) || err != api.OK {
		t.Error(got, err)
	}
	if got, err := Nearest(of("from n", row(3, 1)), of("from v"), nil); !table.Same(got, of("from n v", row(3, 1, nil))) || err != api.OK {
		t.Error(got, err)
	}
}

func TestCoalesce(t *testing.T) {
	got, err := Coalesce(of("from to", row(0, 3), row(7, 9), row(3, 5), row(8, 8)), nil)
	if !table.Same(got, of("from to", row(0, 5), row(7, 9))) || err != api.OK {
		t.Error(got, err)
	}
	a := of("k to s from", row(1, 5, "b", 0), row(1, 9, "a", 4), row(1, 4, nil, 2), row(1, 3, nil, 0), row(2, 3, "a", 1), row(1, 6, "b", 5), row(1, 9, "b", -1), row(1, nil, "b", 0), row(1, api.MaxInt, "b", 8), row(nil, 2, "a", 1))
	got, err = Coalesce(a, []string{"s", "k"})
	want := of("s k from to", row(nil, 1, 0, 4), row("a", nil, 1, 2), row("a", 1, 4, 9), row("a", 2, 1, 3), row("b", 1, 0, 6), row("b", 1, 8, api.MaxInt))
	if !table.Same(got, want) || err != api.OK {
		t.Error(got, err)
	}
}

func TestErrors(t *testing.T) {
	good := of("s from to", row("x", 0, 10))
	bad := of("s from to", row(1))
	for i, c := range []struct {
		a, b api.Table
		on   []string
		err  api.Errno
	}{
		{bad, of("k k"), []string{"S"}, api.ErrForm}, {good, of("k k"), []string{"S"}, api.ErrTwice}, {good, good, []string{"S"}, api.ErrName}, {good, good, []string{"s", "s"}, api.ErrTwice}, {good, good, []string{"from"}, api.ErrTwice}, {good, good, []string{"k"}, api.ErrColumn}, {good, of("s"), []string{"s"}, api.ErrColumn},
	} {
		for _, f := range []func(a, b api.Table, on []string) (api.Table, api.Errno){Overlap, Nearest} {
			if got, err := f(c.a, c.b, c.on); err != c.err || !table.Same(got, api.Table{}) {
				t.Error(i, err)
			}
		}
	}
	for i, c := range []struct {
		a   api.Table
		on  []string
		err api.Errno
	}{{bad, []string{"S"}, api.ErrForm}, {good, []string{"S"}, api.ErrName}, {good, []string{"to"}, api.ErrTwice}, {good, []string{"k"}, api.ErrColumn}, {of("s from"), nil, api.ErrColumn}} {
		if got, err := Coalesce(c.a, c.on); err != c.err || !table.Same(got, api.Table{}) {
			t.Error(i, err)
		}
	}
}

func TestLong(t *testing.T) {
	a := of("from to", slices.Repeat([][]api.Value{row(0, 10)}, 142)...)
	b := of("from to", slices.Repeat([][]api.Value{row(5, 15)}, 141)...)
	if got, err := Overlap(a, b, nil); err != api.ErrLong || !table.Same(got, api.Table{}) {
		t.Error(err)
	}
	b.Rows = b.Rows[1:]
	if got, err := Overlap(a, b, nil); err != api.OK || len(got.Rows) != 142*140 {
		t.Error(err)
	}
	b.Rows = b.Rows[:100]
	a.Rows = slices.Repeat(a.Rows[:1], 200)
	if got, err := Overlap(a, b, nil); err != api.OK || len(got.Rows) != api.MaxRows {
		t.Error(err)
	}
}

func random(r *rand.Rand, names string) api.Table {
	t := of(names)
	for range r.Intn(10) {
		var l []api.Value
		for _, c := range t.Cols {
			switch {
			case r.Intn(8) == 0:
				l = append(l, api.Value{})
			case c.Type == api.VText:
				l = append(l, api.Value{Kind: api.VText, S: []string{"a", "b"}[r.Intn(2)]})
			default:
				l = append(l, api.Value{Kind: api.VInt, N: r.Intn(14) - 2})
			}
		}
		t.Rows = append(t.Rows, l)
	}
	return t
}

// lengths returns the sum of the lengths of the spans of a table.
func lengths(t api.Table) int {
	n := 0
	for _, x := range spansOf(t) {
		n += x.to - x.from
	}
	return n
}

func TestRandom(t *testing.T) {
	r := rand.New(rand.NewSource(1))
	for range 2000 {
		a, b := random(r, "s from to v"), random(r, "w to from s")
		ab, err := Overlap(a, b, []string{"s"})
		ba, other := Overlap(b, a, []string{"s"})
		if err != api.OK || other != api.OK || len(ab.Rows) != len(ba.Rows) || lengths(ab) != lengths(ba) || table.Check(ab) != api.OK {
			t.Fatal(a, b, ab, ba)
		}
		near, err := Nearest(a, of("from s w", random(r, "from s w").Rows...), []string{"s"})
		if err != api.OK || len(near.Rows) != len(a.Rows) || table.Check(near) != api.OK {
			t.Fatal(near, err)
		}
		for i, x := range near.Rows {
			if !slices.Equal(x[:4], a.Rows[i]) {
				t.Fatal(near)
			}
		}
		checkCoalesce(t, a)
	}
}

// checkCoalesce compares the times of each group before and after.
func checkCoalesce(t *testing.T, a api.Table) {
	got, err := Coalesce(a, []string{"s"})
	again, other := Coalesce(got, []string{"s"})
	if err != api.OK || other != api.OK || !table.Same(got, again) || table.Check(got) != api.OK {
		t.Fatal(a, got, again)
	}
	for i := 1; i < len(got.Rows); i++ {
		x, y := got.Rows[i-1], got.Rows[i]
		if order := table.Order(x[0], y[0]); order > 0 || order == 0 && x[2].N >= y[1].N {
			t.Fatal("order", got)
		}
	}
	for _, s := range row("a", "b", nil) {
		for at := -3; at < 15; at++ {
			want := slices.ContainsFunc(spansOf(a), func(x timed) bool { return x.row[0] == s && x.from >= 0 && x.from <= at && at < x.to })
			if slices.ContainsFunc(spansOf(got), func(x timed) bool { return x.row[0] == s && x.from <= at && at < x.to }) != want {
				t.Fatal(a, got, s, at)
			}
		}
	}
}

// The rows of the second table can be in any order, and empty spans are none.
func TestAnyOrder(t *testing.T) {
	b := of("from v", row(9, 1), row(nil, 2), row(3, 3), row(8, 4), row(5, 5), row(2, 6))
	got, err := Nearest(of("from", row(7), row(2), row(20)), b, nil)
	if !table.Same(got, of("from v", row(7, 5), row(2, 6), row(20, 1))) || err != api.OK {
		t.Error(got, err)
	}
	first := of("from v s", row(1, 1, "a"), row(5, 2, "b"), row(3, 3, "a"))
	got, err = Nearest(of("from s", row(9, "a")), first, []string{"s"})
	if !table.Same(got, of("from s v", row(9, "a", 3))) || err != api.OK {
		t.Error(got, err)
	}
	if got, err := Coalesce(of("from to", row(4, 4), row(1, 2), row(8, 7)), nil); !table.Same(got, of("from to", row(1, 2))) || err != api.OK {
		t.Error(got, err)
	}
}
