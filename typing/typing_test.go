package typing

import (
	"fmt"
	"slices"
	"strings"
	"testing"

	"tracebook/api"
	"tracebook/parse"
)

// columns returns columns: k and n are integers, s and u texts, b a boolean, from and to integers.
func columns(names string) []api.Column {
	var l []api.Column
	for _, name := range strings.Fields(names) {
		t := api.VInt
		switch name[0] {
		case 's', 'u':
			t = api.VText
		case 'b':
			t = api.VBool
		}
		l = append(l, api.Column{Name: name, Type: t})
	}
	return l
}

func tableNamed(name, cols string) api.Named {
	return api.Named{Name: name, Table: api.Table{Cols: columns(cols)}}
}

func TestExpr(t *testing.T) {
	cols := columns("k s b n u")
	none, boolean, integer, text := api.VNull, api.VBool, api.VInt, api.VText
	for s, want := range map[string]struct {
		t   api.ValueKind
		err api.Errno
	}{
		"null": {none, api.OK}, "true": {boolean, api.OK}, "5": {integer, api.OK}, `"a"`: {text, api.OK}, "k": {integer, api.OK}, "s": {text, api.OK}, "b": {boolean, api.OK}, "z": {none, api.ErrColumn},
		"not b": {boolean, api.OK}, "not null": {boolean, api.OK}, "not k": {none, api.ErrType}, "b and null": {boolean, api.OK}, "b or s": {none, api.ErrType}, "null or null": {boolean, api.OK},
		"-k": {integer, api.OK}, "-null": {integer, api.OK}, "-s": {none, api.ErrType}, "k + n": {integer, api.OK}, "k * null": {integer, api.OK}, "k / s": {none, api.ErrType}, "b % k": {none, api.ErrType}, "k - 1": {integer, api.OK},
		"k = n": {boolean, api.OK}, "k = null": {boolean, api.OK}, "null != null": {boolean, api.OK}, "null = s": {boolean, api.OK}, "b = true": {boolean, api.OK}, "k = s": {none, api.ErrType}, "b != k": {none, api.ErrType}, "s = u": {boolean, api.OK},
		"k < n": {boolean, api.OK}, `k < "a"`: {none, api.ErrType}, "s <= u": {boolean, api.OK}, "null < null": {boolean, api.OK}, "null < s": {boolean, api.OK}, "k <= null": {boolean, api.OK}, "b < b": {none, api.ErrType}, "b < null": {none, api.ErrType},
		"min(null, k)": {integer, api.OK}, "min(k, null)": {integer, api.OK}, "max(s, u)": {text, api.OK}, "max(null, null)": {none, api.OK}, "max(b, b)": {none, api.ErrType}, "min(k, s)": {none, api.ErrType}, "min(null, b)": {none, api.ErrType}, "min(null, s)": {text, api.OK},
		"abs(k)": {integer, api.OK}, "abs(null)": {integer, api.OK}, "abs(s)": {none, api.ErrType}, "len(s)": {integer, api.OK}, "len(null)": {integer, api.OK}, "len(k)": {none, api.ErrType}, "has(s, u)": {boolean, api.OK}, "starts(s, null)": {boolean, api.OK}, "has(s, k)": {none, api.ErrType},
		"z + (k + s)": {none, api.ErrColumn}, "(k + s) + z": {none, api.ErrType}, "z + 1": {none, api.ErrColumn}, "not (s + z)": {none, api.ErrColumn},
	} {
		e, _, err := parse.Expr(s)
		if err != api.OK {
			t.Fatal(s, err)
		}
		got, err := Expr(cols, e)
		if got != want.t || err != want.err {
			t.Error(s, got, err)
		}
		// The type depends only on the columns that are mentioned, and on the first one with a name.
		more := append(append(columns("from x"), cols...), columns("sx k")...)
		if got, other := Expr(more, e); got != want.t || other != err {
			t.Error("more columns", s)
		}
		for i := range e.Kids {
			withNull := api.Expr{Op: e.Op, Name: e.Name, V: e.V, Kids: slices.Clone(e.Kids)}
			withNull.Kids[i] = api.Expr{Op: api.EConst}
			if _, other := Expr(cols, withNull); err == api.OK && other != api.OK {
				t.Error("null", s, i)
			}
		}
	}
	if k, err := Expr([]api.Column{{Name: "k", Type: api.VText}, {Name: "k", Type: api.VInt}}, api.Expr{Op: api.EField, Name: "k"}); k != api.VText || err != api.OK {
		t.Error(k, err)
	}
	if k, err := Expr(cols, api.Expr{}); k != api.VNull || err != api.ErrArg {
		t.Error(k, err)
	}
}

func database() []api.Named {
	var many []string
	for i := range 31 {
		many = append(many, fmt.Sprint("x", i))
	}
	return []api.Named{tableNamed("t", "k s b from to"), tableNamed("r", "k n u"), tableNamed("v", "k from to n"), tableNamed("sp", "s from n"), tableNamed("wide", "k "+strings.Join(many, " ")), {Name: "w", Table: api.Table{Cols: []api.Column{{Name: "k", Type: api.VText}, {Name: "from", Type: api.VText}, {Name: "to", Type: api.VInt}}}}}
}

func TestQuery(t *testing.T) {
	for s, want := range map[string]string{
		"from t": "k s b from to", "from t | where b": "k s b from to", "from t | where null": "k s b from to", "from t | sort k, s desc | limit 3": "k s b from to",
		"from t | select k + 1 as n, s as u": "n u", "from t | select min(null, k) as k": "k",
		"from t | group s : count() as n": "s n", "from t | group : sum(k) as k": "k", "from t | group k: first(s) as sf, max(b) as bm, min(from) as m": "k sf bm m", "from t | group b, s": "b s",
		"from t | coalesce": "from to", "from t | coalesce b, s": "b s from to",
		"from r | join t on k": "k n u s b from to", "from t | join r on k": "k s b from to n u",
		"from t | overlap v on k": "k s b from to n", "from t | select from as from, to as to | overlap t": "from to k s b",
		"from t | nearest sp on s": "k s b from to n", "from r | select k as k, k as from | nearest t on k": "k from s b to",
	} {
		q, _, err := parse.Query(s)
		if err != api.OK {
			t.Fatal(s, err)
		}
		got, err := Query(database(), q)
		if !slices.Equal(got, columns(want)) || err != api.OK {
			t.Error(s, got, err)
		}
		if n := len(q.Steps) - 1; n >= 0 {
			before, _ := Query(database(), api.Query{From: q.From, Steps: q.Steps[:n]})
			last, err := Step(database(), before, q.Steps[n])
			if !slices.Equal(last, got) || err != api.OK {
				t.Error("last step", s, last)
			}
		}
	}
}

func TestQueryErrors(t *testing.T) {
	for s, want := range map[string]api.Errno{
		"from z": api.ErrTable, "from z | limit 5": api.ErrTable,
		"from t | where k": api.ErrType, "from t | where z = 1": api.ErrColumn, "from t | where not k": api.ErrType,
		"from t | select null as n": api.ErrType, "from t | select k as k, z as z, null as n": api.ErrColumn, "from t | select null as n, z as z": api.ErrType,
		"from t | group z": api.ErrColumn, "from t | group : sum(s) as n": api.ErrType, "from t | group : sum(z) as n": api.ErrColumn, "from t | group k, z : sum(s) as n": api.ErrColumn, "from t | group : sum(b) as n": api.ErrType, "from t | group : sum(s) as n, max(z) as m": api.ErrType,
		"from t | sort k, z":     api.ErrColumn,
		"from t | coalesce from": api.ErrTwice, "from t | coalesce z, to": api.ErrTwice, "from t | coalesce z": api.ErrColumn, "from r | coalesce k": api.ErrColumn, "from w | coalesce k": api.ErrType,
		"from t | join z on k": api.ErrTable, "from t | join r on s": api.ErrColumn, "from t | join r on u": api.ErrColumn, "from t | join w on k": api.ErrType, "from t | join v on k": api.ErrTwice, "from t | join t on k": api.ErrTwice,
		"from t | overlap z on from": api.ErrTable, "from t | overlap r on to, zz": api.ErrTwice, "from t | overlap r on z": api.ErrColumn, "from t | overlap w on k": api.ErrType, "from t | overlap r": api.ErrColumn, "from r | overlap t": api.ErrColumn, "from t | overlap w": api.ErrType, "from t | overlap v": api.ErrTwice, "from t | overlap sp on s": api.ErrColumn,
		"from t | nearest sp on from": api.ErrTwice, "from t | nearest r on k": api.ErrColumn, "from r | nearest t on k": api.ErrColumn, "from t | nearest w": api.ErrType, "from t | nearest sp": api.ErrTwice, "from t | nearest v on to": api.ErrTwice, "from t | nearest v on k, to": api.OK,
		"from r | join wide on k": api.ErrLong, "from r | select k as k | join wide on k": api.OK,
	} {
		q, _, err := parse.Query(s)
		if err != api.OK {
			t.Fatal(s, err)
		}
		if cols, err := Query(database(), q); err != want || err != api.OK && len(cols) > 0 {
			t.Error(s, cols, err)
		}
	}
	bad := append(database(), tableNamed("t", ""))
	if _, err := Query(bad, api.Query{}); err != api.ErrTwice {
		t.Error(err)
	}
	if _, err := Query(nil, api.Query{}); err != api.ErrName {
		t.Error(err)
	}
	if _, err := Step(nil, nil, api.QStep{}); err != api.ErrArg {
		t.Error(err)
	}
}

// Step does not examine the database, and looks for the first table with a name.
func TestStep(t *testing.T) {
	bad := []api.Named{{Name: ""}, tableNamed("r", "k u"), tableNamed("r", "k n")}
	got, err := Step(bad, columns("k"), api.QStep{Op: api.QJoin, Table: "r", Cols: []string{"k"}})
	if !slices.Equal(got, columns("k u")) || err != api.OK {
		t.Error(got, err)
	}
	if _, err := Step(bad, columns("k k"), api.QStep{Op: api.QJoin, Table: "r", Cols: []string{"k"}}); err != api.ErrTwice {
		t.Error(err)
	}
}
