package explain

import (
	"math/rand"
	"slices"
	"strings"
	"testing"

	"tracebook/api"
	"tracebook/flame"
	"tracebook/frac"
	"tracebook/match"
)

func one(name string, self, count int) []api.Node {
	return []api.Node{{Parent: -1, Name: name, Self: self, Total: self, Count: count}}
}

func part(path, cause string, n, d int) api.Part {
	return api.Part{Path: strings.FieldsFunc(path, func(r rune) bool { return r == ';' }), Cause: cause, Value: api.Frac{N: n, D: d}}
}

func equal(a, b []api.Part) bool {
	return slices.EqualFunc(a, b, func(x, y api.Part) bool {
		return slices.Equal(x.Path, y.Path) && x.Cause == y.Cause && x.Value == y.Value
	})
}

func TestExamples(t *testing.T) {
	for i, c := range []struct {
		a, b []api.Node
		want []api.Part
	}{
		{one("f", 100, 10), one("f", 150, 12), []api.Part{part("f", "count", 20, 1), part("f", "mean", 30, 1)}},
		{nil, one("f", 8, 2), []api.Part{part("f", "new", 8, 1)}}, {one("f", 8, 2), nil, []api.Part{part("f", "gone", -8, 1)}},
		{one("f", 10, 3), one("f", 10, 2), []api.Part{part("f", "count", -10, 3), part("f", "mean", 10, 3)}},
		{one("f", 10, 2), one("f", 10, 2), nil}, {one("f", 0, 2), nil, nil}, {one("f", 10, 2), one("f", 15, 3), []api.Part{part("f", "count", 5, 1)}}, {one("f", 10, 2), one("f", 15, 2), []api.Part{part("f", "mean", 5, 1)}}, {nil, nil, nil},
		{one("f", 10, 2), one("g", 7, 1), []api.Part{part("f", "gone", -10, 1), part("g", "new", 7, 1)}},
		// A renamed node has the path in b; a node without a count has no contribution of its own.
		{[]api.Node{{Parent: -1, Name: "f", Self: 4, Total: 10, Count: 1}, {Parent: 0, Name: "x", Self: 6, Total: 6, Count: 1}}, []api.Node{{Parent: -1, Name: "g", Total: 9}, {Parent: 0, Name: "x", Self: 9, Total: 9, Count: 1}}, []api.Part{part("g", "gone", -4, 1), part("g;x", "mean", 3, 1)}},
		{one("f", 100*api.MaxTime, api.MaxEvents), one("f", 100*api.MaxTime, 1), []api.Part{part("f", "count", -99995000000000, 1), part("f", "mean", 99995000000000, 1)}},
	} {
		got, err := Of(c.a, c.b)
		if !equal(got, c.want) || err != api.OK {
			t.Error(i, got, err)
		}
	}
}

func TestErrors(t *testing.T) {
	good, bad, worse := one("f", 1, 1), one("", 1, 1), one("f", -1, 1)
	for i, c := range []struct {
		a, b []api.Node
		err  api.Errno
	}{{bad, worse, api.ErrName}, {worse, bad, api.ErrRange}, {good, worse, api.ErrRange}, {good, good, api.OK}} {
		if l, err := Of(c.a, c.b); len(l) > 0 || err != c.err {
			t.Error(i, err)
		}
		if n, err := Difference(c.a, c.b); n != 0 || err != c.err {
			t.Error(i, err)
		}
	}
	if n, err := Difference(one("f", 10, 1), one("g", 4, 1)); n != -6 || err != api.OK {
		t.Error(n, err)
	}
}

func TestTop(t *testing.T) {
	l := []api.Part{part("a", "new", 3, 1), part("b", "gone", -7, 2), part("c", "new", 3, 1), part("d", "gone", -3, 1), part("e", "new", 4, 1)}
	for i, c := range []struct {
		n    int
		want []api.Part
	}{
		{0, []api.Part{part("", "rest", 7, 2)}}, {1, []api.Part{l[4], part("", "rest", -1, 2)}}, {2, []api.Part{l[4], l[1], part("", "rest", 3, 1)}}, {4, []api.Part{l[4], l[1], l[0], l[2], part("", "rest", -3, 1)}}, {5, []api.Part{l[4], l[1], l[0], l[2], l[3]}}, {99, []api.Part{l[4], l[1], l[0], l[2], l[3]}},
	} {
		got, err := Top(l, c.n)
		sum, ok := Sum(got)
		if !equal(got, c.want) || err != api.OK || !ok || sum != (api.Frac{N: 7, D: 2}) {
			t.Error(i, got, err)
		}
	}
	zero := []api.Part{part("a", "new", 5, 1), part("b", "new", 2, 1), part("c", "new", -2, 1)}
	if got, _ := Top(zero, 1); !equal(got, []api.Part{zero[0], part("", "rest", 0, 1)}) {
		t.Error(got)
	}
	great := part("a", "new", api.MaxNum, 1)
	minus := part("b", "gone", -api.MaxNum, 1)
	prime := part("p", "new", 1, 999999999999989)
	for i, c := range []struct {
		l   []api.Part
		n   int
		err api.Errno
	}{{nil, -1, api.ErrRange}, {[]api.Part{{}}, -1, api.ErrRange}, {[]api.Part{{}}, 1, api.ErrArg}, {[]api.Part{great, great}, 5, api.ErrArg}, {[]api.Part{minus, great, great}, 1, api.ErrArg}, {[]api.Part{minus, great, great}, 2, api.OK}, {[]api.Part{prime, part("a", "new", 1, 2)}, 5, api.ErrArg}, {nil, 0, api.OK}} {
		if got, err := Top(c.l, c.n); err != c.err || err != api.OK && len(got) > 0 {
			t.Error(i, got, err)
		}
	}
}

func TestBelow(t *testing.T) {
	l := []api.Part{part("a", "new", 1, 2), part("a;b", "new", 1, 3), part("ab", "new", 5, 1), part("a;c", "gone", -1, 1), {Cause: "rest", Value: api.Frac{N: 9, D: 1}}}
	for path, want := range map[string]api.Frac{"a": {N: -1, D: 6}, "a;b": {N: 1, D: 3}, "a;b;c": {D: 1}, "": {N: 83, D: 6}, "ab": {N: 5, D: 1}} {
		if got, ok := Below(l, part(path, "", 0, 1).Path); got != want || !ok {
			t.Error(path, got, ok)
		}
	}
	if got, ok := Below([]api.Part{{}}, nil); got != (api.Frac{}) || ok {
		t.Error(got, ok)
	}
}

func random(t *testing.T, r *rand.Rand) []api.Node {
	var l []api.Sample
	for range r.Intn(8) {
		x := api.Sample{Weight: 1 + r.Intn(20)}
		for range 1 + r.Intn(3) {
			x.Stack = append(x.Stack, string(rune('a'+r.Intn(3))))
		}
		l = append(l, x)
	}
	g, err := flame.OfSamples(l)
	if err != api.OK {
		t.Fatal(err)
	}
	return g
}

func total(l []api.Node, path []string) int {
	if i := flame.Find(l, path); i >= 0 {
		return l[i].Total
	}
	return 0
}

func TestRandom(t *testing.T) {
	r := rand.New(rand.NewSource(1))
	for range 2000 {
		a, b := random(t, r), random(t, r)
		l, err := Of(a, b)
		difference, _ := Difference(a, b)
		sum, ok := Sum(l)
		if err != api.OK || !ok || sum != (api.Frac{N: difference, D: 1}) || difference != flame.Sum(b)-flame.Sum(a) {
			t.Fatal(a, b, l, sum)
		}
		top, err := Top(l, r.Intn(5))
		if topSum, ok := Sum(top); err != api.OK || !ok || frac.Cmp(topSum, sum) != 0 {
			t.Fatal(top)
		}
		self, _ := Of(a, a)
		fresh, _ := Of(nil, a)
		gone, _ := Of(a, nil)
		if len(self) > 0 || slices.ContainsFunc(fresh, func(p api.Part) bool { return p.Cause != "new" }) || slices.ContainsFunc(gone, func(p api.Part) bool { return p.Cause != "gone" }) {
			t.Fatal(self, fresh, gone)
		}
		pairs, _ := match.Of(a, b)
		if len(match.Renamed(a, b, pairs)) > 0 {
			continue
		}
		for _, p := range l {
			if got, ok := Below(l, p.Path); !ok || got != (api.Frac{N: total(b, p.Path) - total(a, p.Path), D: 1}) {
				t.Fatal(a, b, l, p.Path, got)
			}
		}
	}
}
