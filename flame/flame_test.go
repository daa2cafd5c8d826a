package flame

import (
	"fmt"
	"math/rand"
	"slices"
	"strings"
	"testing"

	"tracebook/api"
	"tracebook/slice"
)

func node(parent int, name string, self, total, count int) api.Node {
	return api.Node{Parent: parent, Name: name, Self: self, Total: total, Count: count}
}

func of(weight int, stack string) api.Sample {
	return api.Sample{Weight: weight, Stack: strings.FieldsFunc(stack, func(r rune) bool { return r == ';' })}
}

func TestOfSamples(t *testing.T) {
	l, err := OfSamples([]api.Sample{of(3, "main;f"), of(2, "main"), of(1, "main;a"), of(4, "")})
	if !slices.Equal(l, []api.Node{node(-1, "main", 2, 6, 1), node(0, "a", 1, 1, 1), node(0, "f", 3, 3, 1)}) || err != api.OK {
		t.Error(l, err)
	}
	l, err = OfSamples([]api.Sample{of(3, "b;x;y"), of(2, "a;x"), of(1, "b;x;y"), of(5, "a1")})
	if !slices.Equal(l, []api.Node{node(-1, "a", 0, 2, 0), node(0, "x", 2, 2, 1), node(-1, "a1", 5, 5, 1), node(-1, "b", 0, 4, 0), node(3, "x", 0, 4, 0), node(4, "y", 4, 4, 2)}) || err != api.OK {
		t.Error(l, err)
	}
	if l, err := OfSamples(nil); len(l) != 0 || err != api.OK {
		t.Error(l, err)
	}
	var many []api.Sample
	for i := range 2001 {
		many = append(many, of(1, fmt.Sprint("f", i)))
	}
	great := slices.Repeat([]api.Sample{of(api.MaxTime, "f")}, 101)
	for i, c := range []struct {
		l   []api.Sample
		err api.Errno
	}{{[]api.Sample{of(0, "f")}, api.ErrRange}, {many, api.ErrLong}, {many[1:], api.OK}, {great, api.ErrRange}, {great[1:], api.OK}, {slices.Repeat(many[:1], api.MaxEvents), api.OK}, {slices.Repeat(many[:1], api.MaxEvents+1), api.ErrRange}} {
		if l, err := OfSamples(c.l); err != c.err || (len(l) > 0) != (err == api.OK) {
			t.Error(i, err)
		}
	}
}

func TestOfSlices(t *testing.T) {
	tr := api.Trace{Span: api.Span{To: 20}, Threads: []api.Thread{{Id: 1, Name: "a"}, {Id: 2, Name: "b"}}, Slices: []api.Slice{
		{Thread: 1, Parent: -1, Name: "m", Span: api.Span{To: 10}, Self: 4}, {Thread: 1, Parent: 0, Depth: 1, Name: "f", Span: api.Span{To: 4}, Self: 4}, {Thread: 2, Parent: -1, Name: "m", Span: api.Span{From: 1, To: 3}, Self: 0}, {Thread: 2, Parent: 2, Depth: 1, Name: "e", Span: api.Span{From: 1, To: 3}, Self: 2}, {Thread: 1, Parent: 0, Depth: 1, Name: "f", Span: api.Span{From: 5, To: 7}, Self: 2},
	}}
	l, err := OfSlices(tr)
	if !slices.Equal(l, []api.Node{node(-1, "m", 4, 12, 2), node(0, "e", 2, 2, 1), node(0, "f", 6, 6, 2)}) || err != api.OK {
		t.Error(l, err)
	}
	for i := range tr.Slices {
		if Find(l, slice.Path(tr.Slices, i)) < 0 {
			t.Error(i)
		}
	}
	tr.Span.To = 5
	if l, err := OfSlices(tr); len(l) != 0 || err != api.ErrForm {
		t.Error(err)
	}
}

func TestCheck(t *testing.T) {
	good := []api.Node{node(-1, "a", 0, 5, 0), node(0, "b", 2, 2, 1), node(0, "c", 3, 3, 2), node(-1, "b", 0, 0, 1)}
	for i, c := range []struct {
		change func(l []api.Node)
		err    api.Errno
	}{
		{func(l []api.Node) {}, api.OK},
		{func(l []api.Node) { l[1].Name = ""; l[0].Self = -1 }, api.ErrRange}, {func(l []api.Node) { l[0].Name = ""; l[1].Self = -1 }, api.ErrName}, {func(l []api.Node) { l[1].Self = -1 }, api.ErrRange}, {func(l []api.Node) { l[1].Self = 100*api.MaxTime + 1 }, api.ErrRange}, {func(l []api.Node) { l[1].Count = -1 }, api.ErrRange}, {func(l []api.Node) { l[1].Count = api.MaxEvents + 1 }, api.ErrRange}, {func(l []api.Node) { l[0].Self = 1 }, api.ErrRange},
		{func(l []api.Node) { l[1].Self = 100*api.MaxTime - 2 }, api.ErrRange}, {func(l []api.Node) { l[1].Count = api.MaxEvents - 2 }, api.ErrRange}, {func(l []api.Node) { l[1].Count = api.MaxEvents - 3 }, api.OK},
		{func(l []api.Node) { l[0].Parent = 0 }, api.ErrForm}, {func(l []api.Node) { l[0].Parent = -2 }, api.ErrForm}, {func(l []api.Node) { l[1].Parent = 1 }, api.ErrForm}, {func(l []api.Node) { l[1].Parent = 2 }, api.ErrForm}, {func(l []api.Node) { l[3].Parent = 1 }, api.ErrForm}, {func(l []api.Node) { l[2].Parent = 99 }, api.ErrForm}, {func(l []api.Node) { l[3].Parent = 2; l[2].Name = "b" }, api.ErrOrder},
		{func(l []api.Node) { l[2].Name = "b" }, api.ErrOrder}, {func(l []api.Node) { l[2].Name = "a" }, api.ErrOrder}, {func(l []api.Node) { l[3].Name = "a" }, api.ErrOrder}, {func(l []api.Node) { l[3].Name = "a"; l[2].Parent = 9 }, api.ErrForm},
		{func(l []api.Node) { l[3].Count = 0 }, api.ErrForm}, {func(l []api.Node) { l[0].Total = 4 }, api.ErrForm}, {func(l []api.Node) { l[2].Total = 4 }, api.ErrForm}, {func(l []api.Node) { l[2].Parent = 1 }, api.ErrForm}, {func(l []api.Node) { l[2].Parent = 1; l[1].Total = 5 }, api.OK},
	} {
		l := slices.Clone(good)
		c.change(l)
		if err := Check(l); err != c.err {
			t.Error(i, err)
		}
		if _, err := Merge(l, nil); err != c.err {
			t.Error(i, err)
		}
		if _, err := Merge(nil, l); err != c.err {
			t.Error(i, err)
		}
		if c.err != api.OK && (Find(l, []string{"a"}) != -1 || len(Path(l, 0)) != 0 || Sum(l) != 0) {
			t.Error(i)
		}
	}
	if Check(nil) != api.OK || Check(make([]api.Node, 2001)) != api.ErrLong {
		t.Error("Check")
	}
}

func TestFind(t *testing.T) {
	l := []api.Node{node(-1, "a", 0, 5, 0), node(0, "b", 2, 5, 1), node(1, "b", 3, 3, 2), node(-1, "b", 0, 0, 1)}
	for path, want := range map[string]int{"a": 0, "a;b": 1, "a;b;b": 2, "b": 3, "b;b": -1, "a;b;b;b": -1, "c": -1, "": -1} {
		p := of(1, path).Stack
		if got := Find(l, p); got != want || want >= 0 && !slices.Equal(Path(l, want), p) {
			t.Error(path, got)
		}
	}
	if len(Path(l, -1)) != 0 || len(Path(l, 4)) != 0 || Sum(l) != 5 {
		t.Error("Path, Sum")
	}
}

func random(r *rand.Rand) []api.Sample {
	var l []api.Sample
	for range r.Intn(8) {
		var stack []string
		for range r.Intn(4) {
			stack = append(stack, []string{"a", "b", "a1"}[r.Intn(3)])
		}
		l = append(l, api.Sample{Weight: 1 + r.Intn(9), Stack: stack})
	}
	return l
}

func TestRandom(t *testing.T) {
	r := rand.New(rand.NewSource(1))
	for range 2000 {
		x, y := random(r), random(r)
		a, err := OfSamples(x)
		b, _ := OfSamples(y)
		if err != api.OK || Check(a) != api.OK {
			t.Fatal(err)
		}
		want := 0
		for _, s := range x {
			if len(s.Stack) > 0 {
				want += s.Weight
			}
		}
		roots := 0
		for i, n := range a {
			if n.Parent < 0 {
				roots += n.Total
			}
			if Find(a, Path(a, i)) != i || i > 0 && slices.Compare(Path(a, i-1), Path(a, i)) >= 0 {
				t.Fatal("paths", a)
			}
		}
		if Sum(a) != want || roots != want {
			t.Fatal("sums", a)
		}
		ab, err := Merge(a, b)
		ba, _ := Merge(b, a)
		both, _ := OfSamples(append(x, y...))
		same, _ := Merge(a, nil)
		if err != api.OK || !slices.Equal(ab, ba) || !slices.Equal(ab, both) || Sum(ab) != Sum(a)+Sum(b) || !slices.Equal(same, a) {
			t.Fatal("Merge", a, b, ab)
		}
	}
	great := []api.Node{node(-1, "a", 60*api.MaxTime, 60*api.MaxTime, 1)}
	if l, err := Merge(great, great); len(l) != 0 || err != api.ErrRange {
		t.Error(err)
	}
}

// Slices can be nested far more deeply than a flame graph may have nodes.
func TestDeep(t *testing.T) {
	tr := api.Trace{Span: api.Span{To: api.MaxEvents}, Threads: []api.Thread{{Id: 1, Name: "a"}}}
	for i := range api.MaxEvents / 2 {
		tr.Slices = append(tr.Slices, api.Slice{Thread: 1, Parent: i - 1, Depth: i, Name: "f", Span: api.Span{From: i, To: api.MaxEvents - i}, Self: 2})
	}
	if l, err := OfSlices(tr); len(l) != 0 || err != api.ErrLong {
		t.Error(err)
	}
}
