package match

import (
	"math"
	"math/rand"
	"slices"
	"strings"
	"testing"

	"tracebook/api"
	"tracebook/flame"
)

// graph returns the flame graph of paths, each with the weight 1.
func graph(t *testing.T, paths ...string) []api.Node {
	t.Helper()
	var l []api.Sample
	for _, p := range paths {
		l = append(l, api.Sample{Weight: 1, Stack: strings.Split(p, ";")})
	}
	g, err := flame.OfSamples(l)
	if err != api.OK {
		t.Fatal(err)
	}
	return g
}

// pairs returns the pairs of numbers.
func pairs(n ...int) []api.Pair {
	var l []api.Pair
	for i := 0; i < len(n); i += 2 {
		l = append(l, api.Pair{A: n[i], B: n[i+1]})
	}
	return l
}

// names returns the pairs by their paths.
func names(a, b []api.Node, l []api.Pair) []string {
	var s []string
	for _, p := range l {
		s = append(s, strings.Join(flame.Path(a, p.A), ";")+"="+strings.Join(flame.Path(b, p.B), ";"))
	}
	return s
}

func TestExamples(t *testing.T) {
	for i, c := range []struct {
		a, b []api.Node
		want string
	}{
		{graph(t, "main;f;x", "main;h"), graph(t, "main;g;x", "main;h"), "main=main main;f=main;g main;f;x=main;g;x main;h=main;h"},
		{graph(t, "main;f"), graph(t, "main;g"), "main=main main;f= =main;g"},
		{graph(t, "main;f"), nil, "main= main;f="}, {nil, graph(t, "main;f"), "=main =main;f"}, {nil, nil, ""},
		{graph(t, "f;x"), graph(t, "g;x"), "f=g f;x=g;x"},
		{graph(t, "f;x", "g;x"), graph(t, "h;x", "i;x", "j;x"), "f=h f;x=h;x g=i g;x=i;x =j =j;x"},
		{graph(t, "f;x;y"), graph(t, "g;x"), "f= f;x= f;x;y= =g =g;x"},
		{graph(t, "f;x;y"), graph(t, "g;x", "g;y"), "f= f;x= f;x;y= =g =g;x =g;y"},
		{graph(t, "a;x", "f;x"), graph(t, "f;x", "g;x"), "a=g a;x=g;x f=f f;x=f;x"},
		{graph(t, "m;f;p;x"), graph(t, "m;f;q;x"), "m=m m;f=m;f m;f;p=m;f;q m;f;p;x=m;f;q;x"},
	} {
		l, err := Of(c.a, c.b)
		if got := strings.Join(names(c.a, c.b, l), " "); got != c.want || err != api.OK || !Check(c.a, c.b, l) {
			t.Error(i, got, err)
		}
	}
	a, b := graph(t, "main;f;x", "main;h"), graph(t, "main;g;x", "main;h")
	l, _ := Of(a, b)
	if r := Renamed(a, b, l); !slices.Equal(r, []api.Pair{{A: 1, B: 1}}) {
		t.Error(r)
	}
}

func TestShape(t *testing.T) {
	a := graph(t, "m;f;x", "m;g", "n")
	if s := Shape(a, 0); !slices.Equal(s, []string{"1 f", "2 x", "1 g"}) {
		t.Error(s)
	}
	if s := Shape(a, 1); !slices.Equal(s, []string{"1 x"}) {
		t.Error(s)
	}
	for _, i := range []int{-1, 2, 4, 5, math.MaxInt} {
		if len(Shape(a, i)) != 0 {
			t.Error(i)
		}
	}
	if len(Shape([]api.Node{{Parent: -1, Name: "a"}, {Name: "b"}}, 0)) != 0 {
		t.Error("a flame graph that is not valid")
	}
}

func TestErrors(t *testing.T) {
	good, bad, other := graph(t, "a"), []api.Node{{Name: ""}}, []api.Node{{Parent: 5, Name: "a", Count: 1}}
	if l, err := Of(bad, other); len(l) != 0 || err != api.ErrName {
		t.Error(err)
	}
	if l, err := Of(good, other); len(l) != 0 || err != api.ErrForm {
		t.Error(err)
	}
	if Check(bad, nil, []api.Pair{{A: 0, B: -1}}) || Check(nil, other, []api.Pair{{A: -1, B: 0}}) {
		t.Error("Check")
	}
}

func TestCheck(t *testing.T) {
	a, b := graph(t, "m;f;x", "n"), graph(t, "m;g;x", "n")
	for i, c := range []struct {
		l    []api.Pair
		want bool
	}{
		{pairs(0, 0, 1, 1, 2, 2, 3, 3), true}, {pairs(0, 3, 1, -1, 2, -1, 3, 0, -1, 1, -1, 2), true}, {pairs(0, -1, 1, -1, 2, -1, 3, -1, -1, 0, -1, 1, -1, 2, -1, 3), true},
		{nil, false}, {pairs(0, 0, 1, 1, 2, 2), false}, {pairs(0, 0, 1, 1, 2, 2, 3, -1), false}, {pairs(0, 0, 1, 1, 2, 2, 3, 3, -1, 3), false}, {pairs(0, 0, 1, 1, 2, -1, 3, -1, -1, 3, -1, 2), false}, {pairs(1, 1, 0, 0, 2, 2, 3, 3), false}, {pairs(0, 0, 1, 1, 2, 2, 3, 0, -1, 3), false},
		{pairs(0, 0, 1, -1, 2, 2, 3, 3, -1, 1), false}, {pairs(0, 0, 1, 2, 2, -1, 3, 3, -1, 1), false}, {pairs(0, 1, 1, 2, 2, -1, 3, 3, -1, 0), false}, {pairs(0, 0, 1, 3, 2, -1, 3, -1, -1, 1, -1, 2), false}, {pairs(0, 0, 1, 1, 2, 2, 3, 4), false}, {pairs(0, -2, 1, -1, 2, -1, 3, -1, -1, 0, -1, 1, -1, 2, -1, 3), false}, {pairs(0, -1, 1, -1, 2, -1, 3, 1, -1, 0, -1, 2, -1, 3), false},
	} {
		if Check(a, b, c.l) != c.want {
			t.Error(i)
		}
	}
}

func TestRenamed(t *testing.T) {
	a, b := []api.Node{{Name: "x"}, {Name: "y"}}, []api.Node{{Name: "x"}}
	l := pairs(0, 0, 1, 0, 1, -1, -1, 0, 2, 0, 1, 1, math.MinInt, math.MaxInt, 1, 0)
	if r := Renamed(a, b, l); !slices.Equal(r, pairs(1, 0, 1, 0)) {
		t.Error(r)
	}
}

func random(t *testing.T, r *rand.Rand) []api.Node {
	var paths []string
	for range r.Intn(7) {
		var p []string
		for range 1 + r.Intn(4) {
			p = append(p, string(rune('a'+r.Intn(3))))
		}
		paths = append(paths, strings.Join(p, ";"))
	}
	return graph(t, paths...)
}

func TestRandom(t *testing.T) {
	r := rand.New(rand.NewSource(1))
	renamed := 0
	for range 3000 {
		a, b := random(t, r), random(t, r)
		l, err := Of(a, b)
		if err != api.OK || !Check(a, b, l) {
			t.Fatal(a, b, l, err)
		}
		for i := range a {
			if j := flame.Find(b, flame.Path(a, i)); j >= 0 && l[i].B != j {
				t.Fatal("equal paths", a, b, l)
			}
		}
		for _, p := range Renamed(a, b, l) {
			renamed++
			if s := Shape(a, p.A); len(s) == 0 || !slices.Equal(s, Shape(b, p.B)) {
				t.Fatal("renamed", a, b, p)
			}
		}
		self, _ := Of(a, a)
		for i, p := range self {
			if p != (api.Pair{A: i, B: i}) {
				t.Fatal("itself", a, self)
			}
		}
		checkSteps(t, a, b, l)
		checkShapes(t, a)
	}
	if renamed < 100 {
		t.Error("few renamed nodes", renamed)
	}
}

// checkSteps checks the second round: no node of a is left with a node of b of its shape, and earlier ones come first.
func checkSteps(t *testing.T, a, b []api.Node, l []api.Pair) {
	siblings := func(i, j int) bool {
		p, q := a[i].Parent, b[j].Parent
		return p < 0 && q < 0 || p >= 0 && q >= 0 && l[p].B == q
	}
	matched := map[int]int{}
	for i := range a {
		if l[i].B >= 0 {
			matched[l[i].B] = i
		}
	}
	for i := range a {
		for j := range b {
			if !siblings(i, j) || len(Shape(a, i)) == 0 || !slices.Equal(Shape(a, i), Shape(b, j)) {
				continue
			}
			other, taken := matched[j]
			byName := taken && a[other].Name == b[j].Name
			free := !taken || !byName && other > i // j was free when i was considered
			if free && (l[i].B < 0 || a[i].Name != b[l[i].B].Name && l[i].B > j) {
				t.Fatal(a, b, l, i, j)
			}
		}
	}
}

func checkShapes(t *testing.T, a []api.Node) {
	for i := range a {
		var want []string
		for j, x := range a {
			if x.Parent != i {
				continue
			}
			want = append(want, "1 "+x.Name)
			for _, s := range Shape(a, j) {
				depth, name, _ := strings.Cut(s, " ")
				want = append(want, string(rune(depth[0]+1))+" "+name)
			}
		}
		if !slices.Equal(Shape(a, i), want) {
			t.Fatal(a, i, want)
		}
	}
}
