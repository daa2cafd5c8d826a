package itree

import (
	"math"
	"math/bits"
	"math/rand"
	"slices"
	"testing"

	"tracebook/api"
	"tracebook/spans"
)

func of(n ...int) []api.Span {
	var l []api.Span
	for i := 0; i < len(n); i += 2 {
		l = append(l, api.Span{From: n[i], To: n[i+1]})
	}
	return l
}

func TestExamples(t *testing.T) {
	l := of(5, 9, 0, 20, 5, 7)
	x := Of(l)
	if !slices.Equal(x.Order, []int{1, 2, 0}) || !slices.Equal(x.Most, []int{20, 20, 9}) {
		t.Error(x)
	}
	if got := Overlap(l, x, api.Span{From: 8, To: 10}); !slices.Equal(got, []int{0, 1}) {
		t.Error(got)
	}
	if !slices.Equal(Stab(l, x, 6), []int{0, 1, 2}) || len(Stab(l, x, 20)) != 0 {
		t.Error("Stab")
	}
	if Visits(l, x, api.Span{From: 8, To: 10}) != 3 || Visits(l, x, api.Span{From: 20, To: 30}) != 0 {
		t.Error("Visits")
	}
	if x := Of(nil); len(x.Order)+len(x.Most) != 0 || !Check(nil, x) || !Check(nil, api.Index{}) {
		t.Error(x)
	}
}

func TestCheck(t *testing.T) {
	l := of(5, 9, 0, 20, 5, 7)
	for i, x := range []api.Index{{}, {Order: []int{1, 2, 0}}, {Order: []int{1, 0, 2}, Most: []int{20, 20, 9}}, {Order: []int{1, 2, 0}, Most: []int{20, 20, 10}}, {Order: []int{1, 2, 99}, Most: []int{20, 20, 9}}, {Order: []int{1, 2, 0, 3}, Most: []int{20, 20, 9, 1}}} {
		s := api.Span{From: 0, To: 30}
		if Check(l, x) || len(Overlap(l, x, s)) != 0 || len(Stab(l, x, 6)) != 0 || Visits(l, x, s) != 0 {
			t.Error(i)
		}
	}
}

// greatest returns the greatest To in a subtree.
func greatest(l []api.Span, x api.Index, lo, hi int) int {
	most := math.MinInt
	for _, i := range x.Order[lo:hi] {
		most = max(most, l[i].To)
	}
	return most
}

// verify checks Most in a subtree, and returns the number of visits by the definition.
func verify(t *testing.T, l []api.Span, x api.Index, s api.Span, lo, hi int) int {
	if lo >= hi {
		return 0
	}
	root := (lo + hi) / 2
	if x.Most[root] != greatest(l, x, lo, hi) {
		t.Fatal(l, x, root)
	}
	left, right := verify(t, l, x, s, lo, root), verify(t, l, x, s, root+1, hi)
	if x.Most[root] <= s.From {
		return 0
	}
	if l[x.Order[root]].From < s.To {
		left += right
	}
	return 1 + left
}

func TestDefinition(t *testing.T) {
	r := rand.New(rand.NewSource(1))
	for range 3000 {
		l := make([]api.Span, r.Intn(20))
		for i := range l {
			l[i] = api.Span{From: r.Intn(12) - 1, To: r.Intn(14)}
		}
		x := Of(l)
		for i := 1; i < len(l); i++ {
			a, b := l[x.Order[i-1]], l[x.Order[i]]
			if a.From > b.From || a.From == b.From && (a.To > b.To || a.To == b.To && x.Order[i-1] >= x.Order[i]) {
				t.Fatal("order", l, x)
			}
		}
		sorted := slices.Clone(x.Order)
		slices.Sort(sorted)
		for i, j := range sorted {
			if i != j {
				t.Fatal("order", x)
			}
		}
		s := api.Span{From: r.Intn(14) - 1, To: r.Intn(15)}
		var want []int
		for i, y := range l {
			if spans.Length(spans.Meet([]api.Span{y}, []api.Span{s})) > 0 {
				want = append(want, i)
			}
		}
		visits := Visits(l, x, s)
		if !Check(l, x) || !slices.Equal(Overlap(l, x, s), want) || visits != verify(t, l, x, s, 0, len(l)) || visits < len(want) || visits > len(l) {
			t.Fatal(l, s, Overlap(l, x, s), want, visits)
		}
		at := r.Intn(15) - 1
		if !slices.Equal(Stab(l, x, at), Overlap(l, x, api.Span{From: at, To: at + 1})) {
			t.Fatal("Stab", l, at)
		}
		for _, far := range []api.Span{{From: -9, To: -5}, {From: 20, To: 25}} {
			if Visits(l, x, far) > bits.Len(uint(len(l))) {
				t.Fatal("far", l, far, Visits(l, x, far))
			}
		}
	}
}

func TestEnds(t *testing.T) {
	l := of(0, api.MaxTime, math.MinInt, math.MaxInt)
	x := Of(l)
	if !slices.Equal(Stab(l, x, api.MaxTime-1), []int{0}) || len(Stab(l, x, api.MaxTime)) != 0 || len(Stab(l, x, math.MaxInt)) != 0 || len(Stab(l, x, -1)) != 0 {
		t.Error("Stab")
	}
}
