package heap

import (
	"math"
	"math/rand"
	"slices"
	"testing"

	"tracebook/api"
)

func obj(id, size int, refs ...int) api.Object {
	return api.Object{Id: id, Size: size, Type: "t", Refs: refs}
}

func of(roots []int, l ...api.Object) api.Heap { return api.Heap{Objects: l, Roots: roots} }

func diamond() api.Heap {
	return of([]int{1}, obj(1, 10, 2, 3), obj(2, 10, 4), obj(3, 10, 4), obj(4, 10))
}

func TestExamples(t *testing.T) {
	for i, c := range []struct {
		h          api.Heap
		dominators []int
		retained   []int
	}{
		{diamond(), []int{-1, 0, 0, 0}, []int{40, 10, 10, 10}},
		{of([]int{1}, obj(1, 1, 2), obj(2, 2, 1), obj(3, 4, 2)), []int{-1, 0, -2}, []int{3, 2, 0}},
		{of([]int{1, 2}, obj(1, 1, 3), obj(2, 2, 3), obj(3, 4)), []int{-1, -1, -1}, []int{1, 2, 4}},
		{of([]int{1, 3}, obj(1, 1, 2), obj(2, 2, 3), obj(3, 4, 3)), []int{-1, 0, -1}, []int{3, 2, 4}},
		{of(nil, obj(1, 1, 1)), []int{-2}, []int{0}}, {api.Heap{}, nil, nil},
	} {
		d, err := Dominators(c.h)
		r, other := Retained(c.h)
		if !slices.Equal(d, c.dominators) || !slices.Equal(r, c.retained) || err != api.OK || other != api.OK {
			t.Error(i, d, r)
		}
		reach, err := Reach(c.h)
		for k := range c.h.Objects {
			if reach[k] != (c.dominators[k] != -2) || err != api.OK {
				t.Error(i, reach)
			}
		}
	}
	if p, err := Path(diamond(), 4); !slices.Equal(p, []int{1, 2, 4}) || err != api.OK {
		t.Error(p, err)
	}
	if p, err := Path(of([]int{1, 2}, obj(1, 0, 2), obj(2, 0)), 2); !slices.Equal(p, []int{2}) || err != api.OK {
		t.Error(p, err)
	}
	if l, err := Top(diamond(), 3); !slices.Equal(l, []int{1, 2, 3}) || err != api.OK {
		t.Error(l, err)
	}
	if l, err := Top(of([]int{1}, obj(1, 0, 2, 3), obj(2, 5), obj(3, 7), obj(4, 9)), math.MaxInt); !slices.Equal(l, []int{1, 3, 2}) || err != api.OK {
		t.Error(l, err)
	}
}

func TestErrors(t *testing.T) {
	bad := of([]int{9}, obj(1, 1))
	_, reach := Reach(bad)
	_, dominators := Dominators(bad)
	_, sizes := Retained(bad)
	_, path := Path(bad, 7)
	_, top := Top(bad, -1)
	for i, err := range []api.Errno{reach, dominators, sizes, path, top} {
		if err != api.ErrNone {
			t.Error(i, err)
		}
	}
	if l, err := Top(diamond(), -1); len(l) != 0 || err != api.ErrRange {
		t.Error(err)
	}
	for _, id := range []int{9, 3} {
		if p, err := Path(of([]int{1}, obj(1, 1), obj(3, 1)), id); len(p) != 0 || err != api.ErrNone {
			t.Error(p, err)
		}
	}
	if p, err := Path(api.Heap{}, 0); len(p) != 0 || err != api.ErrNone {
		t.Error(p, err)
	}
}

func random(r *rand.Rand) api.Heap {
	var h api.Heap
	n := r.Intn(9)
	for i := range n {
		o := obj(3*i, r.Intn(10))
		for k := range n {
			if r.Intn(5) == 0 {
				o.Refs = append(o.Refs, 3*k)
			}
		}
		h.Objects = append(h.Objects, o)
	}
	for i := range n {
		if r.Intn(4) == 0 {
			h.Roots = append(h.Roots, 3*i)
		}
	}
	return h
}

// reachWithout returns what can be reached without an object, or without the references of one.
func reachWithout(h api.Heap, object, refs int) []bool {
	seen := make([]bool, len(h.Objects))
	var visit func(ids []int)
	visit = func(ids []int) {
		for _, id := range ids {
			i := id / 3
			if i == object || seen[i] {
				continue
			}
			seen[i] = true
			if i != refs {
				visit(h.Objects[i].Refs)
			}
		}
	}
	visit(h.Roots)
	return seen
}

// shortest returns the least of the shortest paths by trying all paths of a length.
func shortest(h api.Heap, id int) []int {
	paths := [][]int{}
	for _, r := range h.Roots {
		paths = append(paths, []int{r})
	}
	for range h.Objects {
		slices.SortFunc(paths, slices.Compare)
		var longer [][]int
		for _, p := range paths {
			last := p[len(p)-1]
			if last == id {
				return p
			}
			for _, ref := range h.Objects[last/3].Refs {
				if !slices.Contains(p, ref) && len(p) < 6 {
					longer = append(longer, append(slices.Clone(p), ref))
				}
			}
		}
		paths = longer
	}
	return nil
}

func TestRandom(t *testing.T) {
	r := rand.New(rand.NewSource(1))
	for range 3000 {
		h := random(r)
		n := len(h.Objects)
		reach, _ := Reach(h)
		if !slices.Equal(reach, reachWithout(h, -1, -1)) {
			t.Fatal(h, reach)
		}
		dominates := make([][]bool, n) // dominates[a][b]
		for a := range n {
			without := reachWithout(h, a, -1)
			dominates[a] = make([]bool, n)
			for b := range n {
				dominates[a][b] = reach[b] && !without[b]
			}
		}
		d, err := Dominators(h)
		sizes, _ := Retained(h)
		if err != api.OK || len(d) != n || len(sizes) != n {
			t.Fatal(err)
		}
		top := 0
		for b := range n {
			checkDominator(t, h, dominates, d, b, reach[b])
			want := 0
			for x := range n {
				if dominates[b][x] {
					want += h.Objects[x].Size
				}
			}
			if sizes[b] != want {
				t.Fatal("retained", h, sizes, b, want)
			}
			if d[b] == -1 {
				top += sizes[b]
			}
			if reach[b] {
				top -= h.Objects[b].Size
			}
			path, err := Path(h, 3*b)
			if p := shortest(h, 3*b); len(p) < 6 && (!slices.Equal(path, p) || (err == api.OK) != reach[b]) && !(len(path) >= 6) {
				t.Fatal("path", h, b, path, p)
			}
		}
		if top != 0 {
			t.Fatal("sizes", h, sizes)
		}
		checkTop(t, r, h, sizes, reach)
	}
}

func checkDominator(t *testing.T, h api.Heap, dominates [][]bool, d []int, b int, reached bool) {
	want := -1
	if !reached {
		want = -2
	}
	for a := range dominates {
		if a == b || !dominates[a][b] {
			continue
		}
		// The immediate one is dominated by all others.
		isImmediate := true
		for c := range dominates {
			if c != b && dominates[c][b] && !dominates[c][a] {
				isImmediate = false
			}
		}
		if isImmediate {
			want = a
		}
	}
	if d[b] != want {
		t.Fatal("dominator", h, d, b, want)
	}
	if want >= 0 && !slices.Contains(h.Roots, 3*b) && reachWithout(h, -1, want)[b] {
		t.Fatal("without the references of the dominator", h, b)
	}
}

func checkTop(t *testing.T, r *rand.Rand, h api.Heap, sizes []int, reach []bool) {
	var all []int
	for i := range h.Objects {
		if reach[i] {
			all = append(all, 3*i)
		}
	}
	slices.SortStableFunc(all, func(a, b int) int { return sizes[b/3] - sizes[a/3] })
	n := r.Intn(10)
	if got, err := Top(h, n); !slices.Equal(got, all[:min(n, len(all))]) || err != api.OK {
		t.Fatal(h, n, got, all)
	}
}

// A long chain and many references are no problem.
func TestLarge(t *testing.T) {
	var h api.Heap
	for i := range api.MaxObjects {
		o := obj(i, 1)
		if i+1 < api.MaxObjects {
			o.Refs = []int{i + 1}
		}
		if i > 0 {
			o.Refs = append([]int{i / 2}, o.Refs...)
		}
		h.Objects = append(h.Objects, o)
	}
	h.Roots = []int{0}
	sizes, err := Retained(h)
	if err != api.OK || sizes[0] != api.MaxObjects || sizes[api.MaxObjects-1] != 1 {
		t.Error(sizes[0], err)
	}
	if p, err := Path(h, api.MaxObjects-1); len(p) != api.MaxObjects || err != api.OK {
		t.Error(len(p), err)
	}
}
