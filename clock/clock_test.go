package clock

import (
	"math"
	"math/rand"
	"slices"
	"testing"

	"tracebook/api"
)

func domains(n ...int) []api.Domain {
	var d []api.Domain
	for i := 0; i < len(n); i += 2 {
		d = append(d, api.Domain{Id: n[i], Ppm: n[i+1]})
	}
	return d
}

func snap(a, at, b, lo, hi int) api.Snap {
	return api.Snap{A: a, AtA: at, B: b, AtB: api.Interval{Lo: lo, Hi: hi}}
}

func TestCheck(t *testing.T) {
	two := domains(0, 0, 1, 100)
	good := snap(1, 1000, 0, 5000, 5010)
	for i, c := range []struct {
		d   []api.Domain
		l   []api.Snap
		err api.Errno
	}{
		{nil, make([]api.Snap, 201), api.ErrShort},
		{make([]api.Domain, 9), nil, api.ErrLong},
		{domains(0, 5), make([]api.Snap, 201), api.ErrLong},
		{domains(0, 5), nil, api.ErrForm}, {domains(1, 0), nil, api.ErrForm},
		{domains(0, 0), nil, api.OK},
		{domains(0, 0, 1, 1, 2, 2, 3, 3, 4, 4, 5, 5, 6, 6, 7, api.MaxPpm), nil, api.OK},
		{domains(0, 0, 8, 1), nil, api.ErrRange}, {domains(0, 0, -1, 1), nil, api.ErrRange},
		{domains(0, 0, 1, -1), nil, api.ErrRange}, {domains(0, 0, 1, api.MaxPpm+1), nil, api.ErrRange},
		{domains(0, 0, 1, 1, 1, 2), nil, api.ErrTwice}, {domains(0, 0, 1, 1, 1, -2), nil, api.ErrRange}, {domains(0, 0, 0, 0), nil, api.ErrTwice},
		{two, []api.Snap{good}, api.OK}, {two, slices.Repeat([]api.Snap{good}, 200), api.OK}, {two, slices.Repeat([]api.Snap{good}, 201), api.ErrLong},
		{two, []api.Snap{good, snap(2, -1, 2, 5, 4)}, api.ErrNone}, {two, []api.Snap{snap(1, -1, 2, 0, 0)}, api.ErrNone}, {two, []api.Snap{snap(math.MinInt, 0, 1, 0, 0)}, api.ErrNone},
		{two, []api.Snap{snap(1, -1, 1, 5, 4)}, api.ErrArg},
		{two, []api.Snap{snap(1, -1, 0, 0, 0)}, api.ErrRange}, {two, []api.Snap{snap(1, api.MaxTime+1, 0, 0, 0)}, api.ErrRange},
		{two, []api.Snap{snap(1, 0, 0, -1, 0)}, api.ErrRange}, {two, []api.Snap{snap(1, 0, 0, 0, api.MaxTime+1)}, api.ErrRange},
		{two, []api.Snap{snap(1, 0, 0, 5, 4)}, api.ErrRange}, {two, []api.Snap{snap(0, api.MaxTime, 1, 0, api.MaxTime)}, api.OK}, {two, []api.Snap{snap(0, 0, 1, 7, 7)}, api.OK},
	} {
		if err := Check(c.d, c.l); err != c.err {
			t.Error(i, err)
		}
		if c.err != api.OK && Linked(c.d, c.l, 0) {
			t.Error(i, "linked")
		}
	}
}

func TestPpm(t *testing.T) {
	d := domains(0, 0, 1, 100)
	for id, want := range map[int]int{0: 0, 1: 100} {
		if n, ok := Ppm(d, id); n != want || !ok {
			t.Error(id, n, ok)
		}
	}
	for _, c := range []struct {
		d  []api.Domain
		id int
	}{{d, 2}, {d, -1}, {nil, 0}, {domains(0, 5), 0}, {domains(0, 0, 1, 3, 1, 4), 1}} {
		if n, ok := Ppm(c.d, c.id); n != 0 || ok {
			t.Error(c, n, ok)
		}
	}
}

func TestLinked(t *testing.T) {
	d := domains(0, 0, 1, 100)
	s := []api.Snap{snap(1, 1000, 0, 5000, 5010)}
	if !Linked(d, s, 1) || Linked(d, nil, 1) || !Linked(d, nil, 0) || Linked(d, s, 2) || Linked(nil, nil, 0) || Linked(d, []api.Snap{{}}, 0) {
		t.Error("examples")
	}
}

// reach finds the linked domains by following snapshots from the reference.
func reach(l []api.Snap) map[int]bool {
	linked := map[int]bool{}
	var visit func(id int)
	visit = func(id int) {
		if linked[id] {
			return
		}
		linked[id] = true
		for _, s := range l {
			if s.A == id {
				visit(s.B)
			}
			if s.B == id {
				visit(s.A)
			}
		}
	}
	visit(0)
	return linked
}

func TestGraphs(t *testing.T) {
	r := rand.New(rand.NewSource(1))
	d := domains(0, 0, 3, 1, 1, 1, 2, 1, 7, 1, 5, 1, 4, 1)
	for range 2000 {
		var l []api.Snap
		for range r.Intn(8) {
			a, b := d[r.Intn(len(d))].Id, d[r.Intn(len(d))].Id
			if a != b {
				l = append(l, snap(a, r.Intn(5), b, r.Intn(3), 3+r.Intn(3)))
			}
		}
		want := reach(l)
		before := slices.Clone(l)
		for range 2 {
			for id := range 9 {
				if Linked(d, l, id) != want[id] {
					t.Fatal(l, id)
				}
			}
			checkPoints(t, l)
			r.Shuffle(len(l), func(i, j int) { l[i], l[j] = l[j], l[i] })
		}
		if len(before) > 0 {
			fewer := before[1:]
			for id := range 8 {
				if Linked(d, fewer, id) && !want[id] || Linked(d, l, l[0].A) != Linked(d, l, l[0].B) {
					t.Fatal("further snapshots", l)
				}
			}
		}
	}
}

func checkPoints(t *testing.T, l []api.Snap) {
	for id := -1; id < 9; id++ {
		seen := map[int]bool{}
		for _, s := range l {
			if s.A == id {
				seen[s.AtA] = true
			}
			if s.B == id {
				seen[s.AtB.Lo], seen[s.AtB.Hi] = true, true
			}
		}
		points := Points(l, id)
		if len(points) != len(seen) || !slices.IsSorted(points) {
			t.Fatal(l, id, points)
		}
		for _, p := range points {
			if !seen[p] {
				t.Fatal(l, id, points)
			}
		}
		first, second := Points(l[:len(l)/2], id), Points(l[len(l)/2:], id)
		both := slices.Concat(first, second)
		slices.Sort(both)
		if !slices.Equal(slices.Compact(both), points) {
			t.Fatal("two lists", l, id)
		}
	}
}

func TestPoints(t *testing.T) {
	l := []api.Snap{snap(1, 1000, 0, 5000, 5010), snap(1, 1000, 0, 5000, 5010)}
	if !slices.Equal(Points(l, 0), []int{5000, 5010}) || !slices.Equal(Points(l, 1), []int{1000}) || len(Points(l, 2)) != 0 {
		t.Error(Points(l, 0))
	}
	bad := []api.Snap{snap(-3, -9, -3, 5, -20), {}}
	if !slices.Equal(Points(bad, -3), []int{-20, -9, 5}) {
		t.Error(Points(bad, -3))
	}
}
