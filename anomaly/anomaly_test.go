package anomaly

import (
	"math"
	"math/rand"
	"slices"
	"testing"

	"tracebook/api"
	"tracebook/num"
)

func of(thread int, name string, from, to int) api.Slice {
	return api.Slice{Thread: thread, Parent: -1, Name: name, Span: api.Span{From: from, To: to}, Self: to - from}
}

func stateOf(thread, state, from, to int) api.State {
	s := api.State{Thread: thread, State: state, Span: api.Span{From: from, To: to}, Cpu: -1, On: -1, By: -1}
	switch state {
	case api.Running:
		s.Cpu = 0
	case api.Blocked:
		s.On = 9
	}
	return s
}

func traceOf(l ...api.Slice) api.Trace {
	t := api.Trace{Span: api.Span{To: 200}, Threads: []api.Thread{{Id: 1, Name: "a"}}, Slices: l}
	return t
}

// example has three slices f of the lengths 10, 10 and 40, the last of which was 30 asleep.
func example() api.Trace {
	t := traceOf(of(1, "f", 0, 10), of(1, "f", 20, 30), of(1, "f", 40, 80))
	t.States = []api.State{stateOf(1, api.Running, 0, 45), stateOf(1, api.Asleep, 45, 75), stateOf(1, api.Running, 75, 100)}
	return t
}

func equal(a, b []api.Part) bool {
	return slices.EqualFunc(a, b, func(x, y api.Part) bool {
		return slices.Equal(x.Path, y.Path) && x.Cause == y.Cause && x.Value == y.Value
	})
}

func TestExample(t *testing.T) {
	l, err := Of(example(), 2, 1)
	want := []api.Part{{Path: []string{"f"}, Cause: "asleep", Value: api.Frac{N: 30, D: 1}}}
	if len(l) != 1 || l[0].Slice != 2 || l[0].Excess != 30 || !equal(l[0].Parts, want) || err != api.OK {
		t.Error(l, err)
	}
	for i, c := range []struct {
		t    api.Trace
		k, n int
		want []int
	}{
		{traceOf(of(1, "f", 0, 1), of(1, "f", 2, 99)), 1, 1, nil}, {traceOf(of(1, "f", 0, 1), of(1, "f", 10, 12), of(1, "f", 20, 23)), 1, 1, []int{2}}, {example(), 4, 1, nil}, {example(), 399, 100, []int{2}}, {example(), 1000, 250, nil}, {example(), 1000, 251, []int{2}}, {example(), 1000, 1000, []int{2}}, {traceOf(), 1, 1, nil},
	} {
		l, err := Of(c.t, c.k, c.n)
		var got []int
		for _, x := range l {
			got = append(got, x.Slice)
		}
		if !slices.Equal(got, c.want) || err != api.OK {
			t.Error(i, got, err)
		}
	}
	open := example()
	open.Slices[2].Open = true
	if l, _ := Of(open, 2, 1); len(l) != 0 {
		t.Error("an open slice is no outlier", l)
	}
	open = example()
	open.Slices[0].Open = true
	if l, _ := Of(open, 2, 1); len(l) != 0 {
		t.Error("an open slice does not count", l)
	}
}

func TestTimes(t *testing.T) {
	tr := traceOf(of(1, "f", 2, 50))
	tr.States = []api.State{stateOf(1, api.Ready, 0, 5), stateOf(1, api.Running, 5, 9), stateOf(1, api.Asleep, 9, 14), stateOf(1, api.Blocked, 14, 20), stateOf(1, api.Unknown, 20, 27), stateOf(1, api.Gone, 27, 35)}
	if l, err := Times(tr, 0); !slices.Equal(l, []int{3, 5, 6, 8, 4, 22}) || err != api.OK {
		t.Error(l, err)
	}
	if l, err := Times(traceOf(of(1, "f", 2, 50)), 0); !slices.Equal(l, []int{0, 0, 0, 0, 0, 48}) || err != api.OK {
		t.Error(l, err)
	}
	for _, i := range []int{-1, 1, math.MaxInt, math.MinInt} {
		if l, err := Times(tr, i); len(l) != 0 || err != api.ErrNone {
			t.Error(i, err)
		}
	}
}

func TestUsual(t *testing.T) {
	tr := traceOf(of(1, "f", 0, 3), of(1, "g", 4, 5), of(1, "f", 6, 8), of(1, "f", 10, 11), of(1, "f", 12, 14), of(1, "h", 20, 21))
	tr.Slices[5].Open = true
	if i, err := Usual(tr, "f"); i != 2 || err != api.OK {
		t.Error(i, err)
	}
	if i, err := Usual(tr, "g"); i != 1 || err != api.OK {
		t.Error(i, err)
	}
	for _, name := range []string{"h", "z", ""} {
		if i, err := Usual(tr, name); i != 0 || err != api.ErrNone {
			t.Error(name, i, err)
		}
	}
}

func TestErrors(t *testing.T) {
	bad := example()
	bad.Span.To = 5
	_, timesErr := Times(bad, 99)
	_, usualErr := Usual(bad, "z")
	_, ofErr := Of(bad, 0, 0)
	if timesErr != api.ErrForm || usualErr != api.ErrForm || ofErr != api.ErrForm {
		t.Error(timesErr, usualErr, ofErr)
	}
	for _, c := range [][2]int{{1, 0}, {1, 2}, {1001, 1}, {0, 0}, {-1, -2}, {math.MaxInt, 1}} {
		if l, err := Of(example(), c[0], c[1]); len(l) != 0 || err != api.ErrArg {
			t.Error(c, err)
		}
	}
}

func random(r *rand.Rand) api.Trace {
	var t api.Trace
	t = traceOf()
	at := 0
	for range r.Intn(12) {
		at += r.Intn(3)
		to := at + 1 + r.Intn(6)*r.Intn(3)
		s := of(1, []string{"f", "g"}[r.Intn(2)], at, to)
		s.Open = r.Intn(6) == 0
		t.Slices = append(t.Slices, s)
		at = to
	}
	last := -1
	for from := 0; from < 90; {
		to := from + 1 + r.Intn(9)
		s := (last + 1 + r.Intn(5)) % 6
		t.States = append(t.States, stateOf(1, s, from, to))
		last, from = s, to
	}
	return t
}

func TestRandom(t *testing.T) {
	r := rand.New(rand.NewSource(1))
	for range 2000 {
		tr := random(r)
		n := 1 + r.Intn(5)
		k := n + r.Intn(10)
		l, err := Of(tr, k, n)
		more, _ := Of(tr, k+1, n)
		if err != api.OK {
			t.Fatal(err)
		}
		outliers := map[int]bool{}
		for _, x := range l {
			outliers[x.Slice] = true
			sum := 0
			for _, p := range x.Parts {
				sum += p.Value.N
			}
			if sum != x.Excess || x.Excess <= 0 {
				t.Fatal(tr, x)
			}
		}
		for _, x := range more {
			if !outliers[x.Slice] {
				t.Fatal("a greater threshold", x)
			}
		}
		checkDefinition(t, tr, k, n, outliers)
	}
}

func checkDefinition(t *testing.T, tr api.Trace, k, n int, outliers map[int]bool) {
	for _, name := range []string{"f", "g"} {
		var lengths, indices []int
		for i, s := range tr.Slices {
			if s.Name == name && !s.Open {
				lengths, indices = append(lengths, length(s)), append(indices, i)
			}
		}
		median, some := num.Quantile(lengths, 1, 2)
		u, err := Usual(tr, name)
		if some != (err == api.OK) || some && u != indices[slices.Index(lengths, median)] {
			t.Fatal("usual", tr, name, u)
		}
		count := 0
		for j, i := range indices {
			want := len(indices) >= 3 && n*lengths[j] > k*median
			if outliers[i] != want {
				t.Fatal(tr, i)
			}
			if want {
				count++
			}
			times, _ := Times(tr, i)
			sum := 0
			for _, x := range times {
				sum += x
			}
			if sum != lengths[j] {
				t.Fatal("times", times)
			}
		}
		if 2*count > len(indices) {
			t.Fatal("most are outliers", tr)
		}
	}
}
