package latency

import (
	"math"
	"math/rand"
	"slices"
	"testing"

	"tracebook/api"
	"tracebook/num"
	"tracebook/state"
)

func of(thread, state, from, to int) api.State {
	s := api.State{Thread: thread, State: state, Span: api.Span{From: from, To: to}, Cpu: -1, On: -1, By: -1}
	if state == api.Running {
		s.Cpu = 0
	}
	return s
}

func traceOf(threads, end int, l ...api.State) api.Trace {
	t := api.Trace{Span: api.Span{To: end}, States: l}
	for i := range threads {
		t.Threads = append(t.Threads, api.Thread{Id: i + 1, Name: "t"})
	}
	return t
}

func TestExamples(t *testing.T) {
	tr := traceOf(1, 9, of(1, api.Ready, 0, 4), of(1, api.Running, 4, 6), of(1, api.Ready, 6, 7), of(1, api.Gone, 7, 9))
	if l, err := Of(tr, 1); !slices.Equal(l, []int{4}) || err != api.OK {
		t.Error(l, err)
	}
	if l := Histogram([]int{0, 1, 2, 3, 8, -1}); !slices.Equal(l, []int{1, 1, 2, 0, 1}) {
		t.Error(l)
	}
	if len(Histogram(nil)) != 0 || !slices.Equal(Histogram([]int{-1, 1}), []int{0, 1}) || len(Histogram([]int{-1, math.MinInt})) != 0 || len(Histogram([]int{math.MaxInt})) != 64 {
		t.Error("Histogram")
	}
	three := traceOf(3, 20, of(1, api.Ready, 0, 9), of(1, api.Running, 9, 20), of(2, api.Ready, 0, 1), of(2, api.Running, 1, 20), of(3, api.Ready, 0, 4), of(3, api.Running, 4, 20))
	if n, err := Quantile(three, 1, 2); n != 4 || err != api.OK {
		t.Error(n, err)
	}
	// The Ready at the end of a thread is followed by another thread's Running.
	ends := traceOf(2, 5, of(1, api.Ready, 0, 5), of(2, api.Running, 0, 5))
	if l, err := All(ends); len(l) != 0 || err != api.OK {
		t.Error(l, err)
	}
}

func TestErrors(t *testing.T) {
	bad := traceOf(1, 3, of(1, api.Ready, 0, 4))
	_, ofErr := Of(bad, 9)
	_, allErr := All(bad)
	_, quantileErr := Quantile(bad, -1, 0)
	_, worstErr := Worst(bad, -1)
	for i, err := range []api.Errno{ofErr, allErr, quantileErr, worstErr} {
		if err != api.ErrForm {
			t.Error(i, err)
		}
	}
	good := traceOf(1, 4, of(1, api.Ready, 0, 4))
	if l, err := Of(good, 9); len(l) != 0 || err != api.ErrNone {
		t.Error(err)
	}
	if n, err := Quantile(good, 1, 2); n != 0 || err != api.ErrArg {
		t.Error(err)
	}
	if l, err := Worst(good, -1); len(l) != 0 || err != api.ErrRange {
		t.Error(err)
	}
	some := traceOf(1, 4, of(1, api.Ready, 0, 3), of(1, api.Running, 3, 4))
	for _, c := range [][2]int{{3, 2}, {-1, 2}, {0, 0}} {
		if n, err := Quantile(some, c[0], c[1]); n != 0 || err != api.ErrArg {
			t.Error(c, err)
		}
	}
	if l, err := Worst(some, math.MaxInt); len(l) != 1 || err != api.OK {
		t.Error(l, err)
	}
}

func TestRandom(t *testing.T) {
	r := rand.New(rand.NewSource(1))
	for range 1000 {
		n := 1 + r.Intn(3)
		var l []api.State
		for id := 1; id <= n; id++ {
			last := -1
			for from := 0; from < 30; {
				to := min(30, from+1+r.Intn(6))
				s := (last + 1 + r.Intn(2)) % 3 // Ready, Running or Gone
				l = append(l, of(id, []int{api.Ready, api.Running, api.Gone}[s], from, to))
				last, from = s, to
			}
		}
		tr := traceOf(n, 30, l...)
		var together []int
		for id := 1; id <= n; id++ {
			own, err := Of(tr, id)
			sum := 0
			for _, x := range own {
				sum += x
			}
			if err != api.OK || sum > state.Total(l, id, api.Ready, tr.Span) {
				t.Fatal(own, err)
			}
			together = append(together, own...)
		}
		slices.Sort(together)
		all, _ := All(tr)
		if !slices.Equal(all, together) {
			t.Fatal(all, together)
		}
		checkSorted(t, r, tr, all)
	}
}

func checkSorted(t *testing.T, r *rand.Rand, tr api.Trace, all []int) {
	counted := 0
	histogram := Histogram(all)
	for _, n := range histogram {
		counted += n
	}
	if counted != len(all) || len(all) > 0 && histogram[len(histogram)-1] == 0 {
		t.Fatal(histogram)
	}
	for k := range 5 {
		x, err := Quantile(tr, k, 4)
		want, ok := num.Quantile(all, k, 4)
		if x != want || ok != (err == api.OK) {
			t.Fatal(k, x, err)
		}
	}
	n := r.Intn(8)
	worst, err := Worst(tr, n)
	if err != api.OK || len(worst) != min(n, len(all)) {
		t.Fatal(worst, err)
	}
	for i, s := range worst {
		if length(s) != all[len(all)-1-i] || i > 0 && length(worst[i-1]) == length(s) && slices.Index(tr.States, worst[i-1]) > slices.Index(tr.States, s) {
			t.Fatal(worst, all)
		}
	}
}
