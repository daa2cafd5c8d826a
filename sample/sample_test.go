package sample

import (
	"math"
	"math/rand"
	"slices"
	"strings"
	"testing"

	"tracebook/api"
)

func of(at, weight int, stack string) api.Sample {
	return api.Sample{Thread: 1, At: at, Weight: weight, Stack: strings.Fields(stack)}
}

func equal(a, b api.Sample) bool {
	return a.Thread == b.Thread && a.At == b.At && a.Weight == b.Weight && slices.Equal(a.Stack, b.Stack)
}

func ev(at int, k api.Kind, n int, stack ...string) api.Timed {
	return api.Timed{Id: api.Id{Thread: 1}, Event: api.Event{Kind: k, N: n, Stack: stack}, When: api.Interval{Lo: at, Hi: at + 8}}
}

func TestOf(t *testing.T) {
	o := []api.Timed{ev(-3, api.KSample, 4, "main", "f"), ev(2, api.KAlloc, 9, "x"), ev(1, api.KSample, 5), ev(math.MaxInt-9, api.KSample, 6, "g")}
	want := []api.Sample{of(0, 4, "main f"), of(1, 5, ""), of(api.MaxTime, 6, "g")}
	if l := Of(o); !slices.EqualFunc(l, want, equal) || Check(l) != api.OK {
		t.Error(l)
	}
	if len(Of(nil)) != 0 {
		t.Error("no events")
	}
}

func TestCheck(t *testing.T) {
	for i, c := range []struct {
		l   []api.Sample
		err api.Errno
	}{
		{nil, api.OK}, {[]api.Sample{of(5, 1, ""), of(5, api.MaxTime, "a"), of(api.MaxTime, 1, "a")}, api.OK}, {[]api.Sample{of(5, 1, ""), of(4, 1, "")}, api.ErrOrder},
		{[]api.Sample{of(5, 1, ""), of(4, 0, "")}, api.ErrRange}, {[]api.Sample{of(5, 1, ""), of(4, 1, "a\x01")}, api.ErrName}, {[]api.Sample{of(-1, 1, "\x01")}, api.ErrRange}, {[]api.Sample{of(api.MaxTime+1, 1, "")}, api.ErrRange}, {[]api.Sample{of(1, api.MaxTime+1, "")}, api.ErrRange},
		{[]api.Sample{of(1, 1, strings.Repeat("a ", 33))}, api.ErrLong}, {[]api.Sample{{Thread: -1, Weight: 1}}, api.ErrRange}, {[]api.Sample{{Thread: api.MaxInt + 1, Weight: 1}}, api.ErrRange}, {[]api.Sample{{Thread: api.MaxInt, Weight: 1}}, api.OK}, {[]api.Sample{{Weight: 1}}, api.OK},
	} {
		if err := Check(c.l); err != c.err {
			t.Error(i, err)
		}
	}
}

func TestWithin(t *testing.T) {
	r := rand.New(rand.NewSource(1))
	for range 500 {
		var l []api.Sample
		for range r.Intn(10) {
			l = append(l, of(r.Intn(10), 1+r.Intn(3), "a"))
		}
		a, b, c := r.Intn(4), 4+r.Intn(3), 7+r.Intn(4)
		first, second, whole := Within(l, api.Span{From: a, To: b}), Within(l, api.Span{From: b, To: c}), Within(l, api.Span{From: a, To: c})
		if len(first)+len(second) != len(whole) || Total(first)+Total(second) != Total(whole) {
			t.Fatal(l, a, b, c)
		}
		var want []api.Sample
		for _, x := range l {
			if x.At >= a && x.At < c {
				want = append(want, x)
			}
		}
		if !slices.EqualFunc(whole, want, equal) {
			t.Fatal(whole, want)
		}
	}
	if len(Within([]api.Sample{of(5, 1, "")}, api.Span{From: 5, To: 5})) != 0 {
		t.Error("an empty span")
	}
}

func TestSums(t *testing.T) {
	l := []api.Sample{of(1, 3, "main f"), of(2, 2, "main"), of(3, 4, ""), of(4, 0, "main"), of(-1, 7, "main"), {Thread: -1, Weight: 9, Stack: []string{"main"}}, of(0, api.MaxTime+1, "f")}
	if Leaf(l, "main") != 2 || Leaf(l, "f") != 3 || Leaf(l, "") != 0 || Total(l) != 9 {
		t.Error(Leaf(l, "main"), Leaf(l, "f"), Total(l))
	}
	if Leaf(l, "main")+Leaf(l, "f")+4 != Total(l) {
		t.Error("the sum over all names")
	}
	great := slices.Repeat([]api.Sample{of(1, api.MaxTime, "f")}, 1001)
	if Total(great) != api.MaxInt || Leaf(great, "f") != api.MaxInt || Total(great[:1000]) != api.MaxInt || Total(great[:999]) != 999*api.MaxTime {
		t.Error(Total(great))
	}
}
