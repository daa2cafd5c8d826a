package counter

import (
	"math"
	"math/big"
	"math/rand"
	"slices"
	"testing"

	"tracebook/api"
)

func ev(thread, at int, name string, n int) api.Timed {
	return api.Timed{Id: api.Id{Thread: thread}, Event: api.Event{Kind: api.KCount, Name: name, N: n}, When: api.Interval{Lo: at, Hi: at + 5}}
}

func step(name string, at, value int) api.Step { return api.Step{Name: name, At: at, Value: value} }

func TestOf(t *testing.T) {
	for i, c := range []struct {
		o    []api.Timed
		want []api.Step
	}{
		{nil, nil},
		{[]api.Timed{ev(1, 2, "c", 1), ev(1, 4, "c", 5), ev(2, 4, "c", 3)}, []api.Step{step("c", 2, 1), step("c", 4, 3)}},
		{[]api.Timed{ev(1, 3, "c", 0), ev(1, 5, "c", 0)}, []api.Step{step("c", 3, 0)}},
		{[]api.Timed{ev(1, 3, "c", 1), ev(1, 5, "c", 2), ev(1, 5, "c", 1), ev(1, 6, "c", 1), ev(1, 7, "c", 4)}, []api.Step{step("c", 3, 1), step("c", 7, 4)}},
		{[]api.Timed{ev(1, -9, "d", 1), ev(1, -3, "d", 2), ev(1, 1, "b", 7), ev(1, math.MaxInt-9, "b", 8)}, []api.Step{step("b", 1, 7), step("b", api.MaxTime, 8), step("d", 0, 2)}},
		{[]api.Timed{{Event: api.Event{Kind: api.KMark, Name: "c"}}}, nil},
	} {
		if l := Of(c.o); !slices.Equal(l, c.want) || Check(l) != api.OK {
			t.Error(i, l)
		}
	}
}

func TestCheck(t *testing.T) {
	for i, c := range []struct {
		l   []api.Step
		err api.Errno
	}{
		{nil, api.OK}, {[]api.Step{step("a", 0, api.MaxInt), step("a", api.MaxTime, -api.MaxInt), step("b", 0, 1)}, api.OK},
		{[]api.Step{step("", -1, 0)}, api.ErrName}, {[]api.Step{step("a", -1, 0)}, api.ErrRange}, {[]api.Step{step("a", api.MaxTime+1, 0)}, api.ErrRange}, {[]api.Step{step("a", 0, api.MaxInt+1)}, api.ErrRange}, {[]api.Step{step("a", 0, -api.MaxInt-1)}, api.ErrRange},
		{[]api.Step{step("a", 1, 0), step("a", 1, 2)}, api.ErrOrder}, {[]api.Step{step("a", 1, 0), step("a", 0, 2)}, api.ErrOrder}, {[]api.Step{step("b", 1, 0), step("a", 2, 2)}, api.ErrOrder}, {[]api.Step{step("a", 1, 5), step("a", 2, 5)}, api.ErrOrder}, {[]api.Step{step("a", 1, 5), step("b", 2, 5)}, api.OK},
		{[]api.Step{step("b", 1, 0), step("a", -2, 2)}, api.ErrRange},
	} {
		if err := Check(c.l); err != c.err {
			t.Error(i, err)
		}
	}
}

func TestDefinition(t *testing.T) {
	r := rand.New(rand.NewSource(1))
	for range 2000 {
		var o []api.Timed
		at := 0
		for range r.Intn(12) {
			at += r.Intn(3)
			o = append(o, ev(r.Intn(2), at, []string{"a", "b"}[r.Intn(2)], r.Intn(5)-2))
		}
		l := Of(o)
		if Check(l) != api.OK {
			t.Fatal(o, l)
		}
		for _, name := range []string{"a", "b", "c"} {
			sum := 0
			peak, some := Peak(l, name)
			for at := -1; at < 30; at++ {
				want, ok := 0, false
				for _, x := range o {
					if x.Event.Name == name && x.When.Lo <= at {
						want, ok = x.Event.N, true
					}
				}
				if got, good := At(l, name, at); got != want || good != ok || ok && (!some || got > peak.Value) {
					t.Fatal(l, name, at, got, good)
				}
				if at < 0 {
					continue
				}
				sum += want
				if n, ok := Integral(l, name, api.Span{From: 0, To: at + 1}); n != sum || !ok {
					t.Fatal(l, name, at, n, sum)
				}
				if m := r.Intn(at + 1); m > 0 {
					a, _ := Integral(l, name, api.Span{From: 0, To: m})
					b, _ := Integral(l, name, api.Span{From: m, To: at + 1})
					if a+b != sum {
						t.Fatal("adjacent", l, a, b, sum)
					}
				}
			}
			if v, ok := At(l, name, peak.At); some && (v != peak.Value || !ok || peak.Name != name) || !some && peak != (api.Step{}) {
				t.Fatal(l, peak)
			}
			if v, ok := At(l, name, peak.At-1); some && ok && v == peak.Value {
				t.Fatal("an earlier peak", l, peak)
			}
		}
	}
}

func TestEnds(t *testing.T) {
	l := []api.Step{step("c", 2, 5), step("c", 4, 1), step("c", 7, 5)}
	if p, ok := Peak(l, "c"); p != l[0] || !ok {
		t.Error(p)
	}
	if n, ok := Integral(l, "c", api.Span{From: api.MaxTime - 2, To: api.MaxTime}); n != 10 || !ok {
		t.Error(n, ok)
	}
	if n, ok := Integral(l, "c", api.Span{From: 3, To: 7}); n != 8 || !ok {
		t.Error(n, ok)
	}
}

func TestExamples(t *testing.T) {
	l := []api.Step{step("c", 2, 1), step("c", 4, 3)}
	if n, ok := Integral(l, "c", api.Span{From: 0, To: 6}); n != 8 || !ok {
		t.Error(n, ok)
	}
	great := []api.Step{step("c", 0, api.MaxInt)}
	if n, ok := Integral(great, "c", api.Span{From: 0, To: 1}); n != api.MaxInt || !ok {
		t.Error(n, ok)
	}
	if n, ok := Integral(great, "c", api.Span{From: 0, To: 2}); n != 0 || ok {
		t.Error(n, ok)
	}
	if n, ok := Integral(append(great, step("c", 1, -api.MaxInt)), "c", api.Span{From: 0, To: 2}); n != 0 || !ok {
		t.Error(n, ok)
	}
	for _, s := range []api.Span{{}, {From: 3, To: 3}, {From: -1, To: 3}, {From: 0, To: api.MaxTime + 1}, {From: math.MinInt, To: math.MaxInt}} {
		if n, ok := Integral(l, "c", s); n != 0 || ok {
			t.Error(s, n, ok)
		}
	}
}

// Sums of parts of a span can be far beyond the range.
func TestGreatIntegrals(t *testing.T) {
	r := rand.New(rand.NewSource(2))
	for range 2000 {
		var l []api.Step
		want, at := new(big.Int), 0
		for i := range 3 {
			value := (r.Intn(2*api.MaxInt) - api.MaxInt) >> r.Intn(40)
			l = append(l, step("c", at, value))
			next := at + 1 + r.Intn(api.MaxTime/4)
			if i == 2 && r.Intn(2) == 0 {
				l[2].Value = -l[1].Value
				next = at + l[2].At - l[1].At
			}
			want.Add(want, new(big.Int).Mul(big.NewInt(int64(l[i].Value)), big.NewInt(int64(next-at))))
			at = next
		}
		n, ok := Integral(l, "c", api.Span{From: 0, To: at})
		if in := new(big.Int).Abs(want).Cmp(big.NewInt(api.MaxInt)) <= 0; ok != in || ok && int64(n) != want.Int64() {
			t.Fatal(l, at, n, ok, want)
		}
	}
}
