package spans

import (
	"math"
	"math/rand"
	"slices"
	"testing"

	"tracebook/api"
)

func of(n ...int) []api.Span {
	var l []api.Span
	for i := 0; i < len(n); i += 2 {
		l = append(l, api.Span{From: n[i], To: n[i+1]})
	}
	return l
}

// most is the number of times that the tests look at.
const most = 16

// set returns the times of a list by the definition.
func set(l []api.Span) [most]bool {
	var times [most]bool
	for t := range times {
		for _, s := range l {
			times[t] = times[t] || s.From >= 0 && s.From < s.To && s.To <= api.MaxTime && s.From <= t && t < s.To
		}
	}
	return times
}

func random(r *rand.Rand) []api.Span {
	l := make([]api.Span, r.Intn(5))
	for i := range l {
		l[i] = api.Span{From: r.Intn(most) - 1, To: r.Intn(most)}
	}
	return l
}

func count(times [most]bool) int {
	n := 0
	for _, b := range times {
		if b {
			n++
		}
	}
	return n
}

func TestSets(t *testing.T) {
	r := rand.New(rand.NewSource(1))
	for range 5000 {
		a, b := random(r), random(r)
		before := slices.Clone(a)
		checkOne(t, a)
		union, meet, minus := Union(a, b), Meet(a, b), Minus(a, b)
		for _, l := range [][]api.Span{union, meet, minus} {
			if !IsNormal(l) || !slices.Equal(Normal(l), l) {
				t.Fatal("not normal", a, b, l)
			}
		}
		x, y := set(a), set(b)
		for i := range most {
			if Covers(union, i) != (x[i] || y[i]) || Covers(meet, i) != (x[i] && y[i]) || Covers(minus, i) != (x[i] && !y[i]) {
				t.Fatal(a, b, union, meet, minus)
			}
		}
		if Length(union)+Length(meet) != Length(a)+Length(b) || Length(minus)+Length(meet) != Length(a) {
			t.Fatal("lengths", a, b)
		}
		if !slices.Equal(a, before) {
			t.Fatal("the argument was changed")
		}
	}
}

func checkOne(t *testing.T, a []api.Span) {
	n := Normal(a)
	if set(n) != set(a) || Length(a) != count(set(a)) {
		t.Fatal(a, n)
	}
	normal := true
	for i, s := range n {
		if !Valid(s) || i > 0 && n[i-1].To >= s.From {
			normal = false
		}
	}
	if !normal || IsNormal(a) != slices.Equal(a, n) {
		t.Fatal("normal", a, n)
	}
	for i := range most {
		if Covers(a, i) != set(a)[i] {
			t.Fatal("Covers", a, i)
		}
	}
}

func TestEdges(t *testing.T) {
	for _, s := range of(0, 1, 0, api.MaxTime, api.MaxTime-1, api.MaxTime) {
		if !Valid(s) || !Covers([]api.Span{s}, s.From) || Covers([]api.Span{s}, s.To) {
			t.Error(s)
		}
	}
	bad := of(3, 3, -1, 2, 4, 3, 0, api.MaxTime+1, math.MinInt, math.MaxInt, 0, 0)
	for _, s := range bad {
		if Valid(s) || Covers([]api.Span{s}, s.From) || IsNormal([]api.Span{s}) {
			t.Error(s)
		}
	}
	if len(Normal(bad)) != 0 || Length(bad) != 0 || !IsNormal(nil) {
		t.Error("spans that are not valid contribute")
	}
	whole := of(0, api.MaxTime)
	if !slices.Equal(Minus(whole, of(0, 1, api.MaxTime-1, api.MaxTime)), of(1, api.MaxTime-1)) || len(Minus(whole, whole)) != 0 {
		t.Error("Minus")
	}
}

func TestExamples(t *testing.T) {
	if l := Normal(of(5, 9, 1, 3, 3, 5)); !slices.Equal(l, of(1, 9)) {
		t.Error(l)
	}
	if l := Minus(of(0, 10), of(2, 3, 5, 7)); !slices.Equal(l, of(0, 2, 3, 5, 7, 10)) {
		t.Error(l)
	}
	if Length(of(0, 4, 2, 6)) != 6 || len(Meet(of(0, 4), of(4, 6))) != 0 {
		t.Error("Length, Meet")
	}
	if !IsNormal(of(1, 2, 3, 4)) || IsNormal(of(1, 2, 2, 4)) || IsNormal(of(3, 4, 1, 2)) {
		t.Error("IsNormal")
	}
}
