package interval

import (
	"math"
	"math/big"
	"math/rand"
	"testing"

	"tracebook/api"
)

func of(lo, hi int) api.Interval { return api.Interval{Lo: lo, Hi: hi} }

// small returns all intervals, also those that are not valid, of small numbers.
func small() []api.Interval {
	l := []api.Interval{of(-api.MaxInt-1, 0), of(0, api.MaxInt+1), of(math.MinInt, math.MaxInt)}
	for lo := -3; lo <= 3; lo++ {
		for hi := -3; hi <= 3; hi++ {
			l = append(l, of(lo, hi))
		}
	}
	return l
}

func contains(i api.Interval, n int) bool {
	return i.Lo >= -api.MaxInt && i.Hi <= api.MaxInt && i.Lo <= n && n <= i.Hi
}

func TestValid(t *testing.T) {
	for i, want := range map[api.Interval]bool{of(3, 3): true, of(4, 3): false, of(-api.MaxInt, api.MaxInt): true, of(-api.MaxInt-1, 0): false, of(0, api.MaxInt+1): false, of(math.MinInt, math.MaxInt): false} {
		if Valid(i) != want {
			t.Error(i)
		}
	}
}

func TestPairs(t *testing.T) {
	for _, a := range small() {
		for _, b := range small() {
			checkMeet(t, a, b)
			checkHull(t, a, b)
			before := Valid(a) && Valid(b) && a.Hi < b.Lo
			if Before(a, b) != before {
				t.Error("Before", a, b)
			}
			if _, ok := Meet(a, b); Valid(a) && Valid(b) && ok == (Before(a, b) || Before(b, a)) {
				t.Error("Meet and Before", a, b)
			}
		}
	}
}

func checkMeet(t *testing.T, a, b api.Interval) {
	m, ok := Meet(a, b)
	some := false
	for n := -5; n <= 5; n++ {
		both := contains(a, n) && contains(b, n)
		some = some || both
		if both != (ok && contains(m, n)) || contains(a, n) != Within(a, n) {
			t.Error("Meet", a, b, n)
		}
	}
	if ok != some || !ok && m != (api.Interval{}) {
		t.Error("Meet", a, b, m, ok)
	}
	if n, good := Meet(b, a); n != m || good != ok {
		t.Error("Meet is not symmetric", a, b)
	}
}

func checkHull(t *testing.T, a, b api.Interval) {
	want := api.Interval{}
	switch {
	case Valid(a) && Valid(b):
		want = of(min(a.Lo, b.Lo), max(a.Hi, b.Hi))
	case Valid(a):
		want = a
	case Valid(b):
		want = b
	}
	if Hull(a, b) != want || Hull(b, a) != want {
		t.Error("Hull", a, b, Hull(a, b))
	}
	sum, ok := Add(a, b)
	if ok != (Valid(a) && Valid(b)) || ok && sum != of(a.Lo+b.Lo, a.Hi+b.Hi) || !ok && sum != (api.Interval{}) {
		t.Error("Add", a, b, sum, ok)
	}
}

func TestExamples(t *testing.T) {
	if m, ok := Meet(of(0, 5), of(6, 9)); ok || m != (api.Interval{}) {
		t.Error(m)
	}
	if h := Hull(of(4, 3), of(7, 8)); h != of(7, 8) {
		t.Error(h)
	}
	for _, c := range [][2]api.Interval{{of(0, api.MaxInt), of(1, 1)}, {of(-api.MaxInt, 0), of(-1, 0)}, {of(4, 3), of(0, 0)}} {
		if s, ok := Add(c[0], c[1]); ok || s != (api.Interval{}) {
			t.Error(c, s)
		}
	}
	if s, ok := Add(of(1, 2), of(10, 20)); !ok || s != of(11, 22) {
		t.Error(s)
	}
	if !Before(of(0, 2), of(3, 4)) || Before(of(0, 2), of(2, 4)) || !Within(of(3, 5), 5) || Within(of(3, 5), 6) || Within(of(5, 3), 4) {
		t.Error("Before, Within")
	}
}

// stretchByDefinition computes the bounds with big numbers.
func stretchByDefinition(d, ppm int) api.Interval {
	if d < 0 {
		i := stretchByDefinition(-d, ppm)
		return of(-i.Hi, -i.Lo)
	}
	f := big.NewInt(1000000)
	lo := new(big.Int).Mul(big.NewInt(int64(d)), big.NewInt(int64(1000000-ppm)))
	hi := new(big.Int).Mul(big.NewInt(int64(d)), big.NewInt(int64(1000000+ppm)))
	hi.Add(hi, big.NewInt(999999))
	return of(int(lo.Div(lo, f).Int64()), int(hi.Div(hi, f).Int64()))
}

func TestStretch(t *testing.T) {
	r := rand.New(rand.NewSource(1))
	durations := []int{0, 1, -1, 5, 999999, 1000000, 1000001, api.MaxTime, -api.MaxTime}
	for range 200 {
		durations = append(durations, r.Intn(2*api.MaxTime)-api.MaxTime, r.Intn(300)-150)
	}
	for _, d := range durations {
		for _, ppm := range []int{0, 1, 100, 9999, api.MaxPpm} {
			i, ok := Stretch(d, ppm)
			if !ok || i != stretchByDefinition(d, ppm) || !Within(i, d) {
				t.Fatal(d, ppm, i, ok)
			}
			less, _ := Stretch(d, ppm/2)
			if less.Lo < i.Lo || less.Hi > i.Hi || ppm == 0 && i != of(d, d) {
				t.Error("less drift", d, ppm)
			}
			e := durations[r.Intn(len(durations))]
			if whole, ok := Stretch(d+e, ppm); ok {
				part, _ := Stretch(e, ppm)
				sum, _ := Add(i, part)
				if whole.Lo < sum.Lo || whole.Hi > sum.Hi {
					t.Error("divided", d, e, ppm)
				}
			}
		}
	}
}

func TestStretchEnds(t *testing.T) {
	for _, c := range [][4]int{{1000000, 100, 999900, 1000100}, {1, 100, 0, 2}, {-1, 100, -2, 0}, {5, 0, 5, 5}} {
		if i, ok := Stretch(c[0], c[1]); !ok || i != of(c[2], c[3]) {
			t.Error(c, i)
		}
	}
	for _, c := range [][2]int{{api.MaxTime + 1, 0}, {-api.MaxTime - 1, 0}, {0, -1}, {0, api.MaxPpm + 1}, {math.MinInt, 0}, {math.MaxInt, math.MaxInt}} {
		if i, ok := Stretch(c[0], c[1]); ok || i != (api.Interval{}) {
			t.Error(c, i)
		}
	}
}
