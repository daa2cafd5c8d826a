package frac

import (
	"math"
	"math/big"
	"math/rand"
	"testing"

	"tracebook/api"
)

var numbers = []int{0, 1, -1, 2, -3, 4, 6, -12, 35, 999999999989, api.MaxInt, -api.MaxInt, api.MaxInt + 1, api.MaxNum, -api.MaxNum, api.MaxNum - 1, api.MaxNum + 1, -api.MaxNum - 1, math.MaxInt, math.MinInt}

func rational(a api.Frac) *big.Rat { return big.NewRat(int64(a.N), int64(a.D)) }

// expected returns the valid fraction with a value by big arithmetic.
func expected(r *big.Rat) (api.Frac, bool) {
	if new(big.Int).Abs(r.Num()).Cmp(big.NewInt(api.MaxNum)) > 0 || r.Denom().Cmp(big.NewInt(api.MaxInt)) > 0 {
		return api.Frac{}, false
	}
	return api.Frac{N: int(r.Num().Int64()), D: int(r.Denom().Int64())}, true
}

// fractions returns valid and invalid fractions, of small and of great parts.
func fractions() []api.Frac {
	l := []api.Frac{{N: 2, D: 4}, {N: 0, D: 2}, {N: 1, D: -2}, {}, {N: 1, D: api.MaxInt + 1}, {N: api.MaxNum + 1, D: 1}, {N: math.MinInt, D: 3}, {N: 1, D: math.MinInt}, {N: 1, D: 999999999999989}, {N: 5, D: 999999999989}, {N: -7, D: 1000003}}
	for _, n := range numbers {
		for _, d := range []int{1, 2, 3, 5, 12, 999983, api.MaxInt, api.MaxInt - 1} {
			if f, ok := Of(n, d); ok {
				l = append(l, f)
			}
		}
	}
	return l
}

func TestOf(t *testing.T) {
	for _, n := range numbers {
		for _, d := range numbers {
			f, ok := Of(n, d)
			want, good := api.Frac{}, false
			if d != 0 {
				r := new(big.Rat).SetFrac(big.NewInt(int64(n)), big.NewInt(int64(d)))
				want, good = expected(r)
			}
			if f != want || ok != good {
				t.Error(n, d, f, ok)
			}
		}
	}
	if f, ok := Of(6, -4); f != (api.Frac{N: -3, D: 2}) || !ok {
		t.Error(f, ok)
	}
}

func TestValid(t *testing.T) {
	for _, f := range []api.Frac{{N: 3, D: 2}, {N: 0, D: 1}, {N: -api.MaxNum, D: 1}, {N: 1, D: api.MaxInt}} {
		if !Valid(f) {
			t.Error(f)
		}
	}
	for _, f := range fractions()[:8] {
		if Valid(f) {
			t.Error(f)
		}
	}
}

func TestArithmetic(t *testing.T) {
	l := fractions()
	for _, a := range l {
		for _, b := range l {
			valid := Valid(a) && Valid(b)
			check := func(name string, f func(a, b api.Frac) (api.Frac, bool), g func(z, x, y *big.Rat) *big.Rat) {
				want, good := api.Frac{}, false
				if valid {
					want, good = expected(g(new(big.Rat), rational(a), rational(b)))
				}
				if got, ok := f(a, b); got != want || ok != good {
					t.Error(name, a, b, got, ok, want, good)
				}
			}
			check("Add", Add, (*big.Rat).Add)
			check("Sub", Sub, (*big.Rat).Sub)
			check("Mul", Mul, (*big.Rat).Mul)
		}
	}
}

// A sum can be valid although the least common multiple of the denominators is greater than MaxInt.
func TestAddReduces(t *testing.T) {
	a, b := api.Frac{N: 1, D: 3 * 100000000000003}, api.Frac{N: 1, D: 6 * 99999999999973}
	r := rand.New(rand.NewSource(3))
	for range 2000 {
		want, good := expected(new(big.Rat).Add(rational(a), rational(b)))
		if got, ok := Add(a, b); got != want || ok != good {
			t.Fatal(a, b, got, ok, want, good)
		}
		g := 1 + r.Intn(1000000)
		a, _ = Of(r.Intn(1000000)-500000, g*(1+r.Intn(100000)))
		b, _ = Of(g-a.N, g*(1+r.Intn(100000)))
	}
	got, ok := Add(api.Frac{N: 1, D: 17346592768}, api.Frac{N: 1, D: 70113034240})
	if got != (api.Frac{N: 5213, D: 72492495339520}) || !ok {
		t.Error(got, ok)
	}
}

func TestCmp(t *testing.T) {
	l := fractions()
	zero := api.Frac{D: 1}
	for _, a := range l {
		for _, b := range l {
			x, y := a, b
			if !Valid(x) {
				x = zero
			}
			if !Valid(y) {
				y = zero
			}
			want := rational(x).Cmp(rational(y))
			if Cmp(a, b) != want || want == 0 != (x == y) {
				t.Error(a, b, Cmp(a, b), want)
			}
		}
	}
}

func TestSum(t *testing.T) {
	r := rand.New(rand.NewSource(2))
	l := fractions()
	for range 2000 {
		list := make([]api.Frac, r.Intn(6))
		total, common, valid := new(big.Rat), big.NewInt(1), true
		for i := range list {
			list[i] = l[r.Intn(len(l))]
			if r.Intn(2) == 0 {
				list[i], _ = Of(r.Intn(2000)-1000, 1+r.Intn(60))
			}
			valid = valid && Valid(list[i])
			if valid {
				total.Add(total, rational(list[i]))
				d := big.NewInt(int64(list[i].D))
				g := new(big.Int).GCD(nil, nil, common, d)
				common.Div(common.Mul(common, d), g)
			}
		}
		want, good := api.Frac{}, false
		if valid && common.Cmp(big.NewInt(api.MaxInt)) <= 0 {
			want, good = expected(total)
		}
		for range 2 {
			if got, ok := Sum(list); got != want || ok != good {
				t.Fatal(list, got, ok, want, good)
			}
			r.Shuffle(len(list), func(i, j int) { list[i], list[j] = list[j], list[i] })
		}
	}
}

func TestSumExamples(t *testing.T) {
	third := api.Frac{N: 1, D: 3}
	if f, ok := Sum([]api.Frac{third, third, third}); f != (api.Frac{N: 1, D: 1}) || !ok {
		t.Error(f, ok)
	}
	if f, ok := Sum(nil); f != (api.Frac{D: 1}) || !ok {
		t.Error(f, ok)
	}
	great := api.Frac{N: api.MaxNum, D: 1}
	if f, ok := Sum([]api.Frac{great, {N: 1, D: 1}, {N: -1, D: 1}}); f != great || !ok {
		t.Error(f, ok)
	}
	if f, ok := Add(great, api.Frac{N: 1, D: 1}); f != (api.Frac{}) || ok {
		t.Error(f, ok)
	}
	if f, ok := Sum([]api.Frac{{N: 1, D: 999999999999989}, {N: 1, D: 2}}); f != (api.Frac{}) || ok {
		t.Error(f, ok)
	}
	many := make([]api.Frac, api.MaxRows+1)
	for i := range many {
		many[i] = api.Frac{N: api.MaxNum, D: 3}
	}
	if !Valid(many[0]) {
		t.Fatal("not valid")
	}
	if _, ok := Sum(many); ok {
		t.Error("too many elements")
	}
	for i := range many {
		many[i].N *= 1 - i%2*2
	}
	if f, ok := Sum(many[:api.MaxRows]); f != (api.Frac{D: 1}) || !ok {
		t.Error(f, ok)
	}
}

func TestText(t *testing.T) {
	for f, s := range map[api.Frac]string{{N: -3, D: 2}: "-3/2", {N: 7, D: 1}: "7", {D: 1}: "0", {N: 2, D: 4}: "", {}: "", {N: -api.MaxNum, D: 1}: "-4611686018427387904"} {
		if Text(f) != s {
			t.Error(f, Text(f))
		}
	}
	seen := map[string]api.Frac{}
	for _, f := range fractions() {
		if !Valid(f) {
			continue
		}
		if g, ok := seen[Text(f)]; ok && g != f {
			t.Error(f, g)
		}
		seen[Text(f)] = f
	}
}
