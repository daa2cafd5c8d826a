package num

import (
	"math"
	"math/big"
	"math/rand"
	"slices"
	"testing"

	"tracebook/api"
)

// edges are numbers in and around the range.
var edges = []int{0, 1, -1, 2, -2, 3, 7, -7, 1 << 31, -1 << 31, 33333333, 100000000, -10000000, api.MaxInt - 1, api.MaxInt, -api.MaxInt, api.MaxInt + 1, -api.MaxInt - 1, math.MaxInt, math.MinInt}

func inBig(x *big.Int) bool {
	return new(big.Int).Abs(x).Cmp(big.NewInt(api.MaxInt)) <= 0
}

func expect(x *big.Int, ok bool) (int, bool) {
	if !ok || !inBig(x) {
		return 0, false
	}
	return int(x.Int64()), true
}

func TestIn(t *testing.T) {
	for _, n := range edges {
		if In(n) != inBig(big.NewInt(int64(n))) {
			t.Error(n)
		}
	}
}

func TestAddMul(t *testing.T) {
	for _, a := range edges {
		for _, b := range edges {
			x, y := big.NewInt(int64(a)), big.NewInt(int64(b))
			valid := inBig(x) && inBig(y)
			n, ok := Add(a, b)
			if m, good := expect(new(big.Int).Add(x, y), valid); m != n || good != ok {
				t.Error("Add", a, b, n, ok)
			}
			if r, back := Add(n, -b); ok && (r != a || !back) {
				t.Error("Add back", a, b)
			}
			n, ok = Mul(a, b)
			if m, good := expect(new(big.Int).Mul(x, y), valid); m != n || good != ok {
				t.Error("Mul", a, b, n, ok)
			}
			if m, good := Mul(b, a); m != n || good != ok {
				t.Error("Mul is not commutative", a, b)
			}
		}
	}
	if n, ok := Mul(100000000, -10000000); n != -api.MaxInt || !ok {
		t.Error(n, ok)
	}
}

func TestFloorCeil(t *testing.T) {
	for _, a := range edges {
		for _, b := range edges {
			for _, c := range edges {
				checkQuotient(t, a, b, c)
			}
		}
	}
	if n, ok := Floor(-7, 1, 2); n != -4 || !ok {
		t.Error(n, ok)
	}
	if n, ok := Ceil(-7, 1, 2); n != -3 || !ok {
		t.Error(n, ok)
	}
}

func checkQuotient(t *testing.T, a, b, c int) {
	x, y, z := big.NewInt(int64(a)), big.NewInt(int64(b)), big.NewInt(int64(c))
	valid := inBig(x) && inBig(y) && inBig(z) && c >= 1
	low, high := new(big.Int), new(big.Int)
	if valid {
		product := new(big.Int).Mul(x, y)
		low.Div(product, z) // Euclidean, and z is positive: rounded down
		high.Neg(new(big.Int).Div(new(big.Int).Neg(product), z))
	}
	n, ok := Floor(a, b, c)
	if m, good := expect(low, valid); m != n || good != ok {
		t.Error("Floor", a, b, c, n, ok)
	}
	n, ok = Ceil(a, b, c)
	if m, good := expect(high, valid); m != n || good != ok {
		t.Error("Ceil", a, b, c, n, ok)
	}
}

func quantileByDefinition(l []int, k, n int) int {
	sorted := slices.Clone(l)
	slices.Sort(sorted)
	for _, x := range sorted {
		count := 0
		for _, y := range l {
			if y <= x {
				count++
			}
		}
		if n*count >= k*len(l) {
			return x
		}
	}
	panic("no quantile")
}

func TestQuantile(t *testing.T) {
	r := rand.New(rand.NewSource(1))
	for range 300 {
		l := make([]int, 1+r.Intn(9))
		for i := range l {
			l[i] = r.Intn(7) - 3
		}
		before := slices.Clone(l)
		n := 1 + r.Intn(12)
		last := math.MinInt
		for k := 0; k <= n; k++ {
			x, ok := Quantile(l, k, n)
			if !ok || x != quantileByDefinition(l, k, n) || x < last {
				t.Fatal(l, k, n, x, ok)
			}
			last = x
		}
		if x, _ := Quantile(l, 0, n); x != slices.Min(l) {
			t.Error("least", l, x)
		}
		if x, _ := Quantile(l, n, n); x != slices.Max(l) {
			t.Error("greatest", l, x)
		}
		if !slices.Equal(before, l) {
			t.Fatal("the list was changed")
		}
	}
	if x, ok := Quantile([]int{4, 1, 3, 2}, 1, 2); x != 2 || !ok {
		t.Error(x, ok)
	}
	if x, ok := Quantile([]int{math.MaxInt, math.MinInt}, api.MaxInt, api.MaxInt); x != math.MaxInt || !ok {
		t.Error(x, ok)
	}
	for _, c := range [][3]int{{0, 1, 2}, {1, -1, 2}, {1, 3, 2}, {1, 0, 0}, {1, 0, -1}, {1, 1, api.MaxInt + 1}, {1, math.MinInt, math.MaxInt}} {
		if x, ok := Quantile([]int{5}[:c[0]], c[1], c[2]); x != 0 || ok {
			t.Error(c, x, ok)
		}
	}
}

func TestText(t *testing.T) {
	for _, n := range edges {
		s := Text(n)
		if s != big.NewInt(int64(n)).String() {
			t.Error(n, s)
		}
		m, ok := Parse(s)
		if ok != In(n) || ok && m != n || !ok && m != 0 {
			t.Error(s, m, ok)
		}
	}
	for _, s := range []string{"", "-", "-0", "+1", "01", "-01", " 1", "1 ", "1_0", "0x1", "1.0", "99999999999999999999", "\u0661"} {
		if n, ok := Parse(s); n != 0 || ok {
			t.Error(s, n, ok)
		}
	}
}

// The product of two numbers can be so much greater than the divisor that the quotient has exactly 65 bits.
func TestGreatQuotient(t *testing.T) {
	const high = 54210108624 // MaxInt times MaxInt, divided by 2^64
	for _, c := range []int{high - 1, high, high + 1, 2 * high} {
		checkQuotient(t, api.MaxInt, api.MaxInt, c)
		checkQuotient(t, -api.MaxInt, api.MaxInt, c)
	}
}
