package codec

import (
	"bytes"
	"hash/crc32"
	"math"
	"math/big"
	"math/rand"
	"slices"
	"testing"

	"tracebook/api"
)

// encoding encodes an integer by the definition, with big numbers.
func encoding(n int) []byte {
	x := new(big.Int).Mul(big.NewInt(int64(n)), big.NewInt(2))
	if n < 0 {
		x.Neg(x).Sub(x, big.NewInt(1))
	}
	var b []byte
	for {
		low := new(big.Int)
		x.DivMod(x, big.NewInt(128), low)
		if x.Sign() == 0 {
			return append(b, byte(low.Int64()))
		}
		b = append(b, byte(low.Int64())+128)
	}
}

func integers() []int {
	l := []int{0, -1, 1, -2, 2, 63, -64, 64, -65, 300, 8191, 8192, math.MaxInt, math.MinInt, math.MaxInt - 1, math.MinInt + 1}
	r := rand.New(rand.NewSource(1))
	for i := range 2000 {
		l = append(l, int(r.Uint64()>>(i%64)))
	}
	return l
}

func TestInts(t *testing.T) {
	for _, n := range integers() {
		want := encoding(n)
		if got := PutInt(nil, n); !slices.Equal(got, want) {
			t.Fatal(n, got, want)
		}
		prefix := []byte{1, 2, 3, 9, 9}[:3]
		if got := PutInt(prefix, n); !slices.Equal(got, append([]byte{1, 2, 3}, want...)) || prefix[:5][3] != 9 {
			t.Fatal("the bytes before or behind", n, got)
		}
		for _, rest := range [][]byte{nil, {0}, {128}, {255, 1}} {
			if m, k, err := Int(slices.Concat(want, rest)); m != n || k != len(want) || err != api.OK {
				t.Fatal(n, m, k, err)
			}
		}
		for i := range want {
			if m, k, err := Int(want[:i]); m != 0 || k != 0 || err != api.ErrShort {
				t.Fatal("beginning", n, i, err)
			}
		}
	}
	if got := PutInt(nil, 300); !slices.Equal(got, []byte{216, 4}) {
		t.Error(got)
	}
	if got := PutInt(nil, math.MaxInt); !slices.Equal(got, []byte{254, 255, 255, 255, 255, 255, 255, 255, 255, 1}) {
		t.Error(got)
	}
	if got := PutInt(nil, math.MinInt); !slices.Equal(got, []byte{255, 255, 255, 255, 255, 255, 255, 255, 255, 1}) {
		t.Error(got)
	}
}

func TestAppendTwice(t *testing.T) {
	b := make([]byte, 1, 100)
	x, y := PutInt(b, 5), PutInt(b, 6)
	v, w := PutText(b, "ab"), PutText(b, "cd")
	if x[1] != 10 || y[1] != 12 || string(v[2:]) != "ab" || string(w[2:]) != "cd" {
		t.Error("results share memory")
	}
}

func TestIntErrors(t *testing.T) {
	long := bytes.Repeat([]byte{128}, 10)
	for _, c := range []struct {
		b   []byte
		err api.Errno
	}{{nil, api.ErrShort}, {[]byte{128}, api.ErrShort}, {[]byte{128, 0}, api.ErrForm}, {long[:9], api.ErrShort}, {long, api.ErrForm}, {append(long[:9:9], 2), api.ErrForm}, {append(long[:9:9], 0), api.ErrForm}, {append(long[:9:9], 129, 1), api.ErrForm}, {append(long[:9:9], 1), api.OK}} {
		if n, k, err := Int(c.b); err != c.err || err != api.OK && (n != 0 || k != 0) {
			t.Error(c.b, n, k, err)
		}
	}
	if n, k, err := Int([]byte{216, 4, 9}); n != 300 || k != 2 || err != api.OK {
		t.Error(n, k, err)
	}
}

// Every encoding that Int accepts is the one that PutInt writes.
func TestCanonical(t *testing.T) {
	r := rand.New(rand.NewSource(2))
	bytes := []byte{0, 1, 2, 127, 128, 129, 255}
	for range 20000 {
		b := make([]byte, r.Intn(12))
		for i := range b {
			b[i] = bytes[r.Intn(len(bytes))]
		}
		if n, k, err := Int(b); err == api.OK && !slices.Equal(PutInt(nil, n), b[:k]) {
			t.Fatal(b, n, k)
		}
		if s, k, err := Text(b, 5); err == api.OK && !slices.Equal(PutText(nil, s), b[:k]) {
			t.Fatal(b, s, k)
		}
	}
}

func TestTexts(t *testing.T) {
	long := string(bytes.Repeat([]byte{7}, 300))
	for _, s := range []string{"", "a", "ab", "\x00\xff\n", long} {
		b := PutText([]byte{5}, s)
		if !slices.Equal(b, append(append([]byte{5}, encoding(len(s))...), s...)) {
			t.Error(b)
		}
		b = append(b[1:], 1, 2)
		if got, n, err := Text(b, len(s)); got != s || n != len(b)-2 || err != api.OK {
			t.Error(s, got, n, err)
		}
		if got, n, err := Text(b, len(s)-1); got != "" || n != 0 || err != api.ErrLong {
			t.Error(s, got, n, err)
		}
		if got, n, err := Text(b[:len(b)-2], len(s)); got != s || n != len(b)-2 || err != api.OK {
			t.Error("nothing follows", s, got, n, err)
		}
		for i := range len(b) - 2 {
			if _, _, err := Text(b[:i], len(s)); err != api.ErrShort {
				t.Error(s, i, err)
			}
		}
	}
	for _, c := range []struct {
		b    []byte
		most int
		err  api.Errno
	}{{[]byte{1}, 5, api.ErrForm}, {[]byte{1}, -5, api.ErrForm}, {[]byte{0}, -1, api.ErrLong}, {[]byte{128, 0}, 5, api.ErrForm}, {[]byte{254, 255, 255, 255, 255, 255, 255, 255, 255, 1}, math.MaxInt, api.ErrShort}, {[]byte{8, 1}, 3, api.ErrLong}} {
		if s, n, err := Text(c.b, c.most); s != "" || n != 0 || err != c.err {
			t.Error(c, s, n, err)
		}
	}
}

func TestSum(t *testing.T) {
	if Sum([]byte("123456789")) != 3421780262 || Sum(nil) != 0 {
		t.Error("examples")
	}
	r := rand.New(rand.NewSource(3))
	for n := range 200 {
		b := make([]byte, n)
		r.Read(b)
		if Sum(b) != int(crc32.ChecksumIEEE(b)) {
			t.Error(b)
		}
		if n > 4 {
			changed := slices.Clone(b)
			changed[r.Intn(n-3)+r.Intn(4)] ^= byte(1 + r.Intn(255))
			if Sum(changed) == Sum(b) {
				t.Error("a change within four bytes keeps the sum")
			}
		}
	}
}
