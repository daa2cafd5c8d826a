package symbol

import (
	"fmt"
	"math"
	"math/rand"
	"slices"
	"strings"
	"testing"

	"tracebook/api"
	"tracebook/sample"
)

func module(name string, base, size int, symbols ...api.Symbol) api.Module {
	return api.Module{Name: name, Base: base, Size: size, Symbols: symbols}
}

func sym(offset int, name string) api.Symbol { return api.Symbol{Offset: offset, Name: name} }

func lib() []api.Module {
	return []api.Module{module("lib", 4096, 256, sym(0, "init"), sym(16, "run"))}
}

func TestExamples(t *testing.T) {
	for at, want := range map[int]string{4096: "lib:init 0", 4111: "lib:init 15", 4112: "lib:run 0", 4120: "lib:run 8", 4351: "lib:run 239"} {
		if name, n, ok := Find(lib(), at); fmt.Sprint(name, " ", n) != want || !ok {
			t.Error(at, name, n, ok)
		}
	}
	for _, at := range []int{4095, 4352, 0, -1, math.MaxInt, math.MinInt} {
		if name, n, ok := Find(lib(), at); name != "" || n != 0 || ok {
			t.Error(at, name)
		}
	}
	late := []api.Module{module("m", 10, 10, sym(5, "s"))}
	if _, _, ok := Find(late, 14); ok {
		t.Error("before the first symbol")
	}
	for s, want := range map[string]string{"0x1018": "lib:run", "0X1018": "0X1018", "0x000000001018": "lib:run", "0x0000000001018": "0x0000000001018", "0x": "0x", "0x10g8": "0x10g8", "1018": "1018", "0x1_018": "0x1_018", "0x+1018": "0x+1018", "0x1100": "0x1100", "0x10ff": "lib:run", "0x10FF": "0x10FF", "main": "main", "": "", "0xffffffffffff": "0xffffffffffff", "x0x1018": "x0x1018"} {
		if got := Frame(lib(), s); got != want {
			t.Error(s, got)
		}
	}
	long := []api.Module{module(strings.Repeat("m", 20), 0, 9, sym(0, strings.Repeat("s", 19)), sym(1, strings.Repeat("s", 20)))}
	if len(Frame(long, "0x0")) != 40 || Frame(long, "0x1") != "0x1" {
		t.Error("long names")
	}
}

func TestCheck(t *testing.T) {
	many := func(n, symbols int) []api.Module {
		var l []api.Module
		for i := range n {
			l = append(l, module("m", 1000*i, 1000))
		}
		for i := range symbols {
			l[0].Symbols = append(l[0].Symbols, sym(i, "s"))
		}
		return l
	}
	for i, c := range []struct {
		l   []api.Module
		err api.Errno
	}{
		{nil, api.OK}, {lib(), api.OK}, {many(64, 500), api.OK}, {many(65, 0), api.ErrLong}, {many(1, 501), api.ErrLong}, {append(many(1, 300), many(1, 201)...), api.ErrLong},
		{[]api.Module{module("", -1, 0)}, api.ErrName}, {[]api.Module{module("m", -1, 5)}, api.ErrRange}, {[]api.Module{module("m", api.MaxInt+1, 5)}, api.ErrRange}, {[]api.Module{module("m", 0, 0)}, api.ErrRange}, {[]api.Module{module("m", 1, api.MaxInt)}, api.ErrRange}, {[]api.Module{module("m", 0, api.MaxInt)}, api.OK}, {[]api.Module{module("m", api.MaxInt, 1)}, api.ErrRange}, {[]api.Module{module("m", api.MaxInt-1, 1)}, api.OK}, {[]api.Module{module("m", 0, math.MaxInt)}, api.ErrRange}, {[]api.Module{module("m", math.MinInt, math.MinInt)}, api.ErrRange},
		{[]api.Module{module("m", 0, 5), module("n", 4, 5, sym(9, ""))}, api.ErrOrder}, {[]api.Module{module("m", 0, 5), module("n", 5, 5)}, api.OK}, {[]api.Module{module("m", 9, 5), module("n", 0, 5)}, api.ErrOrder},
		{[]api.Module{module("m", 0, 5, sym(-1, ""))}, api.ErrName}, {[]api.Module{module("m", 0, 5, sym(-1, "s"))}, api.ErrRange}, {[]api.Module{module("m", 0, 5, sym(5, "s"))}, api.ErrRange}, {[]api.Module{module("m", 0, 5, sym(4, "s"))}, api.OK}, {[]api.Module{module("m", 0, 5, sym(2, "s"), sym(2, "t"))}, api.ErrOrder}, {[]api.Module{module("m", 0, 5, sym(2, "s"), sym(1, "t"))}, api.ErrOrder}, {[]api.Module{module("m", 0, 5, sym(2, "s"), sym(1, "t")), module("", 0, 0)}, api.ErrOrder},
	} {
		if err := Check(c.l); err != c.err {
			t.Error(i, err)
		}
		if c.err == api.OK {
			continue
		}
		if _, _, ok := Find(c.l, 0); ok || Frame(c.l, "0x0") != "0x0" {
			t.Error(i)
		}
		if l, err := Samples(c.l, []api.Sample{{}}); len(l) != 0 || err != c.err {
			t.Error(i, err)
		}
	}
	if l, err := Samples(nil, []api.Sample{{}}); len(l) != 0 || err != api.ErrRange {
		t.Error(err)
	}
}

func TestRandom(t *testing.T) {
	r := rand.New(rand.NewSource(1))
	for range 1000 {
		var l []api.Module
		base := r.Intn(5)
		for range r.Intn(4) {
			m := module(string(rune('a'+r.Intn(3))), base, 1+r.Intn(10))
			for offset := r.Intn(4); offset < m.Size; offset += 1 + r.Intn(4) {
				m.Symbols = append(m.Symbols, sym(offset, fmt.Sprint("s", offset)))
			}
			l = append(l, m)
			base += m.Size + r.Intn(4)
		}
		for at := range 60 {
			name, n, ok := Find(l, at)
			want := ""
			for _, m := range l {
				for _, s := range m.Symbols {
					if m.Base+s.Offset <= at && at < m.Base+m.Size {
						want = fmt.Sprint(m.Name, ":", s.Name, " ", at-m.Base-s.Offset)
					}
				}
			}
			if ok != (want != "") || ok && fmt.Sprint(name, " ", n) != want {
				t.Fatal(l, at, name, n, want)
			}
		}
		checkSamples(t, r, l)
	}
}

func checkSamples(t *testing.T, r *rand.Rand, l []api.Module) {
	var s []api.Sample
	for i := range r.Intn(5) {
		x := api.Sample{Thread: i, At: i, Weight: 1 + i}
		for range r.Intn(4) {
			x.Stack = append(x.Stack, []string{fmt.Sprintf("0x%x", r.Intn(60)), "main", "0xzz"}[r.Intn(3)])
		}
		s = append(s, x)
	}
	got, err := Samples(l, s)
	if err != api.OK || len(got) != len(s) || sample.Check(got) != api.OK {
		t.Fatal(err)
	}
	for i, x := range got {
		if x.Thread != s[i].Thread || x.At != s[i].At || x.Weight != s[i].Weight || len(x.Stack) != len(s[i].Stack) {
			t.Fatal(x, s[i])
		}
		for k, f := range x.Stack {
			if f != Frame(l, s[i].Stack[k]) || f != s[i].Stack[k] && !strings.HasPrefix(s[i].Stack[k], "0x") {
				t.Fatal(f, s[i].Stack[k])
			}
		}
	}
	again, _ := Samples(l, got)
	if !slices.EqualFunc(again, got, func(a, b api.Sample) bool { return slices.Equal(a.Stack, b.Stack) }) {
		t.Fatal("again", got, again)
	}
}
