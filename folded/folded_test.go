package folded

import (
	"math"
	"math/big"
	"math/rand"
	"slices"
	"strings"
	"testing"

	"tracebook/api"
)

func of(stack string, weight int) api.Sample {
	return api.Sample{Weight: weight, Stack: strings.Split(stack, ";")}
}

func equal(a, b api.Sample) bool {
	return a.Thread == b.Thread && a.At == b.At && a.Weight == b.Weight && slices.Equal(a.Stack, b.Stack)
}

func TestImport(t *testing.T) {
	for s, want := range map[string][]api.Sample{
		"": nil, "main;loop 5": {of("main;loop", 5)}, "main;loop 5\n": {of("main;loop", 5)},
		"main;loop 5\nmain 2\nmain;loop 1": {of("main;loop", 5), of("main", 2), of("main;loop", 1)},
		"a 1000000000000":                  {of("a", api.MaxTime)},
		strings.Repeat("a;", 31) + "a 1":   {of(strings.Repeat("a;", 31)+"a", 1)},
	} {
		if l, n, err := Import(s); !slices.EqualFunc(l, want, equal) || n != 0 || err != api.OK {
			t.Error(s, l, n, err)
		}
	}
	for s, want := range map[string]struct {
		n   int
		err api.Errno
	}{
		"main": {1, api.ErrForm}, "main 0": {1, api.ErrForm}, "main 05": {1, api.ErrForm}, "main -1": {1, api.ErrForm}, "main 1000000000001": {1, api.ErrForm}, "main ": {1, api.ErrForm}, "main 5 ": {1, api.ErrForm}, "main x": {1, api.ErrForm},
		"ma in 5": {1, api.ErrName}, ";a 5": {1, api.ErrName}, "a; 5": {1, api.ErrName}, " 5": {1, api.ErrName}, "a;;b 5": {1, api.ErrName}, "a  5": {1, api.ErrName},
		"\n": {1, api.ErrForm}, "a 1\n\n": {2, api.ErrForm}, "a 1\n\nb 1": {2, api.ErrForm}, "a 1\nb 1\n\x01 1\nx": {3, api.ErrName}, "a 5\r\n": {1, api.ErrForm},
		strings.Repeat("a;", 32) + "a 1": {1, api.ErrLong}, strings.Repeat("a;", 32) + "a 0": {1, api.ErrForm}, strings.Repeat(" ;", 32) + "a 1": {1, api.ErrLong},
		strings.Repeat("x", api.MaxText+1): {0, api.ErrLong}, strings.Repeat("x", api.MaxText): {1, api.ErrForm},
	} {
		if l, n, err := Import(s); len(l) != 0 || n != want.n || err != want.err {
			t.Error(s[:min(len(s), 20)], l, n, err)
		}
	}
}

func TestPrint(t *testing.T) {
	l, _, _ := Import("main;loop 5\nmain 2\nmain;loop 1")
	if s, err := Print(l); s != "main 2\nmain;loop 6\n" || err != api.OK {
		t.Error(s, err)
	}
	// By frames and not by the joined text: the semicolon is greater than a digit.
	if s, _ := Print([]api.Sample{of("a1", 1), of("a;b", 2), of("a", 3), of("B", 4)}); s != "B 4\na 3\na;b 2\na1 1\n" {
		t.Error(s)
	}
	if s, err := Print(nil); s != "" || err != api.OK {
		t.Error(s, err)
	}
	for i, c := range []struct {
		l   []api.Sample
		err api.Errno
	}{
		{[]api.Sample{{Weight: 1}}, api.ErrArg}, {[]api.Sample{of("a", 0)}, api.ErrArg}, {[]api.Sample{of("a", api.MaxTime+1)}, api.ErrArg}, {[]api.Sample{of(" ", 0)}, api.ErrArg},
		{[]api.Sample{of(" ", 1), of("a", 0)}, api.ErrName}, {[]api.Sample{of("a", 0), of(" ", 1)}, api.ErrArg}, {[]api.Sample{of(strings.Repeat("a;", 32)+"a", 1)}, api.ErrLong},
		{[]api.Sample{of("a", api.MaxTime), of("a", 1)}, api.ErrRange}, {[]api.Sample{of("a", api.MaxTime-1), of("a", 1)}, api.OK}, {[]api.Sample{of("a", api.MaxTime), of("a", 1), of("a", 0)}, api.ErrArg},
		{[]api.Sample{{Thread: -1, At: -1, Weight: 1, Stack: []string{"a"}}}, api.OK},
	} {
		if s, err := Print(c.l); err != c.err || err != api.OK && s != "" {
			t.Error(i, s, err)
		}
	}
}

func TestRoundTrip(t *testing.T) {
	r := rand.New(rand.NewSource(1))
	for range 500 {
		var l []api.Sample
		for range r.Intn(12) {
			l = append(l, of([]string{"a", "a;b", "b", "a;b;c", "a.b", "a;a"}[r.Intn(6)], 1+r.Intn(100)))
		}
		before := slices.Clone(l)
		s, err := Print(l)
		sum, ok := Sum(l)
		if err != api.OK || !slices.EqualFunc(l, before, equal) {
			t.Fatal(err)
		}
		got, n, err := Import(s)
		if n != 0 || err != api.OK {
			t.Fatal(s, err)
		}
		for i := 1; i < len(got); i++ {
			if slices.Compare(got[i-1].Stack, got[i].Stack) >= 0 {
				t.Fatal(s)
			}
		}
		again, _ := Print(got)
		other, _ := Sum(got)
		if again != s || other != sum || !ok {
			t.Fatal(s, again, sum, other)
		}
		r.Shuffle(len(l), func(i, j int) { l[i], l[j] = l[j], l[i] })
		if len(l) > 0 && l[0].Weight > 1 {
			l = append(l, of(strings.Join(l[0].Stack, ";"), l[0].Weight-1))
			l[0].Weight = 1
		}
		if other, _ := Print(l); other != s {
			t.Fatal(s, other)
		}
		lines := strings.SplitAfter(s, "\n")
		bad := r.Intn(len(lines))
		wrong := strings.Join(lines[:bad], "") + "x\n" + strings.Join(lines[bad:], "")
		if _, n, err := Import(wrong); n != bad+1 || err != api.ErrForm {
			t.Fatal(wrong, n, err)
		}
	}
}

func TestSum(t *testing.T) {
	r := rand.New(rand.NewSource(2))
	values := []int{0, 1, -1, math.MaxInt, math.MinInt, api.MaxInt, -api.MaxInt, api.MaxTime, 7}
	for range 5000 {
		want := new(big.Int)
		var l []api.Sample
		for range r.Intn(7) {
			n := values[r.Intn(len(values))]
			l = append(l, api.Sample{Weight: n})
			want.Add(want, big.NewInt(int64(n)))
		}
		n, ok := Sum(l)
		if new(big.Int).Abs(want).Cmp(big.NewInt(api.MaxInt)) > 0 {
			if n != 0 || ok {
				t.Fatal(l, n, ok)
			}
		} else if !ok || int64(n) != want.Int64() {
			t.Fatal(l, n, ok)
		}
	}
	if n, ok := Sum([]api.Sample{of("a", api.MaxTime), of("a", 1)}); n != api.MaxTime+1 || !ok {
		t.Error(n, ok)
	}
}
