package intern

import (
	"fmt"
	"math"
	"math/rand"
	"slices"
	"strings"
	"testing"

	"tracebook/api"
)

func TestName(t *testing.T) {
	const letters = "abcdefghijklmnopqrstuvwxyzABCDEFGHIJKLMNOPQRSTUVWXYZ0123456789_.:/<>$*~-"
	for c := range 256 {
		s := string([]byte{'a', byte(c)})
		want := api.ErrName
		if strings.IndexByte(letters, byte(c)) >= 0 {
			want = api.OK
		}
		if Name(s) != want || Name(s[1:]) != want {
			t.Error(c)
		}
	}
	for s, want := range map[string]api.Errno{"": api.ErrName, "main.loop:7": api.OK, "a b": api.ErrName, strings.Repeat("x", api.MaxName): api.OK, strings.Repeat("x", api.MaxName+1): api.ErrName} {
		if Name(s) != want {
			t.Error(s)
		}
	}
}

func repeat(s string, n int) []string {
	return slices.Repeat([]string{s}, n)
}

func TestFrames(t *testing.T) {
	for _, c := range []struct {
		l   []string
		err api.Errno
	}{{nil, api.OK}, {repeat("a", api.MaxFrames), api.OK}, {repeat("a", api.MaxFrames+1), api.ErrLong}, {repeat(" ", api.MaxFrames+1), api.ErrLong}, {[]string{"a", ""}, api.ErrName}} {
		if Frames(c.l) != c.err {
			t.Error(c)
		}
	}
}

// full returns a table of n names, and a table of n stacks of one frame.
func full(n int) ([]string, [][2]int) {
	var names []string
	var stacks [][2]int
	for i := range n {
		names = append(names, fmt.Sprint("n", i))
		stacks = append(stacks, [2]int{-1, i})
	}
	return names, stacks
}

func chain(n int) [][2]int {
	var stacks [][2]int
	for i := range n {
		stacks = append(stacks, [2]int{i - 1, 0})
	}
	return stacks
}

func TestCheck(t *testing.T) {
	many, manyStacks := full(1001)
	ab := []string{"a", "b"}
	for i, c := range []struct {
		names  []string
		stacks [][2]int
		err    api.Errno
	}{
		{nil, nil, api.OK},
		{ab, [][2]int{{-1, 0}, {0, 1}}, api.OK},
		{ab, [][2]int{{-1, 0}, {1, 1}}, api.ErrRange},
		{ab, [][2]int{{0, 0}}, api.ErrRange},
		{ab, [][2]int{{-2, 0}}, api.ErrRange},
		{ab, [][2]int{{-1, 2}}, api.ErrRange},
		{ab, [][2]int{{-1, -1}}, api.ErrRange},
		{ab, [][2]int{{math.MaxInt, math.MinInt}}, api.ErrRange},
		{ab, [][2]int{{-1, 0}, {-1, 0}}, api.ErrTwice},
		{[]string{"a", "a"}, [][2]int{{5, 5}}, api.ErrTwice},
		{[]string{"a", "", "a"}, nil, api.ErrName},
		{[]string{"a", "a", ""}, nil, api.ErrTwice},
		{ab, chain(api.MaxFrames), api.OK},
		{ab, chain(api.MaxFrames + 1), api.ErrLong},
		{many[:1000], manyStacks[:1000], api.OK},
		{many, nil, api.ErrLong},
		{[]string{""}, manyStacks, api.ErrLong},
	} {
		if err := Check(c.names, c.stacks); err != c.err {
			t.Error(i, err)
		}
	}
}

func TestPut(t *testing.T) {
	ab := []string{"a", "b", "x"}[:2]
	for _, c := range []struct {
		s     string
		i     int
		after string
		err   api.Errno
	}{{"b", 1, "ab", api.OK}, {"c", 2, "abc", api.OK}, {"", 0, "ab", api.ErrName}, {"d", 2, "abd", api.OK}} {
		i, l, err := Put(ab, c.s)
		if i != c.i || strings.Join(l, "") != c.after || err != c.err {
			t.Error(c, i, l, err)
		}
	}
	if ab[:3][2] != "x" {
		t.Error("the memory behind the names was changed")
	}
	many, _ := full(1000)
	if i, l, err := Put(many, "n999"); i != 999 || len(l) != 1000 || err != api.OK {
		t.Error(i, err)
	}
	if i, l, err := Put(many, "new"); i != 0 || len(l) != 1000 || err != api.ErrFull {
		t.Error(i, len(l), err)
	}
	if i, _, err := Put([]string{"", "a", "a"}, "a"); i != 1 || err != api.OK {
		t.Error("the other names are not examined")
	}
}

func TestPutStack(t *testing.T) {
	i, names, stacks, err := PutStack(nil, nil, []string{"main", "loop"})
	if i != 1 || !slices.Equal(names, []string{"main", "loop"}) || !slices.Equal(stacks, [][2]int{{-1, 0}, {0, 1}}) || err != api.OK {
		t.Error(i, names, stacks, err)
	}
	i, names, stacks, err = PutStack(names, stacks, []string{"main", "wait"})
	if i != 2 || len(names) != 3 || !slices.Equal(stacks, [][2]int{{-1, 0}, {0, 1}, {0, 2}}) || err != api.OK {
		t.Error(i, names, stacks, err)
	}
	if l, err := Stack(names, stacks, 2); !slices.Equal(l, []string{"main", "wait"}) || err != api.OK {
		t.Error(l, err)
	}
	if l, err := Stack(names, stacks, -1); len(l) != 0 || err != api.OK {
		t.Error(l, err)
	}
	for _, bad := range []int{3, -2, math.MaxInt, math.MinInt} {
		if l, err := Stack(names, stacks, bad); len(l) != 0 || err != api.ErrRange {
			t.Error(l, err)
		}
	}
	if _, err := Stack([]string{""}, nil, -1); err != api.ErrArg {
		t.Error(err)
	}
	if i, n, s, err := PutStack(names, stacks, nil); i != -1 || len(n) != 3 || len(s) != 3 || err != api.OK {
		t.Error(i, err)
	}
}

func TestPutStackErrors(t *testing.T) {
	many, manyStacks := full(1000)
	for _, c := range []struct {
		names  []string
		stacks [][2]int
		l      []string
		err    api.Errno
	}{
		{nil, nil, []string{"a", ""}, api.ErrName},
		{nil, nil, repeat("a", 33), api.ErrLong},
		{many, nil, []string{"n0", "new"}, api.ErrFull},
		{many[:2], manyStacks, []string{"n0", "n1"}, api.ErrFull},
		{many[:999], manyStacks, []string{"new", "n1"}, api.ErrFull},
		{many[:2], manyStacks[:999], []string{"n0", "n1", "n0"}, api.ErrFull},
	} {
		i, n, s, err := PutStack(c.names, c.stacks, c.l)
		if i != 0 || len(n) != len(c.names) || len(s) != len(c.stacks) || err != c.err {
			t.Error(i, len(n), len(s), err)
		}
	}
	if i, _, s, err := PutStack(many[:2], manyStacks[:999], []string{"n0", "n1"}); i != 999 || len(s) != 1000 || err != api.OK {
		t.Error(i, len(s), err)
	}
	if i, n, s, err := PutStack(many, manyStacks, []string{"n999"}); i != 999 || len(n) != 1000 || len(s) != 1000 || err != api.OK {
		t.Error("what is there needs no room", i, err)
	}
}

func TestSequences(t *testing.T) {
	r := rand.New(rand.NewSource(1))
	for range 200 {
		var names []string
		var stacks [][2]int
		indices := map[string]int{}
		for range 30 {
			l := make([]string, r.Intn(5))
			for i := range l {
				l[i] = string(rune('a' + r.Intn(3)))
			}
			i, n, s, err := PutStack(names, stacks, l)
			if err != api.OK || Check(n, s) != api.OK || !slices.Equal(n[:len(names)], names) || !slices.Equal(s[:len(stacks)], stacks) {
				t.Fatal(l, n, s, err)
			}
			if got, err := Stack(n, s, i); !slices.Equal(got, l) || err != api.OK {
				t.Fatal(got, l, err)
			}
			key := strings.Join(l, ";")
			if before, ok := indices[key]; ok && (before != i || len(n) != len(names) || len(s) != len(stacks)) {
				t.Fatal("again", l, i, before)
			}
			for other, index := range indices {
				if other != key && index == i {
					t.Fatal("the same index", other, key)
				}
			}
			indices[key] = i
			names, stacks = n, s
		}
	}
}
