package memory

import (
	"math"
	"math/rand"
	"slices"
	"strings"
	"testing"

	"tracebook/api"
)

func alloc(thread, at, id, size int, stack ...string) api.Timed {
	return api.Timed{Id: api.Id{Thread: thread}, Event: api.Event{Kind: api.KAlloc, N: id, M: size, Stack: stack}, When: api.Interval{Lo: at, Hi: at + 5}}
}

func free(thread, at, id int) api.Timed {
	return api.Timed{Id: api.Id{Thread: thread}, Event: api.Event{Kind: api.KFree, N: id}, When: api.Interval{Lo: at, Hi: at + 5}}
}

func block(id, thread, size, from, to int, live bool, stack ...string) api.Block {
	return api.Block{Id: id, Thread: thread, Size: size, Span: api.Span{From: from, To: to}, Stack: stack, Live: live}
}

func equal(a, b api.Block) bool {
	return a.Id == b.Id && a.Thread == b.Thread && a.Size == b.Size && a.Span == b.Span && a.Live == b.Live && slices.Equal(a.Stack, b.Stack)
}

func TestExamples(t *testing.T) {
	o := []api.Timed{alloc(1, 10, 5, 100, "f"), alloc(1, 15, 6, 50), free(2, 20, 5)}
	l := Of(o, 30)
	if !slices.EqualFunc(l, []api.Block{block(5, 1, 100, 10, 20, false, "f"), block(6, 1, 50, 15, 30, true)}, equal) || Check(l) != api.OK {
		t.Error(l)
	}
	for at, want := range map[int]int{9: 0, 10: 100, 15: 150, 19: 150, 20: 50, 29: 50, 30: 0} {
		if n := Live(l, at); n != want {
			t.Error(at, n)
		}
	}
	if at, n := Peak(l); at != 15 || n != 150 {
		t.Error(at, n)
	}
	if leaks := Leaks(l); len(leaks) != 1 || leaks[0].Id != 6 {
		t.Error(leaks)
	}
	if l := Of([]api.Timed{alloc(1, 10, 5, 100), free(1, 10, 5), free(1, 11, 9)}, 30); len(l) != 0 {
		t.Error(l)
	}
	if l := Of([]api.Timed{alloc(1, 10, 5, 100), alloc(2, 12, 5, 7), free(1, 20, 5)}, 0); !slices.EqualFunc(l, []api.Block{block(5, 1, 100, 10, 12, false), block(5, 2, 7, 12, 20, false)}, equal) {
		t.Error(l)
	}
	if at, n := Peak(nil); at != 0 || n != 0 {
		t.Error(at, n)
	}
}

func TestEnds(t *testing.T) {
	for _, c := range [][3]int{{5, 20, 20}, {5, math.MaxInt, api.MaxTime}, {-5, 3, 3}, {math.MinInt, 1, 1}} {
		l := Of([]api.Timed{alloc(1, c[0], 5, 100)}, c[1])
		if len(l) != 1 || l[0].Span.From != max(c[0], 0) || l[0].Span.To != c[2] || !l[0].Live {
			t.Error(c, l)
		}
	}
	if l := Of([]api.Timed{alloc(1, 9, 5, 1), alloc(1, 12, 6, 1)}, math.MinInt); len(l) != 1 || l[0].Span.To != 12 {
		t.Error(l)
	}
	// Any order: the end of the trace is the time of the last event, and what ends before its beginning is left out.
	if l := Of([]api.Timed{alloc(1, 9, 5, 1), alloc(1, 2, 6, 1), alloc(1, 2, 7, 1), free(1, 4, 5)}, 0); len(l) != 2 || l[0].Id != 6 || l[1].Id != 7 || l[0].Span.To != 4 {
		t.Error(l)
	}
}

func TestCheck(t *testing.T) {
	good := block(5, 1, 100, 10, 20, false, "f")
	for i, c := range []struct {
		b   api.Block
		err api.Errno
	}{
		{block(6, 1, 1, 10, 20, true), api.OK}, {block(api.MaxInt, api.MaxInt, api.MaxTime, 10, api.MaxTime, true), api.OK}, {block(5, 1, 1, 20, 21, true), api.OK},
		{block(-1, 1, 1, 10, 20, true, ""), api.ErrRange}, {block(api.MaxInt+1, 1, 1, 10, 20, true), api.ErrRange}, {block(1, -1, 1, 10, 20, true), api.ErrRange}, {block(1, api.MaxInt+1, 1, 10, 20, true), api.ErrRange}, {block(1, 1, 0, 10, 20, true), api.ErrRange}, {block(1, 1, api.MaxTime+1, 10, 20, true), api.ErrRange},
		{block(1, 1, 1, -1, 20, true), api.ErrRange}, {block(1, 1, 1, 20, 20, true), api.ErrRange}, {block(1, 1, 1, 10, api.MaxTime+1, true), api.ErrRange},
		{block(5, 1, 1, 9, 20, true, ""), api.ErrName}, {block(5, 1, 1, 9, 20, true, strings.Fields(strings.Repeat("a ", 33))...), api.ErrLong},
		{block(5, 1, 1, 9, 20, true), api.ErrOrder}, {block(5, 1, 1, 19, 20, true), api.ErrTwice}, {block(5, 1, 1, 10, 11, true), api.ErrTwice},
	} {
		if err := Check([]api.Block{good, c.b}); err != c.err {
			t.Error(i, err)
		}
	}
	if Check([]api.Block{block(5, 1, 1, 0, 9, false), block(6, 1, 1, 3, 4, false), block(5, 1, 1, 8, 9, false)}) != api.ErrTwice {
		t.Error("not adjacent")
	}
}

func TestDefinition(t *testing.T) {
	r := rand.New(rand.NewSource(1))
	for range 2000 {
		var o []api.Timed
		at, allocs := 0, 0
		for range r.Intn(15) {
			at += r.Intn(3)
			if r.Intn(3) > 0 {
				o = append(o, alloc(r.Intn(2), at, r.Intn(4), 1+r.Intn(9)))
				allocs++
			} else {
				o = append(o, free(r.Intn(2), at, r.Intn(4)))
			}
		}
		end := r.Intn(40)
		l := Of(o, end)
		if Check(l) != api.OK || len(l) > allocs {
			t.Fatal(o, l)
		}
		peak, most := Peak(l)
		for at := range 50 {
			want := 0
			size := map[int]int{}
			for _, x := range o {
				if x.When.Lo <= at {
					size[x.Event.N] = x.Event.M // 0 for a KFree
				}
			}
			for _, n := range size {
				want += n
			}
			if at >= max(end, lastTime(o)) {
				want = 0
			}
			n := Live(l, at)
			if n != want || n > most || at < peak && n == most {
				t.Fatal(o, l, at, n, want, peak, most)
			}
		}
		if Live(l, peak) != most {
			t.Fatal(l, peak, most)
		}
		checkLonger(t, o, l, max(end, lastTime(o)))
	}
}

func lastTime(o []api.Timed) int {
	if len(o) == 0 {
		return 0
	}
	return o[len(o)-1].When.Lo
}

// checkLonger checks that a greater end changes the ends of live blocks, and adds blocks at the end before.
func checkLonger(t *testing.T, o []api.Timed, l []api.Block, end int) {
	var rest []api.Block
	for _, b := range Of(o, end+7) {
		if b.Live && b.Span.To != end+7 {
			t.Fatal(b)
		}
		if b.Live {
			b.Span.To = end
		}
		if b.Span.From < end {
			rest = append(rest, b)
		}
	}
	if !slices.EqualFunc(rest, l, equal) {
		t.Fatal(rest, l)
	}
}

func TestGreat(t *testing.T) {
	var l []api.Block
	for i := range 1100 {
		l = append(l, block(i, 1, api.MaxTime, i/10, 500, false))
	}
	if at, n := Peak(l); at != 99 || n != api.MaxInt || Live(l, 200) != api.MaxInt {
		t.Error(at, n)
	}
}

// Events of other kinds have no effect, wherever they stand.
func TestOtherKinds(t *testing.T) {
	mark := api.Timed{Event: api.Event{Kind: api.KMark, N: 5}, When: api.Interval{Lo: 3, Hi: 3}}
	l := Of([]api.Timed{mark, alloc(1, 4, 5, 100), mark, free(1, 9, 5)}, 0)
	if !slices.EqualFunc(l, []api.Block{block(5, 1, 100, 4, 9, false)}, equal) {
		t.Error(l)
	}
}
