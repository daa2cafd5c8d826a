package event

import (
	"math"
	"math/rand"
	"slices"
	"strings"
	"testing"

	"tracebook/api"
)

// valid returns a valid event of each kind, with the ends of the ranges.
func valid() []api.Event {
	long := strings.Repeat("x", api.MaxName)
	return []api.Event{
		{At: 0, Kind: api.KBegin, Name: "a"}, {At: api.MaxTime, Kind: api.KBegin, Name: long},
		{At: 7, Kind: api.KEnd}, {At: 5, Kind: api.KMark, Name: "a.b"},
		{At: 1, Kind: api.KCount, Name: "c", N: -api.MaxInt}, {At: 1, Kind: api.KCount, Name: "c", N: api.MaxInt}, {Kind: api.KCount, Name: "c"},
		{At: 9, Kind: api.KSample, N: 4, Stack: []string{"main", "f"}}, {At: 9, Kind: api.KSample, N: api.MaxTime}, {Kind: api.KSample, N: 1, Stack: slices.Repeat([]string{long}, api.MaxFrames)},
		{At: 1, Kind: api.KSend}, {At: 1, Kind: api.KSend, N: api.MaxInt}, {At: 1, Kind: api.KRecv, N: 3}, {Kind: api.KRecv, N: api.MaxInt},
		{At: 1, Kind: api.KRun}, {At: 1, Kind: api.KRun, N: 63},
		{At: 3, Kind: api.KStop}, {At: 3, Kind: api.KStop, N: 1}, {At: 3, Kind: api.KStop, N: 3}, {At: 3, Kind: api.KStop, N: 2, M: 17}, {At: 3, Kind: api.KStop, N: 2}, {Kind: api.KStop, N: 2, M: api.MaxInt},
		{At: 1, Kind: api.KWake, N: 12}, {Kind: api.KWake, N: api.MaxInt},
		{At: 4, Kind: api.KAlloc, N: 1, M: 64}, {At: 4, Kind: api.KAlloc, N: api.MaxInt, M: api.MaxTime, Stack: []string{"a"}}, {Kind: api.KAlloc, M: 1},
		{At: 4, Kind: api.KFree, N: 1}, {Kind: api.KFree, N: api.MaxInt},
	}
}

func TestCheckErrors(t *testing.T) {
	for _, e := range valid() {
		if err := Check(e); err != api.OK {
			t.Error(e, err)
		}
	}
	for i, c := range []struct {
		e   api.Event
		err api.Errno
	}{
		{api.Event{At: -1, Kind: 99}, api.ErrRange},
		{api.Event{At: api.MaxTime + 1, Kind: api.KEnd}, api.ErrRange},
		{api.Event{Kind: 0}, api.ErrArg}, {api.Event{Kind: 13}, api.ErrArg}, {api.Event{Kind: -1}, api.ErrArg}, {api.Event{Kind: math.MaxInt}, api.ErrArg}, {api.Event{Kind: math.MinInt}, api.ErrArg},
		{api.Event{Kind: api.KBegin, Name: " ", N: 1}, api.ErrArg},
		{api.Event{Kind: api.KBegin}, api.ErrName},
		{api.Event{Kind: api.KCount, Name: "a b", N: api.MaxInt + 1}, api.ErrName},
		{api.Event{Kind: api.KCount, Name: "a", N: api.MaxInt + 1}, api.ErrRange},
		{api.Event{Kind: api.KCount, Name: "a", N: -api.MaxInt - 1}, api.ErrRange},
		{api.Event{Kind: api.KSample, N: 0, Stack: []string{""}}, api.ErrName},
		{api.Event{Kind: api.KSample, N: 0, Stack: slices.Repeat([]string{""}, 33)}, api.ErrLong},
		{api.Event{Kind: api.KSample, N: 0}, api.ErrRange}, {api.Event{Kind: api.KSample, N: api.MaxTime + 1}, api.ErrRange},
		{api.Event{Kind: api.KSend, N: -1}, api.ErrRange}, {api.Event{Kind: api.KRecv, N: api.MaxInt + 1}, api.ErrRange},
		{api.Event{Kind: api.KRun, N: 64}, api.ErrRange}, {api.Event{Kind: api.KRun, N: -1}, api.ErrRange},
		{api.Event{Kind: api.KStop, N: 4, M: 1}, api.ErrRange}, {api.Event{Kind: api.KStop, N: -1}, api.ErrRange},
		{api.Event{Kind: api.KStop, N: 1, M: 1}, api.ErrArg}, {api.Event{Kind: api.KStop, N: 0, M: -1}, api.ErrArg},
		{api.Event{Kind: api.KStop, N: 2, M: -1}, api.ErrRange}, {api.Event{Kind: api.KStop, N: 2, M: api.MaxInt + 1}, api.ErrRange},
		{api.Event{Kind: api.KWake, N: -1}, api.ErrRange}, {api.Event{Kind: api.KFree, N: -1}, api.ErrRange},
		{api.Event{Kind: api.KAlloc, N: -1, M: 0}, api.ErrRange}, {api.Event{Kind: api.KAlloc, M: 0}, api.ErrRange}, {api.Event{Kind: api.KAlloc, M: api.MaxTime + 1}, api.ErrRange},
	} {
		if err := Check(c.e); err != c.err || Text(c.e) != "" {
			t.Error(i, c.e, err)
		}
	}
}

func TestUnusedFields(t *testing.T) {
	uses := map[api.Kind]string{1: "a", 2: "", 3: "a", 4: "an", 5: "ns", 6: "n", 7: "n", 8: "n", 9: "nm", 10: "n", 11: "nms", 12: "n"}
	for _, e := range valid() {
		for field, change := range map[string]func(*api.Event){
			"a": func(e *api.Event) { e.Name = "x" },
			"n": func(e *api.Event) { e.N = 1 },
			"m": func(e *api.Event) { e.M = 1 },
			"s": func(e *api.Event) { e.Stack = []string{"x"} },
		} {
			if strings.Contains(uses[e.Kind], field) {
				continue
			}
			changed := e
			change(&changed)
			if Check(changed) != api.ErrArg {
				t.Error(changed)
			}
		}
	}
}

func TestTexts(t *testing.T) {
	l := valid()
	for i, e := range l {
		s := Text(e)
		got, err := Parse(s)
		if err != api.OK || !Same(got, e) {
			t.Error(s, got, err)
		}
		for j, other := range l {
			if (i == j) != Same(e, other) || (i == j) != (s == Text(other)) {
				t.Error(e, other)
			}
		}
	}
	for s, want := range map[string]api.Event{
		"9 sample 4 main;f": {At: 9, Kind: api.KSample, N: 4, Stack: []string{"main", "f"}},
		"9 sample 4 ;":      {At: 9, Kind: api.KSample, N: 4},
		"3 stop 2 17":       {At: 3, Kind: api.KStop, N: 2, M: 17},
		"3 stop 1":          {At: 3, Kind: api.KStop, N: 1},
		"4 alloc 1 64 ;":    {At: 4, Kind: api.KAlloc, N: 1, M: 64},
		"0 end":             {Kind: api.KEnd},
		"2 count a -7":      {At: 2, Kind: api.KCount, Name: "a", N: -7},
	} {
		if got, err := Parse(s); err != api.OK || !Same(got, want) || Text(want) != s {
			t.Error(s, got, err)
		}
	}
}

func TestParseErrors(t *testing.T) {
	for _, s := range []string{"", " ", "5", "5 ", "5 begin", "5 begin ", "5 begin a ", "5  begin a", " 5 begin a", "5 begin a b", "05 end", "-1 end", "5 end 0", "5 End", "5 stop", "3 stop 1 0", "3 stop 2", "3 stop 4", "5 sample 1", "5 sample 0 ;", "5 sample 1 ;;", "5 sample 1 a;", "5 sample 1 ;a", "5 sample 1 a;;b", "5 sample 1 a b", "5 mark a;b", "1000000000001 end", "5 end\n", "x end", "5 alloc 1 ;", "5 send +1", "5 send 01"} {
		if e, err := Parse(s); err != api.ErrForm || !Same(e, api.Event{}) {
			t.Error(s, e, err)
		}
	}
	long := strings.Repeat("x", api.MaxRecord)
	if _, err := Parse(long); err != api.ErrForm {
		t.Error(err)
	}
	if _, err := Parse(long + "x"); err != api.ErrLong {
		t.Error(err)
	}
}

// Every text that Parse accepts is the text of its result.
func TestMutations(t *testing.T) {
	r := rand.New(rand.NewSource(1))
	l := valid()
	for range 20000 {
		s := []byte(Text(l[r.Intn(len(l))]))
		for range 1 + r.Intn(2) {
			s[r.Intn(len(s))] = "0123459 ;-abest\n"[r.Intn(16)]
		}
		if e, err := Parse(string(s)); err == api.OK && Text(e) != string(s) {
			t.Fatal(string(s), e)
		}
	}
}

func TestSame(t *testing.T) {
	e := api.Event{At: 1, Kind: 2, Name: "a", N: 3, M: 4, Stack: []string{"b", "c"}}
	for _, other := range []api.Event{{At: 0, Kind: 2, Name: "a", N: 3, M: 4, Stack: e.Stack}, {At: 1, Kind: 3, Name: "a", N: 3, M: 4, Stack: e.Stack}, {At: 1, Kind: 2, Name: "", N: 3, M: 4, Stack: e.Stack}, {At: 1, Kind: 2, Name: "a", N: 0, M: 4, Stack: e.Stack}, {At: 1, Kind: 2, Name: "a", N: 3, M: 0, Stack: e.Stack}, {At: 1, Kind: 2, Name: "a", N: 3, M: 4, Stack: []string{"b"}}, {At: 1, Kind: 2, Name: "a", N: 3, M: 4, Stack: []string{"b", "d"}}} {
		if Same(e, other) || Same(other, e) {
			t.Error(other)
		}
	}
	if !Same(api.Event{}, api.Event{Stack: []string{}}) {
		t.Error("no frames are equal to no frames")
	}
}

func TestCheckAll(t *testing.T) {
	end := func(at int) api.Event { return api.Event{At: at, Kind: api.KEnd} }
	for i, c := range []struct {
		l   []api.Event
		err api.Errno
	}{
		{nil, api.OK}, {[]api.Event{end(1), end(1), end(5)}, api.OK},
		{[]api.Event{end(1), end(0), {}}, api.ErrOrder},
		{[]api.Event{end(1), {}, end(0)}, api.ErrArg},
		{[]api.Event{end(5), {At: 1, Kind: 99}}, api.ErrArg},
	} {
		if err := CheckAll(c.l); err != c.err {
			t.Error(i, err)
		}
	}
	l := []api.Event{end(0), end(3), end(3), end(8)}
	for i := range l {
		for j := i; j <= len(l); j++ {
			if CheckAll(l[i:j]) != api.OK {
				t.Error(i, j)
			}
		}
	}
}
