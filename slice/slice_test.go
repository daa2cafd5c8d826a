package slice

import (
	"math"
	"math/rand"
	"slices"
	"testing"

	"tracebook/api"
	"tracebook/spans"
)

func begin(thread, serial, at int, name string) api.Timed {
	return api.Timed{Id: api.Id{Thread: thread, Serial: serial}, Event: api.Event{At: max(at, 0), Kind: api.KBegin, Name: name}, When: api.Interval{Lo: at, Hi: at}}
}

func other(thread, serial, at int, k api.Kind) api.Timed {
	return api.Timed{Id: api.Id{Thread: thread, Serial: serial}, Event: api.Event{At: max(at, 0), Kind: k}, When: api.Interval{Lo: at, Hi: at}}
}

func end(thread, serial, at int) api.Timed { return other(thread, serial, at, api.KEnd) }

func of(thread, parent, depth int, name string, from, to, self int, open bool) api.Slice {
	return api.Slice{Thread: thread, Parent: parent, Depth: depth, Name: name, Span: api.Span{From: from, To: to}, Self: self, Open: open}
}

func TestExamples(t *testing.T) {
	for i, c := range []struct {
		o    []api.Timed
		end  int
		want []api.Slice
	}{
		{nil, 10, nil},
		{[]api.Timed{begin(1, 0, 0, "a"), begin(1, 1, 2, "b"), end(1, 2, 5), end(1, 3, 10)}, 0, []api.Slice{of(1, -1, 0, "a", 0, 10, 7, false), of(1, 0, 1, "b", 2, 5, 3, false)}},
		{[]api.Timed{begin(1, 0, 0, "a"), other(1, 2, 9, api.KMark)}, 0, nil},
		{[]api.Timed{begin(1, 0, 0, "a"), other(1, 1, 4, api.KMark), other(1, 3, 9, api.KMark)}, 0, []api.Slice{of(1, -1, 0, "a", 0, 4, 4, true)}},
		{[]api.Timed{begin(1, 0, 3, "a")}, 8, []api.Slice{of(1, -1, 0, "a", 3, 8, 5, true)}},
		{[]api.Timed{begin(1, 0, 3, "a"), other(2, 0, 6, api.KMark)}, 2, []api.Slice{of(1, -1, 0, "a", 3, 6, 3, true)}},
		{[]api.Timed{begin(1, 0, 3, "a")}, math.MaxInt, []api.Slice{of(1, -1, 0, "a", 3, api.MaxTime, api.MaxTime-3, true)}},
		{[]api.Timed{begin(1, 0, 3, "a")}, math.MinInt, nil},
		{[]api.Timed{end(1, 0, 1), begin(1, 1, 2, "a"), end(1, 2, 3), end(1, 3, 4)}, 0, []api.Slice{of(1, -1, 0, "a", 2, 3, 1, false)}},
		{[]api.Timed{begin(1, 5, 2, "a"), end(1, 6, 3)}, 0, []api.Slice{of(1, -1, 0, "a", 2, 3, 1, false)}},
		{[]api.Timed{begin(1, 0, -5, "a"), end(1, 1, 3)}, 0, []api.Slice{of(1, -1, 0, "a", 0, 3, 3, false)}},
		{[]api.Timed{begin(1, 0, 5, "a"), end(1, 1, api.MaxInt)}, 0, []api.Slice{of(1, -1, 0, "a", 5, api.MaxTime, api.MaxTime-5, false)}},
		// The begin after a loss is considered after the open slices ended.
		{[]api.Timed{begin(1, 0, 0, "a"), other(1, 1, 2, api.KMark), begin(1, 3, 4, "b"), end(1, 4, 6)}, 0, []api.Slice{of(1, -1, 0, "a", 0, 2, 2, true), of(1, -1, 0, "b", 4, 6, 2, false)}},
		// Equal spans: the one that was opened first is the parent; other threads come after by their number.
		{[]api.Timed{begin(2, 0, 1, "x"), begin(1, 0, 1, "y"), begin(2, 1, 1, "z"), end(2, 2, 4), end(2, 3, 4), end(1, 1, 4)}, 0, []api.Slice{of(1, -1, 0, "y", 1, 4, 3, false), of(2, -1, 0, "x", 1, 4, 0, false), of(2, 1, 1, "z", 1, 4, 3, false)}},
	} {
		got := Of(c.o, c.end)
		if !slices.Equal(got, c.want) || Check(got) != api.OK {
			t.Error(i, got)
		}
	}
}

func randomEvents(r *rand.Rand) []api.Timed {
	var o []api.Timed
	serials := []int{r.Intn(2), 0, 0}
	at := -2
	for range r.Intn(25) {
		at += r.Intn(3)
		thread := r.Intn(3)
		if r.Intn(12) == 0 {
			serials[thread] += 2
		}
		switch r.Intn(5) {
		case 0, 1:
			o = append(o, begin(thread, serials[thread], at, string(rune('a'+r.Intn(3)))))
		case 2, 3:
			o = append(o, end(thread, serials[thread], at))
		default:
			o = append(o, other(thread, serials[thread], at, api.KRun))
		}
		serials[thread]++
	}
	return o
}

// depthAt computes by the definition how many slices of a thread are open at a time, with their names from the outermost on.
func namesAt(o []api.Timed, thread, t int) []string {
	var open []string
	next, last := 0, 0
	var atLast []string // what is open after the last event with a time of at most t
	for _, x := range o {
		if x.Id.Thread != thread {
			continue
		}
		at := min(max(x.When.Lo, 0), api.MaxTime)
		if x.Id.Serial != next {
			open = nil
			if last <= t {
				atLast = nil
			}
		}
		switch x.Event.Kind {
		case api.KBegin:
			open = append(slices.Clip(open), x.Event.Name)
		case api.KEnd:
			open = open[:max(len(open)-1, 0)]
		}
		next, last = x.Id.Serial+1, at
		if at <= t {
			atLast = open
		}
	}
	return atLast
}

func TestDefinition(t *testing.T) {
	r := rand.New(rand.NewSource(1))
	for range 3000 {
		o := randomEvents(r)
		l := Of(o, 60)
		if Check(l) != api.OK {
			t.Fatal(o, l, Check(l))
		}
		for thread := range 3 {
			own := 0
			for _, s := range l {
				if s.Thread == thread {
					own += s.Self
				}
			}
			busy := Busy(l, thread)
			if own != spans.Length(busy) || !spans.IsNormal(busy) {
				t.Fatal("own times", l)
			}
			for at := range 60 {
				want := namesAt(o, thread, at)
				i := At(l, thread, at)
				if !slices.Equal(Path(l, i), want) || spans.Covers(busy, at) != (len(want) > 0) {
					t.Fatal(o, l, thread, at, Path(l, i), want)
				}
			}
		}
		for i := -1; i <= len(l); i++ {
			var children []int
			for j, s := range l {
				if s.Parent == i && i >= 0 {
					children = append(children, j)
				}
			}
			if !slices.Equal(Children(l, i), children) {
				t.Fatal("children", l, i)
			}
		}
	}
}

// isForm checks the second part of Check by its definition.
func isForm(l []api.Slice) bool {
	ancestor := func(i, j int) bool {
		for j = l[j].Parent; j >= 0; j = l[j].Parent {
			if i == j {
				return true
			}
		}
		return false
	}
	for i, s := range l {
		if s.Parent < -1 || s.Parent >= i {
			return false
		}
		self := s.Span.To - s.Span.From
		for _, c := range l {
			if c.Parent == i {
				self -= c.Span.To - c.Span.From
			}
		}
		depth := 0
		if s.Parent >= 0 {
			p := l[s.Parent]
			depth = p.Depth + 1
			if p.Thread != s.Thread || p.Span.From > s.Span.From || p.Span.To < s.Span.To {
				return false
			}
		}
		if s.Depth != depth || s.Self != self {
			return false
		}
	}
	for i, s := range l {
		for j, u := range l {
			if i != j && s.Thread == u.Thread && s.Span.From < u.Span.To && u.Span.From < s.Span.To && !ancestor(i, j) && !ancestor(j, i) {
				return false
			}
		}
	}
	return true
}

func TestCheckDefinition(t *testing.T) {
	r := rand.New(rand.NewSource(2))
	bad := 0
	for range 20000 {
		l := slices.Clone(Of(randomEvents(r), 60))
		if len(l) == 0 {
			continue
		}
		s := &l[r.Intn(len(l))]
		switch r.Intn(6) {
		case 0:
			s.Parent += r.Intn(3) - 1
		case 1:
			s.Depth += r.Intn(3) - 1
		case 2:
			s.Self += r.Intn(3) - 1
		case 3:
			s.Thread = r.Intn(3)
		case 4:
			s.Span.To += r.Intn(3) - 1
		case 5:
			s.Span.From += r.Intn(3) - 1
		}
		err := Check(l)
		if err == api.ErrRange || err == api.ErrOrder {
			continue
		}
		if isForm(l) != (err == api.OK) || err != api.OK && err != api.ErrForm {
			t.Fatal(l, err)
		}
		if err != api.OK {
			bad++
		}
	}
	if bad < 1000 {
		t.Error("few lists", bad)
	}
}

func TestCheckErrors(t *testing.T) {
	a := of(1, -1, 0, "a", 0, 10, 10, false)
	for i, c := range []struct {
		l   []api.Slice
		err api.Errno
	}{
		{nil, api.OK}, {[]api.Slice{a}, api.OK}, {[]api.Slice{of(api.MaxInt, -1, 0, "a", 0, 10, 10, false)}, api.OK}, {[]api.Slice{of(0, -1, 0, "a", 0, 10, 10, false)}, api.OK},
		{[]api.Slice{of(-1, -1, 0, "", 0, 10, 10, false)}, api.ErrRange}, {[]api.Slice{of(api.MaxInt+1, -1, 0, "a", 0, 10, 10, false)}, api.ErrRange},
		{[]api.Slice{of(1, -1, 0, "", 5, 5, 0, false)}, api.ErrRange}, {[]api.Slice{of(1, -1, 0, "a", math.MinInt, math.MaxInt, 0, false)}, api.ErrRange},
		{[]api.Slice{of(1, 5, 0, "", 0, 10, 10, false)}, api.ErrName}, {[]api.Slice{a, of(1, -1, 0, "", 0, 10, 10, false), of(-1, -1, 0, "a", 0, 10, 10, false)}, api.ErrName},
		{[]api.Slice{of(1, -1, 0, "a", 3, 10, 7, false), of(2, -1, 0, "a", 2, 10, 8, false)}, api.ErrOrder},
		{[]api.Slice{of(1, -1, 0, "a", 3, 10, 7, false), of(2, -1, 0, "a", 3, 11, 8, false)}, api.ErrOrder},
		{[]api.Slice{of(2, -1, 0, "a", 3, 10, 7, false), of(1, -1, 0, "a", 3, 10, 7, false)}, api.ErrOrder},
		{[]api.Slice{a, a}, api.ErrForm}, {[]api.Slice{of(1, -1, 0, "a", 0, 10, 0, false), of(1, 0, 1, "a", 0, 10, 10, true)}, api.OK},
		{[]api.Slice{of(1, 0, 0, "a", 0, 10, 10, false)}, api.ErrForm}, {[]api.Slice{of(1, math.MinInt, 0, "a", 0, 10, 10, false)}, api.ErrForm}, {[]api.Slice{of(1, math.MaxInt, 0, "a", 0, 10, 10, false)}, api.ErrForm},
	} {
		if err := Check(c.l); err != c.err {
			t.Error(i, err)
		}
	}
}

// Lists that are not valid must not lead to a panic or a circle.
func TestInvalid(t *testing.T) {
	l := []api.Slice{of(1, 1, 5, "a", 9, 3, 0, false), of(1, 0, 2, "b", -5, 5, 0, false), of(1, 99, 2, "c", 0, 5, 0, false)}
	for i := -2; i < 5; i++ {
		Path(l, i)
		Children(l, i)
		At(l, 1, i)
	}
	Busy(l, 1)
	Of([]api.Timed{begin(1, 0, 9, "a"), end(1, 1, 3), begin(1, -7, 2, ""), {}}, 4)
	if Path(l, -1) != nil || Path(l, 3) != nil || Children(nil, -1) != nil || At(nil, 0, 0) != -1 {
		t.Error("no slice")
	}
}
