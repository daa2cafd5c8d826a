package trace

import (
	"cmp"
	"slices"

	"tracebook/api"
	"tracebook/spans"
)

// cutter cuts spans and times to the common part of a trace and a span, and lets times begin with it.
type cutter struct{ common api.Span }

// span returns the part of a span that is left, and whether there is one.
func (c cutter) span(s api.Span) (api.Span, bool) {
	from, to := max(s.From, c.common.From), min(s.To, c.common.To)
	if from >= to {
		return api.Span{}, false
	}
	return api.Span{From: from - c.common.From, To: to - c.common.From}, true
}

// endsLater reports whether the end of a span that is left is cut off.
func (c cutter) endsLater(s api.Span) bool { return s.To > c.common.To }

// time returns a time, and whether it is left.
func (c cutter) time(at int) (int, bool) {
	if at < c.common.From || at >= c.common.To {
		return 0, false
	}
	return at - c.common.From, true
}

// Cut returns what a trace shows within a span.
func Cut(t api.Trace, s api.Span) (api.Trace, api.Errno) {
	if err := Check(t); err != api.OK {
		return api.Trace{}, err
	}
	if !spans.Valid(s) {
		return api.Trace{}, api.ErrArg
	}
	c := cutter{api.Span{From: max(s.From, t.Span.From), To: min(s.To, t.Span.To)}}
	if c.common.From >= c.common.To {
		return api.Trace{Threads: slices.Clone(t.Threads)}, api.OK
	}
	return api.Trace{
		Span:    api.Span{From: 0, To: c.common.To - c.common.From},
		Threads: slices.Clone(t.Threads),
		Slices:  c.slices(t.Slices),
		States:  c.states(t.States),
		Flows:   c.flows(t.Flows),
		Samples: c.samples(t.Samples),
		Steps:   c.steps(t.Steps),
		Blocks:  c.blocks(t.Blocks),
		Lost:    c.losses(t.Lost),
	}, api.OK
}

func (c cutter) slices(l []api.Slice) []api.Slice {
	// The slices that are left, with their indices in l instead of Parent.
	type numbered struct {
		api.Slice
		index int
	}
	var left []numbered
	for i, s := range l {
		span, ok := c.span(s.Span)
		if ok {
			s.Open = s.Open || c.endsLater(s.Span)
			s.Span = span
			left = append(left, numbered{s, i})
		}
	}
	slices.SortStableFunc(left, func(a, b numbered) int {
		return cmp.Or(cmp.Compare(a.Span.From, b.Span.From), cmp.Compare(b.Span.To, a.Span.To), cmp.Compare(a.Thread, b.Thread))
	})
	positions := make(map[int]int, len(left))
	cut := make([]api.Slice, 0, len(left))
	for i, x := range left {
		positions[x.index] = i
		s := x.Slice
		s.Self = s.Span.To - s.Span.From
		// The parent contains the slice, so that it is left, too, and comes first.
		if s.Parent >= 0 {
			s.Parent = positions[s.Parent]
			cut[s.Parent].Self -= s.Self
		}
		cut = append(cut, s)
	}
	return cut
}

func (c cutter) states(l []api.State) []api.State {
	var cut []api.State
	for _, s := range l {
		span, ok := c.span(s.Span)
		if !ok {
			continue
		}
		if c.endsLater(s.Span) {
			s.By = -1
		}
		s.Span = span
		cut = append(cut, s)
	}
	return cut
}

func (c cutter) flows(l []api.Flow) []api.Flow {
	var cut []api.Flow
	for _, f := range l {
		send, ok := c.time(f.Send)
		recv, good := c.time(f.Recv)
		if ok && good {
			f.Send, f.Recv = send, recv
			cut = append(cut, f)
		}
	}
	return cut
}

func (c cutter) samples(l []api.Sample) []api.Sample {
	var cut []api.Sample
	for _, x := range l {
		if at, ok := c.time(x.At); ok {
			x.At = at
			cut = append(cut, x)
		}
	}
	return cut
}

func (c cutter) steps(l []api.Step) []api.Step {
	var cut []api.Step
	for i, s := range l {
		// Of the steps up to the beginning the last one of a counter is left, as a step at the beginning.
		isLast := i+1 == len(l) || l[i+1].Name != s.Name || l[i+1].At > c.common.From
		if s.At <= c.common.From && isLast {
			s.At = 0
			cut = append(cut, s)
		} else if at, ok := c.time(s.At); ok {
			s.At = at
			cut = append(cut, s)
		}
	}
	return cut
}

func (c cutter) blocks(l []api.Block) []api.Block {
	var cut []api.Block
	for _, b := range l {
		if span, ok := c.span(b.Span); ok {
			b.Live = b.Live || c.endsLater(b.Span)
			b.Span = span
			cut = append(cut, b)
		}
	}
	return cut
}

func (c cutter) losses(l []api.Loss) []api.Loss {
	var cut []api.Loss
	for _, x := range l {
		if span, ok := c.span(x.Span); ok {
			x.Span = span
			cut = append(cut, x)
		}
	}
	return cut
}
