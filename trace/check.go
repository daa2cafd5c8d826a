package trace

import (
	"tracebook/api"
	"tracebook/counter"
	"tracebook/flow"
	"tracebook/memory"
	"tracebook/producer"
	"tracebook/sample"
	"tracebook/slice"
	"tracebook/spans"
	"tracebook/state"
)

// Check checks a trace.
func Check(t api.Trace) api.Errno {
	ids, err := checkThreads(t.Threads)
	if err != api.OK {
		return err
	}
	if err := checkTables(t, ids); err != api.OK {
		return err
	}
	for _, x := range t.Lost {
		if !ids[x.Thread] {
			return api.ErrNone
		}
		if !spans.Valid(x.Span) || x.Count < 1 || x.Count > api.MaxInt {
			return api.ErrRange
		}
	}
	if t.Span.From < 0 || t.Span.From > t.Span.To || t.Span.To > api.MaxTime {
		return api.ErrRange
	}
	if !liesWithin(t) {
		return api.ErrForm
	}
	return api.OK
}

// checkThreads returns the Ids of threads, or the first error.
func checkThreads(l []api.Thread) (map[int]bool, api.Errno) {
	if len(l) > api.MaxThreads {
		return nil, api.ErrLong
	}
	ids := map[int]bool{}
	for _, t := range l {
		if err := producer.Thread(t); err != api.OK {
			return nil, err
		}
		if ids[t.Id] {
			return nil, api.ErrTwice
		}
		ids[t.Id] = true
	}
	return ids, api.OK
}

// known returns an error, or otherwise ErrNone if the thread of an element is none of ids.
func known[T any](err api.Errno, l []T, ids map[int]bool, thread func(T) int) api.Errno {
	if err != api.OK {
		return err
	}
	for _, x := range l {
		if !ids[thread(x)] {
			return api.ErrNone
		}
	}
	return api.OK
}

// checkTables checks the tables one after the other.
func checkTables(t api.Trace, ids map[int]bool) api.Errno {
	if err := known(slice.Check(t.Slices), t.Slices, ids, func(x api.Slice) int { return x.Thread }); err != api.OK {
		return err
	}
	if err := state.Check(t.Threads, t.States); err != api.OK {
		return err
	}
	if err := known(flow.Check(t.Flows), t.Flows, ids, func(x api.Flow) int { return x.From.Thread }); err != api.OK {
		return err
	}
	if err := known(api.OK, t.Flows, ids, func(x api.Flow) int { return x.To.Thread }); err != api.OK {
		return err
	}
	if err := known(sample.Check(t.Samples), t.Samples, ids, func(x api.Sample) int { return x.Thread }); err != api.OK {
		return err
	}
	if err := counter.Check(t.Steps); err != api.OK {
		return err
	}
	return known(memory.Check(t.Blocks), t.Blocks, ids, func(x api.Block) int { return x.Thread })
}

// liesWithin reports whether everything but the losses lies within the span of a trace.
func liesWithin(t api.Trace) bool {
	span := func(s api.Span) bool { return t.Span.From <= s.From && s.To <= t.Span.To }
	time := func(at int) bool { return t.Span.From <= at && at < t.Span.To }
	for _, x := range t.Slices {
		if !span(x.Span) {
			return false
		}
	}
	for _, x := range t.States {
		if !span(x.Span) {
			return false
		}
	}
	for _, x := range t.Blocks {
		if !span(x.Span) {
			return false
		}
	}
	for _, x := range t.Flows {
		if !time(x.Send) || !time(x.Recv) {
			return false
		}
	}
	for _, x := range t.Samples {
		if !time(x.At) {
			return false
		}
	}
	for _, x := range t.Steps {
		if !time(x.At) {
			return false
		}
	}
	return true
}
