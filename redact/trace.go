package redact

import (
	"cmp"
	"slices"
	"strings"

	"tracebook/api"
	"tracebook/trace"
)

// none stands for no thread, no parent and no processor.
const none = -1

// Trace returns a trace after the policy.
func Trace(l []api.Rule, t api.Trace) (api.Trace, api.Errno) {
	if err := Check(l); err != api.OK {
		return api.Trace{}, err
	}
	if err := trace.Check(t); err != api.OK {
		return api.Trace{}, err
	}
	p := policy{l}
	t = p.dropThreads(t)
	t.Slices = p.dropSlices(t.Slices)
	t.Samples, t.Blocks = p.dropFrames(t.Samples, t.Blocks)
	t.Steps = filter(t.Steps, func(x api.Step) bool { return !p.drops(kindCounter, x.Name) })
	t, err := p.replaceNames(t)
	if err != api.OK {
		return api.Trace{}, err
	}
	if len(t.Slices)+len(t.States)+len(t.Flows)+len(t.Samples)+len(t.Steps)+len(t.Blocks)+len(t.Lost) == 0 {
		t.Span = api.Span{}
	}
	return t, api.OK
}

// policy is a list of rules that was checked.
type policy struct{ rules []api.Rule }

func (p policy) drops(what, name string) bool { return Action(p.rules, what, name) == drop }

// filter returns the elements that are wanted, as new memory.
func filter[T any](l []T, wanted func(T) bool) []T {
	var some []T
	for _, x := range l {
		if wanted(x) {
			some = append(some, x)
		}
	}
	return some
}

// dropThreads takes out the threads whose names are dropped, and what belongs to them.
func (p policy) dropThreads(t api.Trace) api.Trace {
	gone := map[int]bool{}
	for _, x := range t.Threads {
		if p.drops(kindThread, x.Name) {
			gone[x.Id] = true
		}
	}
	return api.Trace{
		Span:    t.Span,
		Threads: filter(t.Threads, func(x api.Thread) bool { return !gone[x.Id] }),
		// Only whole threads are taken out, but the indices of parents change.
		Slices:  withoutSlices(t.Slices, func(x api.Slice) bool { return gone[x.Thread] }),
		States:  withoutStates(t.States, gone),
		Flows:   filter(t.Flows, func(x api.Flow) bool { return !gone[x.From.Thread] && !gone[x.To.Thread] }),
		Samples: filter(t.Samples, func(x api.Sample) bool { return !gone[x.Thread] }),
		Steps:   t.Steps,
		Blocks:  filter(t.Blocks, func(x api.Block) bool { return !gone[x.Thread] }),
		Lost:    filter(t.Lost, func(x api.Loss) bool { return !gone[x.Thread] }),
	}
}

// withoutStates takes out the states of threads, and what other states say about these threads.
func withoutStates(l []api.State, gone map[int]bool) []api.State {
	var rest []api.State
	for _, s := range l {
		if gone[s.Thread] {
			continue
		}
		if gone[s.By] {
			s.By = none
		}
		if s.State == api.Blocked && gone[s.On] {
			s.State, s.On = api.Asleep, none
		}
		if n := len(rest); n > 0 && isOne(rest[n-1], s) {
			s.Span.From = rest[n-1].Span.From
			rest = rest[:n-1]
		}
		rest = append(rest, s)
	}
	return rest
}

// isOne reports whether adjacent states of a thread have become equal.
func isOne(a, b api.State) bool {
	return a.Thread == b.Thread && a.State == b.State && a.Cpu == b.Cpu && a.On == b.On
}

// withoutSlices takes out slices; the others get their innermost remaining ancestors as parents.
func withoutSlices(l []api.Slice, out func(api.Slice) bool) []api.Slice {
	var rest []api.Slice
	places := make([]int, len(l)) // where each slice is now, or the slice around it, or none
	for i, s := range l {
		around := none
		if s.Parent >= 0 {
			around = places[s.Parent]
		}
		places[i] = around
		if out(s) {
			continue
		}
		s.Parent, s.Depth, s.Self = around, 0, s.Span.To-s.Span.From
		if around >= 0 {
			s.Depth = rest[around].Depth + 1
			rest[around].Self -= s.Self
		}
		places[i] = len(rest)
		rest = append(rest, s)
	}
	return rest
}

func (p policy) dropSlices(l []api.Slice) []api.Slice {
	return withoutSlices(l, func(s api.Slice) bool { return p.drops(kindSlice, s.Name) })
}

// dropFrames takes frames out of the stacks of samples and blocks.
func (p policy) dropFrames(samples []api.Sample, blocks []api.Block) ([]api.Sample, []api.Block) {
	kept := func(frame string) bool { return !p.drops(kindFrame, frame) }
	samples, blocks = slices.Clone(samples), slices.Clone(blocks)
	for i := range samples {
		samples[i].Stack = filter(samples[i].Stack, kept)
	}
	for i := range blocks {
		blocks[i].Stack = filter(blocks[i].Stack, kept)
	}
	return samples, blocks
}

// replaceNames replaces the names that remain, in place, and sorts the steps again.
func (p policy) replaceNames(t api.Trace) (api.Trace, api.Errno) {
	replaced := map[string][]string{}
	for _, what := range []string{kindThread, kindSlice, kindFrame, kindCounter} {
		l, err := Names(p.rules, what, namesOf(t, what))
		if err != api.OK {
			return api.Trace{}, err
		}
		replaced[what] = l
	}
	for i := range t.Threads {
		t.Threads[i].Name = replaced[kindThread][i]
	}
	for i := range t.Slices {
		t.Slices[i].Name = replaced[kindSlice][i]
	}
	rest := replaced[kindFrame]
	for i := range t.Samples {
		rest = rest[copy(t.Samples[i].Stack, rest):]
	}
	for i := range t.Blocks {
		rest = rest[copy(t.Blocks[i].Stack, rest):]
	}
	for i := range t.Steps {
		t.Steps[i].Name = replaced[kindCounter][i]
	}
	slices.SortStableFunc(t.Steps, func(a, b api.Step) int {
		return cmp.Or(strings.Compare(a.Name, b.Name), cmp.Compare(a.At, b.At))
	})
	return t, api.OK
}
