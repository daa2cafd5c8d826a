// Package history arranges the events of a log for the layers that follow causality (18 to 20).
package history

import (
	"slices"
	"sort"

	"tracebook/api"
)

// History has the events of a valid log in its order, thread by thread; events are named by their indices.
type History struct {
	Ids      []api.Id
	Events   []api.Event
	threads  []int         // the thread of each event, as an index of the head
	first    []int         // the first event of each thread, and behind them the number of all events
	domains  []int         // the domain of each thread
	sends    map[int]int   // the KSend with a number
	receipts map[int][]int // the KRecvs with a number
}

// Of returns the history of a valid log; false if two events are KSend with the same number.
func Of(l api.Log) (*History, bool) {
	h := &History{sends: map[int]int{}, receipts: map[int][]int{}}
	rest := l.Parts
	for t, thread := range l.Head.Threads {
		h.first = append(h.first, len(h.Events))
		h.domains = append(h.domains, thread.Domain)
		for len(rest) > 0 && rest[0].Thread == thread.Id {
			for i, e := range rest[0].Events {
				if !h.add(t, api.Id{Thread: thread.Id, Serial: rest[0].Serial + i}, e) {
					return nil, false
				}
			}
			rest = rest[1:]
		}
	}
	h.first = append(h.first, len(h.Events))
	return h, true
}

// add adds an event, unless it is a KSend with a number that was sent before.
func (h *History) add(thread int, id api.Id, e api.Event) bool {
	index := len(h.Events)
	switch e.Kind {
	case api.KSend:
		if _, ok := h.sends[e.N]; ok {
			return false
		}
		h.sends[e.N] = index
	case api.KRecv:
		h.receipts[e.N] = append(h.receipts[e.N], index)
	}
	h.Ids = append(h.Ids, id)
	h.Events = append(h.Events, e)
	h.threads = append(h.threads, thread)
	return true
}

// Find returns the index of an event.
func (h *History) Find(id api.Id) (int, bool) {
	i := slices.Index(h.Ids, id)
	return max(i, 0), i >= 0
}

// Flows returns the events that follow an event directly in its thread or by a flow, in increasing order.
func (h *History) Flows(i int) []int {
	var l []int
	if i+1 < h.first[h.threads[i]+1] {
		l = append(l, i+1)
	}
	if h.Events[i].Kind == api.KSend {
		l = append(l, h.receipts[h.Events[i].N]...)
	}
	slices.Sort(l)
	return slices.Compact(l)
}

// Effects returns events after an event, such that all events after it are these and those after them.
func (h *History) Effects(i int) []int {
	l := h.Flows(i)
	for t := range h.domains {
		if h.isNeighbour(i, t) {
			if j := h.after(t, h.Events[i].At+1); j < h.first[t+1] {
				l = append(l, j)
			}
		}
	}
	return l
}

// Causes returns events before an event, such that all events before it are these and those before them.
func (h *History) Causes(i int) []int {
	var l []int
	if i > h.first[h.threads[i]] {
		l = append(l, i-1)
	}
	if sent, ok := h.sends[h.Events[i].N]; ok && h.Events[i].Kind == api.KRecv {
		l = append(l, sent)
	}
	for t := range h.domains {
		if h.isNeighbour(i, t) {
			if j := h.after(t, h.Events[i].At); j > h.first[t] {
				l = append(l, j-1)
			}
		}
	}
	return l
}

// isNeighbour reports whether a thread is another one than that of an event, with the same domain.
func (h *History) isNeighbour(i, thread int) bool {
	own := h.threads[i]
	return thread != own && h.domains[thread] == h.domains[own]
}

// after returns the first event of a thread with at least a reading, or the end of the thread.
func (h *History) after(thread, at int) int {
	first, end := h.first[thread], h.first[thread+1]
	return first + sort.Search(end-first, func(i int) bool { return h.Events[first+i].At >= at })
}

// Order returns all events, causes first. Of the events that can be next, the one with the least key is;
// of several of them the one of the first thread. It returns false if an event is among its own causes.
func (h *History) Order(key func(int) int) ([]int, bool) {
	heads := slices.Clone(h.first[:len(h.domains)])
	taken := make([]bool, len(h.Events))
	order := make([]int, 0, len(h.Events))
	for range h.Events {
		next, ok := h.next(heads, taken, key)
		if !ok {
			return nil, false
		}
		order = append(order, next)
		taken[next] = true
		heads[h.threads[next]]++
	}
	return order, true
}

// next returns the next event, which is one of the heads: the first events of the threads that are not taken.
func (h *History) next(heads []int, taken []bool, key func(int) int) (int, bool) {
	least := map[int]int{} // of each domain, the least reading that is not taken
	for t, i := range heads {
		if i == h.first[t+1] {
			continue
		}
		if at, ok := least[h.domains[t]]; !ok || h.Events[i].At < at {
			least[h.domains[t]] = h.Events[i].At
		}
	}
	best, found := 0, false
	for t, i := range heads {
		if i == h.first[t+1] || h.Events[i].At > least[h.domains[t]] {
			continue
		}
		if sent, ok := h.sends[h.Events[i].N]; ok && h.Events[i].Kind == api.KRecv && !taken[sent] {
			continue
		}
		if !found || key(i) < key(best) {
			best, found = i, true
		}
	}
	return best, found
}
