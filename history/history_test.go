package history

import (
	"slices"
	"testing"

	"tracebook/api"
)

// example has two threads of the domain 0 and one of the domain 1.
func example() api.Log {
	return api.Log{
		Head: api.Head{Threads: []api.Thread{{Id: 5}, {Id: 2}, {Id: 7, Domain: 1}}},
		Parts: []api.Packet{
			{Thread: 5, Serial: 3, Lost: 3, Events: []api.Event{{At: 1, Kind: api.KSend, N: 9}, {At: 4, Kind: api.KRecv, N: 9}}},
			{Thread: 2, Events: []api.Event{{At: 1, Kind: api.KEnd}, {At: 2, Kind: api.KRecv, N: 9}}},
			{Thread: 7, Events: []api.Event{{At: 0, Kind: api.KRecv, N: 9}}},
		},
	}
}

func TestHistory(t *testing.T) {
	h, ok := Of(example())
	if !ok || len(h.Events) != 5 || h.Ids[1] != (api.Id{Thread: 5, Serial: 4}) {
		t.Fatal(h, ok)
	}
	if i, ok := h.Find(api.Id{Thread: 7}); i != 4 || !ok {
		t.Error(i, ok)
	}
	if i, ok := h.Find(api.Id{Thread: 5}); i != 0 || ok {
		t.Error(i, ok)
	}
	if l := h.Flows(0); !slices.Equal(l, []int{1, 3, 4}) {
		t.Error(l)
	}
	if l := h.Effects(2); !slices.Equal(l, []int{3, 1}) {
		t.Error(l)
	}
	if l := h.Causes(1); !slices.Equal(l, []int{0, 0, 3}) {
		t.Error(l)
	}
	if order, ok := h.Order(func(i int) int { return -i }); !ok || !slices.Equal(order, []int{2, 0, 4, 3, 1}) {
		t.Error(order, ok)
	}
}

func TestFaults(t *testing.T) {
	l := example()
	l.Parts[1].Events[0] = api.Event{At: 1, Kind: api.KSend, N: 9}
	if _, ok := Of(l); ok {
		t.Error("a number was sent twice")
	}
	l = example()
	l.Parts[0].Events[0].At = 3
	h, _ := Of(l)
	if _, ok := h.Order(func(int) int { return 0 }); ok {
		t.Error("an event is among its own causes")
	}
}
