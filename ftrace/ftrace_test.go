package ftrace

import (
	"fmt"
	"math/rand"
	"slices"
	"strings"
	"testing"

	"tracebook/api"
	"tracebook/event"
	"tracebook/log"
)

func TestLine(t *testing.T) {
	for _, c := range []struct {
		s       string
		at, cpu int
		word    string
		numbers []int
	}{
		{"5 0 wake 7 8", 5, 0, "wake", []int{7, 8}},
		{"0 63 wake 0 0", 0, 63, "wake", []int{0, 0}},
		{"1000000000000 1 switch 1000000000000000 3 0", api.MaxTime, 1, "switch", []int{api.MaxInt, 3, 0}},
		{"1 0 switch 7 0 8", 1, 0, "switch", []int{7, 0, 8}}, {"1 0 switch 7 1 7", 1, 0, "switch", []int{7, 1, 7}},
		{"1 2 block 7 9 8", 1, 2, "block", []int{7, 9, 8}},
	} {
		at, cpu, word, numbers, err := Line(c.s)
		if at != c.at || cpu != c.cpu || word != c.word || !slices.Equal(numbers, c.numbers) || err != api.OK {
			t.Error(c.s, at, cpu, word, numbers, err)
		}
	}
	for _, s := range []string{"", " ", "1", "1 0", "1 0 ", "1 0 switch 7 2 8", "01 0 wake 7 8", "1  0 wake 7 8", "1 64 wake 7 8", "1 0 wake 7", "1 0 wake 7 8 9", "1 0 wake 7 8 ", " 1 0 wake 7 8", "1 0 Wake 7 8", "1 0 switch 7 4 8", "1 0 switch 7 1", "1 0 block 7 1", "-1 0 wake 7 8", "+1 0 wake 7 8", "1 -0 wake 7 8", "1 0 wake -7 8", "1 0 wake 7 1000000000000001", "1000000000001 0 wake 7 8", "1 0 wake 7 8\n", "1 0 wake 7\t8", "1 0  7 8", "99999999999999999999 0 wake 7 8"} {
		if at, cpu, word, numbers, err := Line(s); at != 0 || cpu != 0 || word != "" || len(numbers) != 0 || err != api.ErrForm {
			t.Error(s, err)
		}
	}
}

func TestImportExamples(t *testing.T) {
	l, n, err := Import("5 0 switch 0 0 7")
	want, _ := log.Of(api.Head{Threads: []api.Thread{{Id: 7, Name: "t7"}}, Domains: []api.Domain{{}}}, []api.Packet{{Thread: 7, Events: []api.Event{{At: 5, Kind: api.KRun}}}})
	if !log.Same(l, want) || n != 0 || err != api.OK {
		t.Error(l, n, err)
	}
	l, _, err = Import("1 2 block 7 9 8\n\n2 0 wake 0 7\n3 1 wake 8 7\n4 1 switch 8 3 0\n")
	if err != api.OK || len(l.Head.Threads) != 2 || len(l.Parts) != 2 {
		t.Fatal(l, err)
	}
	if e := l.Parts[0].Events; len(e) != 1 || !event.Same(e[0], api.Event{At: 1, Kind: api.KStop, N: 2, M: 9}) {
		t.Error(e)
	}
	if e := l.Parts[1].Events; len(e) != 3 || !event.Same(e[0], api.Event{At: 1, Kind: api.KRun, N: 2}) || !event.Same(e[1], api.Event{At: 3, Kind: api.KWake, N: 7}) || !event.Same(e[2], api.Event{At: 4, Kind: api.KStop, N: 3}) {
		t.Error(e)
	}
	if l, _, err := Import("1 0 switch 7 0 7"); err != api.OK || len(l.Parts[0].Events) != 2 || l.Parts[0].Events[0].Kind != api.KStop {
		t.Error(l, err)
	}
}

func TestImportErrors(t *testing.T) {
	var many []string
	for i := range 65 {
		many = append(many, fmt.Sprintf("1 0 wake %d 1", i+1))
	}
	long := strings.Repeat("\n", api.MaxText+1)
	for i, c := range []struct {
		s   string
		n   int
		err api.Errno
	}{
		{"", 0, api.ErrShort}, {"\n\n", 0, api.ErrShort}, {"1 0 switch 0 1 0", 0, api.ErrShort},
		{"1 0 wake 7 8\n\nx", 3, api.ErrForm}, {"x\ny\n", 1, api.ErrForm}, {"1 0 wake 7 8\r\n", 1, api.ErrForm},
		{"2 0 wake 7 8\n1 0 wake 7 8", 0, api.ErrOrder}, {"2 0 wake 7 8\n1 0 wake 8 8", 0, api.OK}, {"2 0 wake 7 8\n1 0 wake 7 8\nx", 3, api.ErrForm},
		{strings.Join(many, "\n"), 0, api.ErrLong}, {strings.Join(many[:64], "\n"), 0, api.OK},
		{long, 0, api.ErrLong}, {long[1:], 0, api.ErrShort},
	} {
		l, n, err := Import(c.s)
		if n != c.n || err != c.err || err != api.OK && !log.Same(l, api.Log{}) {
			t.Error(i, n, err)
		}
	}
	l, _, err := Import(strings.Repeat("1 0 wake 7 8\n", 2500))
	if err != api.OK || len(l.Parts) != 3 || len(l.Parts[2].Events) != 500 {
		t.Error(err)
	}
}

func TestCounts(t *testing.T) {
	r := rand.New(rand.NewSource(1))
	for range 300 {
		var lines []string
		events := map[int]int{}
		for i := range 1 + r.Intn(20) {
			a, b := r.Intn(4), r.Intn(4)
			events[a]++
			switch r.Intn(3) {
			case 0:
				lines = append(lines, fmt.Sprintf("%d 1 switch %d 1 %d", i, a, b))
				events[b]++
			case 1:
				lines = append(lines, fmt.Sprintf("%d 1 block %d 5 %d", i, a, b))
				events[b]++
			case 2:
				lines = append(lines, fmt.Sprintf("%d 1 wake %d %d", i, a, b))
			}
		}
		delete(events, 0)
		l, n, err := Import(strings.Join(lines, "\n"))
		spaced, _, _ := Import("\n" + strings.Join(lines, "\n\n\n") + "\n\n")
		if !log.Same(l, spaced) || len(log.Gaps(l)) != 0 || n != 0 {
			t.Fatal(lines)
		}
		if len(events) == 0 && err == api.ErrShort {
			continue
		}
		for _, p := range l.Parts {
			events[p.Thread] -= len(p.Events)
		}
		for id, rest := range events {
			if rest != 0 || err != api.OK {
				t.Fatal(lines, id, err)
			}
		}
	}
}
