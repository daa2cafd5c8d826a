package script

import (
	"math/rand"
	"slices"
	"strings"
	"testing"

	"tracebook/api"
)

func TestLine(t *testing.T) {
	for s, want := range map[string]string{
		"ev 1 5 mark a # x": "ev|1|5 mark a", "ev 1": "ev|1", "ev": "ev", "ev 1  x": "ev|1| x", "ev  1 x": "ev||1 x", "ev 1 a\nb": "ev|1|a\nb",
		"query from a | limit 1": "query|from a | limit 1", "query": "query", "query  from a": "query| from a", "query from a#b": "query|from a", "query a  b   ": "query|a  b",
		"flush": "flush", "flush   # c": "flush", "snap 1  2": "snap|1||2", " flush": "|flush", "thread 1 a\n 0": "thread|1|a\n|0", "evx 1 2 3 4": "evx|1|2|3|4", "a\tb": "a\tb",
	} {
		word, args, ok := Line(s)
		if got := strings.Join(append([]string{word}, args...), "|"); got != want || !ok {
			t.Error(s, got, ok)
		}
	}
	for _, s := range []string{"", "   ", "# x", "   # flush", "#"} {
		if word, args, ok := Line(s); word != "" || len(args) > 0 || ok {
			t.Error(s, word)
		}
	}
	if _, _, ok := Line("\n"); !ok {
		t.Error("a line feed is a byte like any other")
	}
}

func run(t *testing.T, l ...string) []string {
	t.Helper()
	out, n, err := Run(strings.Join(l, "\n"))
	if n != 0 || err != api.OK {
		t.Fatal(n, err)
	}
	return out
}

func TestExamples(t *testing.T) {
	out := run(t, "thread 1 a 0", "open 100 overwrite 1000", "ev 1 3 mark x", "flush", "order")
	if !slices.Equal(out, []string{"ok", "ok", "ok", "1 0 3 3"}) {
		t.Error(out)
	}
	if out, n, err := Run("flush"); len(out) != 0 || n != 1 || err != api.ErrForm {
		t.Error(out, n, err)
	}
}

func TestScript(t *testing.T) {
	for i, c := range []struct{ script, want string }{
		{"", ""}, {"# nothing\n\n", ""}, {"domain 1 5\nthread 1 a 0", ""},
		{"thread 1 a 0\nopen 16 overwrite 1000\nev 1 1 mark a\nev 1 2 mark a\nev 1 3 mark a\nev 1 4 mark a\nev 1 5 mark a\nlost 1\nflush\ngaps\nlost 1\nlost 2\norder", "ok|ok|ok|ok|ok|ok|1|ok|1 0 1|0|error 5|1 1 2 2|1 2 3 3|1 3 4 4|1 4 5 5"},
		{"thread 1 a 0\nopen 16 stall 1000\nev 1 1 mark a\nev 1 2 mark a\nev 1 3 mark a\nev 1 4 mark a\nev 1 5 mark a\nflush\nev 1 5 mark a\ngaps", "ok|ok|ok|ok|ok|error 6|ok|ok"},
		{"thread 1 a 0\nopen 100 stall 1000\nev 1 5 marks a\nev 2 5 mark a\nev 1 5 mark a\nev 1 4 mark a\nev 1 5  mark a", "ok|error 10|error 5|ok|error 11|error 10"},
		{"domain 1 100\nthread 1 a 0\nthread 2 b 1\nopen 100 stall 1000\nev 2 1001000 mark x\nflush\norder\nsnap 1 1000 0 5000 5010\nsnap 1 1 1 1 1\nflush\norder", "ok|ok|ok|error 12|ok|error 1|ok|2 0 1004900 1005110"},
		{"thread 1 a 0\nopen 100 stall 1000\narm 1048577\narm 3\nev 1 1 mark a\nflush\nflush\nev 1 2 mark a\ngaps\norder\narm 5\nquery from threads\ncrash -1\norder\nev 1 2 mark a\nflush\norder", "ok|error 2|ok|ok|error 19|error 19|error 19|error 19|error 19|error 19|error 19|ok|ok|ok|1 0 2 2"},
		{"thread 1 a 0\nopen 100 stall 1000\nev 1 1 begin f\nev 1 3 end\nflush\nquery from slices | select name as n, parent as p, open as o, self as s\nquery from slices | where false\nquery from\nquery from z\nquery from threads | limit 0 | coalesce", "ok|ok|ok|ok|n,p,o,s|\"f\",null,false,2|id,thread,parent,depth,name,from,to,self,open|error 15|error 17|error 16"},
		{"thread 1 a 0\nopen 15 stall 1000\nev 1 1 mark a\nflush\narm 1\ncrash 0\nlost 1\nquery from threads\ngaps\norder\nsnap 0 0 0 0 0", "error 2|error 18|error 18|error 18|error 18|error 18|error 18|error 18|error 18|error 18"},
		{"open 100 stall 1000\nlost 1", "error 8|error 18"},
		{"domain 0 0\nthread 1 a 0\nopen 100 stall 1000", "error 4"}, {"thread 1 a,b 0\nopen 100 stall 1000", "error 3"},
	} {
		got := strings.Join(run(t, c.script), "|")
		if got != c.want {
			t.Error(i, got)
		}
	}
}

func TestForms(t *testing.T) {
	before := "thread 1 a 0\n"
	opened := before + "open 100 stall 1000\n"
	for s, want := range map[string]int{
		"x": 1, " flush": 1, "thread 1 a": 1, "thread 1  0": 1, "thread 1 a 0 0": 1, "thread x a 0": 1, "thread 01 a 0": 1, "domain 1": 1, "domain 1 x": 1, "domain 1 5 5": 1, "Thread 1 a 0": 1,
		before + "open 100 Stall 1000": 2, before + "open 100 stall": 2, before + "open x stall 5": 2, before + "\n# c\nopen 100 1 5": 4, before + "ev 1 1 end": 2, before + "gaps": 2,
		opened + "open 100 stall 1000": 3, opened + "thread 2 b 0": 3, opened + "domain 1 5": 3, opened + "ev 1": 3, opened + "ev x 1 end": 3, opened + "ev 1 ": 3, opened + "query": 3, opened + "query ": 3, opened + "query #": 3, opened + "flush 1": 3, opened + "arm": 3, opened + "arm 1 2": 3, opened + "arm x": 3, opened + "crash": 3, opened + "snap 1 2 3 4": 3, opened + "snap 1 2 3 4 5 6": 3, opened + "snap 1 2  3 4 5": 3, opened + "lost": 3, opened + "gaps 1": 3, opened + "order x": 3, opened + "flush\nflush\nfoo\nflush": 5, opened + "arm 1000000000000001": 3, opened + "flush\r": 3,
	} {
		if out, n, err := Run(s); len(out) > 0 || n != want || err != api.ErrForm {
			t.Error(s, n, err)
		}
	}
}

func TestLimits(t *testing.T) {
	for i, c := range []struct {
		s   string
		n   int
		err api.Errno
	}{
		{strings.Repeat("\n", 400), 0, api.OK}, {strings.Repeat("\n", 401), 0, api.ErrLong}, {strings.Repeat("\n", 399) + "x", 400, api.ErrForm}, {strings.Repeat("\n", 400) + "x", 0, api.ErrLong},
		{strings.Repeat(" ", api.MaxText), 0, api.OK}, {strings.Repeat(" ", api.MaxText+1), 0, api.ErrLong}, {"x\n" + strings.Repeat("\n", 400), 0, api.ErrLong},
	} {
		if out, n, err := Run(c.s); len(out) > 0 || n != c.n || err != c.err {
			t.Error(i, n, err)
		}
	}
}

// TestPrefix checks that comments change nothing, and that the output of first lines is the beginning of the output.
func TestPrefix(t *testing.T) {
	r := rand.New(rand.NewSource(1))
	choices := []string{"ev 1 5 mark a", "ev 2 6 begin f", "ev 1 7 count c 3", "ev 1 3 end", "flush", "snap 1 5 0 4 9", "arm 40", "crash 10", "lost 1", "query from slices | limit 2", "gaps", "order", "query x"}
	for range 100 {
		l := []string{"domain 1 100", "thread 1 a 0", "thread 2 b 1", "open " + []string{"16", "40", "9"}[r.Intn(3)] + " overwrite 2000"}
		for range 15 {
			l = append(l, choices[r.Intn(len(choices))])
		}
		out := run(t, l...)
		for n := range l {
			first := run(t, l[:n]...)
			if len(first) > len(out) || !slices.Equal(first, out[:len(first)]) {
				t.Fatal(l, n, first, out)
			}
		}
		var commented []string
		for _, s := range l {
			commented = append(commented, s+"  # flush", "", "# "+s)
		}
		if got := run(t, commented...); !slices.Equal(got, out) {
			t.Fatal(commented, got, out)
		}
	}
}
