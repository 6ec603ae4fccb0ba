package shell_test

import (
	"fmt"
	"math/rand"
	"strings"
	"testing"

	"spillway/shell"
)

// P26.2: the answer of a script begins with that of each of its beginnings that end with a line feed.
func TestBeginnings(t *testing.T) {
	for seed := range int64(20) {
		script, _ := written(seed, 120, map[string]int{})
		whole := shell.Run(script)
		for n := range script {
			if script[n] == '\n' && !strings.HasPrefix(whole, shell.Run(script[:n+1])) {
				t.Fatalf("the script %d: its first %d bytes answer something else", seed, n+1)
			}
		}
		if shell.Run(strings.TrimSuffix(script, "\n")) != whole {
			t.Errorf("the script %d answers something else without its last line feed", seed)
		}
	}
}

// P26.3: a line that begins with pending, open, counts, grants, now, see or # may stand anywhere, right or not: all others answer as without it.
func TestAsking(t *testing.T) {
	for seed := range int64(25) {
		r := rand.New(rand.NewSource(seed))
		script, _ := written(seed, 120, map[string]int{})
		var asked, own strings.Builder
		whole := "" // what is answered by now
		for line := range strings.Lines(script) {
			asked.WriteString(line)
			now := shell.Run(asked.String())
			own.WriteString(strings.TrimPrefix(now, whole))
			for range r.Intn(3) {
				asked.WriteString(pick(r, "pending 0", "pending 1", "open 0", "open 1", "counts 0 a", "counts 1 b", "grants", "now", "see 0", "see 1", "#", "# stop", "pending", "open x", "see 9", "now 1", "counts 0") + "\n")
			}
			whole = shell.Run(asked.String())
		}
		if want := shell.Run(script); own.String() != want {
			t.Errorf("the script %d: with lines that ask between them, the others answer\n%s\nand without\n%s", seed, own.String(), want)
		}
	}
}

// P6: a script answers the same whenever it is run.
func TestRunAgain(t *testing.T) {
	for seed := range int64(10) {
		script, _ := written(seed, 300, map[string]int{})
		was := shell.Run(script)
		shell.Run("platform 3 1 1\nflow 1 rate 0\nmode 0 server\n")
		if shell.Run(script) != was {
			t.Errorf("the script %d answers two things", seed)
		}
	}
}

// P1, E8: bytes of any kind answer something, line by line.
func TestAnyBytes(t *testing.T) {
	r := rand.New(rand.NewSource(1))
	for range 300 {
		script, _ := written(r.Int63(), 60, map[string]int{})
		b := []byte(script)
		for range 1 + r.Intn(40) {
			b[r.Intn(len(b))] = pick(r, byte(r.Intn(256)), ' ', '\n', '0', '9', '#')
		}
		answer := shell.Run(string(b))
		lines := 0
		for line := range strings.SplitSeq(string(b), "\n") {
			if trimmed := strings.Trim(line, " "); trimmed != "" && trimmed[0] != '#' {
				lines++
			}
		}
		if n := strings.Count(answer, "\n"); n < lines || lines > 0 && !strings.HasSuffix(answer, "\n") {
			t.Errorf("%q answers %d lines to %d", b, n, lines)
		}
	}
}

// repeat is a step so many times.
func repeat(n int, line string, answer func(i int) string) []step {
	var l []step
	for i := range n {
		l = append(l, step{line, answer(i)})
	}
	return l
}

func passes(from int) func(i int) string {
	return func(i int) string { return fmt.Sprintf("pass %d 0", from+i) }
}

func always(answer string) func(i int) string { return func(int) string { return answer } }

// warming is the seconds in which a rule of 100 becomes warm behind 10: in each as many tokens pass as may, and not one more.
func warming() []step {
	var l []step
	for at, n := range []int{33, 34, 36, 38, 41, 44, 47, 52, 58, 68, 83, 100, 100} {
		l = append(l, step{fmt.Sprint("tick ", at*1000000), "ok"}, step{fmt.Sprintf("enter 0 a main - in %d", n+1), "block flow 0"},
			step{fmt.Sprintf("enter 0 a main - in %d", n), fmt.Sprintf("pass %d 0", at+1)}, step{"enter 0 a main - in 1", "block flow 0"})
	}
	return l
}

// DOC.md's ten examples of the whole, and with them E1 to E9.
func TestExamples(t *testing.T) {
	join := func(l ...any) []step {
		all := with()
		for _, x := range l {
			switch x := x.(type) {
			case step:
				all = append(all, x)
			case []step:
				all = append(all, x...)
			}
		}
		return all
	}
	call := "enter 0 a main - in 1"
	for name, l := range map[string][]step{
		"1": join(step{`rules 0 {"flow":[{"resource":"a","count":10}]}`, "ok"}, repeat(6, call, passes(1)), step{"tick 99999", "ok"}, repeat(4, call, passes(7)), repeat(2, call, always("block flow 0")),
			step{"tick 999999", "ok"}, step{call, "block flow 0"}, step{"tick 1099999", "ok"}, repeat(10, call, passes(11)), step{call, "block flow 0"}),
		"2": join(step{`rules 0 {"flow":[{"resource":"a","count":10,"shape":"pace","queue":200000}]}`, "ok"}, step{call, "pass 1 0"}, step{call, "pass 2 100000"}, step{call, "pass 3 200000"}, step{call, "block flow 0"}),
		"3": join(step{`rules 0 {"flow":[{"resource":"a","threads":true,"count":1}]}`, "ok"}, step{call, "pass 1 0"}, step{call, "block flow 0"}, step{"exit 0 1 bad", "ok"}, step{call, "pass 2 0"}),
		"4": join(step{`rules 0 {"flow":[{"resource":"a","count":100,"shape":"warmup","warm":10}]}`, "ok"}, warming()),
		"5": join(step{`rules 0 {"break":[{"resource":"a","grade":"errors","count":500,"least":5,"window":1000000,"recover":1000000}]}`, "ok"}, repeat(5, call, passes(1)),
			step{"exit 0 1 ok", "ok"}, step{"exit 0 2 bad", "ok"}, step{"exit 0 3 bad", "ok"}, step{"exit 0 4 ok", "ok"}, step{call, "pass 6 0"}, step{"exit 0 5 bad", "ok"}, step{call, "block breaker 0"},
			step{"tick 999999", "ok"}, step{call, "block breaker 0"}, step{"tick 1000000", "ok"}, step{call, "pass 7 0"}, step{call, "block breaker 0"}, step{"exit 0 7 ok", "ok"}, step{call, "pass 8 0"}),
		"6": join(step{`rules 0 {"hot":[{"resource":"a","count":3,"seconds":1,"items":[{"value":"vip","count":100}]}]}`, "ok"}, repeat(3, call+" a", passes(1)), step{call + " a", "block hot 0"},
			repeat(100, call+" vip", passes(4)), step{call + " vip", "block hot 0"}, step{call + " b", "pass 104 0"}),
		"7": join(step{`rules 0 {"system":[{"load":1000}]}`, "ok"}, step{call, "pass 1 0"}, step{call, "pass 2 0"}, step{"tick 100000", "ok"}, step{"exit 0 1 ok", "ok"}, repeat(4, call, passes(3)),
			step{`put 0 {"cmd":"sample","load":1500,"cpu":0}`, `{"ok":true}`}, step{call, "block system 0"}, step{"tick 200000", "ok"}, step{"exit 0 2 ok", "ok"}, step{call, "pass 7 0"}, step{call, "block system 0"}, step{"exit 0 3 ok", "ok"}, step{call, "pass 8 0"}, step{call, "block system 0"}),
		"8": join(step{`rules 0 {"authority":[{"resource":"a","white":true,"origins":["app1"]}]}`, "ok"}, step{"enter 0 a main app2 in 1", "block list 0"}, step{"enter 0 a main app1 in 1", "pass 1 0"}),
		"9": join(step{"flow 1 rate 5", "ok"}, step{"tick 1000000", "ok"}, step{`rules 0 {"flow":[{"resource":"a","count":2,"cluster":true,"id":1,"fallback":true}]}`, "ok"},
			step{`rules 1 {"flow":[{"resource":"a","count":1,"cluster":true,"id":1,"fallback":true}]}`, "ok"}, step{"mode 0 server", "ok"}, step{"mode 1 server", "ok"},
			step{"enter 0 a main - in 3", "pass 1 0 granted"}, step{"enter 1 a main - in 3", "block flow 0"}, step{"enter 1 a main - in 2", "pass 1 0 granted"}, step{call, "block flow 0"},
			step{"stop", "ok"}, step{"tick 3000000", "ok"}, step{"enter 0 a main - in 2", "pass 2 0"}, step{call, "block flow 0"}, step{"enter 1 a main - in 2", "block flow 0"}, step{"enter 1 a main - in 1", "pass 2 0"}),
		"10": join(step{`rules 0 {"flow":[{"resource":"a","count":1},{"resource":"b","count":1}]}`, "ok"}, step{`put 0 {"cmd":"push","rules":{"flow":[{"resource":"a","count":5}]}}`, `{"ok":true}`},
			step{"enter 0 b main - in 2", "pass 1 0"}, step{`put 0 {"cmd":"push","rules":{"flow":[{"count":5}]}}`, `{"ok":false,"error":10,"at":0}`}, step{"enter 0 a main - in 5", "pass 2 0"}, step{call, "block flow 0"}),
	} {
		t.Run(name, func(t *testing.T) { does(t, l...) })
	}
}
