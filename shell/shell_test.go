package shell_test

import (
	"fmt"
	"strings"
	"testing"

	"spillway/api"
	"spillway/shell"
)

// The chapter's example.
func TestExample(t *testing.T) {
	does(t,
		step{"platform 2 16 1", "ok"},
		step{`rules 0 {"flow":[{"resource":"a","count":2}]}`, "ok"},
		step{"enter 0 a main - in 1", "pass 1 0"},
		step{"enter 0 a main - in 2", "block flow 0"},
		step{"counts 0 a", "1 2 0 0 0 0 1"},
		step{"tick 1000000", "ok"},
		step{"enter 0 a main - in 2", "pass 2 0"},
		step{"exit 0 1 ok", "ok"},
		step{"open 0", "2"},
		step{`put 0 {"cmd":"top","k":1}`, `{"ok":true,"top":[{"resource":"a","pass":2,"block":0,"done":1,"errors":0,"rt":1000000,"min":1000000,"flight":1}]}`},
		step{"hello", "word"},
	)
}

// P26.1: lines without a word, and remarks, are passed over; words stand between blanks, of the byte 32 alone; a script may end with a line feed or not.
func TestLines(t *testing.T) {
	for script, want := range map[string]string{
		"":                             "",
		"\n":                           "",
		"\n\n   \n":                    "",
		"#":                            "",
		"  # now\n#now\n##\n":          "",
		"now":                          "none\n",
		"now\n":                        "none\n",
		"now\n\n":                      "none\n",
		"\nnow\n  now  \n":             "none\nnone\n",
		" platform  1   16 1 \n now ":  "ok\n0 up\n",
		"\tnow":                        "word\n",
		"now\r\nnow":                   "word\nnone\n",
		"now\tnow":                     "word\n",
		"\u00a0":                       "word\n",
		"\x00\nnow":                    "word\nnone\n",
		"\xff\xfe #":                   "word\n",
		"now #":                        "word\n",
		"no#w":                         "word\n",
		"Now\nNOW\n-\n":                "word\nword\nword\n",
		"platform 1 1 1\r\nnow":        "word\nnone\n",
		"platform 1 1 1\n#\n \nnow\n#": "ok\n0 up\n",
	} {
		if got := shell.Run(script); got != want {
			t.Errorf("Run(%q): %q, want %q", script, got, want)
		}
	}
}

// P26.1: a script of more than MaxScript bytes is too long, whatever it says.
func TestLong(t *testing.T) {
	line := "platform 1 1 1\n"
	fill := func(n int) string { return line + strings.Repeat("\n", n-len(line)) }
	for n, want := range map[int]string{api.MaxScript - 1: "ok\n", api.MaxScript: "ok\n", api.MaxScript + 1: "long\n", 5 * api.MaxScript: "long\n"} {
		if got := shell.Run(fill(n)); got != want {
			t.Errorf("%d bytes: %q, want %q", n, got, want)
		}
	}
	if got := shell.Run(strings.Repeat("#", api.MaxScript+1)); got != "long\n" {
		t.Errorf("a long remark: %q", got)
	}
	if got := strings.Count(shell.Run(strings.Repeat("x\n", api.MaxScript/2)), "word\n"); got != api.MaxScript/2 {
		t.Errorf("%d answers", got)
	}
}

// well is a line of each form.
func well() []string {
	return []string{
		"platform 1 1 1", "flow 1 rate 5", "flow 1 lease 5 1000000", "tick 1", "dial 0", "cut 0", "toserver 0 1", "toclient 0 1", "stop", "start",
		"rules 0 {}", "mode 0 local", "enter 0 a main - in 1", "enter 0 a main - in 1 x y", "exit 0 1 ok", "decided 0", "pending 0", "open 0", "counts 0 a",
		"put 0 {}", "grants", "now", "see 0",
	}
}

// P26.1: no such line: its first word, how many words it has, words that must be one of some, and numbers. It comes ahead of there being no platform.
func TestWord(t *testing.T) {
	wrong := []string{
		"x", "platforms 1 1 1", "Platform 1 1 1", "help", "enter", "0",
		"flow 1 rat 5", "flow 1 Rate 5", "flow 1 rate 5 0 0", "flow rate 1 5", "flow 1 1 5",
		"mode 0 Local", "mode 0 1", "mode 0 none",
		"enter 0 a main - inn 1", "enter 0 a main - - 1", "enter 0 a main in 1", "enter 0 a main - in x", "enter 0 a main - in",
		"exit 0 1 okay", "exit 0 1 true", "exit 0 ok", "exit 0 1",
		"toserver 0", "toclient 0 1 1", "counts 0", "counts 0 a b", "put 0", "put 0  ", "put x {}", "rules 0", "rules 0   ", "rules {}", "see",
		"now 0", "grants 0", "stop 0", "start 0", "tick", "tick 1 1", "dial", "cut 0 0", "pending", "open 0 0", "decided 0 0", "see 0 0",
		"platform 1 1", "platform 1 1 1 1", "platform",
	}
	for _, line := range well() {
		if got := answers("", line); got == "word\n" || answers("platform 1 1 1\n", line) == "word\n" {
			t.Errorf("%q: %q", line, got)
		}
		words := strings.Split(line, " ")
		wrong = append(wrong, words[0]+"x"+strings.TrimPrefix(line, words[0]))
		for n, word := range words[1:] {
			if strings.Trim(word, "0123456789") != "" {
				continue
			}
			for _, number := range []string{"", "-1", "+1", "01", "00", "-0", "1.0", "1e3", "0x1", "1_0", "one", "-", "٣", "4611686018427387905", "9223372036854775807", "9223372036854775808", "99999999999999999999999", "18446744073709551617"} {
				l := append([]string(nil), words...)
				l[n+1] = number
				if number == "" && words[0] == "flow" { // LEASE may be missing
					continue
				}
				wrong = append(wrong, strings.Join(l, " "))
			}
		}
	}
	for _, line := range wrong {
		for _, ahead := range []string{"", "platform 1 1 1\n"} {
			if got := answers(ahead, line); got != "word\n" {
				t.Errorf("%q behind %q: %q", line, ahead, got)
			}
		}
	}
}

// P26.1: numbers go from 0 to 2^62.
func TestNumbers(t *testing.T) {
	most := "4611686018427387904"
	does(t,
		step{"platform 1 1 " + most, "ok"},
		step{"platform 1 1 0", "ok"},
		step{"platform 1 " + most + " 1", "error 2"},
		step{"tick " + most, "error 2"},
		step{"tick 1152921504606846976", "ok"},
		step{"now", "1152921504606846976 up"},
		step{"see " + most, "error 2"},
		step{"exit 0 " + most + " ok", "error 40"},
		step{"flow " + most + " rate " + most + " " + most, "error 6"},
		step{"flow 1099511627776 rate 0", "ok"},
		step{"enter 0 a main - in " + most, "error 2"},
		step{"enter 0 a main - in 1099511627776", "pass 1 0"},
	)
}

// P26.1: without a platform all lines that are right answer so, but platform.
func TestNone(t *testing.T) {
	for _, line := range well() {
		want := "none\n"
		if strings.HasPrefix(line, "platform") {
			want = "ok\n"
		}
		for _, ahead := range []string{"", "platform 0 1 1\n", "platform 1 0 1\n"} {
			if got := answers(ahead, line); got != want {
				t.Errorf("%q behind %q: %q, want %q", line, ahead, got, want)
			}
		}
	}
	does(t, step{"see 99", "none"}, step{"rules 0 x", "none"}, step{"put 9 x", "none"}, step{"enter 0 a", "word"})
}

// P26.1: errors are those that the calls tell.
func TestErrors(t *testing.T) {
	does(t, with(
		step{"platform 9 1 1", "error 2"},
		step{"platform 1 4097 1", "error 2"},
		step{"flow 0 rate 1", "error 6"},
		step{"flow 1 lease 1", "error 6"},
		step{"flow 1 lease 1 0", "error 6"},
		step{"flow 1 rate 1 1000000", "error 6"},
		step{"flow 1 value 1 0", "ok"},
		step{"tick 5", "ok"},
		step{"tick 4", "error 7"},
		step{"tick 5", "ok"},
		step{"dial 2", "error 2"},
		step{"cut 2", "error 2"},
		step{"cut 0", "error 51"},
		step{"toserver 0 1", "error 51"},
		step{"toserver 2 1", "error 2"},
		step{"toclient 0 1", "error 51"},
		step{"toclient 2 1", "error 2"},
		step{"dial 0", "ok"},
		step{"dial 0", "error 52"},
		step{"start", "error 52"},
		step{"stop", "ok"},
		step{"stop", "error 51"},
		step{"dial 1", "error 51"},
		step{"dial 1", "error 4"},
		step{"mode 2 client", "error 2"},
		step{"enter 2 a main - in 1", "error 2"},
		step{"enter 0 a\x7f main - in 1", "error 10"},
		step{"enter 0 a " + strings.Repeat("x", 65) + " - in 1", "error 10"},
		step{"enter 0 a main é in 1", "error 10"},
		step{"enter 0 a main - in 0", "error 2"},
		step{"enter 0 a main - in 1 1 2 3 4 5 6 7 8 9", "error 5"},
		step{"enter 0 a main - in 1 1 2 3 4 5 6 7 8", "pass 1 0"},
		step{"exit 2 1 ok", "error 2"},
		step{"exit 0 2 ok", "error 40"},
		step{"exit 0 1 ok", "ok"},
		step{"exit 0 1 ok", "error 41"},
		step{"rules 2 {}", "error 2"},
		step{"decided 2", "error 2"},
		step{"pending 2", "error 2"},
		step{"open 2", "error 2"},
		step{"counts 2 a", "error 2"},
		step{"put 2 {}", "error 2"},
		step{"see 2", "error 2"},
		step{"counts 0 b", "error 4"},
		step{"counts 1 a", "error 4"},
		step{"counts 0 a\x01", "error 4"},
	)...)
}

// P26.1: rules answers the error of Decode ahead of that of Load, with its place in what stands behind the blank.
func TestRules(t *testing.T) {
	does(t, with(
		step{"rules 0 x", "error 20 0"},
		step{"rules 0  x", "error 20 1"},
		step{"  rules   0    x", "error 20 3"},
		step{"rules 0 {", "error 24 1"},
		step{"rules 0 {  ", "error 24 3"},
		step{`rules 0 {} {}`, "error 25 3"},
		step{`rules 0 {"flow":[{"resource":"a","count":01}]}`, "error 21 34"},
		step{"rules 0 \"\t\"", "error 22 1"},
		step{"rules 0 " + strings.Repeat("[", 65), "error 23 64"},
		step{`rules 0 []`, "error 26 0"},
		step{`rules 0 {"flow":[{"resource":"a","cuont":5}]}`, "error 26 0"},
		step{`rules 0 {"flow":[{"count":5}]}`, "error 10 0"},
		step{`rules 0 {"flow":[{"resource":"a","count":1.5}]}`, "error 21 0"},
		step{`rules 0 {"authority":[{"resource":"a"}]}`, "error 34 0"},
		step{"rules 9 x", "error 20 0"},
		step{"rules 9 {}", "error 2"},
		step{`put 0 {"cmd":"fetch"}`, `{"ok":true,"rules":{"flow":[],"break":[],"hot":[],"system":[],"authority":[]},"version":0}`},
		step{`rules 0    { "flow" : [ { "resource" : "a" , "count" : 0 } ] }   `, "ok"},
		step{"enter 0 a main - in 1", "block flow 0"},
		step{"enter 1 a main - in 1", "pass 1 0"},
		step{"rules 0 {}", "ok"},
		step{"enter 0 a main - in 1", "pass 1 0"},
	)...)
}

// P26.1: platform comes in the place of the one that is there, and no flows are kept; with an error all stays.
func TestPlatform(t *testing.T) {
	does(t, with(
		step{"flow 1 rate 5", "ok"},
		step{"tick 1000000", "ok"},
		step{`rules 1 {"flow":[{"resource":"a","cluster":true,"id":1}]}`, "ok"},
		step{"mode 1 server", "ok"},
		step{"enter 1 a main - in 5", "pass 1 0 granted"},
		step{"platform 0 16 1", "error 2"},
		step{"platform 3 5000 1", "error 2"},
		step{"now", "1000000 up"},
		step{"open 1", "1"},
		step{"grants", "1000000 1 0 1 5"},
		step{"see 2", "error 2"},
		step{"platform 3 16 2", "ok"},
		step{"now", "0 up"},
		step{"open 1", "none"},
		step{"grants", "none"},
		step{"see 2", "down local 0"},
		step{"flow 2 rate 5", "ok"},
		step{"tick 2000000", "ok"},
		step{`rules 1 {"flow":[{"resource":"a","cluster":true,"id":1},{"resource":"b","cluster":true,"id":2}]}`, "ok"},
		step{"mode 1 server", "ok"},
		step{"enter 1 a main - in 1", "pass 1 0"},
		step{"enter 1 b main - in 1", "pass 2 0 granted"},
	)...)
}

// seeded is a script whose answers tell whether the seed, and the keys, are those of the line.
func seeded(line string) string {
	script := line + "\n" + `rules 0 {"hot":[{"resource":"a","count":2,"seconds":1}]}` + "\n"
	for n := range 700 {
		script += fmt.Sprintf("enter 0 a m - in 1 %d\n", n*7919%353)
	}
	return shell.Run(script)
}

// P26.1: the keys and the seed are the platform's.
func TestKeysAndSeed(t *testing.T) {
	told := map[string]string{}
	for _, line := range []string{"platform 1 1 1", "platform 1 1 2", "platform 1 1 4611686018427387904", "platform 1 400 1"} {
		told[seeded(line)] = line
		if seeded(line) != seeded(line) {
			t.Errorf("%s: it tells two things", line)
		}
	}
	if len(told) != 4 {
		t.Errorf("just these are told apart: %v", told)
	}
}

// P26.1: flows are kept: one of an Id comes in the place of the one that has it; with an error those that were kept stay.
func TestFlow(t *testing.T) {
	does(t, with(
		step{"flow 1 rate 1", "ok"},
		step{"flow 2 rate 2 0", "ok"},
		step{"flow 3 lease 9 1000000", "ok"},
		step{"flow 1 rate 3", "ok"},
		step{"flow 2 rate 7 1", "error 6"},
		step{"flow 4 rate 1099511627777", "error 6"},
		step{"flow 5 value 5", "ok"},
		step{"tick 1000000", "ok"},
		step{"mode 0 server", "ok"},
		step{`rules 0 {"flow":[{"resource":"r1","cluster":true,"id":1},{"resource":"r2","cluster":true,"id":2},{"resource":"r3","cluster":true,"id":3},{"resource":"r4","cluster":true,"id":4},{"resource":"r5","cluster":true,"id":5}]}`, "ok"},
		step{"enter 0 r1 main - in 4", "block flow 0"},
		step{"enter 0 r1 main - in 3", "pass 1 0 granted"},
		step{"enter 0 r2 main - in 3", "block flow 1"},
		step{"enter 0 r2 main - in 2", "pass 2 0 granted"},
		step{"enter 0 r3 main - in 1", "pass 3 0"},
		step{"enter 0 r4 main - in 1", "pass 4 0"},
		step{"enter 0 r5 main - in 1", "pass 5 0"},
		step{"flow 3 rate 9", "ok"},
		step{"enter 0 r3 main - in 1", "pass 6 0 granted"},
		step{"grants", "1000000 0 0 1 3\n1000000 0 0 2 2\n1000000 0 0 3 1"},
	)...)
}

// P26.1: as many flows as a server may have; one of an Id that is kept may still change.
func TestFlowsFull(t *testing.T) {
	l := with()
	for n := range api.MaxRules {
		l = append(l, step{fmt.Sprintf("flow %d rate 1", n+1), "ok"})
	}
	l = append(l, step{"flow 257 rate 1", "error 3"}, step{"flow 256 rate 0", "ok"}, step{"flow 258 value 1", "error 3"}, step{"flow 1 value 0", "ok"})
	does(t, l...)
}
