package shell_test

import (
	"fmt"
	"strings"
	"testing"

	"spillway/api"
)

// P26.1: what became of a call: by each reason, with its wait, granted, pending, with an error.
func TestBecame(t *testing.T) {
	does(t, with(
		step{`rules 0 {"flow":[{"resource":"a","count":10,"shape":"pace","queue":200000},{"resource":"b","count":9},{"resource":"b","count":1}],"break":[{"resource":"d","grade":"count","least":1,"window":1000000,"recover":1000000}],"hot":[{"resource":"c","count":1,"seconds":1},{"resource":"c","index":1,"count":2,"seconds":1}],"system":[{"threads":12},{"cpu":500}],"authority":[{"resource":"e","origins":["x"]},{"resource":"e","white":true,"origins":["y"]}]}`, "ok"},
		step{"enter 0 a main - out 1", "pass 1 0"},
		step{"enter 0 a main - out 1", "pass 2 100000"},
		step{"enter 0 a main - out 1", "pass 3 200000"},
		step{"enter 0 a main - out 1", "block flow 0"},
		step{"enter 0 b main - out 1", "pass 4 0"},
		step{"enter 0 b main - out 1", "block flow 2"},
		step{"enter 0 c main - in 1 u v", "pass 5 0"},
		step{"enter 0 c main - in 1 u v", "block hot 0"},
		step{"enter 0 c main - in 1 w v", "pass 6 0"},
		step{"enter 0 c main - in 1 x v", "block hot 1"},
		step{"enter 0 c main - in 1", "pass 7 0"},
		step{"enter 0 d main - in 1", "pass 8 0"},
		step{"exit 0 8 bad", "ok"},
		step{"enter 0 d main - in 1", "block breaker 0"},
		step{"enter 0 e main x in 1", "block list 0"},
		step{"enter 0 e main z in 1", "block list 1"},
		step{"enter 0 e main y in 1", "pass 9 0"},
		step{"enter 0 e main - in 1", "pass 10 0"},
		step{`put 0 {"cmd":"sample","load":0,"cpu":501}`, `{"ok":true}`},
		step{"enter 0 c main - in 1", "block system 1"},
		step{"enter 0 c main - out 1", "pass 11 0"},
		step{"counts 0 c", "4 3 0 0 0 0 4"},
		step{"counts 0 d", "1 1 1 1 0 0 0"},
		step{"open 0", "1 2 3 4 5 6 7 9 10 11"},
	)...)
}

// P26.1: an origin, a way, a count and arguments are what the words say; - is none.
func TestEnterWords(t *testing.T) {
	does(t, with(
		step{`rules 0 {"flow":[{"resource":"a","origin":"app1","count":3},{"resource":"-","count":2},{"resource":"a","strategy":"chain","ref":"-","count":0}],"system":[{"qps":5}]}`, "ok"},
		step{"enter 0 a main app1 out 3", "pass 1 0"},
		step{"enter 0 a main app1 out 1", "block flow 0"},
		step{"enter 0 a main app2 out 4", "pass 2 0"},
		step{"enter 0 a - - out 1", "block flow 2"},
		step{"enter 0 - main - out 2", "pass 3 0"},
		step{"enter 0 - main - out 1", "block flow 1"},
		step{"enter 0 b main - in 6", "block system 0"},
		step{"enter 0 b main - in 5", "pass 4 0"},
		step{"enter 0 b main - out 6", "pass 5 0"},
		step{"   enter  0  b   main -   out   6    x  ", "pass 6 0"},
		step{"counts 0 -", "2 1 0 0 0 0 1"},
		step{"counts   0   b ", "17 6 0 0 0 0 3"},
		step{"counts 0 a", "7 2 0 0 0 0 2"},
	)...)
}

// P26.1: exit ends an entry well or with an error, counts tell what is in the second now.
func TestExitAndCounts(t *testing.T) {
	does(t, with(
		step{"enter 1 a main - in 3", "pass 1 0"},
		step{"enter 1 a main - in 4", "pass 2 0"},
		step{"tick 250", "ok"},
		step{"exit 1 2 bad", "ok"},
		step{"counts 1 a", "7 0 1 1 250 250 1"},
		step{"tick 999999", "ok"},
		step{"exit 1 1 ok", "ok"},
		step{"counts 1 a", "7 0 2 1 1000249 250 0"},
		step{"tick 1000000", "ok"},
		step{"counts 1 a", "0 0 1 0 999999 999999 0"},
		step{"open 1", "none"},
		step{"tick 5000000", "ok"},
		step{"counts 1 a", "0 0 0 0 0 0 0"},
	)...)
}

// P26.1: calls that are pending, and what they are when they are decided; see tells who is connected, in which mode, and how many wait.
func TestPending(t *testing.T) {
	does(t, with(
		step{"flow 1 rate 2", "ok"},
		step{"flow 2 rate 9", "ok"},
		step{"tick 1000000", "ok"},
		step{`rules 0 {"flow":[{"resource":"a","count":5,"cluster":true,"id":1,"fallback":true},{"resource":"b","count":5,"cluster":true,"id":2,"fallback":true},{"resource":"b","count":1}]}`, "ok"},
		step{"see 0", "down local 0"},
		step{"mode 0 client", "ok"},
		step{"see 0", "down client 0"},
		step{"enter 0 a main - in 1", "pass 1 0"},
		step{"dial 0", "ok"},
		step{"see 0", "up client 0"},
		step{"see 1", "down local 0"},
		step{"pending 0", "none"},
		step{"decided 0", "none"},
		step{"enter 0 a main - in 1", "pending 2"},
		step{"enter 0 a main - in 2", "pending 3"},
		step{"enter 0 b main - in 2", "pending 4"},
		step{"enter 0 c main - in 2", "pass 2 0"},
		step{"enter 0 a main - in 1", "pending 6"},
		step{"see 0", "up client 4"},
		step{"pending 0", "2 3 4 6"},
		step{"grants", "none"},
		step{"toserver 0 121", "ok"},
		step{"grants", "1000000 0 1 1 1"},
		step{"toserver 0 4611686018427387904", "ok"},
		step{"grants", "1000000 0 1 1 1\n1000000 0 3 2 2\n1000000 0 4 1 1"},
		step{"toclient 0 100", "ok"},
		step{"pending 0", "3 4 6"},
		step{"decided 1", "none"},
		step{"decided 0", "2 pass 3 0 granted"},
		step{"decided 0", "none"},
		step{"toclient 0 1000", "ok"},
		step{"see 0", "up client 0"},
		step{"decided 0", "3 block flow 0\n4 block flow 2\n6 pass 4 0 granted"},
		step{"enter 0 a main - in 2", "pending 7"},
		step{"enter 0 b main - in 1", "pending 8"},
		step{"mode 0 server", "ok"},
		step{"see 0", "up server 2"},
		step{"enter 0 b main - in 1", "pass 5 0 granted"},
		step{"enter 0 a main - in 2", "block flow 0"},
		step{"tick 1499999", "ok"},
		step{"decided 0", "none"},
		step{"tick 1500000", "ok"},
		step{"decided 0", "7 pass 6 0\n8 block flow 2"},
		step{"cut 0", "ok"},
		step{"see 0", "down server 0"},
		step{"now", "1500000 up"},
		step{"stop", "ok"},
		step{"now", "1500000 down"},
		step{"enter 0 a main - in 1", "block flow 0"},
		step{"start", "ok"},
		step{"now", "1500000 up"},
		step{"pending 1", "none"},
	)...)
}

// P26.1: the setting of a platform's clients: a request waits half a second, dials are apart a tenth of a second, doubled, up to one.
func TestSetting(t *testing.T) {
	l := with(step{"stop", "ok"})
	at := 0
	for _, wait := range []int{100000, 200000, 400000, 800000, 1000000, 1000000} {
		l = append(l, step{fmt.Sprint("tick ", at), "ok"}, step{"dial 0", "error 51"}, step{fmt.Sprint("tick ", at+wait-1), "ok"}, step{"dial 0", "error 4"})
		at += wait
	}
	does(t, append(l, step{fmt.Sprint("tick ", at), "ok"}, step{"start", "ok"}, step{"dial 0", "ok"})...)
}

// P26.1: a call whose engine is full by the time at which it is decided.
func TestDecidedWithError(t *testing.T) {
	l := with(
		step{"flow 1 rate 9", "ok"},
		step{"tick 1000000", "ok"},
		step{`rules 0 {"flow":[{"resource":"a","cluster":true,"id":1}]}`, "ok"},
		step{"mode 0 client", "ok"},
		step{"dial 0", "ok"},
		step{"enter 0 a main - in 1", "pending 1"},
		step{"enter 0 a main - in 1", "pending 2"},
	)
	for n := range api.MaxNodes/2 - 1 { // an Entrance, and of each an Inner and a Cluster
		l = append(l, step{fmt.Sprintf("enter 0 %d main - out 1", n), fmt.Sprintf("pass %d 0", n+1)})
	}
	does(t, append(l,
		step{"enter 0 a main - out 1", "error 3"},
		step{"toserver 0 83", "ok"},
		step{"toclient 0 99", "ok"},
		step{"cut 0", "ok"},
		step{"decided 0", "1 error 3\n2 error 3"},
	)...)
}

// P26.1: put is a whole line at the port, however many answers it has; none, if it has none.
func TestPut(t *testing.T) {
	does(t, with(
		step{`put 0 {"cmd":"mode","mode":"client"}`, `{"ok":true}`},
		step{"see 0", "down client 0"},
		step{"see 1", "down local 0"},
		step{"  put   1   x  ", `{"ok":false,"error":20,"at":2}`},
		step{`put 1 {"cmd":"fetch"`, `{"ok":false,"error":24,"at":14}`},
		step{`put 1 }`, `{"ok":false,"error":20,"at":0}`},
		step{"put 1 \r", "none"},
		step{"put 1 \r\r", `{"ok":false,"error":24,"at":1}`},
		step{"put 1 #", `{"ok":false,"error":20,"at":0}`},
		step{`put 1 {"cmd":"push","rules":{"flow":[{"resource":"a","count":5}]}}`, `{"ok":true}`},
		step{`put 1 {"cmd":"push","rules":{"flow":[{"count":5}]}}`, `{"ok":false,"error":10,"at":0}`},
		step{"enter 1 a main - in 6", "block flow 0"},
		step{"enter 1 a main - in 5", "pass 1 0"},
		step{`put 1 {"cmd":"metrics","resource":"a"} `, `{"ok":true,"metrics":[{"resource":"a","pass":5,"block":6,"done":0,"errors":0,"rt":0,"min":0,"flight":1}]}`},
		step{`put 1 {"cmd":"metrics","resource":"b"}`, `{"ok":false,"error":4,"at":0}`},
		step{"put 1 \xff", `{"ok":false,"error":20,"at":0}`},
	)...)
	long := "put 0 " + strings.Repeat(" ", api.MaxScript-100) + "x"
	if got, want := answers("platform 1 1 1\n", long), fmt.Sprintf("{\"ok\":false,\"error\":20,\"at\":%d}\n", api.MaxScript-100); got != want {
		t.Errorf("put of a long text: %q, want %q", got, want)
	}
}
