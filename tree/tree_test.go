package tree_test

import (
	"math"
	"math/rand"
	"slices"
	"strconv"
	"strings"
	"testing"

	"spillway/api"
	"spillway/stat"
	"spillway/tree"
)

func check(t *testing.T, what string, err api.Errno) {
	t.Helper()
	if err != api.OK {
		t.Fatalf("%s: %v", what, err)
	}
}

// The keys of nodes.
func whole() tree.Key { return tree.Key{Kind: tree.Whole} }

func entrance(context string) tree.Key { return tree.Key{Kind: tree.Entrance, Context: context} }

func inner(context, resource string) tree.Key {
	return tree.Key{Kind: tree.Inner, Context: context, Resource: resource}
}

func cluster(resource string) tree.Key { return tree.Key{Kind: tree.Cluster, Resource: resource} }

func source(resource, origin string) tree.Key {
	return tree.Key{Kind: tree.Source, Resource: resource, Origin: origin}
}

// call is one of a token.
func call(at int, resource, context, origin string, inbound bool) api.Call {
	return api.Call{At: at, Resource: resource, Context: context, Origin: origin, Inbound: inbound, Count: 1}
}

// checkTree holds all that a tree tells against the model.
func checkTree(t *testing.T, x *tree.Tree, m *model) {
	t.Helper()
	if got := x.All(); !slices.Equal(got, m.keys) {
		t.Fatalf("All = %v, want %v", got, m.keys)
	}
	if x.Last() != m.last {
		t.Fatalf("Last = %d, want %d", x.Last(), m.last)
	}
	for _, k := range m.keys {
		checkNode(t, x, m, k, m.last)
		checkNode(t, x, m, k, min(m.last+350000, api.MaxTime))
	}
}

func checkNode(t *testing.T, x *tree.Tree, m *model, k tree.Key, at int) {
	t.Helper()
	if !x.Has(k) {
		t.Fatalf("%v is not there", k)
	}
	n := x.Node(k)
	c, err := n.Sum(at)
	check(t, "a node's Sum", err)
	sum, flight, err := x.Sum(at, k)
	check(t, "Sum", err)
	if want := m.sum(at, k); c != want || sum != want || flight != m.flight(k) || n.Flight() != m.flight(k) {
		t.Fatalf("%v at %d: %+v, and %+v, %d, want %+v, %d", k, at, c, sum, flight, want, m.flight(k))
	}
}

// names are texts, and whether each is a name.
var names = map[string]bool{
	"a": true, "!": true, "~": true, "default": true, "other": true, strings.Repeat("n", 64): true,
	"": false, strings.Repeat("n", 65): false, "a b": false, " ": false, "a\n": false, "\x7f": false, "é": false, "\x00": false, "a\xff": false,
}

// The kinds are numbered as the document says.
func TestKinds(t *testing.T) {
	for i, k := range []tree.Kind{tree.Whole, tree.Entrance, tree.Inner, tree.Cluster, tree.Source} {
		if int(k) != i+1 {
			t.Errorf("the kind %d is %d", i+1, k)
		}
	}
}

// P10.1: the keys of a call, in order, with the names that their kinds name alone.
func TestKeys(t *testing.T) {
	tests := []struct {
		c    api.Call
		want []tree.Key
	}{
		{api.Call{Resource: "r", Context: "c"}, []tree.Key{inner("c", "r"), cluster("r"), entrance("c")}},
		{api.Call{Resource: "r", Context: "c", Origin: "o"}, []tree.Key{inner("c", "r"), cluster("r"), source("r", "o"), entrance("c")}},
		{api.Call{Resource: "r", Context: "c", Inbound: true}, []tree.Key{inner("c", "r"), cluster("r"), entrance("c"), whole()}},
		{api.Call{Resource: "r", Context: "c", Origin: "o", Inbound: true}, []tree.Key{inner("c", "r"), cluster("r"), source("r", "o"), entrance("c"), whole()}},
		{api.Call{Resource: "x", Context: "x", Origin: "x"}, []tree.Key{inner("x", "x"), cluster("x"), source("x", "x"), entrance("x")}},
		// All else in a call plays no part.
		{api.Call{At: -1, Resource: "r", Context: "c", Count: -1, Args: []string{""}}, []tree.Key{inner("c", "r"), cluster("r"), entrance("c")}},
	}
	for _, x := range tests {
		if got, err := tree.Keys(x.c); !slices.Equal(got, x.want) || err != api.OK {
			t.Errorf("Keys(%+v) = %v, %v, want %v", x.c, got, err, x.want)
		}
	}
}

// P10.1: a call's Resource and Context must be names, its Origin a name or empty; no key beside the error.
func TestKeysNames(t *testing.T) {
	for s, isName := range names {
		for what, x := range map[string]struct {
			c     api.Call
			right bool
		}{
			"Resource": {api.Call{Resource: s, Context: "c", Origin: "o", Inbound: true}, isName},
			"Context":  {api.Call{Resource: "r", Context: s, Origin: "o"}, isName},
			"Origin":   {api.Call{Resource: "r", Context: "c", Origin: s}, isName || s == ""},
		} {
			got, err := tree.Keys(x.c)
			if x.right != (err == api.OK) || !x.right && (err != api.ErrName || len(got) != 0) {
				t.Errorf("%s %q: %v, %v", what, s, got, err)
			}
			empty := tree.New()
			for name, err := range map[string]api.Errno{"Touch": empty.Touch(call(0, "r", "c", "", false), x.c), "Pass": empty.Pass(x.c), "Block": empty.Block(x.c), "Done": empty.Done(x.c, -1, false)} {
				if !x.right && err != api.ErrName || x.right && err == api.ErrName {
					t.Errorf("%s of %s %q: %v", name, what, s, err)
				}
			}
			if !x.right && len(empty.All()) != 0 {
				t.Errorf("%s %q: nodes came: %v", what, s, empty.All())
			}
		}
	}
}

// P10.1: Touch lets nodes come, each once, new ones behind, and notes no time.
func TestTouch(t *testing.T) {
	x := tree.New()
	if len(x.All()) != 0 || x.Last() != 0 || x.Has(whole()) || x.Node(whole()) != nil {
		t.Fatal("a new one has something")
	}
	check(t, "Touch of none", x.Touch())
	if len(x.All()) != 0 {
		t.Fatalf("of none: %v", x.All())
	}
	check(t, "Touch", x.Touch(api.Call{At: 500, Resource: "r", Context: "c", Origin: "o"}, api.Call{At: -7, Resource: "s", Context: "c", Inbound: true, Count: -1}))
	want := []tree.Key{inner("c", "r"), cluster("r"), source("r", "o"), entrance("c"), inner("c", "s"), cluster("s"), whole()}
	if got := x.All(); !slices.Equal(got, want) {
		t.Errorf("All = %v, want %v", got, want)
	}
	check(t, "Touch", x.Touch(call(0, "s", "d", "o", false), call(0, "r", "c", "", true)))
	want = append(want, inner("d", "s"), source("s", "o"), entrance("d"))
	if got := x.All(); !slices.Equal(got, want) || x.Last() != 0 {
		t.Errorf("All = %v, want %v; Last %d", got, want, x.Last())
	}
	for _, k := range want {
		c, flight, err := x.Sum(0, k)
		if !x.Has(k) || x.Node(k) == nil || c != (api.Counts{}) || flight != 0 || err != api.OK {
			t.Errorf("%v: %+v, %d, %v", k, c, flight, err)
		}
	}
}

// P10.1: the error of the first call that has one; then none of the others has come.
func TestTouchErrName(t *testing.T) {
	x := tree.New()
	check(t, "Touch", x.Touch(call(0, "r", "c", "", false)))
	was := x.All()
	for i := range 3 {
		calls := []api.Call{call(0, "s", "d", "o", true), call(0, "t", "d", "o", true), call(0, "u", "e", "", true)}
		calls[i].Context = "a b"
		if err := x.Touch(calls...); err != api.ErrName || !slices.Equal(x.All(), was) {
			t.Errorf("%d: %v, %v", i, err, x.All())
		}
	}
}

// fill is a tree of as many nodes as may be, but for so many: of the resources r0, r1 and so on in the context c.
func fill(t *testing.T, spare int) (*tree.Tree, *model) {
	t.Helper()
	x, m := tree.New(), &model{}
	fresh := func(c api.Call) {
		check(t, "Touch", x.Touch(c))
		check(t, "touch", m.touch(c))
	}
	left := api.MaxNodes - spare
	fresh(call(0, "r0", "c", "", false))
	left -= 3
	if left%2 == 1 {
		fresh(call(0, "r0", "c", "odd", false))
	}
	for i := range left / 2 {
		fresh(call(0, "r"+strconv.Itoa(i+1), "c", "", false))
	}
	checkTree(t, x, m)
	if len(m.keys) != api.MaxNodes-spare {
		t.Fatalf("%d nodes", len(m.keys))
	}
	return x, m
}

// P10.1: ErrFull, if there would be more than MaxNodes nodes: then none comes; behind ErrName, wherever that is.
func TestTouchErrFull(t *testing.T) {
	five := call(0, "new", "d", "o", true)
	tests := []struct {
		name  string
		spare int
		calls []api.Call
		err   api.Errno
	}{
		{"none more", 0, []api.Call{call(0, "r0", "c", "", false)}, api.OK},
		{"none at all", 0, nil, api.OK},
		{"just so many", 5, []api.Call{five}, api.OK},
		{"the same ones again", 5, []api.Call{five, five, call(0, "r1", "c", "", true)}, api.OK},
		{"just so many of two", 5, []api.Call{call(0, "new", "c", "", false), call(0, "new", "d", "", true)}, api.OK},
		{"one too many", 4, []api.Call{five}, api.ErrFull},
		{"one too many of the second", 5, []api.Call{five, call(0, "r1", "c", "o", false)}, api.ErrFull},
		{"one", 0, []api.Call{call(0, "r0", "c", "", true)}, api.ErrFull},
		{"too many, and a name", 0, []api.Call{five, call(0, "", "c", "", true)}, api.ErrName},
	}
	for _, test := range tests {
		x, m := fill(t, test.spare)
		if err := x.Touch(test.calls...); err != test.err || m.touch(test.calls...) != test.err {
			t.Errorf("%s: %v, want %v", test.name, err, test.err)
		}
		checkTree(t, x, m)
	}
	x := tree.New()
	var calls []api.Call
	for i := range 1000 {
		calls = append(calls, call(0, "r"+strconv.Itoa(i), "c", "", false))
	}
	if err := x.Touch(calls...); err != api.ErrFull || len(x.All()) != 0 {
		t.Errorf("of a thousand: %v, %d", err, len(x.All()))
	}
}

// The document's example.
func TestExample(t *testing.T) {
	x := tree.New()
	check(t, "Pass", x.Pass(call(5, "r", "c", "o", true)))
	if got := x.All(); len(got) != 5 {
		t.Errorf("the nodes are %v", got)
	}
	check(t, "Pass", x.Pass(call(5, "r", "c", "", false)))
	if got := x.All(); len(got) != 5 || x.Node(cluster("r")).Flight() != 2 || x.Node(source("r", "o")).Flight() != 1 || x.Node(whole()).Flight() != 1 {
		t.Errorf("%v: %d, %d", got, x.Node(cluster("r")).Flight(), x.Node(source("r", "o")).Flight())
	}
}

// noted is a tree at which something of each sort has happened, till the time 700000.
func noted(t *testing.T) (*tree.Tree, *model) {
	t.Helper()
	x, m := tree.New(), &model{}
	for i, c := range []api.Call{
		call(100000, "r", "c", "o", true), call(250000, "r", "d", "", false), call(250000, "s", "c", "o", true), call(700000, "r", "c", "o", true),
	} {
		c.Count = i + 2
		check(t, "Pass", x.Pass(c))
		check(t, "pass", m.pass(c))
	}
	end := call(700000, "r", "c", "o", true)
	check(t, "Done", x.Done(end, 600000, true))
	check(t, "done", m.done(end, 600000, true))
	check(t, "Block", x.Block(end))
	check(t, "block", m.block(end))
	checkTree(t, x, m)
	return x, m
}

// P10.2: Pass notes tokens and an entry, Block tokens, Done an end, at all nodes of the call and at no other.
func TestNotes(t *testing.T) {
	x, _ := noted(t)
	tests := []struct {
		k      tree.Key
		want   api.Counts
		flight int
	}{
		{whole(), api.Counts{Pass: 11, Block: 1, Done: 1, Errors: 1, RtSum: 600000, MinRt: 600000}, 2},
		{entrance("c"), api.Counts{Pass: 11, Block: 1, Done: 1, Errors: 1, RtSum: 600000, MinRt: 600000}, 2},
		{entrance("d"), api.Counts{Pass: 3}, 1},
		{inner("c", "r"), api.Counts{Pass: 7, Block: 1, Done: 1, Errors: 1, RtSum: 600000, MinRt: 600000}, 1},
		{inner("d", "r"), api.Counts{Pass: 3}, 1},
		{inner("c", "s"), api.Counts{Pass: 4}, 1},
		{cluster("r"), api.Counts{Pass: 10, Block: 1, Done: 1, Errors: 1, RtSum: 600000, MinRt: 600000}, 2},
		{cluster("s"), api.Counts{Pass: 4}, 1},
		{source("r", "o"), api.Counts{Pass: 7, Block: 1, Done: 1, Errors: 1, RtSum: 600000, MinRt: 600000}, 1},
		{source("s", "o"), api.Counts{Pass: 4}, 1},
	}
	for _, y := range tests {
		if c, flight, err := x.Sum(700000, y.k); c != y.want || flight != y.flight || err != api.OK {
			t.Errorf("%v: %+v, %d, %v, want %+v, %d", y.k, c, flight, err, y.want, y.flight)
		}
	}
	if got := len(x.All()); got != len(tests) {
		t.Errorf("there are %d nodes", got)
	}
	if n, err := x.Node(cluster("r")).Past(1500000); n != 10 || err != api.OK {
		t.Errorf("Past = %d, %v", n, err)
	}
}

// P10.2, P10.6: the errors of Pass and Block, in their order; with one nothing changes, no node comes and no time is noted.
func TestPassErrors(t *testing.T) {
	tests := []struct {
		name  string
		at    int
		count int
		err   api.Errno
	}{
		{"a time below 0", -1, 1, api.ErrRange},
		{"a time above all", api.MaxTime + 1, 1, api.ErrRange},
		{"the least time", math.MinInt, 1, api.ErrRange},
		{"the greatest time", math.MaxInt, 1, api.ErrRange},
		{"no tokens", 800000, 0, api.ErrRange},
		{"tokens below 0", 800000, -1, api.ErrRange},
		{"too many tokens", 800000, api.MaxCount + 1, api.ErrRange},
		{"the most tokens", 800000, math.MaxInt, api.ErrRange},
		{"back, and no tokens", 699999, 0, api.ErrRange},
		{"back", 699999, 1, api.ErrBack},
		{"at 0", 0, 1, api.ErrBack},
		{"at the same time", 700000, 1, api.OK},
		{"as many tokens as may be", 700000, api.MaxCount, api.OK},
		{"the last time", api.MaxTime, 1, api.OK},
	}
	for _, y := range tests {
		for _, resource := range []string{"r", "new"} {
			c := call(y.at, resource, "c", "o", true)
			c.Count = y.count
			x, m := noted(t)
			if err := x.Pass(c); err != y.err || m.pass(c) != y.err {
				t.Errorf("Pass, %s: %v, want %v", y.name, err, y.err)
			}
			checkTree(t, x, m)
			x, m = noted(t)
			if err := x.Block(c); err != y.err || m.block(c) != y.err {
				t.Errorf("Block, %s: %v, want %v", y.name, err, y.err)
			}
			checkTree(t, x, m)
			c.Origin = "a b"
			if err := x.Pass(c); err != api.ErrName {
				t.Errorf("Pass, %s, and a name: %v", y.name, err)
			}
			if err := x.Block(c); err != api.ErrName {
				t.Errorf("Block, %s, and a name: %v", y.name, err)
			}
		}
	}
}

// P10.2: a time that was noted in the tree is noted for all its nodes, those that come later too.
func TestTimeIsTheTrees(t *testing.T) {
	x, m := noted(t)
	for _, c := range []api.Call{call(699999, "s", "c", "o", true), call(699999, "new", "new", "", false), call(250000, "r", "d", "", false)} {
		for what, err := range map[string]api.Errno{"Pass": x.Pass(c), "Block": x.Block(c), "Done": x.Done(c, 0, false)} {
			if err != api.ErrBack {
				t.Errorf("%s of %+v: %v", what, c, err)
			}
		}
	}
	if _, _, err := x.Sum(699999, entrance("d")); err != api.ErrBack {
		t.Errorf("Sum: %v", err)
	}
	checkTree(t, x, m)
	// Each of the three lets its time be noted.
	for i, note := range []func(c api.Call) api.Errno{x.Pass, x.Block, func(c api.Call) api.Errno { return x.Done(c, 1, false) }} {
		c := call(800000+i, "s", "c", "", false)
		check(t, "a note", note(c))
		if x.Last() != 800000+i {
			t.Errorf("Last = %d", x.Last())
		}
	}
}

// P10.2: Pass and Block have ErrFull as Touch has it, behind the errors of numbers and times; then nothing changes.
func TestNoteErrFull(t *testing.T) {
	for _, at := range []int{-1, 4, 5} {
		want := map[int]api.Errno{-1: api.ErrRange, 4: api.ErrBack, 5: api.ErrFull}[at]
		x, m := fill(t, 4)
		c := call(5, "r1", "c", "", false)
		check(t, "Pass", x.Pass(c))
		check(t, "pass", m.pass(c))
		c = call(at, "new", "d", "o", true)
		if err := x.Pass(c); err != want {
			t.Errorf("Pass at %d: %v, want %v", at, err, want)
		}
		if err := x.Block(c); err != want {
			t.Errorf("Block at %d: %v, want %v", at, err, want)
		}
		checkTree(t, x, m)
		c = call(5, "new", "d", "", true)
		check(t, "Pass", x.Pass(c))
		check(t, "pass", m.pass(c))
		check(t, "Block", x.Block(c))
		check(t, "block", m.block(c))
		checkTree(t, x, m)
	}
}

// crowd is a tree in which as many entries as may be are in flight at the node Whole: those of r in c, and some of s in d.
func crowd(t *testing.T) *tree.Tree {
	t.Helper()
	x := tree.New()
	for range api.MaxEntries - 10 {
		check(t, "Pass", x.Pass(call(7, "r", "c", "o", true)))
	}
	for range 10 {
		check(t, "Pass", x.Pass(call(7, "s", "d", "", true)))
	}
	return x
}

// P10.2, P10.6: Pass has ErrFull, if a node of the call would have more than MaxEntries in flight; then no node notes it, and none comes.
func TestPassTooManyEntries(t *testing.T) {
	x := crowd(t)
	was := x.All()
	for _, c := range []api.Call{call(8, "r", "c", "o", true), call(8, "s", "d", "", true), call(8, "new", "new", "new", true)} {
		if err := x.Pass(c); err != api.ErrFull {
			t.Errorf("Pass of %+v: %v", c, err)
		}
	}
	if err := x.Pass(call(6, "r", "c", "o", true)); err != api.ErrBack {
		t.Errorf("and back: %v", err)
	}
	if c, flight, _ := x.Sum(7, cluster("r"), cluster("s")); c.Pass != api.MaxEntries || flight != api.MaxEntries || x.Last() != 7 || !slices.Equal(x.All(), was) {
		t.Errorf("%+v, %d, Last %d, %v", c, flight, x.Last(), x.All())
	}
	// Calls from inside are not of the Whole.
	check(t, "Pass", x.Pass(call(7, "s", "d", "", false)))
	check(t, "Block", x.Block(call(7, "r", "c", "o", true)))
	for range 10 {
		check(t, "Pass", x.Pass(call(7, "r", "c", "", false)))
	}
	for _, c := range []api.Call{call(7, "r", "c", "", false), call(7, "r", "d", "", false), call(7, "s", "c", "", false)} {
		if err := x.Pass(c); err != api.ErrFull {
			t.Errorf("Pass of %+v: %v", c, err)
		}
	}
	check(t, "Done", x.Done(call(7, "r", "c", "o", true), 0, false))
	check(t, "Pass", x.Pass(call(7, "r", "d", "o", true)))
	if err := x.Pass(call(7, "s", "e", "", true)); err != api.ErrFull || x.Has(entrance("e")) {
		t.Errorf("one more: %v", err)
	}
}

// P10.2, P10.6: the errors of Done, in their order; with one nothing changes.
func TestDoneErrors(t *testing.T) {
	here, there := call(700000, "r", "c", "o", true), call(700000, "new", "c", "", true)
	at := func(c api.Call, at int) api.Call { c.At = at; return c }
	tests := []struct {
		name string
		c    api.Call
		rt   int
		err  api.Errno
	}{
		{"a name, and all else", call(-1, "", "c", "", true), -1, api.ErrName},
		{"a time below 0", at(here, -1), 5, api.ErrRange},
		{"a time above all", at(here, api.MaxTime+1), 5, api.ErrRange},
		{"it took less than 0", here, -1, api.ErrRange},
		{"it took the least number", here, math.MinInt, api.ErrRange},
		{"it took more than all", here, api.MaxTime + 1, api.ErrRange},
		{"it took less than 0, and back", at(here, 699999), -1, api.ErrRange},
		{"it took less than 0, of none", there, -1, api.ErrRange},
		{"back", at(here, 699999), 5, api.ErrBack},
		{"back, of none", at(there, 0), 5, api.ErrBack},
		{"no node", there, 5, api.ErrNone},
		{"one of its nodes alone is not there", call(700000, "r", "c", "p", true), 5, api.ErrNone},
		{"its context is not there", call(700000, "r", "x", "", true), 5, api.ErrNone},
		{"just now", here, 0, api.OK},
		{"as long as may be", here, api.MaxTime, api.OK},
		{"later", at(here, api.MaxTime), 5, api.OK},
	}
	for _, y := range tests {
		for _, failed := range []bool{false, true} {
			for _, count := range []int{1, 0, -1, math.MaxInt} {
				x, m := noted(t)
				y.c.Count = count
				if err := x.Done(y.c, y.rt, failed); err != y.err || m.done(y.c, y.rt, failed) != y.err {
					t.Errorf("%s: %v, want %v", y.name, err, y.err)
				}
				checkTree(t, x, m)
			}
		}
	}
}

// P10.2: Done has ErrNone, if any node of the call has nothing in flight, and then no other one notes it.
func TestDoneOfNone(t *testing.T) {
	x, m := tree.New(), &model{}
	both := func(c api.Call) {
		check(t, "Pass", x.Pass(c))
		check(t, "pass", m.pass(c))
	}
	none := func(c api.Call) {
		t.Helper()
		if err := x.Done(c, 1, true); err != api.ErrNone || m.done(c, 1, true) != api.ErrNone {
			t.Errorf("Done of %+v: %v", c, err)
		}
		checkTree(t, x, m)
	}
	touched := []api.Call{call(0, "r", "c", "o", true), call(0, "r", "d", "p", true), call(0, "s", "d", "o", true)}
	check(t, "Touch", x.Touch(touched...))
	check(t, "touch", m.touch(touched...))
	none(call(0, "r", "c", "o", true))
	both(call(1, "r", "c", "", false))
	none(call(1, "r", "c", "", true))                        // the Whole has none
	none(call(1, "r", "c", "o", false))                      // the Source
	none(call(1, "r", "d", "", false))                       // the Inner, and the Entrance
	none(call(1, "s", "c", "", false))                       // the Cluster
	both(call(2, "s", "d", "o", true))                       // now each kind has some
	none(call(2, "r", "d", "", false))                       // the Inner alone has none
	none(call(2, "r", "c", "o", true))                       // the Source alone
	check(t, "Block", x.Block(call(2, "r", "d", "p", true))) // a block is no entry
	check(t, "block", m.block(call(2, "r", "d", "p", true)))
	none(call(2, "r", "d", "p", true))
	end := call(3, "s", "d", "o", true)
	check(t, "Done", x.Done(end, 1, true))
	check(t, "done", m.done(end, 1, true))
	none(end)
}

// P10.3: Node is a Fork: what becomes of it changes nothing of the tree, nor the other way round.
func TestNode(t *testing.T) {
	x, m := noted(t)
	for _, k := range x.All() {
		n := x.Node(k)
		check(t, "Pass", n.Pass(900000, 99))
		check(t, "Block", n.Block(5000000, 99))
	}
	checkTree(t, x, m)
	n := x.Node(cluster("r"))
	was, _ := n.Sum(800000)
	check(t, "Pass", x.Pass(call(800000, "r", "c", "o", true)))
	if c, _ := n.Sum(800000); c != was || n.Last() != 700000 || n.Flight() != 2 {
		t.Errorf("%+v, Last %d, Flight %d", c, n.Last(), n.Flight())
	}
	for _, k := range []tree.Key{
		{}, cluster("new"), inner("r", "c"), inner("d", "s"), source("r", "p"), entrance("r"),
		{Kind: tree.Whole, Context: "c"}, {Kind: tree.Cluster, Context: "c", Resource: "r"}, {Kind: tree.Cluster, Resource: "r", Origin: "o"},
		{Kind: tree.Entrance, Context: "c", Resource: "r"}, {Resource: "r"}, {Kind: 6}, {Kind: 255, Resource: "r"}, {Kind: tree.Inner, Context: "c", Resource: "r", Origin: "o"},
	} {
		if x.Node(k) != nil || x.Has(k) {
			t.Errorf("%v is there", k)
		}
	}
}

// P10.3: Of are the keys of a kind whose resource it is, in the order in which they came.
func TestOf(t *testing.T) {
	x := tree.New()
	check(t, "Touch", x.Touch(call(0, "r", "c", "q", false), call(0, "s", "c", "o", false), call(0, "r", "b", "o", true), call(0, "r", "d", "q", true), call(0, "c", "r", "r", true)))
	tests := []struct {
		kind     tree.Kind
		resource string
		want     []tree.Key
	}{
		{tree.Inner, "r", []tree.Key{inner("c", "r"), inner("b", "r"), inner("d", "r")}},
		{tree.Inner, "s", []tree.Key{inner("c", "s")}},
		{tree.Inner, "b", nil},
		{tree.Inner, "", nil},
		{tree.Cluster, "r", []tree.Key{cluster("r")}},
		{tree.Cluster, "c", []tree.Key{cluster("c")}},
		{tree.Source, "r", []tree.Key{source("r", "q"), source("r", "o")}},
		{tree.Source, "o", nil},
		{tree.Entrance, "r", nil},
		// Of these kinds the resource is empty.
		{tree.Entrance, "", []tree.Key{entrance("c"), entrance("b"), entrance("d"), entrance("r")}},
		{tree.Whole, "", []tree.Key{whole()}},
		{tree.Whole, "r", nil},
		{0, "r", nil},
		{0, "", nil},
		{6, "r", nil},
	}
	for _, y := range tests {
		if got := x.Of(y.kind, y.resource); !slices.Equal(got, y.want) {
			t.Errorf("Of(%d, %q) = %v, want %v", y.kind, y.resource, got, y.want)
		}
	}
}

// P10.3: Sum is of nodes together, as often as they stand there, and what is in flight.
func TestSum(t *testing.T) {
	x, m := noted(t)
	r, s := cluster("r"), cluster("s")
	tests := []struct {
		name   string
		at     int
		keys   []tree.Key
		want   api.Counts
		flight int
	}{
		{"none", 700000, nil, api.Counts{}, 0},
		{"one", 700000, []tree.Key{s}, api.Counts{Pass: 4}, 1},
		{"two", 700000, []tree.Key{r, s}, api.Counts{Pass: 14, Block: 1, Done: 1, Errors: 1, RtSum: 600000, MinRt: 600000}, 3},
		{"one three times", 700000, []tree.Key{s, s, s}, api.Counts{Pass: 12}, 3},
		{"as the first left", 1100000, []tree.Key{r, s}, api.Counts{Pass: 12, Block: 1, Done: 1, Errors: 1, RtSum: 600000, MinRt: 600000}, 3},
		{"as all left", api.MaxTime, []tree.Key{r, s}, api.Counts{}, 3},
	}
	for _, y := range tests {
		if c, flight, err := x.Sum(y.at, y.keys...); c != y.want || flight != y.flight || err != api.OK {
			t.Errorf("%s: %+v, %d, %v, want %+v, %d", y.name, c, flight, err, y.want, y.flight)
		}
	}
	checkTree(t, x, m)
}

// P10.3, P2: the errors of Sum, in their order, and nothing beside.
func TestSumErrors(t *testing.T) {
	x, m := noted(t)
	tests := []struct {
		at   int
		keys []tree.Key
		err  api.Errno
	}{
		{-1, nil, api.ErrRange},
		{api.MaxTime + 1, []tree.Key{cluster("r")}, api.ErrRange},
		{-1, []tree.Key{cluster("new")}, api.ErrRange},
		{699999, nil, api.ErrBack},
		{699999, []tree.Key{cluster("s")}, api.ErrBack},
		{699999, []tree.Key{cluster("new")}, api.ErrBack},
		{700000, []tree.Key{cluster("new")}, api.ErrNone},
		{700000, []tree.Key{cluster("r"), cluster("s"), {}}, api.ErrNone},
		{api.MaxTime, []tree.Key{{}, cluster("r")}, api.ErrNone},
	}
	for _, y := range tests {
		if c, flight, err := x.Sum(y.at, y.keys...); c != (api.Counts{}) || flight != 0 || err != y.err {
			t.Errorf("Sum(%d, %v) = %+v, %d, %v, want %v", y.at, y.keys, c, flight, err, y.err)
		}
	}
	if _, _, err := tree.New().Sum(0, whole()); err != api.ErrNone {
		t.Errorf("of a new one: %v", err)
	}
	checkTree(t, x, m)
}

// some is a call of any names, a few of them.
func some(r *rand.Rand, at int) api.Call {
	return api.Call{
		At:       at,
		Resource: []string{"r", "s", "t"}[r.Intn(3)],
		Context:  []string{"c", "d"}[r.Intn(2)],
		Origin:   []string{"", "o", "p"}[r.Intn(3)],
		Inbound:  r.Intn(2) == 1,
		Count:    1 + r.Intn(5),
	}
}

// step lets a tree and the model have the same call; of both the same must come.
func step(t *testing.T, r *rand.Rand, x *tree.Tree, m *model, at int) {
	t.Helper()
	c := some(r, at)
	switch r.Intn(20) {
	case 0:
		c.Count = []int{0, -1, api.MaxCount, api.MaxCount + 1}[r.Intn(4)]
	case 1:
		c.At = []int{-1, at - 1, 0, api.MaxTime + 1}[r.Intn(4)]
	case 2:
		c.Origin = "a b"
	}
	var got, want api.Errno
	switch r.Intn(8) {
	case 0:
		d := some(r, at)
		got, want = x.Touch(c, d), m.touch(c, d)
	case 1, 2, 3:
		got, want = x.Pass(c), m.pass(c)
	case 4:
		got, want = x.Block(c), m.block(c)
	default:
		rt, failed := r.Intn(100)-1, r.Intn(2) == 1
		got, want = x.Done(c, rt, failed), m.done(c, rt, failed)
	}
	if got != want {
		t.Fatalf("%+v: %v, want %v", c, got, want)
	}
}

// P10.2, P10.3, P10.5, P10.6: calls of all kinds against the document, those that are refused among them.
func TestAgainstModel(t *testing.T) {
	r := rand.New(rand.NewSource(10))
	for range 12 {
		x, m, at := tree.New(), &model{}, r.Intn(3*api.Second)
		for range 150 {
			at += []int{0, r.Intn(1000), r.Intn(300000), r.Intn(api.Second)}[r.Intn(4)]
			was := x.All()
			step(t, r, x, m, at)
			if got := x.All(); len(got) < len(was) || !slices.Equal(got[:len(was)], was) {
				t.Fatalf("All was %v, and is %v", was, got)
			}
			checkTree(t, x, m)
		}
	}
}

// P10.4: a resource's Cluster has the sums of its Inner nodes, and with calls from outside alone the Whole those of all Clusters.
func TestSumsTogether(t *testing.T) {
	r := rand.New(rand.NewSource(104))
	for range 30 {
		x, at := tree.New(), 0
		for range 200 {
			at += r.Intn(30000)
			c := some(r, at)
			c.Inbound = true
			switch r.Intn(3) {
			case 0:
				check(t, "Pass", x.Pass(c))
			case 1:
				check(t, "Block", x.Block(c))
			default:
				x.Done(c, r.Intn(50), r.Intn(2) == 1)
			}
		}
		later := at + r.Intn(api.Second)
		var clusters []tree.Key
		for _, resource := range []string{"r", "s", "t"} {
			same(t, x, later, []tree.Key{cluster(resource)}, x.Of(tree.Inner, resource))
			clusters = append(clusters, x.Of(tree.Cluster, resource)...)
		}
		same(t, x, later, []tree.Key{whole()}, clusters)
	}
}

// same holds the sums of nodes against those of others.
func same(t *testing.T, x *tree.Tree, at int, a, b []tree.Key) {
	t.Helper()
	c, n, err := x.Sum(at, a...)
	d, m, e := x.Sum(at, b...)
	if c != d || n != m || err != api.OK || e != api.OK || len(b) < 2 {
		t.Errorf("%v: %+v, %d, %v; %v: %+v, %d, %v", a, c, n, err, b, d, m, e)
	}
}

// P3, P10.3: what is handed in stays, and what is answered is the caller's.
func TestLists(t *testing.T) {
	x, m := noted(t)
	c := call(700000, "r", "c", "o", true)
	spoil := func(l []tree.Key) {
		for i := range l {
			l[i] = tree.Key{}
		}
		_ = append(l, tree.Key{})
	}
	keys, _ := tree.Keys(c)
	spoil(keys)
	spoil(x.All())
	spoil(x.Of(tree.Inner, "r"))
	checkTree(t, x, m)
	all := x.All()
	check(t, "Touch", x.Touch(call(0, "new", "new", "new", true)))
	if !slices.Equal(all, m.keys) {
		t.Errorf("what was answered became %v", all)
	}
	calls := []api.Call{call(1, "u", "c", "", false), call(2, "v", "c", "", false), call(3, "w", "c", "", false)}
	check(t, "Touch", x.Touch(calls[:2]...))
	if calls[0].Resource != "u" || calls[1].Resource != "v" || calls[2].Resource != "w" || x.Has(cluster("w")) {
		t.Errorf("the calls became %+v", calls)
	}
	list := []tree.Key{cluster("r"), cluster("s"), whole()}
	check(t, "Sum", func() api.Errno { _, _, err := x.Sum(700000, list[:2]...); return err }())
	if !slices.Equal(list, []tree.Key{cluster("r"), cluster("s"), whole()}) {
		t.Errorf("the keys became %v", list)
	}
}

// P4, P10.3: of a tree and its Fork the one has nothing of what happens at the other one.
func TestFork(t *testing.T) {
	r := rand.New(rand.NewSource(4))
	x, m := noted(t)
	y, n := x.Fork(), m.fork()
	checkTree(t, y, n)
	at := 700000
	for range 100 {
		at += r.Intn(20000)
		step(t, r, x, m, at)
		checkTree(t, y, n)
	}
	checkTree(t, x, m)
	for i := range 100 {
		step(t, r, y, n, 700000+i*300)
		check(t, "Touch", y.Touch(call(0, "only-"+strconv.Itoa(i), "here", "", false)))
		check(t, "touch", n.touch(call(0, "only-"+strconv.Itoa(i), "here", "", false)))
	}
	checkTree(t, x, m)
	checkTree(t, y, n)
	empty := tree.New().Fork()
	check(t, "Pass of a Fork of none", empty.Pass(call(1, "r", "c", "", false)))
}

// P1, P2: a nil tree answers zero values, or ErrNil, which is named first.
func TestNilTree(t *testing.T) {
	var x *tree.Tree
	for _, c := range []api.Call{{}, call(5, "r", "c", "o", true), call(-1, "", "", "", false)} {
		for what, err := range map[string]api.Errno{"Touch": x.Touch(c), "Touch of none": x.Touch(), "Pass": x.Pass(c), "Block": x.Block(c), "Done": x.Done(c, -1, true)} {
			if err != api.ErrNil {
				t.Errorf("%s: %v", what, err)
			}
		}
	}
	for _, at := range []int{-1, 0} {
		if c, flight, err := x.Sum(at, whole()); c != (api.Counts{}) || flight != 0 || err != api.ErrNil {
			t.Errorf("Sum: %+v, %d, %v", c, flight, err)
		}
	}
	var none *stat.Node
	if x.Node(whole()) != none || x.Has(whole()) || len(x.All()) != 0 || len(x.Of(tree.Cluster, "r")) != 0 || x.Last() != 0 || x.Fork() != nil {
		t.Error("it has something")
	}
}
