package guard_test

import (
	"fmt"
	"math/rand"
	"slices"
	"strings"
	"testing"

	"spillway/api"
	"spillway/guard"
)

func white(resource string, origins ...string) api.Authority {
	return api.Authority{Resource: resource, White: true, Origins: origins}
}

func black(resource string, origins ...string) api.Authority {
	return api.Authority{Resource: resource, Origins: origins}
}

// many are so many origins.
func many(n int) []string {
	var l []string
	for i := range n {
		l = append(l, fmt.Sprint("app", i))
	}
	return l
}

// P16.3: a white list lets its origins pass, a black one all others; an empty origin passes; DOC.md's example 8.
func TestList(t *testing.T) {
	tests := []struct {
		r      api.Authority
		origin string
		want   bool
	}{
		{white("a", "app1"), "app1", true}, {white("a", "app1"), "app2", false}, {white("a", "app1"), "", true},
		{white("a", "app1", "app2"), "app2", true}, {white("a", "app1", "app2"), "app3", false},
		{black("a", "app1"), "app1", false}, {black("a", "app1"), "app2", true}, {black("a", "app1"), "", true},
		{black("a", "app1", "app2"), "app2", false}, {black("a", "app1", "app2"), "app3", true},
		{white("a", "app1"), "app", false}, {white("a", "app1"), "app11", false}, {white("a", "app1"), "APP1", false}, {white("a", "app1"), "app1 ", false},
		{white("a", api.DefaultName), "app1", false}, {black("a", api.OtherName), "app1", true}, {white("a", api.DefaultName), api.DefaultName, true},
		{white("a", "app1"), strings.Repeat("x", api.MaxName+1), false}, {black("a", "app1"), strings.Repeat("x", 1000), true}, {black("a", "app1"), " ", true},
		{white("a", many(api.MaxItems)...), "app31", true}, {white("a", many(api.MaxItems)...), "app32", false}, {black("a", many(api.MaxItems)...), "app31", false},
	}
	for _, x := range tests {
		was := slices.Clone(x.r.Origins)
		if got := guard.List(x.r, x.origin); got != x.want {
			t.Errorf("List(%+v, %q) = %v, want %v", x.r, x.origin, got, x.want)
		}
		if !slices.Equal(x.r.Origins, was) {
			t.Errorf("the origins became %v", x.r.Origins)
		}
	}
}

// wrongLists are lists that are not right, white and black.
func wrongLists() []api.Authority {
	var l []api.Authority
	for _, list := range []func(string, ...string) api.Authority{white, black} {
		l = append(l, list(""), list("", "app1"), list("a b", "app1"), list("a"), list("a", ""), list("a", "app1", "app 2"), list("a", "app1", "app1"), list("a", many(api.MaxItems+1)...), list(strings.Repeat("a", api.MaxName+1), "app1"))
	}
	return l
}

// P16.3: a list that is not right lets nobody pass, not even an empty origin.
func TestWrongList(t *testing.T) {
	for _, r := range wrongLists() {
		for _, origin := range []string{"app1", "app2", "app31", "nobody", "", "app 2"} {
			if guard.List(r, origin) {
				t.Errorf("List(%+v, %q) lets pass", r, origin)
			}
			if i, passes := guard.Lists([]api.Authority{white("other", "none"), r}, r.Resource, origin); i != 1 || passes {
				t.Errorf("Lists of %+v, %q = %d, %v", r, origin, i, passes)
			}
			if i, passes := guard.Lists([]api.Authority{r}, "another", origin); i != 1 || !passes {
				t.Errorf("Lists of another resource, of %+v, %q = %d, %v", r, origin, i, passes)
			}
		}
	}
}

// P16.3: Lists is the first of the resource's lists that does not let pass, or how many lists there are.
func TestLists(t *testing.T) {
	l := []api.Authority{white("b", "app9"), white("a", "app1", "app2", "app3"), black("a", "app2"), black("c", "app1"), black("a", "app2", "app3")}
	tests := []struct {
		l                []api.Authority
		resource, origin string
		number           int
		passes           bool
	}{
		{l, "a", "app1", 5, true}, {l, "a", "app2", 2, false}, {l, "a", "app3", 4, false}, {l, "a", "app4", 1, false}, {l, "a", "", 5, true},
		{l, "b", "app9", 5, true}, {l, "b", "app1", 0, false}, {l, "c", "app1", 3, false}, {l, "c", "app2", 5, true},
		{l, "d", "app1", 5, true}, {l, "", "app1", 5, true}, {l, "A", "app4", 5, true},
		{nil, "a", "app1", 0, true}, {l[:2], "a", "app1", 2, true}, {l[:1], "b", "app1", 0, false},
	}
	for _, x := range tests {
		if i, passes := guard.Lists(x.l, x.resource, x.origin); i != x.number || passes != x.passes {
			t.Errorf("Lists(%v, %q, %q) = %d, %v, want %d, %v", x.l, x.resource, x.origin, i, passes, x.number, x.passes)
		}
	}
	if !slices.Equal(l[1].Origins, []string{"app1", "app2", "app3"}) || len(l) != 5 {
		t.Errorf("the lists became %v", l)
	}
}

// P16.6: of a white and a black list of the same origins just one lets an origin pass that is not empty.
func TestWhiteOrBlack(t *testing.T) {
	r := rand.New(rand.NewSource(166))
	for range 500 {
		origins := many(1 + r.Intn(api.MaxItems))
		r.Shuffle(len(origins), func(i, j int) { origins[i], origins[j] = origins[j], origins[i] })
		origins = origins[:1+r.Intn(len(origins))]
		for _, origin := range append(many(api.MaxItems+2), "nobody", " ", strings.Repeat("x", 100)) {
			isWhite, isBlack := guard.List(white("a", origins...), origin), guard.List(black("a", origins...), origin)
			if isWhite == isBlack || isWhite != slices.Contains(origins, origin) {
				t.Fatalf("of %v white lets %q pass: %v, black: %v", origins, origin, isWhite, isBlack)
			}
		}
	}
}
