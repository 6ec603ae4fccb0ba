package json_test

import (
	"math/rand"
	"reflect"
	"slices"
	"strings"
	"testing"

	"spillway/api"
	"spillway/json"
)

// P8.4: a String has the text, whatever it is; an Array is of the values, in order.
func TestOfTextAndList(t *testing.T) {
	for _, s := range []string{"", "a", `"`, "\xff", "\x00", strings.Repeat("x", 70000)} {
		if got := json.OfText(s); !reflect.DeepEqual(got, text(s)) {
			t.Errorf("OfText(%.40q) = %+v", s, got)
		}
	}
	for _, l := range [][]api.Value{nil, {null()}, {number("1"), {}, text("x"), array(null()), object([]string{"a"}, null())}} {
		if got := json.List(l...); !json.Equal(got, array(l...)) || got.Kind != api.Array || len(got.List) != len(l) {
			t.Errorf("List of %+v = %+v", l, got)
		}
	}
}

// P8.4: Put lays a part behind all of an object; of what is none it begins one.
func TestPut(t *testing.T) {
	one := object([]string{"a"}, number("1"))
	tests := []struct {
		v    api.Value
		name string
		part api.Value
		want api.Value
	}{
		{object(nil), "a", number("1"), one},
		{one, "b", array(null()), object([]string{"a", "b"}, number("1"), array(null()))},
		{one, "a", text("again"), object([]string{"a", "a"}, number("1"), text("again"))},
		{one, "", one, object([]string{"a", ""}, number("1"), one)},
		{one, "x", api.Value{}, object([]string{"a", "x"}, number("1"), api.Value{})},
		{api.Value{}, "a", number("1"), one},
		{null(), "a", number("1"), one},
		{text("gone"), "a", number("1"), one},
		{array(null(), null()), "a", number("1"), one},
		{api.Value{Kind: api.Array, Names: []string{"n"}, List: []api.Value{null()}}, "a", number("1"), one},
		{api.Value{Kind: 9, Text: "gone"}, "a", number("1"), one},
	}
	for _, x := range tests {
		if got := json.Put(x.v, x.name, x.part); !reflect.DeepEqual(got, x.want) {
			t.Errorf("Put(%+v, %q, %+v) = %+v, want %+v", x.v, x.name, x.part, got, x.want)
		}
	}
}

// sample is a value with lists in lists, and room behind each of them, in which something stands.
func sample() api.Value {
	roomy := func(v api.Value) api.Value {
		v.List = append(slices.Clip(v.List), number("behind"))[:len(v.List)]
		v.Names = append(slices.Clip(v.Names), "behind")[:len(v.Names)]
		return v
	}
	inner := roomy(object([]string{"x", "y"}, number("1"), roomy(array(text("z"), null()))))
	return roomy(object([]string{"a", "b", "c"}, inner, roomy(array(inner, roomy(array()))), roomy(object(nil))))
}

// untouched tells whether a sample, and the room behind each of its lists, is as it was.
func untouched(v api.Value) bool {
	return reflect.DeepEqual(v, sample()) && roomsUntouched(v)
}

func roomsUntouched(v api.Value) bool {
	if v.Kind != api.Array && v.Kind != api.Object {
		return true
	}
	n, m := len(v.List), len(v.Names)
	if v.List[:n+1][n].Text != "behind" || v.Names[:m+1][m] != "behind" {
		return false
	}
	return !slices.ContainsFunc(v.List, func(part api.Value) bool { return !roomsUntouched(part) })
}

// scratch writes over all that a value has, and over the room behind.
func scratch(v api.Value) {
	for _, part := range v.List {
		scratch(part)
	}
	clear(v.List[:cap(v.List)])
	clear(v.Names[:cap(v.Names)])
}

// P3: what is answered shares no list with what was handed in, and no two lists of it are one; what is handed in stays as it is.
func TestSharesNothing(t *testing.T) {
	part := func(v api.Value, names ...string) api.Value {
		got, _ := json.Get(v, names...)
		return got
	}
	calls := map[string]func(v api.Value) api.Value{
		"Get":           func(v api.Value) api.Value { return part(v) },
		"Get by names":  func(v api.Value) api.Value { return part(v, "a") },
		"Get by two":    func(v api.Value) api.Value { return part(v, "a", "y") },
		"Get an array":  func(v api.Value) api.Value { return part(v, "b") },
		"List":          func(v api.Value) api.Value { return json.List(v, v) },
		"List of a one": func(v api.Value) api.Value { return json.List(v.List...) },
		"Put":           func(v api.Value) api.Value { return json.Put(v, "n", v) },
		"Put to none":   func(v api.Value) api.Value { return json.Put(null(), "n", v) },
		"Put a number":  func(v api.Value) api.Value { return json.Put(v, "n", number("1")) },
		"Put in a part": func(v api.Value) api.Value { return json.Put(v.List[0], "n", v.List[1]) },
	}
	for name, call := range calls {
		v := sample()
		got, again := call(v), call(v)
		if !untouched(v) {
			t.Errorf("%s changed what was handed in", name)
		}
		scratch(got)
		if !untouched(v) {
			t.Errorf("%s: writing into the answer changed what was handed in", name)
		}
		if !reflect.DeepEqual(again, call(sample())) {
			t.Errorf("%s: two answers share a list", name)
		}
		scratch(v)
		if !reflect.DeepEqual(again, call(sample())) {
			t.Errorf("%s: the answer has lists of what was handed in", name)
		}
		listsApart(t, name, again)
	}
	shared := []api.Value{number("1")}
	listsApart(t, "one list two times", part(array(array(shared...), array(shared...))))
	l := []api.Value{number("1"), number("2"), number("3")}
	if got := json.List(l[:2]...); len(got.List) != 2 || l[2].Text != "3" {
		t.Error("List wrote behind the list's end")
	}
}

// listsApart looks whether writing into one part of an answer shows in another one.
func listsApart(t *testing.T, name string, v api.Value) {
	t.Helper()
	seen := map[*api.Value]bool{}
	var walk func(v api.Value)
	walk = func(v api.Value) {
		for i, part := range v.List {
			if seen[&v.List[i]] {
				t.Fatalf("%s: two lists of the answer are one", name)
			}
			seen[&v.List[i]] = true
			walk(part)
		}
	}
	walk(v)
}

// P3: the other calls leave a value as it is, too; Parse answers lists of its own.
func TestChangesNothing(t *testing.T) {
	v := sample()
	s, err := json.Print(v)
	if err != api.OK || !json.Right(v) || json.Depth(v) != 4 || !json.Equal(v, sample()) || !untouched(v) {
		t.Errorf("%q, %v, depth %d", s, err, json.Depth(v))
	}
	one, _, _ := json.Parse(s)
	two, _, _ := json.Parse(s)
	scratch(one)
	if !json.Equal(two, v) {
		t.Error("two answers of Parse share a list")
	}
	listsApart(t, "Parse", two)
}

// made is a right value of any kind.
func made(r *rand.Rand, deep int) api.Value {
	kind := api.JsonKind(1 + r.Intn(7))
	if deep == 0 && kind > api.String {
		kind = api.String
	}
	v := api.Value{Kind: kind}
	switch kind {
	case api.Number:
		v.Text = []string{"0", "-0", "1.50e1", "-7", "1E400", "0.000", "12345678901234567890"}[r.Intn(7)]
	case api.String:
		v.Text = madeText(r)
	case api.Array, api.Object:
		for range r.Intn(5) {
			v.List = append(v.List, made(r, deep-1))
			if kind == api.Object {
				v.Names = append(v.Names, madeText(r))
			}
		}
	}
	return v
}

func madeText(r *rand.Rand) string {
	runes := []rune{0, 1, 8, 9, 10, 12, 13, 31, 32, '"', '\\', '/', 'a', 'u', 127, 128, 0x7ff, 0x800, 0xd7ff, 0xe000, 0xfffd, 0xffff, 0x10000, 0x10ffff, 0x2028}
	var b strings.Builder
	for range r.Intn(6) {
		b.WriteRune(runes[r.Intn(len(runes))])
	}
	return b.String()
}

// P8.5, E9: Parse of Print is the value; what Parse takes is printed, and read again, as the same value.
func TestThereAndBack(t *testing.T) {
	r := rand.New(rand.NewSource(12))
	for range 20000 {
		v := made(r, 5)
		s, err := json.Print(v)
		if err != api.OK || s != written(v) {
			t.Fatalf("Print(%+v) = %q, %v, want %q", v, s, err, written(v))
		}
		takes(t, s, v)
		if !json.Right(v) || !json.Equal(v, v) {
			t.Fatalf("%q: it is right, and the same as itself", s)
		}
	}
	for range 20000 {
		v, err, _ := json.Parse(grown(r, 4))
		s, printErr := json.Print(v)
		if err != api.OK || printErr != api.OK {
			t.Fatalf("%v, %v of %+v", err, printErr, v)
		}
		takes(t, s, v)
	}
}

// P8.5: the longest texts that Parse takes can be printed.
func TestLongThereAndBack(t *testing.T) {
	for _, part := range []string{`\u0001`, `\ud83d`, `\ud83d\ude00`, `\n`, `\/`, "é", "x"} {
		s := `"` + strings.Repeat(part, 65534/len(part)) + `"`
		v, err, _ := json.Parse(s)
		printed, printErr := json.Print(v)
		if err != api.OK || printErr != api.OK || len(printed) > len(s) {
			t.Fatalf("%q: %v, %v, %d bytes", part, err, printErr, len(printed))
		}
		takes(t, printed, v)
	}
	for _, part := range []string{"1", "[]", "{}", `""`, "[[],1]", `{"":null}`} {
		s := "[" + strings.Repeat(part+",", 65000/(len(part)+1)) + part + "]"
		v, err, _ := json.Parse(s)
		printed, printErr := json.Print(v)
		if err != api.OK || printErr != api.OK || printed != s {
			t.Fatalf("%q: %v, %v, %d bytes", part, err, printErr, len(printed))
		}
	}
}
