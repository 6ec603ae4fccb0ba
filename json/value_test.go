package json_test

import (
	"math/rand"
	"reflect"
	"slices"
	"strings"
	"testing"

	"spillway/api"
	"spillway/json"
)

// chain is so many arrays, one in the other, the last one without parts.
func chain(n int) api.Value {
	v := array()
	for range n - 1 {
		v = array(v)
	}
	return v
}

// wide is an array of so many values in all, itself too.
func wide(n int) api.Value {
	l := make([]api.Value, n-1)
	for i := range l {
		l[i] = null()
	}
	return array(l...)
}

// twice is arrays, in each of them one list two times: of a few lists more values than can be counted.
func twice(n int) api.Value {
	v := number("1")
	for range n {
		v = array(v, v)
	}
	return v
}

// knot is an array that has itself as a part.
func knot() api.Value {
	l := make([]api.Value, 1)
	l[0] = array(l...)
	return l[0]
}

// knots is an object that has itself as a part, two times, and a number.
func knots() api.Value {
	v := object([]string{"a", "b", "c"}, make([]api.Value, 3)...)
	v.List[0], v.List[1], v.List[2] = v, v, number("7")
	return v
}

// P8.2: which values are right; Print has ErrForm of all others.
func TestRight(t *testing.T) {
	tests := []struct {
		name string
		v    api.Value
		want bool
	}{
		{"null", null(), true}, {"false", api.Value{Kind: api.False}, true}, {"true", api.Value{Kind: api.True}, true},
		{"a Kind that is none", api.Value{}, false}, {"one behind all", api.Value{Kind: api.Object + 1}, false}, {"the last there is room for", api.Value{Kind: 255}, false},
		{"empty lists", api.Value{Kind: api.Null, List: []api.Value{}, Names: []string{}}, true},
		{"null with a Text", api.Value{Kind: api.Null, Text: "null"}, false},
		{"false with a part", api.Value{Kind: api.False, List: []api.Value{null()}}, false},
		{"true with a name", api.Value{Kind: api.True, Names: []string{""}}, false},
		{"a number with a part", api.Value{Kind: api.Number, Text: "1", List: []api.Value{null()}}, false},
		{"a number with a name", api.Value{Kind: api.Number, Text: "1", Names: []string{""}}, false},
		{"a string with a part", api.Value{Kind: api.String, List: []api.Value{null()}}, false},
		{"a string with a name", api.Value{Kind: api.String, Names: []string{""}}, false},
		{"an array with a Text", api.Value{Kind: api.Array, Text: "x"}, false},
		{"an array with a name", api.Value{Kind: api.Array, List: []api.Value{null()}, Names: []string{"a"}}, false},
		{"an object with a Text", api.Value{Kind: api.Object, Text: "x"}, false},
		{"an object with a name more", object([]string{"a", "b"}, null()), false},
		{"an object with a part more", object([]string{"a"}, null(), null()), false},
		{"an object", object([]string{"a", "a"}, null(), null()), true},
		{"an object without parts", object(nil), true},
		{"a name that is no UTF-8", object([]string{"a", "\xff"}, null(), null()), false},
		{"a string that is no UTF-8", text("a\x80"), false},
		{"a surrogate", text("\xed\xa0\x80"), false}, {"an overlong one", text("\xc0\x80"), false}, {"half a rune", text("\xe2\x82"), false}, {"too great a rune", text("\xf4\x90\x80\x80"), false},
		{"a string of any bytes below 128", text("\x00\x1f\"\\\x7f"), true}, {"U+FFFD", text("\ufffd"), true}, {"U+10FFFF", text("\U0010ffff"), true},
		{"a string longer than a text", text(strings.Repeat("x", 70000)), true},
		{"a part that is wrong", array(null(), array(number("01"))), false},
		{"a member that is wrong", object([]string{"a"}, api.Value{}), false},
		{"as deep as may be", chain(64), true}, {"deeper", chain(65), false}, {"an object at the bottom", nest(64), true}, {"deeper in objects", nest(65), false},
		{"a value at the bottom", under(64, number("1")), true}, {"a string in what is too deep", under(65, text("")), false},
		{"as many as may be", wide(65536), true}, {"one more", wide(65537), false}, {"as many in two", array(wide(32768), wide(32767)), true}, {"one more in two", array(wide(32768), wide(32768)), false},
		{"more than can be counted", twice(100), false}, {"more than can be counted, not too deep", twice(60), false}, {"without an end", knot(), false}, {"without an end, of objects", knots(), false},
		{"a number as long as may be", number(strings.Repeat("1", 65536)), true}, {"a longer one", number(strings.Repeat("1", 65537)), false},
	}
	for _, x := range tests {
		if got := json.Right(x.v); got != x.want {
			t.Errorf("%s: %v", x.name, got)
		}
		s, err := json.Print(x.v)
		if (err == api.ErrForm) == x.want || err != api.OK && s != "" {
			t.Errorf("%s: Print: %v, %.40q", x.name, err, s)
		}
	}
}

// nest is so many objects, one in the other, the last one without parts.
func nest(n int) api.Value {
	v := object(nil)
	for range n - 1 {
		v = object([]string{"a"}, v)
	}
	return v
}

// under is a value in so many arrays.
func under(n int, v api.Value) api.Value {
	for range n {
		v = array(v)
	}
	return v
}

// P8.2: a Number's Text is one of the grammar, and nothing beside it.
func TestRightNumbers(t *testing.T) {
	tests := []string{"", "-", "0", "-0", "00", "01", "-01", "1", "10", "1.", ".1", "1.0", "1.00e1", "1e", "1e5", "1e05", "1e+5", "1E-5", "1e+", "1ee5", "1.e5", "1.5.5", "+1", " 1", "1 ", "1\n", "1x", "0x1", "1,2", "1_0", "NaN", "Infinity", "null", "[1]", "\"1\"", "١", "1\x00", "--1", "-1.5E+007", "1e5.5", "0e0", "0.0", "-.1"}
	r := rand.New(rand.NewSource(2))
	for range 20000 {
		b := make([]byte, r.Intn(7))
		for i := range b {
			b[i] = "0012-+.eE"[r.Intn(9)]
		}
		tests = append(tests, string(b))
	}
	for _, s := range tests {
		want := grammar.MatchString(s) && !strings.HasSuffix(s, "\n")
		if got := json.Right(number(s)); got != want {
			t.Errorf("%q: %v", s, got)
		}
		if got := json.Right(array(number(s))); got != want {
			t.Errorf("[%q]: %v", s, got)
		}
	}
}

// P8.2: how values are written, each byte of a string too.
func TestPrint(t *testing.T) {
	tests := map[string]api.Value{
		"null": null(), "true": {Kind: api.True}, "false": {Kind: api.False},
		"-1.50E+007": number("-1.50E+007"), "1e400": number("1e400"),
		`""`: text(""), `"/"`: text("/"), `"<é€𝄞>"`: text("<é€𝄞>"), "\"\u2028\x7f\"": text("\u2028\x7f"), `"\"\\"`: text(`"\`), `"\b\f\n\r\t"`: text("\b\f\n\r\t"), `"\u0000\u000b\u001f"`: text("\x00\x0b\x1f"),
		"[]": array(), "[[],{}]": array(array(), object(nil)), `[1,"aA",{"b":null}]`: array(number("1"), text("aA"), object([]string{"b"}, null())),
		"{}": object(nil), `{"a":1,"":[true],"a":{"\n":"\\"}}`: object([]string{"a", "", "a"}, number("1"), array(api.Value{Kind: api.True}), object([]string{"\n"}, text(`\`))),
	}
	for want, v := range tests {
		if got, err := json.Print(v); got != want || err != api.OK {
			t.Errorf("Print(%+v) = %q, %v, want %q", v, got, err, want)
		}
	}
	for b := range 128 {
		s := "a" + string([]byte{byte(b)}) + "b"
		for _, v := range []api.Value{text(s), object([]string{s}, null())} {
			if got, err := json.Print(v); got != written(v) || err != api.OK {
				t.Errorf("Print(%+v) = %q, %v, want %q", v, got, err, written(v))
			}
		}
	}
}

// P8.2: a text of at most MaxText bytes is told, a longer one has ErrLong, wherever it gets too long; a value that is not right has ErrForm ahead of that.
func TestPrintLong(t *testing.T) {
	x := strings.Repeat("x", 65536)
	tests := []struct {
		name string
		v    api.Value
		want api.Errno
	}{
		{"a string", text(x[:65534]), api.OK}, {"a string, one more", text(x[:65535]), api.ErrLong}, {"a string, two more", text(x), api.ErrLong}, {"a string, many more", text(strings.Repeat(x, 100)), api.ErrLong},
		{"escapes", text(strings.Repeat("\n", 32767)), api.OK}, {"escapes, one more", text(strings.Repeat("\n", 32767) + "x"), api.ErrLong}, {"an escape at the end", text(x[:65532] + "\n"), api.OK}, {"an escape at the end, one more", text(x[:65533] + "\n"), api.ErrLong},
		{"a number", number(strings.Repeat("1", 65536)), api.OK}, {"a number in an array", array(number(strings.Repeat("1", 65534))), api.OK}, {"a number in an array, one more", array(number(strings.Repeat("1", 65535))), api.ErrLong},
		{"a name", object([]string{x[:65528]}, null()), api.ErrLong}, {"a name that fits", object([]string{x[:65527]}, null()), api.OK},
		{"many", array(slices.Repeat([]api.Value{number("1")}, 32767)...), api.OK}, {"many more", array(slices.Repeat([]api.Value{number("1")}, 32768)...), api.ErrLong},
		{"long ones", array(slices.Repeat([]api.Value{text(strings.Repeat(x, 4))}, 1000)...), api.ErrLong},
		{"behind it something wrong", array(text(x), number("01")), api.ErrForm},
	}
	for _, x := range tests {
		s, err := json.Print(x.v)
		if err != x.want || err == api.OK && s != written(x.v) || err != api.OK && s != "" {
			t.Errorf("%s: %v, %d bytes, want %v", x.name, err, len(s), x.want)
		}
	}
}

// P8.2: how deep a value is, right or not.
func TestDepth(t *testing.T) {
	tests := []struct {
		name string
		v    api.Value
		want int
	}{
		{"null", null(), 0}, {"none", api.Value{}, 0}, {"a number", number("x"), 0}, {"a string", text(""), 0}, {"a Kind that is none, with parts", api.Value{Kind: 9, List: []api.Value{chain(3)}}, 0}, {"a string with parts", api.Value{Kind: api.String, List: []api.Value{chain(3)}}, 0},
		{"an array", array(), 1}, {"an object", object(nil), 1}, {"an array of parts", array(null(), text("")), 1}, {"an object without names", api.Value{Kind: api.Object, List: []api.Value{array()}}, 2},
		{"the deepest is the first", array(chain(5), chain(2), null()), 6}, {"the deepest is in the middle", array(null(), nest(7), chain(3)), 8},
		{"64", chain(64), 64}, {"65", chain(65), 65}, {"66", chain(66), 65}, {"1000", chain(1000), 65}, {"64 in objects", nest(64), 64}, {"66 in objects", nest(66), 65}, {"under 64", under(64, null()), 64}, {"under 70", under(70, text("")), 65},
		{"as many as may be", wide(65536), 1}, {"one more", wide(65537), 0}, {"one more, deeper", array(wide(40000), wide(40000)), 0}, {"more than can be counted", twice(100), 0}, {"more than can be counted, not too deep", twice(20), 0}, {"without an end", knot(), 0}, {"without an end, of objects", knots(), 0},
	}
	for _, x := range tests {
		if got := json.Depth(x.v); got != x.want {
			t.Errorf("%s: %d, want %d", x.name, got, x.want)
		}
	}
}

// P8.3: Get goes by names to the first part of each.
func TestGet(t *testing.T) {
	inner := object([]string{"x", "y", "x"}, number("1"), array(number("2")), number("3"))
	v := object([]string{"a", "b", "", "a", "arr"}, inner, null(), text("empty"), text("second"), array(inner))
	tests := []struct {
		names []string
		want  api.Value
		there bool
	}{
		{nil, v, true}, {[]string{"a"}, inner, true}, {[]string{"a", "x"}, number("1"), true}, {[]string{"a", "y"}, array(number("2")), true}, {[]string{""}, text("empty"), true}, {[]string{"b"}, null(), true},
		{[]string{"c"}, api.Value{}, false}, {[]string{"A"}, api.Value{}, false}, {[]string{"a", "z"}, api.Value{}, false}, {[]string{"a", "x", "x"}, api.Value{}, false}, {[]string{"b", "x"}, api.Value{}, false}, {[]string{"arr", "x"}, api.Value{}, false}, {[]string{"arr", "0"}, api.Value{}, false}, {[]string{"", ""}, api.Value{}, false}, {[]string{"c", "a"}, api.Value{}, false},
	}
	for _, x := range tests {
		if got, there := json.Get(v, x.names...); !reflect.DeepEqual(got, x.want) || there != x.there {
			t.Errorf("Get(%q) = %+v, %v, want %+v, %v", x.names, got, there, x.want, x.there)
		}
	}
	odd := []api.Value{
		{}, null(), number("1"), text("a"), array(v),
		{Kind: api.Array, Names: []string{"a"}, List: []api.Value{null()}},
		{Kind: api.Null, Names: []string{"a"}, List: []api.Value{null()}},
		{Kind: api.Object, Names: []string{"a"}}, {Kind: api.Object, Names: []string{"b", "a"}, List: []api.Value{null()}}, {Kind: api.Object, List: []api.Value{null()}},
	}
	for _, v := range odd {
		if got, there := json.Get(v, "a"); there || !reflect.DeepEqual(got, api.Value{}) {
			t.Errorf("Get(%+v) = %+v", v, got)
		}
		if got, there := json.Get(v); !there || !json.Equal(got, v) {
			t.Errorf("Get(%+v) without names = %+v, %v", v, got, there)
		}
	}
	if got, there := json.Get(api.Value{Kind: api.Object, Names: []string{"a", "b"}, List: []api.Value{number("4")}}, "a"); !there || got.Text != "4" {
		t.Errorf("an object with a name more: %+v, %v", got, there)
	}
}

// P1: Get, List and Put end, also of a value without an end, and of one with more values than can be counted.
func TestGreatValues(t *testing.T) {
	if v, there := json.Get(knots(), "a", "b", "a", "c"); !there || v.Text != "7" {
		t.Errorf("%+v, %v", v, there)
	}
	for _, v := range []api.Value{knot(), knots(), twice(60), twice(1000), chain(60000), wide(1<<20 + 2)} {
		got, there := json.Get(v)
		if !there || got.Kind != v.Kind || len(got.List) != len(v.List) || !slices.Equal(got.Names, v.Names) {
			t.Error("it is another value")
		}
		first := v.List[0].Kind
		got.List[0] = text("changed")
		if v.List[0].Kind != first {
			t.Error("the answer has the list of what was handed in")
		}
		if l := json.List(v, v); len(l.List) != 2 || len(l.List[1].List) != len(v.List) {
			t.Error("List of it")
		}
		if o := json.Put(v, "n", v); o.Names[len(o.Names)-1] != "n" || len(o.List[len(o.List)-1].List) != len(v.List) {
			t.Error("Put of it")
		}
		if _, whole := json.Whole(v); whole {
			t.Error("it is no number")
		}
	}
}

// P8.3: values are the same, if all they have is, in order, as deep as they go.
func TestEqual(t *testing.T) {
	v := func() api.Value {
		return object([]string{"a", "b"}, array(number("1"), text("x")), object([]string{"c"}, null()))
	}
	changes := map[string]func(v *api.Value){
		"the Kind":             func(v *api.Value) { v.Kind = api.Array },
		"a Text":               func(v *api.Value) { v.Text = "x" },
		"a name":               func(v *api.Value) { v.Names[1] = "z" },
		"a name fewer":         func(v *api.Value) { v.Names = v.Names[:1] },
		"a part fewer":         func(v *api.Value) { v.List = v.List[:1] },
		"a part more":          func(v *api.Value) { v.List = append(v.List, null()) },
		"names turned":         func(v *api.Value) { slices.Reverse(v.Names) },
		"parts turned":         func(v *api.Value) { slices.Reverse(v.List) },
		"a Text deeper":        func(v *api.Value) { v.List[0].List[0].Text = "1.0" },
		"a Kind deeper":        func(v *api.Value) { v.List[0].List[0].Kind = api.String },
		"the last one's Kind":  func(v *api.Value) { v.List[1].List[0].Kind = api.True },
		"a name deeper":        func(v *api.Value) { v.List[1].Names[0] = "C" },
		"a part of a number's": func(v *api.Value) { v.List[0].List[0].List = []api.Value{null()} },
		"a name of null's":     func(v *api.Value) { v.List[1].List[0].Names = []string{"n"} },
	}
	if !json.Equal(v(), v()) {
		t.Error("it is the same")
	}
	for name, change := range changes {
		other := v()
		change(&other)
		if json.Equal(v(), other) || json.Equal(other, v()) || !json.Equal(other, other) {
			t.Errorf("%s: they are not the same", name)
		}
	}
	tests := []struct {
		name string
		a, b api.Value
		want bool
	}{
		{"none", api.Value{}, api.Value{}, true}, {"empty lists", api.Value{Kind: api.Array, List: []api.Value{}, Names: []string{}}, array(), true}, {"numbers by their Texts", number("1"), number("1.0"), false},
		{"very deep", chain(60000), chain(60000), true}, {"one deeper", chain(60000), chain(60001), false}, {"very deep, with another end", under(5000, null()), under(5000, text("")), false},
		{"as many as may be", wide(65536), wide(65536), true}, {"too great", wide(65537), wide(65537), false}, {"the first is too great", wide(65537), null(), false}, {"the second is too great", array(null()), twice(70), false},
		{"too deep to be counted", chain(65537), chain(65537), false}, {"more than can be counted", twice(100), twice(100), false}, {"without an end", knot(), knot(), false},
	}
	for _, x := range tests {
		if got := json.Equal(x.a, x.b); got != x.want {
			t.Errorf("%s: %v", x.name, got)
		}
	}
}
