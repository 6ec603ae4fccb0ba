package json_test

import (
	"math/rand"
	"reflect"
	"strings"
	"testing"

	"spillway/api"
	"spillway/json"
)

// Values of each kind, put together by hand.
func null() api.Value                { return api.Value{Kind: api.Null} }
func number(s string) api.Value      { return api.Value{Kind: api.Number, Text: s} }
func text(s string) api.Value        { return api.Value{Kind: api.String, Text: s} }
func array(l ...api.Value) api.Value { return api.Value{Kind: api.Array, List: l} }

// object has parts of these names, in order.
func object(names []string, l ...api.Value) api.Value {
	return api.Value{Kind: api.Object, Names: names, List: l}
}

// takes holds Parse to a value.
func takes(t *testing.T, s string, want api.Value) {
	t.Helper()
	v, err, at := json.Parse(s)
	if err != api.OK || at != 0 || !reflect.DeepEqual(v, want) {
		t.Errorf("Parse(%.80q) = %+v, %v, %d, want %+v", s, v, err, at, want)
	}
}

// gives holds Parse to an error; all else is empty.
func gives(t *testing.T, s string, err api.Errno, at int) {
	t.Helper()
	v, gotErr, gotAt := json.Parse(s)
	if gotErr != err || gotAt != at || !reflect.DeepEqual(v, api.Value{}) {
		t.Errorf("Parse(%.80q) = %+v, %v, %d, want %v, %d", s, v, gotErr, gotAt, err, at)
	}
}

// P8.1: texts that are taken.
func TestParse(t *testing.T) {
	tests := map[string]api.Value{
		"null":                             null(),
		"false":                            {Kind: api.False},
		"true":                             {Kind: api.True},
		" \t\n\r true\n ":                  {Kind: api.True},
		"0":                                number("0"),
		"-0":                               number("-0"),
		"12":                               number("12"),
		"-1.50e+10":                        number("-1.50e+10"),
		"0.0E-0":                           number("0.0E-0"),
		"0e007":                            number("0e007"),
		"1e400":                            number("1e400"),
		`""`:                               text(""),
		`"a b"`:                            text("a b"),
		"\"\x7f\"":                         text("\x7f"),
		`"é€𝄞"`:                            text("é€𝄞"),
		`"\"\\\/\b\f\n\r\t"`:               text("\"\\/\b\f\n\r\t"),
		`"\u0041\u00e9\u20AC\u0000"`:       text("Aé€\x00"),
		`"\ud83d\ude00"`:                   text("\xf0\x9f\x98\x80"),
		`"\uD83D\uDE00"`:                   text("\xf0\x9f\x98\x80"),
		`"\ud800\udc00"`:                   text("\U00010000"),
		`"\udbff\udfff"`:                   text("\U0010ffff"),
		`"\ud83d"`:                         text("\xef\xbf\xbd"),
		`"\ud83dx"`:                        text("\xef\xbf\xbdx"),
		`"\ud83d\n"`:                       text("\xef\xbf\xbd\n"),
		`"\ud83d\u0041"`:                   text("\xef\xbf\xbdA"),
		`"\ud83d\ud83d\ude00"`:             text("\xef\xbf\xbd\xf0\x9f\x98\x80"),
		`"\ude00\ud83d"`:                   text("\xef\xbf\xbd\xef\xbf\xbd"),
		`"\ud83d\ud83d"`:                   text("\xef\xbf\xbd\xef\xbf\xbd"),
		`"\udc00\udc00"`:                   text("\xef\xbf\xbd\xef\xbf\xbd"),
		`"\ud800\ud900"`:                   text("\xef\xbf\xbd\xef\xbf\xbd"),
		`"\udbff\udbff\udc00"`:             text("\xef\xbf\xbd\U0010fc00"),
		`"\ud800\ue000"`:                   text("\xef\xbf\xbd\ue000"),
		`"\udc00"`:                         text("\xef\xbf\xbd"),
		`"\udfff"`:                         text("\xef\xbf\xbd"),
		`"\ud7ff\ue000\uffff"`:             text("\ud7ff\ue000\uffff"),
		`"\ud83dude00"`:                    text("\xef\xbf\xbdude00"),
		`"\ud83d\\ude00"`:                  text("\xef\xbf\xbd\\ude00"),
		"[]":                               array(),
		"[ ]":                              array(),
		"[1, \"a\\u0041\", {\"b\": null}]": array(number("1"), text("aA"), object([]string{"b"}, null())),
		"[[],[[]]]":                        array(array(), array(array())),
		"{}":                               object(nil),
		"{ }":                              object(nil),
		`{"a":1,"b":[],"a":2}`:             object([]string{"a", "b", "a"}, number("1"), array(), number("2")),
		`{"":{"\u0061\n":""}}`:             object([]string{""}, object([]string{"a\n"}, text(""))),
		" [ 1 , 2 ] ":                      array(number("1"), number("2")),
		"\n{\t\"a\"\r:\n1 , \"b\" : 2 }":   object([]string{"a", "b"}, number("1"), number("2")),
	}
	for s, want := range tests {
		if wants(s) != (wanted{}) {
			t.Errorf("the model does not take %q", s)
		}
		takes(t, s, want)
	}
}

// P8.1: texts that are not taken, each with its error and the place of the first byte with which no text begins so.
func TestParseFaults(t *testing.T) {
	tests := []struct {
		s   string
		err api.Errno
		at  int
	}{
		{"", api.ErrEnd, 0}, {" \n", api.ErrEnd, 2}, {"[", api.ErrEnd, 1}, {"{", api.ErrEnd, 1}, {`"`, api.ErrEnd, 1},
		{"[1", api.ErrEnd, 2}, {"[1,", api.ErrEnd, 3}, {"[1 ", api.ErrEnd, 3}, {`{"a"`, api.ErrEnd, 4}, {`{"a":`, api.ErrEnd, 5}, {`{"a":1`, api.ErrEnd, 6}, {`{"a":1,`, api.ErrEnd, 7}, {`{"a`, api.ErrEnd, 3},
		{"n", api.ErrEnd, 1}, {"nul", api.ErrEnd, 3}, {"tru", api.ErrEnd, 3}, {"fals", api.ErrEnd, 4},
		{"-", api.ErrEnd, 1}, {"1.", api.ErrEnd, 2}, {"1e", api.ErrEnd, 2}, {"1e+", api.ErrEnd, 3}, {"1E-", api.ErrEnd, 3}, {"0.", api.ErrEnd, 2},
		{`"\`, api.ErrEnd, 2}, {`"\u`, api.ErrEnd, 3}, {`"\u00`, api.ErrEnd, 5}, {`"\u0041`, api.ErrEnd, 7}, {`"\ud83d\`, api.ErrEnd, 8}, {`"\ud83d\u`, api.ErrEnd, 9}, {`"\ud83d\ude0`, api.ErrEnd, 12},
		{"\"\xc3", api.ErrEnd, 2}, {"\"\xf0\x9f\x98", api.ErrEnd, 4},
		{"01", api.ErrNumber, 1}, {"-01", api.ErrNumber, 2}, {"00", api.ErrNumber, 1}, {"[-00]", api.ErrNumber, 3}, {"-a", api.ErrNumber, 1}, {"--1", api.ErrNumber, 1}, {"-.5", api.ErrNumber, 1}, {"- 1", api.ErrNumber, 1}, {"-[", api.ErrNumber, 1},
		{"1.a", api.ErrNumber, 2}, {"1..", api.ErrNumber, 2}, {"1.e1", api.ErrNumber, 2}, {"1ex", api.ErrNumber, 2}, {"1e+-1", api.ErrNumber, 3}, {"1e ", api.ErrNumber, 2}, {"[1.]", api.ErrNumber, 3}, {"[1e,", api.ErrNumber, 3}, {"0.\xff", api.ErrNumber, 2},
		{`"\x"`, api.ErrText, 2}, {`"\U0041"`, api.ErrText, 2}, {`"\'"`, api.ErrText, 2}, {"\"\\\n\"", api.ErrText, 2}, {`"\u004g"`, api.ErrText, 6}, {`"\u"`, api.ErrText, 3}, {`"\u+041"`, api.ErrText, 3}, {`"\ud83d\x"`, api.ErrText, 8}, {`"\ud83d\uz"`, api.ErrText, 9}, {"\"\\\xc3\"", api.ErrText, 2},
		{"\"\x1f\"", api.ErrText, 1}, {"\"a\n\"", api.ErrText, 2}, {"\"\x00", api.ErrText, 1}, {"[\"a\tb\"]", api.ErrText, 3}, {"{\"a\x01\":1}", api.ErrText, 3}, {`{"\q":1}`, api.ErrText, 3},
		{"\"\x80\"", api.ErrText, 1}, {"\"\xbf\"", api.ErrText, 1}, {"\"\xc0\x80\"", api.ErrText, 1}, {"\"\xc1\xbf\"", api.ErrText, 1}, {"\"\xc3(\"", api.ErrText, 2}, {"\"\xc3\"", api.ErrText, 2},
		{"\"\xe0\x9f\xbf\"", api.ErrText, 2}, {"\"\xed\xa0\x80\"", api.ErrText, 2}, {"\"\xed\xbf\xbf\"", api.ErrText, 2}, {"\"\xe2\x82(\"", api.ErrText, 3}, {"\"\xe2\x82\"", api.ErrText, 3}, {"\"\xe2\x28\xa1\"", api.ErrText, 2},
		{"\"\xf0\x8f\xbf\xbf\"", api.ErrText, 2}, {"\"\xf4\x90\x80\x80\"", api.ErrText, 2}, {"\"\xf0\x9f\x98(\"", api.ErrText, 4}, {"\"\xf5\x80\x80\x80\"", api.ErrText, 1}, {"\"\xff\"", api.ErrText, 1}, {"\"\xfe\"", api.ErrText, 1}, {"\"\xc3\xa9\xa9\"", api.ErrText, 3},
		{"1 2", api.ErrMore, 2}, {"1,", api.ErrMore, 1}, {"[]]", api.ErrMore, 2}, {"{}{", api.ErrMore, 2}, {"nullx", api.ErrMore, 4}, {"0x", api.ErrMore, 1}, {"1.5.", api.ErrMore, 3}, {"1-", api.ErrMore, 1}, {`""""`, api.ErrMore, 2}, {"true false", api.ErrMore, 5}, {"[] \xff", api.ErrMore, 3}, {"1\x00", api.ErrMore, 1}, {"1\x0b", api.ErrMore, 1}, {"1e5e", api.ErrMore, 3},
		{"[1,]", api.ErrChar, 3}, {"[,", api.ErrChar, 1}, {"[1 2]", api.ErrChar, 3}, {"[1}", api.ErrChar, 2}, {"[}", api.ErrChar, 1}, {"]", api.ErrChar, 0}, {"}", api.ErrChar, 0}, {",", api.ErrChar, 0}, {":", api.ErrChar, 0},
		{"{1", api.ErrChar, 1}, {"{]", api.ErrChar, 1}, {"{[", api.ErrChar, 1}, {"{,", api.ErrChar, 1}, {`{"a" 1}`, api.ErrChar, 5}, {`{"a",`, api.ErrChar, 4}, {`{"a":1,}`, api.ErrChar, 7}, {`{"a":}`, api.ErrChar, 5}, {`{"a":1]`, api.ErrChar, 6}, {`{"a":1 "b"`, api.ErrChar, 7}, {"{null", api.ErrChar, 1}, {`{"a"::`, api.ErrChar, 5},
		{"nulx", api.ErrChar, 3}, {"nUll", api.ErrChar, 1}, {"True", api.ErrChar, 0}, {"tr ue", api.ErrChar, 2}, {"[nullx", api.ErrChar, 5}, {"[0x", api.ErrChar, 2}, {"[1.5.", api.ErrChar, 4}, {"+1", api.ErrChar, 0}, {".5", api.ErrChar, 0}, {"NaN", api.ErrChar, 0}, {"'a'", api.ErrChar, 0}, {"/", api.ErrChar, 0},
		{"\xef\xbb\xbf1", api.ErrChar, 0}, {"[\xc3\xa9]", api.ErrChar, 1}, {"\xa0", api.ErrChar, 0}, {"\x0b1", api.ErrChar, 0}, {"\x00", api.ErrChar, 0}, {"\x0c", api.ErrChar, 0}, {"\x7f", api.ErrChar, 0},
	}
	for _, x := range tests {
		if got := wants(x.s); got != (wanted{x.err, x.at}) {
			t.Errorf("the model has %v of %q, want %v, %d", got, x.s, x.err, x.at)
		}
		gives(t, x.s, x.err, x.at)
	}
}

// P8.1: ErrLong ahead of all else, and the longest texts.
func TestParseLong(t *testing.T) {
	gives(t, strings.Repeat(" ", 65537), api.ErrLong, 65536)
	gives(t, "x"+strings.Repeat(" ", 65536), api.ErrLong, 65536)
	gives(t, "1"+strings.Repeat(" ", 65536), api.ErrLong, 65536)
	gives(t, strings.Repeat("[", 1<<20), api.ErrLong, 65536)
	gives(t, strings.Repeat(" ", 65536), api.ErrEnd, 65536)
	gives(t, strings.Repeat(" ", 65535)+"x", api.ErrChar, 65535)
	takes(t, strings.Repeat(" ", 65535)+"1", number("1"))
	takes(t, strings.Repeat("1", 65536), number(strings.Repeat("1", 65536)))
	takes(t, `"`+strings.Repeat("x", 65534)+`"`, text(strings.Repeat("x", 65534)))
	v, err, _ := json.Parse("[" + strings.Repeat("1,", 32766) + "10]")
	if err != api.OK || len(v.List) != 32767 {
		t.Errorf("%v, %d parts", err, len(v.List))
	}
}

// nested is a text of so many arrays and objects, one in the other.
func nested(ways string, inner string) string {
	var b strings.Builder
	for _, w := range ways {
		if w == '{' {
			b.WriteString(`{"a":`)
		} else {
			b.WriteString("[")
		}
	}
	b.WriteString(inner)
	for i := len(ways) - 1; i >= 0; i-- {
		b.WriteByte(ways[i] + 2)
	}
	return b.String()
}

// P8.1: ErrDeep at the bracket with which it is too deep, where one may stand.
func TestParseDeep(t *testing.T) {
	gives(t, strings.Repeat("[", 65), api.ErrDeep, 64)
	gives(t, strings.Repeat("[", 64), api.ErrEnd, 64)
	gives(t, strings.Repeat("[", 64)+"{", api.ErrDeep, 64)
	gives(t, strings.Repeat("[ ", 64)+"[", api.ErrDeep, 128)
	gives(t, strings.Repeat(`{"a":`, 65), api.ErrDeep, 320)
	gives(t, strings.Repeat("[", 64)+"1[", api.ErrChar, 65)
	gives(t, strings.Repeat("[", 64)+"-[", api.ErrNumber, 65)
	gives(t, strings.Repeat("[", 63)+"{[", api.ErrChar, 64)
	gives(t, strings.Repeat("[", 64)+"]]", api.ErrEnd, 66)
	gives(t, strings.Repeat("[", 64)+strings.Repeat("]", 64)+"[", api.ErrMore, 128)
	gives(t, "["+strings.Repeat("[", 63)+strings.Repeat("]", 63)+","+strings.Repeat("[", 64), api.ErrDeep, 191)
	for _, ways := range []string{strings.Repeat("[", 64), strings.Repeat("{", 64), strings.Repeat("[{", 32)} {
		for _, inner := range []string{"1", `"[[{{"`, "[", "null"} {
			s := nested(ways, inner)
			want := wants(s)
			if inner == "[" {
				gives(t, s, api.ErrDeep, want.at)
				continue
			}
			takes(t, s, read(t, s))
			if v, _, _ := json.Parse(s); json.Depth(v) != 64 {
				t.Errorf("%.40q: depth %d", s, json.Depth(v))
			}
		}
	}
	// One behind the other, they are no deeper.
	takes(t, "["+strings.Repeat("[],", 1000)+"[]]", read(t, "["+strings.Repeat("[],", 1000)+"[]]"))
}

// pieces are what texts are put together of, so that many of them are right, or nearly.
var pieces = []string{
	"[", "]", "{", "}", ",", ":", `"a"`, `"b":`, "1", "-0", "0", "2.5", "e3", "E-", ".", "null", "true", "false", "nul", " ", "\n", "\t",
	`"`, `\`, `\n`, `\u0041`, `\ud83d`, `\ude00`, `\u00`, "é", "€", "\xf0\x9f\x98\x80", "\xc3", "\x80", "\xed\xa0", "\x1f", "\x00", "x", "-", "[[[", `{"k":[`, `["s",`,
}

func madeUp(r *rand.Rand) string {
	var b strings.Builder
	for range r.Intn(12) {
		b.WriteString(pieces[r.Intn(len(pieces))])
	}
	return b.String()
}

// grown is a right text, with blanks here and there.
func grown(r *rand.Rand, deep int) string {
	blank := func() string { return strings.Repeat(string(" \t\n\r"[r.Intn(4)]), r.Intn(2)*r.Intn(3)) }
	list := func(begin, end string, ahead func() string) string {
		var l []string
		for range r.Intn(4) {
			l = append(l, ahead()+grown(r, deep-1))
		}
		return begin + blank() + strings.Join(l, ",") + end
	}
	kind := r.Intn(7)
	if deep == 0 {
		kind = r.Intn(5)
	}
	var s string
	switch kind {
	case 0:
		s = []string{"null", "true", "false"}[r.Intn(3)]
	case 1, 2:
		s = []string{"0", "-0", "1", "-12.50", "1e3", "0.5E-7", "123456789012345678901234567890", "1E+2"}[r.Intn(8)]
	case 3, 4:
		s = grownText(r)
	case 5:
		s = list("[", "]", func() string { return "" })
	default:
		s = list("{", "}", func() string { return blank() + grownText(r) + blank() + ":" })
	}
	return blank() + s + blank()
}

func grownText(r *rand.Rand) string {
	parts := []string{"a", "b", " ", "[", "é", "€", "𝄞", "\x7f", `\"`, `\\`, `\/`, `\b`, `\f`, `\n`, `\r`, `\t`, `\u0000`, `\u001f`, `\u00E9`, `\ud83d`, `\ude00`, `\uFFFF`, "u0041"}
	var b strings.Builder
	for range r.Intn(5) {
		b.WriteString(parts[r.Intn(len(parts))])
	}
	return `"` + b.String() + `"`
}

// P8.1, P8.7: texts of all sorts against the model: the same error at the same place, or the same value as Go's own reader has.
func TestParseModel(t *testing.T) {
	r := rand.New(rand.NewSource(8))
	taken := 0
	check := func(s string) {
		want := wants(s)
		if want.err != api.OK {
			gives(t, s, want.err, want.at)
			return
		}
		taken++
		takes(t, s, read(t, s))
	}
	for range 200000 {
		check(madeUp(r))
	}
	for range 30000 {
		s := grown(r, 4)
		check(s)
		// One byte that is another one, and an early end.
		if i := r.Intn(len(s) + 1); i < len(s) {
			check(s[:i] + string([]byte{byte(r.Intn(256))}) + s[i+1:])
			check(s[:i])
		}
	}
	if taken < 35000 {
		t.Errorf("of the texts only %d are right", taken)
	}
}

// P8.1: each byte, wherever one may stand.
func TestParseEachByte(t *testing.T) {
	ahead := []string{"", " ", "1", "0", "-", "1.", "1.5", "1e", "1e-", "1e5", "n", "nul", "null", `"`, `"\`, `"\u`, `"\u004`, `"a"`, `"\ud83d\`, `"\ud83d\u`, "[", "[1", "[1,", "[]", "{", `{"a"`, `{"a":`, `{"a":1`, `{"a":1,`, "{}", "-0", "[-", "[0", "[1.5", "[null",
		"\"\xc3", "\"\xe0", "\"\xe1", "\"\xed", "\"\xee", "\"\xf0", "\"\xf1", "\"\xf4", "\"\xe0\xa0", "\"\xed\x9f", "\"\xf0\x90", "\"\xf4\x8f", "\"\xf4\x8f\xbf"}
	for _, s := range ahead {
		for b := range 256 {
			got := s + string([]byte{byte(b)})
			if want := wants(got); want.err != api.OK {
				gives(t, got, want.err, want.at)
			} else {
				takes(t, got, read(t, got))
			}
		}
	}
}

// P8.7: the place is from 0 to the length; up to it some text begins so, and with the byte there none does.
func TestPlaces(t *testing.T) {
	r := rand.New(rand.NewSource(9))
	for range 30000 {
		s := madeUp(r)
		_, err, at := json.Parse(s)
		if err == api.OK {
			continue
		}
		if at < 0 || at > len(s) || (err == api.ErrEnd) != (at == len(s)) {
			t.Fatalf("Parse(%q): %v at %d", s, err, at)
		}
		// What ends early may go on: each byte that stands there is another matter.
		if _, e, a := json.Parse(s[:at]); e != api.OK && (e != api.ErrEnd || a != at) {
			t.Fatalf("Parse(%q): %v at %d, but up to there %v at %d", s, err, at, e, a)
		}
		if at == len(s) {
			continue
		}
		for _, behind := range []string{"", "]", "}", `"`, "1", ":1}", "0000", "\x80"} {
			if _, e, a := json.Parse(s[:at+1] + behind); e != err || a != at {
				t.Fatalf("Parse(%q) = %v at %d, but with %q behind %v at %d", s, err, at, behind, e, a)
			}
		}
	}
}

// P8.6: blanks more around a token change no value.
func TestBlanks(t *testing.T) {
	tokens := [][]string{
		{"[", "1", ",", `"a b"`, ",", "{", `"k"`, ":", "null", ",", `""`, ":", "[", "]", "}", ",", "-1.5e3", "]"},
		{"{", "}"}, {"true"}, {"[", "[", "false", "]", "]"},
	}
	r := rand.New(rand.NewSource(5))
	for _, l := range tokens {
		want, err, _ := json.Parse(strings.Join(l, ""))
		if err != api.OK {
			t.Fatal(err)
		}
		for range 300 {
			var b strings.Builder
			for i := range 2*len(l) + 1 {
				if i%2 == 1 {
					b.WriteString(l[i/2])
				} else {
					b.WriteString(strings.Repeat(string(" \t\n\r"[r.Intn(4)]), r.Intn(3)))
				}
			}
			takes(t, b.String(), want)
		}
	}
}
