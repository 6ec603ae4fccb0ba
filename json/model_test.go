package json_test

import (
	"bytes"
	stdjson "encoding/json"
	"io"
	"math/big"
	"regexp"
	"strings"
	"testing"
	"unicode/utf8"

	"spillway/api"
)

// wanted is what the document asks of a text that is not taken; OK of one that is.
type wanted struct {
	err api.Errno
	at  int
}

// machine is another reading of what a text is: it steps from byte to byte, by states, and keeps what is open. A state is what may stand next.
type machine struct {
	state string
	open  []byte // what ends each array and object that is open
	name  bool   // a string is a member's name
	left  string // of a word, a \u or a rune: what may follow
}

const (
	digits = "0123456789"
	blanks = " \t\n\r"
)

func isIn(c byte, l string) bool { return strings.IndexByte(l, c) >= 0 }

// wants is what a text has, by the machine.
func wants(s string) wanted {
	if len(s) > 65536 {
		return wanted{api.ErrLong, 65536}
	}
	m := &machine{state: "value"}
	for i := range len(s) {
		if err := m.step(s[i]); err != api.OK {
			return wanted{err, i}
		}
	}
	if m.ended() {
		return wanted{}
	}
	return wanted{api.ErrEnd, len(s)}
}

func (m *machine) ended() bool {
	return len(m.open) == 0 && (m.state == "behind" || m.state == "nought" || m.state == "whole" || m.state == "fraction" || m.state == "power")
}

func (m *machine) step(c byte) api.Errno {
	switch m.state {
	case "value", "first", "name", "firstname", "colon", "behind":
		return m.between(c)
	case "word":
		if c != m.left[0] {
			return api.ErrChar
		}
		if m.left = m.left[1:]; m.left == "" {
			m.state = "behind"
		}
		return api.OK
	case "string", "escape", "hex", "rune":
		return m.inString(c)
	}
	return m.inNumber(c)
}

func (m *machine) between(c byte) api.Errno {
	if isIn(c, blanks) {
		return api.OK
	}
	switch {
	case m.state == "behind" && len(m.open) == 0:
		return api.ErrMore
	case m.state == "behind" && c == ',':
		m.state = "value"
		if m.open[len(m.open)-1] == '}' {
			m.state = "name"
		}
	case (m.state == "behind" || m.state == "first" || m.state == "firstname") && c == m.open[len(m.open)-1]:
		m.open = m.open[:len(m.open)-1]
		m.state = "behind"
	case (m.state == "name" || m.state == "firstname") && c == '"':
		m.state, m.name = "string", true
	case m.state == "colon" && c == ':':
		m.state = "value"
	case m.state == "value" || m.state == "first":
		return m.begin(c)
	default:
		return api.ErrChar
	}
	return api.OK
}

func (m *machine) begin(c byte) api.Errno {
	switch {
	case c == '[' || c == '{':
		if len(m.open) == 64 {
			return api.ErrDeep
		}
		m.open = append(m.open, c+2)
		m.state = map[byte]string{'[': "first", '{': "firstname"}[c]
	case c == '"':
		m.state, m.name = "string", false
	case isIn(c, "nft"):
		m.state, m.left = "word", map[byte]string{'n': "ull", 'f': "alse", 't': "rue"}[c]
	case c == '-':
		m.state = "minus"
	case c == '0':
		m.state = "nought"
	case isIn(c, digits):
		m.state = "whole"
	default:
		return api.ErrChar
	}
	return api.OK
}

// steps are those within a number: state, a byte of these, the next state.
var steps = [][3]string{
	{"minus", "0", "nought"}, {"minus", "123456789", "whole"},
	{"nought", ".", "point"}, {"nought", "eE", "e"},
	{"whole", digits, "whole"}, {"whole", ".", "point"}, {"whole", "eE", "e"},
	{"point", digits, "fraction"},
	{"fraction", digits, "fraction"}, {"fraction", "eE", "e"},
	{"e", "+-", "sign"}, {"e", digits, "power"}, {"sign", digits, "power"}, {"power", digits, "power"},
}

func (m *machine) inNumber(c byte) api.Errno {
	for _, x := range steps {
		if m.state == x[0] && isIn(c, x[1]) {
			m.state = x[2]
			return api.OK
		}
	}
	if m.state == "nought" && isIn(c, digits) || m.state == "minus" || m.state == "point" || m.state == "e" || m.state == "sign" {
		return api.ErrNumber
	}
	m.state = "behind"
	return m.between(c)
}

func (m *machine) inString(c byte) api.Errno {
	switch {
	case m.state == "escape" && c == 'u':
		m.state, m.left = "hex", "xxxx"
	case m.state == "escape" && isIn(c, `"\/bfnrt`):
		m.state = "string"
	case m.state == "hex" && isIn(c, digits+"abcdefABCDEF"):
		if m.left = m.left[1:]; m.left == "" {
			m.state = "string"
		}
	case m.state == "rune" && beginsRune(m.left+string([]byte{c})):
		if m.left += string([]byte{c}); utf8.ValidString(m.left) {
			m.state = "string"
		}
	case m.state != "string":
		return api.ErrText
	case c == '"':
		m.state = "behind"
		if m.name {
			m.state = "colon"
		}
	case c == '\\':
		m.state = "escape"
	case c < 32 || c > 127 && !beginsRune(string([]byte{c})):
		return api.ErrText
	case c > 127:
		m.state, m.left = "rune", string([]byte{c})
	}
	return api.OK
}

// beginsRune tells whether a right rune begins so, by trying what may stand behind.
func beginsRune(s string) bool {
	if utf8.ValidString(s) {
		return true
	}
	if len(s) >= 4 {
		return false
	}
	for _, c := range []byte{0x80, 0x8f, 0x90, 0x9f, 0xa0, 0xbf} {
		if beginsRune(s + string([]byte{c})) {
			return true
		}
	}
	return false
}

// read is a text's value, by Go's own reader; the text is right.
func read(t *testing.T, s string) api.Value {
	t.Helper()
	d := stdjson.NewDecoder(strings.NewReader(s))
	d.UseNumber()
	v := readOn(t, d)
	if _, err := d.Token(); err != io.EOF {
		t.Fatalf("%q: %v", s, err)
	}
	return v
}

func readOn(t *testing.T, d *stdjson.Decoder) api.Value {
	t.Helper()
	token, err := d.Token()
	if err != nil {
		t.Fatal(err)
	}
	switch x := token.(type) {
	case stdjson.Number:
		return api.Value{Kind: api.Number, Text: x.String()}
	case string:
		return api.Value{Kind: api.String, Text: x}
	case bool:
		if x {
			return api.Value{Kind: api.True}
		}
		return api.Value{Kind: api.False}
	case stdjson.Delim:
		v := api.Value{Kind: api.Array}
		if x == '{' {
			v.Kind = api.Object
		}
		for d.More() {
			if x == '{' {
				name, err := d.Token()
				if err != nil {
					t.Fatal(err)
				}
				v.Names = append(v.Names, name.(string))
			}
			v.List = append(v.List, readOn(t, d))
		}
		if _, err := d.Token(); err != nil {
			t.Fatal(err)
		}
		return v
	}
	return api.Value{Kind: api.Null}
}

// written is a right value's text, put together by the document's words.
func written(v api.Value) string {
	var parts []string
	switch v.Kind {
	case api.Null:
		return "null"
	case api.False:
		return "false"
	case api.True:
		return "true"
	case api.Number:
		return v.Text
	case api.String:
		return writtenText(v.Text)
	case api.Array:
		for _, part := range v.List {
			parts = append(parts, written(part))
		}
		return "[" + strings.Join(parts, ",") + "]"
	}
	for i, part := range v.List {
		parts = append(parts, writtenText(v.Names[i])+":"+written(part))
	}
	return "{" + strings.Join(parts, ",") + "}"
}

// escapes are the bytes that a string has not as they are; those below 32 that have no letter are left to Go's own writer.
var escapes = map[byte]string{'"': `\"`, '\\': `\\`, 8: `\b`, 9: `\t`, 10: `\n`, 12: `\f`, 13: `\r`}

func writtenText(s string) string {
	var b bytes.Buffer
	for _, c := range []byte(s) {
		switch escape, there := escapes[c]; {
		case there:
			b.WriteString(escape)
		case c < 32:
			one, _ := stdjson.Marshal(string([]byte{c}))
			b.Write(one[1 : len(one)-1])
		default:
			b.WriteByte(c)
		}
	}
	return `"` + b.String() + `"`
}

var grammar = regexp.MustCompile(`^-?(0|[1-9][0-9]*)(\.[0-9]+)?([eE][+-]?[0-9]+)?$`)

// whole is a text's whole number, by numbers without an end; the power of 10 is small.
func whole(s string) (int, bool) {
	n, ok := new(big.Rat).SetString(s)
	if !grammar.MatchString(s) || !ok || !n.IsInt() || !n.Num().IsInt64() {
		return 0, false
	}
	return int(n.Num().Int64()), true
}
