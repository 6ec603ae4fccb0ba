package json

import "spillway/api"

const hexDigits = "0123456789abcdef"

// printer writes right values; from where a text would be too long on, it keeps no more.
type printer struct {
	out  []byte
	over bool
}

func (p *printer) put(s string) {
	p.over = p.over || len(s) > api.MaxText-len(p.out)
	if !p.over {
		p.out = append(p.out, s...)
	}
}

func (p *printer) value(v api.Value) {
	switch v.Kind {
	case api.Null:
		p.put("null")
	case api.False:
		p.put("false")
	case api.True:
		p.put("true")
	case api.Number:
		p.put(v.Text)
	case api.String:
		p.quote(v.Text)
	case api.Array:
		p.put("[")
		p.parts(v.List, func(int) {})
		p.put("]")
	case api.Object:
		p.put("{")
		p.parts(v.List, func(i int) {
			p.quote(v.Names[i])
			p.put(":")
		})
		p.put("}")
	}
}

// parts writes parts with commas, each behind what ahead writes.
func (p *printer) parts(l []api.Value, ahead func(i int)) {
	for i, part := range l {
		if i > 0 {
			p.put(",")
		}
		ahead(i)
		p.value(part)
	}
}

func (p *printer) quote(s string) {
	p.put(`"`)
	for i := 0; i < len(s) && !p.over; i++ {
		p.put(escaped(s[i : i+1]))
	}
	p.put(`"`)
}

// escaped is how one byte of a string is written.
func escaped(b string) string {
	switch b {
	case `"`, `\`:
		return `\` + b
	case "\b":
		return `\b`
	case "\f":
		return `\f`
	case "\n":
		return `\n`
	case "\r":
		return `\r`
	case "\t":
		return `\t`
	}
	if b[0] < ' ' {
		return `\u00` + hexDigits[b[0]>>4:][:1] + hexDigits[b[0]&15:][:1]
	}
	return b
}
