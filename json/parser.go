package json

import "spillway/api"

// parser reads a text, going down into its parts.
type parser struct {
	cursor
	deep int
}

// all is the value of the whole text.
func (p *parser) all() api.Value {
	v := p.value()
	p.blanks()
	if p.at < len(p.text) {
		p.giveUp(api.ErrMore)
	}
	return v
}

func (p *parser) value() api.Value {
	p.blanks()
	switch c := p.see(); {
	case c == '[':
		return p.array()
	case c == '{':
		return p.object()
	case c == '"':
		return api.Value{Kind: api.String, Text: p.quoted()}
	case c == '-' || isDigit(c):
		return api.Value{Kind: api.Number, Text: p.number()}
	case c == 'n':
		return p.word("null", api.Null)
	case c == 'f':
		return p.word("false", api.False)
	case c == 't':
		return p.word("true", api.True)
	}
	p.giveUp(api.ErrChar)
	return api.Value{}
}

func (p *parser) array() api.Value {
	v := api.Value{Kind: api.Array}
	p.parts(']', func() {
		v.List = append(v.List, p.value())
	})
	return v
}

func (p *parser) object() api.Value {
	v := api.Value{Kind: api.Object}
	p.parts('}', func() {
		v.Names = append(v.Names, p.name())
		v.List = append(v.List, p.value())
	})
	return v
}

// parts takes brackets and what is between them, part by part.
func (p *parser) parts(end byte, part func()) {
	if p.deep == api.MaxDeep {
		p.giveUp(api.ErrDeep)
	}
	p.deep++
	p.at++
	p.blanks()
	for first := true; !p.takes(end); first = false {
		if !first {
			p.take(',')
		}
		part()
		p.blanks()
	}
	p.deep--
}

// name takes a member's name, and the colon behind it.
func (p *parser) name() string {
	p.blanks()
	name := p.quoted()
	p.blanks()
	p.take(':')
	return name
}

func (p *parser) word(word string, kind api.JsonKind) api.Value {
	for i := range len(word) {
		p.take(word[i])
	}
	return api.Value{Kind: kind}
}

// number takes one, and is it as it is written.
func (p *parser) number() string {
	begin := p.at
	p.takes('-')
	switch {
	case !p.takes('0'):
		p.digits()
	case p.onDigit():
		p.giveUp(api.ErrNumber)
	}
	if p.takes('.') {
		p.digits()
	}
	if p.takes('e') || p.takes('E') {
		if !p.takes('+') {
			p.takes('-')
		}
		p.digits()
	}
	return p.text[begin:p.at]
}

// digits takes all that stand there; one must.
func (p *parser) digits() {
	if !isDigit(p.see()) {
		p.giveUp(api.ErrNumber)
	}
	for p.onDigit() {
		p.at++
	}
}
