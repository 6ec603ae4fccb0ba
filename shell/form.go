package shell

// form is how a line may be: its first word, what stands behind that, what must be there, and what it does.
type form struct {
	word  string
	parts []part
	tail  tail
	needs need
	do    func(s *session, d said) string
}

// tail is what may stand behind the parts of a line.
type tail int

const (
	nothing  tail = iota
	anyWords      // as many as one likes
	aText         // with a word in it
)

// need is what must be there ahead of a line.
type need int

const (
	nobody need = iota
	aPlatform
	aProgram // that of the line's first number
)

// forms are those of all lines. What may be missing has two: without it, and with it.
func forms() []form {
	kind := oneOf(kinds()...)
	return []form{
		{"platform", of(number, number, number), nothing, nobody, (*session).begin},
		{"flow", of(number, kind, number), nothing, aPlatform, (*session).flow},
		{"flow", of(number, kind, number, number), nothing, aPlatform, (*session).flow},
		{"tick", of(number), nothing, aPlatform, (*session).tick},
		{"dial", of(number), nothing, aPlatform, (*session).dial},
		{"cut", of(number), nothing, aPlatform, (*session).cut},
		{"toserver", of(number, number), nothing, aPlatform, (*session).toServer},
		{"toclient", of(number, number), nothing, aPlatform, (*session).toClient},
		{"stop", of(), nothing, aPlatform, (*session).stop},
		{"start", of(), nothing, aPlatform, (*session).start},
		{"rules", of(number), aText, aPlatform, (*session).rules},
		{"mode", of(number, oneOf(modes()...)), nothing, aPlatform, (*session).mode},
		{"enter", of(number, anyWord, anyWord, anyWord, oneOf("in", "out"), number), anyWords, aPlatform, (*session).enter},
		{"exit", of(number, number, oneOf("ok", "bad")), nothing, aPlatform, (*session).exit},
		{"decided", of(number), nothing, aProgram, (*session).decided},
		{"pending", of(number), nothing, aProgram, (*session).pending},
		{"open", of(number), nothing, aProgram, (*session).open},
		{"counts", of(number, anyWord), nothing, aProgram, (*session).counts},
		{"put", of(number), aText, aProgram, (*session).put},
		{"grants", of(), nothing, aPlatform, (*session).grants},
		{"now", of(), nothing, aPlatform, (*session).now},
		{"see", of(number), nothing, aProgram, (*session).see},
	}
}

// find is the form of a line, and what the line says by it; false: there is none.
func find(l line) (form, said, bool) {
	for _, f := range forms() {
		if d, is := f.read(l); is {
			return f, d, true
		}
	}
	return form{}, said{}, false
}

// read is what a line says, if it is of this form.
func (f form) read(l line) (said, bool) {
	many := len(f.parts)
	words := l.words[1:]
	if l.words[0] != f.word || len(words) < many {
		return said{}, false
	}
	var d said
	for i, p := range f.parts {
		if !p(&d, words[i]) {
			return said{}, false
		}
	}
	rest := words[many:]
	switch f.tail {
	case anyWords:
		d.words = append(d.words, rest...)
		return d, true
	case aText:
		d.text = l.behind(1 + many)
		return d, len(rest) > 0
	}
	return d, len(rest) == 0
}
