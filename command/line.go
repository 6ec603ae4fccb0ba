package command

import (
	"bytes"
	"iter"
	"slices"
	"strings"

	"spillway/api"
)

// gathered is the bytes of a line that is not whole.
type gathered struct{ line []byte }

func (g *gathered) fork() gathered { return gathered{slices.Clone(g.line)} }

// gather takes bytes of the line; false: it would have more than it may.
func (g *gathered) gather(b []byte) bool {
	if len(b) > api.MaxText-len(g.line) {
		return false
	}
	g.line = append(g.line, b...)
	return true
}

// end is the line, which is whole. The next one begins.
func (g *gathered) end() string {
	line := strings.TrimSuffix(string(g.line), "\r")
	g.line = nil
	return line
}

// lines goes through the lines that are whole by bytes, up to where they break the port.
func (p *Port) lines(b []byte) iter.Seq[string] {
	return func(yield func(string) bool) {
		for len(b) > 0 {
			part, rest, isWhole := bytes.Cut(b, []byte("\n"))
			if !p.gather(part) {
				*p = Port{broken: true}
				return
			}
			if isWhole && !yield(p.end()) {
				return
			}
			b = rest
		}
	}
}

// tell is what is told of a line.
func tell(line string) Told {
	c, err, at := Parse(line)
	return Told{c, err, at}
}
