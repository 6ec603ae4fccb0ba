package token_test

import (
	"testing"

	"spillway/api"
	"spillway/sketch"
	"spillway/token"
)

const (
	rows    = 3
	columns = 256
)

// place is where a text stands in all rows of a flow's sketch.
type place [rows]int

// placesOf tells where texts stand in a sketch of a flow's seed, of so many rows and columns.
func placesOf(t *testing.T, id int) func(text string) place {
	t.Helper()
	s, err := sketch.New(second, 10, rows, columns, uint64(id))
	if err != api.OK {
		t.Fatal(err)
	}
	return func(text string) place {
		var p place
		for row := range rows {
			p[row], _ = s.Column(row, text)
		}
		return p
	}
}

// alike are two texts that stand in the same columns of the first rows, so many, and of no other one.
func alike(t *testing.T, placeOf func(text string) place, many int) (string, string) {
	t.Helper()
	byColumns := map[[rows]int]string{}
	for _, text := range names(40000) {
		p := placeOf(text)
		var first [rows]int
		copy(first[:], p[:many])
		other, is := byColumns[first]
		if !is {
			byColumns[first] = text
			continue
		}
		same := 0
		for row, column := range placeOf(other) {
			if column == p[row] {
				same++
			}
		}
		if same == many {
			return other, text
		}
	}
	t.Fatalf("no two texts are alike in %d rows", many)
	return "", ""
}

// P20.2: what is used of a value is what a sketch of 3 rows, 256 columns and the seed Id tells: two texts are one, if they stand in the same column of all rows, and of no other Id.
func TestSketch(t *testing.T) {
	for _, id := range []int{1, 2, 77, api.MaxCount} {
		placeOf := placesOf(t, id)
		s := serving(t, value(id, 5), value(3, 5))
		at := 2 * second
		one, same := alike(t, placeOf, rows)
		answers(t, s, at, 1, wantParam(id, 2, one), api.Answer{Status: api.Granted, Left: 3})
		used(t, s, at, id, 2, same)
		answers(t, s, at, 1, wantParam(id, 2, same), api.Answer{Status: api.Granted, Left: 1})
		used(t, s, at, id, 4, one)
		used(t, s, at, 3, 0, one)
		for many := range rows {
			at += 2 * second
			one, other := alike(t, placeOf, many)
			answers(t, s, at, 1, wantParam(id, 2, one), api.Answer{Status: api.Granted, Left: 3})
			used(t, s, at, id, 0, other)
			used(t, s, at, id, 2, one)
		}
	}
}

// P20.1, P20.2: also behind a Restart, another Kind, and in a Fork the sketch is of the Id's seed.
func TestSketchAnew(t *testing.T) {
	const id = 77
	one, same := alike(t, placesOf(t, id), rows)
	begin := map[string]func(s *token.Server) *token.Server{
		"Restart": func(s *token.Server) *token.Server { s.Restart(0); return s },
		"Load": func(s *token.Server) *token.Server {
			s.Load("a", rate(id, 1))
			s.Load("a", value(id, 5))
			return s
		},
		"Fork": (*token.Server).Fork,
	}
	for what, begin := range begin {
		s := newServer(t, 0)
		load(t, s, "a", value(id, 5))
		s = begin(s)
		open(t, s, 1, "a")
		do(t, s, second, 1, wantParam(id, 2, one))
		if n, err := s.Used(second, id, same); n != 2 || err != api.OK {
			t.Errorf("%s: %d, %v", what, n, err)
		}
	}
}
