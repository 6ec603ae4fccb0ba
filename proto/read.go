package proto

import "spillway/api"

// reader goes through bytes. What it is asked for behind their end is nothing, and then it is short.
type reader struct {
	all   []byte
	place int // behind what was read
	short bool
}

// next is the next bytes, so many; none, if they are not all there.
func (r *reader) next(n int) []byte {
	if r.short || n > len(r.all)-r.place {
		r.short = true
		return nil
	}
	r.place += n
	return r.all[r.place-n : r.place]
}

func (r *reader) one() byte {
	for _, b := range r.next(1) {
		return b
	}
	return 0
}

// numbers reads numbers to where they belong. One that int can't hold comes out below 0, as no number may be.
func (r *reader) numbers(l ...*int) {
	for _, to := range l {
		n := 0
		for _, b := range r.next(numberSize) {
			n = n<<8 | int(b)
		}
		*to = n
	}
}

func (r *reader) text() string { return string(r.next(int(r.one()))) }

// whole tells whether the bytes are just what was read, and that is right; else the place of what is wrong.
func (r *reader) whole(right bool) (int, bool) {
	switch {
	case r.short:
		return len(r.all), false
	case r.place < len(r.all):
		return r.place, false
	}
	return 0, right
}

type requestReader struct{ reader }

func (r *requestReader) request() api.Request {
	q := api.Request{Want: api.Want(r.one())}
	r.numbers(&q.Id, &q.Flow, &q.Count, &q.Token)
	q.Text = r.text()
	return q
}

type answerReader struct{ reader }

func (r *answerReader) answer() api.Answer {
	a := api.Answer{Status: api.Status(r.one())}
	r.numbers(&a.Id, &a.Left, &a.Wait, &a.Token)
	return a
}
