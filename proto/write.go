package proto

import "spillway/api"

const numberSize = 8 // bytes of a number

// writer gathers bytes.
type writer struct{ written []byte }

func (w *writer) one(b byte) { w.written = append(w.written, b) }

// numbers writes numbers that are not below 0, each with the highest byte first.
func (w *writer) numbers(l ...int) {
	for _, n := range l {
		for i := range numberSize {
			w.one(byte(n >> (8 * (numberSize - 1 - i))))
		}
	}
}

// text writes one of at most 255 bytes.
func (w *writer) text(s string) {
	w.one(byte(len(s)))
	w.written = append(w.written, s...)
}

type requestWriter struct{ writer }

func (w *requestWriter) request(r api.Request) {
	w.one(byte(r.Want))
	w.numbers(r.Id, r.Flow, r.Count, r.Token)
	w.text(r.Text)
}

type answerWriter struct{ writer }

func (w *answerWriter) answer(a api.Answer) {
	w.one(byte(a.Status))
	w.numbers(a.Id, a.Left, a.Wait, a.Token)
}
