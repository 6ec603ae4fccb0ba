package frame

import (
	"iter"
	"slices"

	"spillway/api"
)

// Reader gathers bytes.
type Reader struct {
	gathered []byte // of the frame that is begun
	broken   bool
}

// New has gathered none.
func New() *Reader { return &Reader{} }

// Put takes bytes: the payloads that are whole by them.
func (r *Reader) Put(b ...byte) ([][]byte, api.Errno) {
	if r == nil {
		return nil, api.ErrNil
	}
	var told [][]byte
	for payload := range r.payloads(b) {
		told = append(told, payload)
	}
	if r.broken {
		return told, api.ErrFrame
	}
	return told, api.OK
}

// Left is how many bytes it has gathered; Missing how many are missing.
func (r *Reader) Left() int {
	if r == nil {
		return 0
	}
	return len(r.gathered)
}

func (r *Reader) Missing() int {
	if r == nil || r.broken {
		return 0
	}
	size, is := sizeOf(r.gathered)
	if !is {
		size = headSize
	}
	return size - len(r.gathered)
}

// Broken tells whether it is.
func (r *Reader) Broken() bool { return r != nil && r.broken }

// Reset begins anew.
func (r *Reader) Reset() {
	if r != nil {
		*r = Reader{}
	}
}

// Fork is another one that stands the same.
func (r *Reader) Fork() *Reader {
	if r == nil {
		return nil
	}
	return &Reader{gathered: slices.Clone(r.gathered), broken: r.broken}
}

// payloads goes through the payloads that are whole by bytes. It takes no more of them at a time than are known to be missing, so that it never gathers more than one frame.
func (r *Reader) payloads(b []byte) iter.Seq[[]byte] {
	return func(yield func([]byte) bool) {
		for len(b) > 0 && !r.broken {
			n := min(r.Missing(), len(b))
			r.gathered = append(r.gathered, b[:n]...)
			b = b[n:]
			if payload, is := r.tell(); is && !yield(payload) {
				return
			}
		}
	}
}

// tell is the payload of the frame that was gathered, which is let go of then; false: it is not whole. A length that is no payload's breaks the reader.
func (r *Reader) tell() ([]byte, bool) {
	size, is := sizeOf(r.gathered)
	switch {
	case !is && len(r.gathered) >= headSize:
		*r = Reader{broken: true}
		return nil, false
	case !is || len(r.gathered) < size:
		return nil, false
	}
	payload := cut(r.gathered, size)
	r.gathered = nil
	return payload, true
}
