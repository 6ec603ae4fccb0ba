package frame

import (
	"iter"

	"spillway/api"
)

const headSize = 4 // bytes of a length

// headOf is the bytes of a length, the highest first.
func headOf(n int) []byte { return []byte{byte(n >> 24), byte(n >> 16), byte(n >> 8), byte(n)} }

// lengths are the least and the greatest length whose bytes begin so; they are one, if all bytes of the length are there.
func lengths(b []byte) (least, most int) {
	for i := range headSize {
		lo, hi := 0, 0xff
		if i < len(b) {
			lo, hi = int(b[i]), int(b[i])
		}
		least, most = least<<8|lo, most<<8|hi
	}
	return least, most
}

// mayBegin tells whether bytes may begin a frame: one of the lengths that begin so is a payload's.
func mayBegin(b []byte) bool {
	least, most := lengths(b)
	return least <= api.MaxFrame && most >= 1
}

// sizeOf is how many bytes the frame has that begins so; false: its length is not whole, or is no payload's.
func sizeOf(b []byte) (int, bool) {
	if len(b) < headSize || !mayBegin(b) {
		return 0, false
	}
	length, _ := lengths(b)
	return headSize + length, true
}

// cut is the payload of a frame, and no room behind it.
func cut(b []byte, size int) []byte { return b[headSize:size:size] }

// whole goes through the payloads of the whole frames with which bytes begin, as they lie there.
func whole(b []byte) iter.Seq[[]byte] {
	return func(yield func([]byte) bool) {
		for {
			size, is := sizeOf(b)
			if !is || size > len(b) || !yield(cut(b, size)) {
				return
			}
			b = b[size:]
		}
	}
}
