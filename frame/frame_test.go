package frame_test

import (
	"bytes"
	"math/rand"
	"slices"
	"testing"

	"spillway/api"
	"spillway/frame"
)

// bytesOf is so many bytes, no two lengths of which begin alike.
func bytesOf(n int) []byte {
	b := make([]byte, n)
	for i := range b {
		b[i] = byte(n + 7*i)
	}
	return b
}

// framed is a frame as the document tells of it.
func framed(payload []byte) []byte {
	n := len(payload)
	return append([]byte{byte(n / 256 / 256 / 256), byte(n / 256 / 256), byte(n / 256), byte(n)}, payload...)
}

func same(a, b [][]byte) bool { return slices.EqualFunc(a, b, bytes.Equal) }

// head is four bytes of a number, the highest first.
func head(n uint32) []byte { return []byte{byte(n >> 24), byte(n >> 16), byte(n >> 8), byte(n)} }

// Chapter 18, example 1: the frame of ab.
func TestExample(t *testing.T) {
	b, err := frame.Frame([]byte("ab"))
	if !bytes.Equal(b, []byte{0, 0, 0, 2, 97, 98}) || err != api.OK {
		t.Errorf("Frame of ab: %v, %v", b, err)
	}
	r := frame.New()
	if l, err := r.Put(b[:5]...); len(l) != 0 || err != api.OK || r.Missing() != 1 {
		t.Errorf("Put of its first five bytes: %q, %v; Missing: %d", l, err, r.Missing())
	}
	if l, err := r.Put(b[5]); !same(l, [][]byte{[]byte("ab")}) || err != api.OK {
		t.Errorf("Put of the last one: %q, %v", l, err)
	}
	if l, err := r.Put(0, 0, 0, 0); len(l) != 0 || err != api.ErrFrame {
		t.Errorf("Put of 0 0 0 0: %q, %v", l, err)
	}
}

// P18.1: Frame has ErrLong, ErrForm; else the length, the highest byte first, and the payload.
func TestFrame(t *testing.T) {
	for _, n := range []int{1, 2, 97, 255, 256, 257, 511, 4095, api.MaxFrame} {
		b, err := frame.Frame(bytesOf(n))
		if !bytes.Equal(b, framed(bytesOf(n))) || err != api.OK {
			t.Errorf("Frame of %d bytes: %v, %v", n, b, err)
		}
	}
	for n, want := range map[int]api.Errno{0: api.ErrForm, api.MaxFrame + 1: api.ErrLong, 1 << 20: api.ErrLong} {
		if b, err := frame.Frame(bytesOf(n)); len(b) != 0 || err != want {
			t.Errorf("Frame of %d bytes: %v, %v, want %v", n, b, err, want)
		}
	}
	if b, err := frame.Frame(nil); len(b) != 0 || err != api.ErrForm {
		t.Errorf("Frame of nil: %v, %v", b, err)
	}
}

// P18.1: Frames has the first one's error; else they stand one behind the other.
func TestFrames(t *testing.T) {
	long, some := bytesOf(api.MaxFrame+1), bytesOf(3)
	tests := []struct {
		l    [][]byte
		want []byte
		err  api.Errno
	}{
		{nil, nil, api.OK},
		{[][]byte{some}, framed(some), api.OK},
		{[][]byte{some, long[1:], bytesOf(1)}, slices.Concat(framed(some), framed(long[1:]), framed(bytesOf(1))), api.OK},
		{[][]byte{nil, long}, nil, api.ErrForm},
		{[][]byte{long, nil}, nil, api.ErrLong},
		{[][]byte{some, some, {}}, nil, api.ErrForm},
		{[][]byte{some, long, some}, nil, api.ErrLong},
	}
	for i, x := range tests {
		if b, err := frame.Frames(x.l...); !bytes.Equal(b, x.want) || err != x.err {
			t.Errorf("%d: Frames: %v, %v, want %v, %v", i, b, err, x.want, x.err)
		}
	}
}

// P18.1: Split tells the whole frames and the place behind them; beside them whether a frame is begun there, or can be begun by what is there.
func TestSplit(t *testing.T) {
	two := [][]byte{bytesOf(3), bytesOf(api.MaxFrame)}
	ahead := slices.Concat(framed(two[0]), framed(two[1]))
	tests := []struct {
		behind []byte
		err    api.Errno
	}{
		{nil, api.OK},
		{[]byte{0}, api.ErrEnd}, {[]byte{0, 0}, api.ErrEnd}, {[]byte{0, 0, 0}, api.ErrEnd},
		{[]byte{0, 0, 0x0f}, api.ErrEnd}, {[]byte{0, 0, 0x10}, api.ErrEnd},
		{[]byte{0, 0, 0, 1}, api.ErrEnd}, {[]byte{0, 0, 0, 2, 9}, api.ErrEnd}, {[]byte{0, 0, 0x10, 0}, api.ErrEnd}, {[]byte{0, 0, 0x0f, 0xff, 0, 0, 0, 0}, api.ErrEnd},
		{framed(bytesOf(4096))[:4099], api.ErrEnd}, {framed(bytesOf(9))[:12], api.ErrEnd},
		{[]byte{1}, api.ErrFrame}, {[]byte{0xff}, api.ErrFrame}, {[]byte{0, 1}, api.ErrFrame}, {[]byte{0, 0xff}, api.ErrFrame},
		{[]byte{0, 0, 0x11}, api.ErrFrame}, {[]byte{0, 0, 0xff}, api.ErrFrame},
		{[]byte{0, 0, 0, 0}, api.ErrFrame}, {[]byte{0, 0, 0, 0, 1}, api.ErrFrame}, {[]byte{0, 0, 0x10, 1}, api.ErrFrame}, {[]byte{0x80, 0, 0, 1}, api.ErrFrame},
		{[]byte{1, 0, 0, 1, 5}, api.ErrFrame}, {[]byte{0, 1, 0, 1, 5}, api.ErrFrame}, {[]byte{0xff, 0xff, 0xff, 0xff}, api.ErrFrame},
		{append(head(api.MaxFrame+1), bytesOf(api.MaxFrame+1)...), api.ErrFrame},
	}
	for _, x := range tests {
		if l, place, err := frame.Split(x.behind); len(l) != 0 || place != 0 || err != x.err {
			t.Errorf("Split of %d bytes: %q, %d, %v, want %v", len(x.behind), l, place, err, x.err)
		}
		if l, place, err := frame.Split(slices.Concat(ahead, x.behind)); !same(l, two) || place != len(ahead) || err != x.err {
			t.Errorf("Split of two frames and %d bytes: %d payloads, %d, %v, want %v", len(x.behind), len(l), place, err, x.err)
		}
	}
}

// payloadsOf are payloads of any lengths, often of the least and the greatest.
func payloadsOf(r *rand.Rand, most int) [][]byte {
	var l [][]byte
	for range r.Intn(most + 1) {
		b := make([]byte, []int{1, 2, 1 + r.Intn(20), 1 + r.Intn(400), api.MaxFrame - r.Intn(2)}[r.Intn(5)])
		for i := range b {
			b[i] = byte(r.Intn(3)) // so that payloads look like lengths
		}
		l = append(l, b)
	}
	return l
}

// P18.6, P18.1: Split of Frames are the payloads, and the length; of a beginning of it those that are whole, and the place behind them.
func TestSplitOfFrames(t *testing.T) {
	for seed := range 200 {
		r := rand.New(rand.NewSource(int64(seed)))
		l := payloadsOf(r, 6)
		b, err := frame.Frames(l...)
		if err != api.OK {
			t.Fatal(err)
		}
		if got, place, err := frame.Split(b); !same(got, l) || place != len(b) || err != api.OK {
			t.Fatalf("seed %d: Split of Frames: %d payloads, %d, %v", seed, len(got), place, err)
		}
		cut := r.Intn(len(b) + 1)
		whole, end := 0, 0
		for whole < len(l) && end+4+len(l[whole]) <= cut {
			end += 4 + len(l[whole])
			whole++
		}
		want := api.ErrEnd
		if end == cut {
			want = api.OK
		}
		if got, place, err := frame.Split(b[:cut]); !same(got, l[:whole]) || place != end || err != want {
			t.Fatalf("seed %d: Split of the first %d bytes: %d payloads, %d, %v, want %d, %d, %v", seed, cut, len(got), place, err, whole, end, want)
		}
	}
}

// P3: what is handed in stays as it is, spare room too; what is answered lies neither there nor in another answer.
func TestOwnMemory(t *testing.T) {
	room := []byte("abcdef")
	b, _ := frame.Frame(room[:3])
	if string(room) != "abcdef" {
		t.Errorf("the payload became %q", room)
	}
	room[0] = 'x'
	if !bytes.Equal(b, framed([]byte("abc"))) {
		t.Errorf("the frame became %q", b)
	}
	in := slices.Concat(framed([]byte("abc")), framed([]byte("de")), []byte{0, 0})
	was := slices.Clone(in)
	l, _, _ := frame.Split(in[:len(in)-2])
	for i := range l {
		l[i] = append(l[i], "spoilt, and more than that"...)
		l[i][0] = 'x'
	}
	if !bytes.Equal(in, was) {
		t.Errorf("the bytes became %q", in)
	}
	l, _, _ = frame.Split(in)
	clear(in)
	l[0] = append(l[0], 1, 2, 3, 4, 5, 6)
	spoil(l[0])
	if string(l[1]) != "de" {
		t.Errorf("another payload became %q", l[1])
	}
}

// spoil writes over all that a list reaches.
func spoil(b []byte) { clear(b[:cap(b)]) }
