package frame_test

import (
	"bytes"
	"math/rand"
	"slices"
	"testing"

	"spillway/api"
	"spillway/frame"
)

// standing is what a reader tells of itself.
type standing struct {
	left, missing int
	broken        bool
}

func of(r *frame.Reader) standing { return standing{r.Left(), r.Missing(), r.Broken()} }

// stands holds what a reader tells of itself against what it should.
func stands(t *testing.T, what string, r *frame.Reader, left, missing int, broken bool) {
	t.Helper()
	if got := of(r); got != (standing{left, missing, broken}) {
		t.Errorf("%s: %+v, want %d left, %d missing, broken %v", what, got, left, missing, broken)
	}
}

// put lets a reader take bytes that do not break it.
func put(t *testing.T, r *frame.Reader, b ...byte) [][]byte {
	t.Helper()
	l, err := r.Put(b...)
	if err != api.OK {
		t.Fatalf("Put of %d bytes: %v", len(b), err)
	}
	return l
}

// P18.2: how many bytes are gathered, and missing, byte by byte; a payload is told as soon as its frame is whole.
func TestPut(t *testing.T) {
	r := frame.New()
	stands(t, "new", r, 0, 4, false)
	if l := put(t, r); len(l) != 0 {
		t.Errorf("Put of nothing: %q", l)
	}
	for _, n := range []int{1, 300, api.MaxFrame} {
		b := framed(bytesOf(n))
		for i := range b {
			missing := 4 - i
			if i >= 4 {
				missing = len(b) - i
			}
			stands(t, "begun", r, i, missing, false)
			l := put(t, r, b[i])
			if i < len(b)-1 && len(l) != 0 || i == len(b)-1 && !same(l, [][]byte{bytesOf(n)}) {
				t.Fatalf("of a frame of %d bytes, behind %d: %q", len(b), i+1, l)
			}
		}
		stands(t, "told", r, 0, 4, false)
	}
}

// P18.2: several payloads by one Put, in order; what stands behind them is gathered.
func TestPutMany(t *testing.T) {
	r := frame.New()
	one, two, three := bytesOf(2), bytesOf(api.MaxFrame), bytesOf(700)
	b := slices.Concat(framed(one), framed(two), framed(three))
	if l := put(t, r, b[:5]...); len(l) != 0 {
		t.Errorf("a beginning: %q", l)
	}
	if l := put(t, r, b[5:len(b)-300]...); !same(l, [][]byte{one, two}) {
		t.Errorf("two whole ones: %d", len(l))
	}
	stands(t, "a third one is begun", r, 404, 300, false)
	if l := put(t, r, slices.Concat(b[len(b)-300:], framed(one), framed(three), []byte{0, 0})...); !same(l, [][]byte{three, one, three}) {
		t.Errorf("three whole ones: %d", len(l))
	}
	stands(t, "a length is begun", r, 2, 2, false)
}

// P18.2: four bytes that are no length break it, as soon as all four are there; the payloads ahead are told, and what stands behind is thrown away.
func TestBreaks(t *testing.T) {
	for _, n := range []uint32{0, api.MaxFrame + 1, api.MaxFrame + 256, 1 << 16, 1 << 24, 1<<24 + 1, 1<<31 + 5, 1<<32 - 1} {
		r := frame.New()
		put(t, r, head(n)[:3]...)
		stands(t, "three bytes", r, 3, 1, false)
		if l, err := r.Put(head(n)[3]); len(l) != 0 || err != api.ErrFrame {
			t.Errorf("Put of %d: %q, %v", n, l, err)
		}
		stands(t, "broken", r, 0, 0, true)

		r = frame.New()
		ahead := [][]byte{bytesOf(3), bytesOf(9)}
		b := slices.Concat(framed(ahead[0]), framed(ahead[1]), head(n), framed(bytesOf(5)))
		put(t, r, b[:6]...)
		if l, err := r.Put(b[6:]...); !same(l, ahead) || err != api.ErrFrame {
			t.Errorf("Put of two frames and %d: %q, %v", n, l, err)
		}
		stands(t, "broken behind two", r, 0, 0, true)
	}
}

// P18.5: a broken one tells nothing more, whatever comes; Reset mends it.
func TestBroken(t *testing.T) {
	r := frame.New()
	r.Put(0, 0, 0, 0)
	for _, b := range [][]byte{nil, {0}, framed(bytesOf(1)), slices.Concat(framed(bytesOf(3)), framed(bytesOf(4))), {0, 0, 0, 0}} {
		if l, err := r.Put(b...); len(l) != 0 || err != api.ErrFrame {
			t.Errorf("Put of %v: %q, %v", b, l, err)
		}
		stands(t, "broken", r, 0, 0, true)
		stands(t, "its fork", r.Fork(), 0, 0, true)
	}
	r.Reset()
	stands(t, "mended", r, 0, 4, false)
	if l := put(t, r, framed(bytesOf(6))...); !same(l, [][]byte{bytesOf(6)}) {
		t.Errorf("mended: %q", l)
	}
	put(t, r, 0, 0, 0, 9, 1)
	r.Reset()
	stands(t, "what was gathered is gone", r, 0, 4, false)
	if l := put(t, r, framed(bytesOf(2))...); !same(l, [][]byte{bytesOf(2)}) {
		t.Errorf("behind a Reset: %q", l)
	}
}

// P18.3, P18.4, E9: whatever the cuts, what is told is what was framed, in order; never more than 4 + MaxFrame bytes less one are gathered.
func TestCuts(t *testing.T) {
	for seed := range 300 {
		rnd := rand.New(rand.NewSource(int64(seed)))
		l := payloadsOf(rnd, 8)
		b, err := frame.Frames(l...)
		if err != api.OK {
			t.Fatal(err)
		}
		r := frame.New()
		var told [][]byte
		for taken := 0; taken < len(b); {
			n := min([]int{0, 1, 1 + rnd.Intn(6), 1 + rnd.Intn(1000), 1 + rnd.Intn(9000)}[rnd.Intn(5)], len(b)-taken)
			told = append(told, put(t, r, b[taken:taken+n]...)...)
			taken += n
			split, place, _ := frame.Split(b[:taken])
			if !same(told, split) || r.Left() != taken-place || r.Left() > 4+api.MaxFrame-1 || r.Broken() {
				t.Fatalf("seed %d: behind %d bytes: %d are told, %d are whole; Left %d, of %d", seed, taken, len(told), len(split), r.Left(), taken-place)
			}
			if rnd.Intn(5) == 0 {
				r = r.Fork()
			}
		}
		if !same(told, l) {
			t.Fatalf("seed %d: not all is told", seed)
		}
	}
}

// P18.2, P18.5: bytes of any kind: cut or not, the same is told, and it breaks at the same one.
func TestAnyBytes(t *testing.T) {
	broken := 0
	for seed := range 300 {
		rnd := rand.New(rand.NewSource(int64(seed)))
		b := make([]byte, rnd.Intn(400))
		for i := range b {
			if i%4 == 3 || rnd.Intn(50) == 0 {
				b[i] = byte(rnd.Intn(20))
			}
		}
		whole := frame.New()
		want, wantErr := whole.Put(b...)
		r := frame.New()
		var told [][]byte
		err := api.OK
		for _, x := range b {
			var l [][]byte
			l, err = r.Put(x)
			told = append(told, l...)
		}
		if !same(told, want) || err != wantErr || of(r) != of(whole) {
			t.Fatalf("seed %d: %v: byte by byte %d are told, %v, %+v; at once %d, %v, %+v", seed, b, len(told), err, of(r), len(want), wantErr, of(whole))
		}
		split, place, splitErr := frame.Split(b)
		if !same(told, split) || !r.Broken() && r.Left() != len(b)-place {
			t.Fatalf("seed %d: %v: Split tells %d, %d, %v", seed, b, len(split), place, splitErr)
		}
		if r.Broken() {
			broken++
			if splitErr != api.ErrFrame {
				t.Fatalf("seed %d: %v: it is broken, and Split has %v", seed, b, splitErr)
			}
		}
	}
	if broken < 50 || broken > 250 {
		t.Errorf("%d of 300 are broken", broken)
	}
}

// P18.2: the most that may be gathered; P18.4.
func TestMostGathered(t *testing.T) {
	r := frame.New()
	b := framed(bytesOf(api.MaxFrame))
	put(t, r, b[:len(b)-1]...)
	stands(t, "all but one", r, 4+api.MaxFrame-1, 1, false)
	if l := put(t, r, slices.Concat(b[len(b)-1:], b[:len(b)-1])...); !same(l, [][]byte{bytesOf(api.MaxFrame)}) {
		t.Errorf("%d are told", len(l))
	}
	stands(t, "all but one again", r, 4+api.MaxFrame-1, 1, false)
}

// P1: a nil reader answers ErrNil, and else zero values.
func TestNil(t *testing.T) {
	var r *frame.Reader
	for _, b := range [][]byte{nil, {0}, framed(bytesOf(2)), {0, 0, 0, 0}} {
		if l, err := r.Put(b...); len(l) != 0 || err != api.ErrNil {
			t.Errorf("Put: %q, %v", l, err)
		}
	}
	r.Reset()
	stands(t, "nil", r, 0, 0, false)
	if r.Fork() != nil {
		t.Error("it has a fork")
	}
}

// P3: bytes that are put stay as they are, and what becomes of them is of no account; a payload lies in no other one, and not in what is gathered.
func TestPutOwnMemory(t *testing.T) {
	r := frame.New()
	one, two := []byte("abc"), []byte("de")
	b := slices.Concat(framed(one), framed(two), framed(one))
	was := slices.Clone(b)
	l := put(t, r, b[:len(b)-1]...)
	if !bytes.Equal(b, was) {
		t.Errorf("the bytes became %q", b)
	}
	last := b[len(b)-1]
	clear(b)
	spoil(l[0])
	if string(l[1]) != "de" {
		t.Errorf("another payload became %q", l[1])
	}
	l[1] = append(l[1], "more and more and more"...)
	spoil(l[1])
	again := put(t, r, slices.Concat([]byte{last}, framed(two))...)
	if !same(again, [][]byte{one, two}) {
		t.Fatalf("behind that %q are told", again)
	}
	spoil(again[0])
	if string(again[1]) != "de" {
		t.Errorf("another payload became %q", again[1])
	}
}

// P4: of a reader and its Fork, what becomes of the one changes nothing of the other one.
func TestFork(t *testing.T) {
	b := framed([]byte("abcdef"))
	for cut := range len(b) {
		r := frame.New()
		put(t, r, b[:cut]...)
		was := of(r)
		fork := r.Fork()
		if of(fork) != was {
			t.Fatalf("Fork: %+v, want %+v", of(fork), was)
		}
		if l := put(t, fork, slices.Concat(b[cut:], []byte{0, 0})...); !same(l, [][]byte{[]byte("abcdef")}) || of(r) != was {
			t.Errorf("cut at %d: the fork tells %q; %+v, was %+v", cut, l, of(r), was)
		}
		other := framed([]byte("ABCDEF"))
		another := r.Fork()
		if l := put(t, r, other[cut:]...); !same(l, [][]byte{slices.Concat(b[:cut], other[cut:])[4:]}) {
			t.Errorf("cut at %d: it tells %q", cut, l)
		}
		if l := put(t, another, b[cut:]...); !same(l, [][]byte{[]byte("abcdef")}) {
			t.Errorf("cut at %d: another fork tells %q", cut, l)
		}
		stands(t, "the fork", fork, 2, 2, false)
		another.Reset()
		fork.Put(0, 0)
		if fork.Broken() == r.Broken() {
			t.Errorf("cut at %d: broken %v, %v", cut, fork.Broken(), r.Broken())
		}
	}
}

// P4: a reader and its Fork that take other bytes by turns tell each its own.
func TestForkByTurns(t *testing.T) {
	one, two := framed(bytesOf(100)), framed(slices.Repeat([]byte{9}, 100))
	for cut := range 50 {
		r := frame.New()
		put(t, r, one[:cut]...)
		fork := r.Fork()
		for i := cut; i < len(one)-1; i++ {
			put(t, r, one[i])
			put(t, fork, two[i])
		}
		if l := put(t, r, one[len(one)-1]); !same(l, [][]byte{one[4:]}) {
			t.Fatalf("cut at %d: it tells %v", cut, l)
		}
		if l := put(t, fork, two[len(two)-1]); !same(l, [][]byte{slices.Concat(one[:cut], two[cut:])[4:]}) {
			t.Fatalf("cut at %d: the fork tells %v", cut, l)
		}
	}
}
