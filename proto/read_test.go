package proto_test

import (
	"bytes"
	"math/rand"
	"strings"
	"testing"

	"spillway/api"
	"spillway/proto"
)

// refused holds what is read of bytes to ErrForm and a place.
func refused(t *testing.T, what string, b []byte, place int) {
	t.Helper()
	if r, err, at := proto.ReadRequest(b); r != (api.Request{}) || err != api.ErrForm || at != place {
		t.Errorf("%s: ReadRequest of %d bytes: %+v, %v, %d, want the place %d", what, len(b), r, err, at, place)
	}
}

func refusedAnswer(t *testing.T, what string, b []byte, place int) {
	t.Helper()
	if a, err, at := proto.ReadAnswer(b); a != (api.Answer{}) || err != api.ErrForm || at != place {
		t.Errorf("%s: ReadAnswer of %d bytes: %+v, %v, %d, want the place %d", what, len(b), a, err, at, place)
	}
}

// P19.2: bytes that end too early have the place of their end; where some are left it is how long it would be.
func TestReadPlaces(t *testing.T) {
	for _, r := range []api.Request{wantFlow(), wantParam(), wantToken(), giveBack(), hello()} {
		b := requestBytes(r)
		for n := range b {
			refused(t, "too short", b[:n], n)
		}
		for more := range 40 {
			refused(t, "too long", append(requestBytes(r), make([]byte, more+1)...), len(b))
		}
	}
	b := answerBytes(answer())
	for n := range b {
		refusedAnswer(t, "too short", b[:n], n)
	}
	for more := range 40 {
		refusedAnswer(t, "too long", append(answerBytes(answer()), make([]byte, more+1)...), len(b))
	}
	refused(t, "nil", nil, 0)
	refusedAnswer(t, "nil", nil, 0)
}

// P19.2: how long they are is named ahead of what they say; of bytes that are as long as they would be, and not right, the place is 0.
func TestReadWrong(t *testing.T) {
	wrong := map[string]func(r *api.Request){
		"Want 0":      func(r *api.Request) { r.Want = 0 },
		"Want 6":      func(r *api.Request) { r.Want = 6 },
		"Want 255":    func(r *api.Request) { r.Want = 255 },
		"Id -1":       func(r *api.Request) { r.Id = -1 },
		"Id 2^31":     func(r *api.Request) { r.Id = 1 << 31 },
		"Flow -2^63":  func(r *api.Request) { r.Flow = -1 << 63 },
		"Flow, Token": func(r *api.Request) { r.Flow, r.Token = 1, 1 },
		"Count":       func(r *api.Request) { r.Count = api.MaxCount + 1 },
		"Token":       func(r *api.Request) { r.Token = 1 << 31 },
		"Text of 65":  func(r *api.Request) { r.Text = strings.Repeat("x", 65) },
		"Text of 255": func(r *api.Request) { r.Text = strings.Repeat("x", 255) },
	}
	for what, spoil := range wrong {
		for _, r := range []api.Request{wantFlow(), wantParam(), wantToken(), giveBack(), hello()} {
			spoil(&r)
			b := requestBytes(r)
			refused(t, what, b, 0)
			refused(t, what+", too short", b[:len(b)-1], len(b)-1)
			refused(t, what+", too long", append(b, 0), len(b))
		}
	}
	for what, a := range map[string]api.Answer{
		"Status 0": {}, "Status 9": {Status: 9}, "Status 255": {Status: 255}, "Id": {Status: 1, Id: 1 << 31}, "Left": {Status: 1, Left: -1 << 63},
		"Wait": {Status: 1, Wait: 1<<40 + 1}, "Token": {Status: 1, Token: -1},
	} {
		b := answerBytes(a)
		refusedAnswer(t, what, b, 0)
		refusedAnswer(t, what+", too short", b[:len(b)-1], len(b)-1)
		refusedAnswer(t, what+", too long", append(b, 0), len(b))
	}
}

// P19.2: the place of a text that is not all there is where the bytes end, however wrong the rest is.
func TestReadTextLength(t *testing.T) {
	head := requestBytes(wantFlow())
	for length := 1; length < 256; length++ {
		head[len(head)-1] = byte(length)
		refused(t, "no text", head, len(head))
		refused(t, "all but one byte", append(bytes.Clone(head), make([]byte, length-1)...), len(head)+length-1)
		refused(t, "a text that may not be", append(bytes.Clone(head), make([]byte, length)...), 0)
		refused(t, "a byte more", append(bytes.Clone(head), make([]byte, length+1)...), len(head)+length)
	}
}

// anyNumber is one of any size, often at a limit.
func anyNumber(r *rand.Rand, limits ...int) int {
	switch r.Intn(3) {
	case 0:
		return limits[r.Intn(len(limits))] + r.Intn(3) - 1
	case 1:
		return r.Intn(10)
	}
	return int(r.Uint64() >> r.Intn(64))
}

func anyText(r *rand.Rand) string {
	b := make([]byte, r.Intn(1+[]int{0, 3, 64, 70}[r.Intn(4)]))
	plain := r.Intn(2) == 0
	for i := range b {
		b[i] = byte(r.Intn(256))
		if plain {
			b[i] = 33 + b[i]%94
		}
	}
	return string(b)
}

func anyRequest(r *rand.Rand) api.Request {
	q := api.Request{Want: api.Want(r.Intn(7)), Id: anyNumber(r, 0, 1<<31)}
	if r.Intn(6) == 0 || q.Want < api.GiveBack {
		q.Flow, q.Count = anyNumber(r, 1, api.MaxCount), anyNumber(r, 1, api.MaxCount)
	}
	if r.Intn(6) == 0 || q.Want == api.GiveBack {
		q.Token = anyNumber(r, 1, 1<<31)
	}
	if r.Intn(6) == 0 || q.Want == api.WantParam || q.Want == api.Hello {
		q.Text = anyText(r)
	}
	return q
}

func anyAnswer(r *rand.Rand) api.Answer {
	return api.Answer{Status: api.Status(r.Intn(10)), Id: anyNumber(r, 0, 1<<31), Left: anyNumber(r, 0, api.MaxCount), Wait: anyNumber(r, 0, 1<<40), Token: anyNumber(r, 0, 1<<31)}
}

// P19.3, P19.1, E9: what is right has bytes that say it again; what is not has none.
func TestThereAndBack(t *testing.T) {
	r := rand.New(rand.NewSource(19))
	right, rightAnswers := map[api.Want]int{}, 0
	for range 60000 {
		q := anyRequest(r)
		b, err := proto.Request(q)
		if proto.Right(q) != (err == api.OK) {
			t.Fatalf("%+v: Right %v, %v", q, proto.Right(q), err)
		}
		if err == api.OK {
			right[q.Want]++
			if got, err, place := proto.ReadRequest(b); got != q || err != api.OK || place != 0 {
				t.Fatalf("%+v came back as %+v, %v, %d", q, got, err, place)
			}
		}
		a := anyAnswer(r)
		b, err = proto.Answer(a)
		if proto.RightAnswer(a) != (err == api.OK) {
			t.Fatalf("%+v: Right %v, %v", a, proto.RightAnswer(a), err)
		}
		if err == api.OK {
			rightAnswers++
			if got, err, place := proto.ReadAnswer(b); got != a || err != api.OK || place != 0 {
				t.Fatalf("%+v came back as %+v, %v, %d", a, got, err, place)
			}
		}
	}
	for w := api.WantFlow; w <= api.Hello; w++ {
		if right[w] < 300 {
			t.Errorf("of %d %d were right", w, right[w])
		}
	}
	if rightAnswers < 300 {
		t.Errorf("%d answers were right", rightAnswers)
	}
}

// spoilt is bytes with a few of them others, or some more, or fewer.
func spoilt(r *rand.Rand, b []byte) []byte {
	b = bytes.Clone(b)
	for range r.Intn(3) {
		switch i := r.Intn(len(b)); r.Intn(6) {
		case 0:
			b[i] = byte(r.Intn(256))
		case 1, 2:
			b[i] = byte(r.Intn(5))
		case 3:
			b = append(b, byte(r.Intn(256)))
		default:
			b[i] ^= 1 << r.Intn(8)
		}
	}
	if r.Intn(8) == 0 {
		b = b[:r.Intn(len(b))]
	}
	return b
}

// requestPlace and answerPlace are where bytes that are none are wrong.
func requestPlace(b []byte) int {
	const head = 1 + 4*8 + 1
	if len(b) < head {
		return len(b)
	}
	return placeOf(b, head+int(b[head-1]))
}

func answerPlace(b []byte) int { return placeOf(b, 1+4*8) }

func placeOf(b []byte, length int) int {
	if len(b) == length {
		return 0
	}
	return min(len(b), length)
}

// P19.3, P19.2: of bytes of any kind that are read the bytes of what was read are those; of others the place is as it should.
func TestBackAndThere(t *testing.T) {
	r := rand.New(rand.NewSource(193))
	read, refusals, atPlace := 0, 0, 0
	note := func(b, back []byte, err, backErr api.Errno, place, want int) {
		switch {
		case err == api.OK && bytes.Equal(back, b) && backErr == api.OK && place == 0:
			read++
		case err == api.ErrForm && place == want:
			refusals++
			atPlace += min(place, 1)
		default:
			t.Fatalf("%v: %v, the place %d, want %d; back: %v, %v", b, err, place, want, back, backErr)
		}
	}
	for range 40000 {
		b := spoilt(r, requestBytes(anyRequest(r)))
		q, err, place := proto.ReadRequest(b)
		back, backErr := proto.Request(q)
		note(b, back, err, backErr, place, requestPlace(b))
		b = spoilt(r, answerBytes(anyAnswer(r)))
		a, err, place := proto.ReadAnswer(b)
		back, backErr = proto.Answer(a)
		note(b, back, err, backErr, place, answerPlace(b))
	}
	if read < 3000 || refusals < 3000 || atPlace < 3000 {
		t.Errorf("%d were read, %d not, %d of these at a place", read, refusals, atPlace)
	}
}

// P19.4: no request's bytes are as many as a frame may have, and all requests can be framed.
func TestShorterThanAFrame(t *testing.T) {
	most := api.Request{Id: maxNumber, Want: api.WantParam, Flow: api.MaxCount, Count: api.MaxCount, Text: strings.Repeat("x", api.MaxName)}
	name := api.Request{Id: maxNumber, Want: api.Hello, Text: strings.Repeat("x", api.MaxName)}
	for _, r := range []api.Request{most, name} {
		b, err := proto.Request(r)
		if err != api.OK || len(b) != 98 || len(b) >= api.MaxFrame {
			t.Errorf("%+v: %d bytes, %v", r, len(b), err)
		}
	}
	r := rand.New(rand.NewSource(194))
	for range 5000 {
		if b, _ := proto.Request(anyRequest(r)); len(b) > 98 {
			t.Fatalf("%d bytes", len(b))
		}
	}
	if b, err := proto.All(most, name, most); len(b) != 3*(98+4) || err != api.OK {
		t.Errorf("as frames: %d bytes, %v", len(b), err)
	}
}
