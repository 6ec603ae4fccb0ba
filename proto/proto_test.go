package proto_test

import (
	"bytes"
	"encoding/binary"
	"math"
	"slices"
	"strings"
	"testing"

	"spillway/api"
	"spillway/frame"
	"spillway/proto"
)

const maxNumber = 1<<31 - 1

// bytesOf are a byte and numbers as the document tells of them.
func bytesOf(first byte, l ...uint64) []byte {
	b := []byte{first}
	for _, n := range l {
		b = binary.BigEndian.AppendUint64(b, n)
	}
	return b
}

// requestBytes are a request's, whether it is right or not; a text of at most 255 bytes.
func requestBytes(r api.Request) []byte {
	b := bytesOf(byte(r.Want), uint64(r.Id), uint64(r.Flow), uint64(r.Count), uint64(r.Token))
	return append(append(b, byte(len(r.Text))), r.Text...)
}

func answerBytes(a api.Answer) []byte {
	return bytesOf(byte(a.Status), uint64(a.Id), uint64(a.Left), uint64(a.Wait), uint64(a.Token))
}

// Requests of each Want that are right.
func wantFlow() api.Request { return api.Request{Id: 3, Want: api.WantFlow, Flow: 7, Count: 2} }

func wantParam() api.Request {
	return api.Request{Id: 3, Want: api.WantParam, Flow: 7, Count: 2, Text: "a\x00 b\xff"}
}

func wantToken() api.Request { return api.Request{Id: 3, Want: api.WantToken, Flow: 7, Count: 2} }

func giveBack() api.Request { return api.Request{Id: 3, Want: api.GiveBack, Token: 9} }

func hello() api.Request { return api.Request{Id: 3, Want: api.Hello, Text: "cluster"} }

func answer() api.Answer {
	return api.Answer{Id: 3, Status: api.Granted, Left: 4, Wait: 5, Token: 6}
}

// number is one number of what is looked at, and from where to where it may be.
type number[T any] struct {
	name   string
	of     func(v *T) *int
	lo, hi int
}

// shouldBe holds numbers to their limits, one at a time.
func shouldBe[T any](t *testing.T, make func() T, right func(T) bool, numbers ...number[T]) {
	t.Helper()
	for _, x := range numbers {
		for _, n := range []int{x.lo, x.lo + (x.hi-x.lo)/2, x.hi, x.lo - 1, x.hi + 1, x.lo - 1<<32, x.hi + 1<<32, math.MinInt, math.MaxInt} {
			v := make()
			*x.of(&v) = n
			if got := right(v); got != (n >= x.lo && n <= x.hi) {
				t.Errorf("%s %d of %+v: %v", x.name, n, v, got)
			}
		}
	}
}

func id(r *api.Request) *int    { return &r.Id }
func flow(r *api.Request) *int  { return &r.Flow }
func count(r *api.Request) *int { return &r.Count }
func token(r *api.Request) *int { return &r.Token }

// Chapter 19, example 1: GiveBack of token 7, number 1.
func TestExample(t *testing.T) {
	r := api.Request{Id: 1, Want: api.GiveBack, Token: 7}
	want := []byte{
		4,
		0, 0, 0, 0, 0, 0, 0, 1,
		0, 0, 0, 0, 0, 0, 0, 0,
		0, 0, 0, 0, 0, 0, 0, 0,
		0, 0, 0, 0, 0, 0, 0, 7,
		0,
	}
	if b, err := proto.Request(r); !bytes.Equal(b, want) || err != api.OK {
		t.Errorf("%v, %v", b, err)
	}
	if got, err, place := proto.ReadRequest(want); got != r || err != api.OK || place != 0 {
		t.Errorf("read: %+v, %v, %d", got, err, place)
	}
}

// P19.1: the numbers of requests of each Want, within their limits; those that it does not name are 0.
func TestRightNumbers(t *testing.T) {
	ofFlow := []number[api.Request]{
		{"Id", id, 0, maxNumber}, {"Flow", flow, 1, api.MaxCount}, {"Count", count, 1, api.MaxCount}, {"Token", token, 0, 0},
	}
	shouldBe(t, wantFlow, proto.Right, ofFlow...)
	shouldBe(t, wantParam, proto.Right, ofFlow...)
	shouldBe(t, wantToken, proto.Right, ofFlow...)
	shouldBe(t, giveBack, proto.Right,
		number[api.Request]{"Id", id, 0, maxNumber}, number[api.Request]{"Flow", flow, 0, 0},
		number[api.Request]{"Count", count, 0, 0}, number[api.Request]{"Token", token, 1, maxNumber})
	shouldBe(t, hello, proto.Right,
		number[api.Request]{"Id", id, 0, maxNumber}, number[api.Request]{"Flow", flow, 0, 0},
		number[api.Request]{"Count", count, 0, 0}, number[api.Request]{"Token", token, 0, 0})
}

// P19.1: the texts of requests: of WantParam any one of at most MaxName bytes, of Hello a name, of others none.
func TestRightTexts(t *testing.T) {
	full := strings.Repeat("n", api.MaxName)
	texts := []struct {
		text        string
		param, name bool
	}{
		{"", true, false}, {"a", true, true}, {"!", true, true}, {"~", true, true}, {"main/x-1", true, true},
		{full, true, true}, {full + "n", false, false}, {strings.Repeat("n", 255), false, false}, {strings.Repeat("n", 256), false, false}, {strings.Repeat("n", 256+5), false, false},
		{"a b", true, false}, {" ", true, false}, {"\x7f", true, false}, {"\x00", true, false}, {"é", true, false}, {"\xff", true, false}, {"a\n", true, false},
		{strings.Repeat("\xff", api.MaxName), true, false}, {strings.Repeat("\x80", api.MaxName+1), false, false},
	}
	for _, x := range texts {
		wanted := map[api.Want]bool{api.WantFlow: x.text == "", api.WantParam: x.param, api.WantToken: x.text == "", api.GiveBack: x.text == "", api.Hello: x.name}
		for _, r := range []api.Request{wantFlow(), wantParam(), wantToken(), giveBack(), hello()} {
			r.Text = x.text
			if got := proto.Right(r); got != wanted[r.Want] {
				t.Errorf("the Text %q of %+v: %v", x.text, r, got)
			}
		}
	}
}

// P19.1: of a Want that is none nothing is right.
func TestRightWants(t *testing.T) {
	for _, r := range []api.Request{{}, wantFlow(), wantParam(), wantToken(), giveBack(), hello()} {
		for _, w := range []api.Want{0, api.Hello + 1, 128, 255} {
			r.Want = w
			if proto.Right(r) {
				t.Errorf("%+v is right", r)
			}
		}
	}
}

// P19.1: what is right of one Want is not of another one, but WantFlow, WantToken, and WantParam, which ask for the same.
func TestRightOfOneWant(t *testing.T) {
	for _, r := range []api.Request{wantFlow(), wantParam(), wantToken(), giveBack(), hello()} {
		was := r.Want
		for w := api.WantFlow; w <= api.Hello; w++ {
			r.Want = w
			asksAlike := (was == api.WantFlow || was == api.WantToken) && w <= api.WantToken
			if got := proto.Right(r); got != (w == was || asksAlike) {
				t.Errorf("of %d: %+v: %v", was, r, got)
			}
		}
	}
}

// P19.1: answers, with each number within its limits, and each Status.
func TestRightAnswer(t *testing.T) {
	shouldBe(t, answer, proto.RightAnswer,
		number[api.Answer]{"Id", func(a *api.Answer) *int { return &a.Id }, 0, maxNumber},
		number[api.Answer]{"Left", func(a *api.Answer) *int { return &a.Left }, 0, api.MaxCount},
		number[api.Answer]{"Wait", func(a *api.Answer) *int { return &a.Wait }, 0, 1 << 40},
		number[api.Answer]{"Token", func(a *api.Answer) *int { return &a.Token }, 0, maxNumber})
	for s := range 256 {
		a := answer()
		a.Status = api.Status(s)
		if got := proto.RightAnswer(a); got != (s >= 1 && s <= 8) {
			t.Errorf("Status %d: %v", s, got)
		}
	}
	if proto.RightAnswer(api.Answer{}) || !proto.RightAnswer(api.Answer{Status: api.Granted}) {
		t.Error("answers of noughts")
	}
}

// P19.1: a request's bytes are Want, Id, Flow, Count, Token, Text.
func TestRequest(t *testing.T) {
	most := api.Request{Id: maxNumber, Want: api.WantParam, Flow: api.MaxCount, Count: 0x0102030405, Text: strings.Repeat("é", 32)}
	for _, r := range []api.Request{wantFlow(), wantParam(), wantToken(), giveBack(), hello(), most} {
		if b, err := proto.Request(r); !bytes.Equal(b, requestBytes(r)) || err != api.OK {
			t.Errorf("%+v: %v, %v", r, b, err)
		}
	}
	wrong := []func(r *api.Request){
		func(r *api.Request) { r.Id = -1 }, func(r *api.Request) { r.Want = 0 }, func(r *api.Request) { r.Token++; r.Flow++ },
		func(r *api.Request) { r.Text = strings.Repeat("x", 300) }, func(r *api.Request) { r.Flow, r.Token = -1, -1 },
	}
	for _, r := range []api.Request{wantFlow(), wantParam(), wantToken(), giveBack(), hello()} {
		for i, spoil := range wrong {
			r := r
			spoil(&r)
			if b, err := proto.Request(r); len(b) != 0 || err != api.ErrForm {
				t.Errorf("wrong %d: %+v: %v, %v", i, r, b, err)
			}
		}
	}
}

// P19.1: an answer's bytes are Status, Id, Left, Wait, Token.
func TestAnswer(t *testing.T) {
	most := api.Answer{Id: maxNumber, Status: api.Released, Left: api.MaxCount, Wait: 1 << 40, Token: maxNumber}
	mixed := api.Answer{Id: 0x01020304, Status: api.Later, Left: 0x05060708, Wait: 0x0a0b0c0d0e, Token: 0x0f101112}
	for _, a := range []api.Answer{answer(), most, mixed, {Status: api.Quiet}} {
		if b, err := proto.Answer(a); !bytes.Equal(b, answerBytes(a)) || err != api.OK {
			t.Errorf("%+v: %v, %v", a, b, err)
		}
	}
	for _, a := range []api.Answer{{}, {Status: 9}, {Status: 1, Id: -1}, {Status: 1, Left: -1}, {Status: 1, Wait: -1}, {Status: 1, Token: -1}, {Status: 1, Token: 1 << 31}} {
		if b, err := proto.Answer(a); len(b) != 0 || err != api.ErrForm {
			t.Errorf("%+v: %v, %v", a, b, err)
		}
	}
}

// P19.1: All are requests as frames, in order; ErrForm, if one is not right.
func TestAll(t *testing.T) {
	l := []api.Request{wantFlow(), hello(), giveBack(), wantParam(), wantToken(), hello()}
	for n := range len(l) + 1 {
		b, err := proto.All(l[:n]...)
		if err != api.OK {
			t.Fatal(err)
		}
		payloads, place, err := frame.Split(b)
		if len(payloads) != n || place != len(b) || err != api.OK {
			t.Fatalf("of %d requests %d frames, to %d of %d, %v", n, len(payloads), place, len(b), err)
		}
		for i, p := range payloads {
			if !bytes.Equal(p, requestBytes(l[i])) {
				t.Errorf("the frame %d of %d: %v", i, n, p)
			}
		}
	}
	for i := range l {
		wrong := slices.Clone(l)
		wrong[i].Id = -1
		if b, err := proto.All(wrong...); len(b) != 0 || err != api.ErrForm {
			t.Errorf("the request %d is wrong: %v, %v", i, b, err)
		}
	}
}

// P3: what is handed in stays as it is, and what is answered lies in nothing else.
func TestOwnMemory(t *testing.T) {
	l := []api.Request{wantFlow(), hello(), giveBack()}
	was := slices.Clone(l)
	a, _ := proto.All(l[:2]...)
	b, _ := proto.All(l[:2]...)
	clear(a[:cap(a)])
	if !slices.Equal(l, was) || bytes.Equal(a, b) {
		t.Error("requests, or another answer, are changed")
	}
	in := requestBytes(wantParam())
	room := append(slices.Clone(in), 1, 2, 3)
	r, err, _ := proto.ReadRequest(room[:len(in)])
	if err != api.OK || !bytes.Equal(room[:len(in)], in) || !bytes.Equal(room[len(in):], []byte{1, 2, 3}) {
		t.Errorf("%v; the bytes became %v", err, room)
	}
	clear(room)
	if r != wantParam() {
		t.Errorf("with its bytes the request became %+v", r)
	}
	one, _ := proto.Request(hello())
	other, _ := proto.Request(hello())
	clear(one[:cap(one)])
	if !bytes.Equal(other, requestBytes(hello())) {
		t.Error("two answers share bytes")
	}
}
