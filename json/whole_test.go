package json_test

import (
	"math"
	"math/rand"
	"strconv"
	"strings"
	"testing"

	"spillway/api"
	"spillway/json"
)

// P8.3: a Number is whole, whatever its point and exponent; one that int64 cannot hold, or that is not right, is none.
func TestWhole(t *testing.T) {
	zeros, nines := strings.Repeat("0", 60000), strings.Repeat("9", 60000)
	tests := []struct {
		s     string
		want  int
		whole bool
	}{
		{"0", 0, true}, {"-0", 0, true}, {"0.0", 0, true}, {"-0.000e5", 0, true}, {"7", 7, true}, {"-12", -12, true}, {"1.50e1", 15, true}, {"1.5e1", 15, true}, {"1.5", 0, false}, {"-1.50", 0, false}, {"1.0", 1, true}, {"-3.000", -3, true},
		{"150e-1", 15, true}, {"155e-1", 0, false}, {"100e-2", 1, true}, {"100e-3", 0, false}, {"1e0", 1, true}, {"1E+2", 100, true}, {"0.001e3", 1, true}, {"0.001e2", 0, false}, {"0.0010e3", 1, true}, {"12.340e2", 1234, true}, {"12.340e1", 0, false}, {"1e-0", 1, true}, {"1e007", 10000000, true},
		{"9223372036854775807", math.MaxInt64, true}, {"9223372036854775808", 0, false}, {"-9223372036854775808", math.MinInt64, true}, {"-9223372036854775809", 0, false}, {"9223372036854775807.0", math.MaxInt64, true}, {"9223372036854775807.5", 0, false}, {"-922337203685477580.8e1", math.MinInt64, true}, {"922337203685477580.8e1", 0, false}, {"9.223372036854775807e18", math.MaxInt64, true}, {"92233720368547758070e-1", math.MaxInt64, true}, {"92233720368547758080e-1", 0, false}, {"1e18", 1000000000000000000, true}, {"1e19", 0, false}, {"-1e19", 0, false}, {"18446744073709551616", 0, false}, {"18446744073709551617", 0, false},
		{"1e400", 0, false}, {"-1e400", 0, false}, {"1e-400", 0, false}, {"0e400", 0, true}, {"0e-400", 0, true}, {"1e9223372036854775807", 0, false}, {"1e-9223372036854775808", 0, false}, {"1e9223372036854775808", 0, false}, {"1e18446744073709551616", 0, false}, {"1e-18446744073709551616", 0, false}, {"10e-18446744073709551617", 0, false},
		{"0e" + nines, 0, true}, {"1e" + nines, 0, false}, {"1e-" + nines, 0, false}, {"0.0e-" + nines, 0, true}, {"1e" + zeros + "2", 100, true}, {"1" + zeros + "e-60000", 1, true}, {"1" + zeros + "e-60001", 0, false}, {"0." + zeros + "1e60001", 1, true}, {"0." + zeros + "12e60001", 0, false}, {"5." + zeros, 5, true}, {"5." + zeros + "1", 0, false}, {nines, 0, false}, {"-" + nines + "e-59999", 0, false}, {"1" + zeros, 0, false},
		{"", 0, false}, {"01", 0, false}, {"+1", 0, false}, {" 1", 0, false}, {"1.", 0, false}, {"1e", 0, false}, {"0x10", 0, false}, {"-", 0, false}, {".5", 0, false}, {"1 ", 0, false}, {strings.Repeat("0", 70000), 0, false}, {"1." + strings.Repeat("0", 65534), 1, true}, {"1." + strings.Repeat("0", 65535), 0, false},
	}
	for _, x := range tests {
		if got, whole := json.Whole(number(x.s)); got != x.want || whole != x.whole {
			t.Errorf("Whole(%.60q) = %d, %v, want %d, %v", x.s, got, whole, x.want, x.whole)
		}
	}
	odd := []api.Value{
		{}, null(), {Kind: api.True}, text("1"), array(number("1")), object([]string{"a"}, number("1")), {Kind: api.String, Text: "1"}, {Kind: 9, Text: "1"},
		{Kind: api.Number, Text: "1", List: []api.Value{null()}}, {Kind: api.Number, Text: "1", Names: []string{"a"}},
	}
	for _, v := range odd {
		if got, whole := json.Whole(v); got != 0 || whole {
			t.Errorf("Whole(%+v) = %d, %v", v, got, whole)
		}
	}
}

// P8.3: Whole against numbers without an end.
func TestWholeExact(t *testing.T) {
	r := rand.New(rand.NewSource(4))
	wholes := 0
	for range 100000 {
		s := strconv.FormatUint(r.Uint64()>>r.Intn(64), 10)
		if r.Intn(3) == 0 {
			s = "9223372036854775807"[:r.Intn(19)+1]
		}
		s += strings.Repeat("0", r.Intn(3)*r.Intn(4))
		if i := r.Intn(len(s)); r.Intn(2) == 0 && i > 0 {
			s = s[:i] + "." + s[i:]
		}
		if r.Intn(2) == 0 {
			s = "-" + s
		}
		if r.Intn(2) == 0 {
			s += "e" + strconv.Itoa(r.Intn(25)-10)
		}
		want, isWhole := whole(s)
		got, gotWhole := json.Whole(number(s))
		if got != want || gotWhole != isWhole {
			t.Fatalf("Whole(%q) = %d, %v, want %d, %v", s, got, gotWhole, want, isWhole)
		}
		if isWhole {
			wholes++
		}
	}
	if wholes < 20000 {
		t.Errorf("only %d are whole", wholes)
	}
}

// P8.4, P8.8, P5: OfInt is a number in decimal, and Whole has it back.
func TestOfInt(t *testing.T) {
	tests := map[int]string{0: "0", 7: "7", -7: "-7", 100: "100", math.MaxInt64: "9223372036854775807", math.MinInt64: "-9223372036854775808"}
	r := rand.New(rand.NewSource(6))
	for range 10000 {
		n := int(r.Uint64()) >> r.Intn(64)
		tests[n] = strconv.Itoa(n)
	}
	for n, want := range tests {
		v := json.OfInt(n)
		if got, whole := json.Whole(v); !json.Equal(v, number(want)) || got != n || !whole || !json.Right(v) {
			t.Errorf("OfInt(%d) = %+v: %d, %v", n, v, got, whole)
		}
	}
}

// P8.8: a nought more at the end of a fraction changes no Whole.
func TestNoughtMore(t *testing.T) {
	r := rand.New(rand.NewSource(10))
	for range 20000 {
		fraction := strconv.Itoa(r.Intn(1000))
		if r.Intn(3) == 0 {
			fraction = strings.Repeat("0", r.Intn(3)+1)
		}
		begin, end := strconv.Itoa(r.Intn(2000)-1000)+"."+fraction, []string{"", "e0", "e1", "e3", "e17", "e-1", "e-20", "e99999999999999999999"}[r.Intn(8)]
		a, aWhole := json.Whole(number(begin + end))
		b, bWhole := json.Whole(number(begin + "0" + end))
		if a != b || aWhole != bWhole {
			t.Fatalf("%q: %d, %v; with a nought %d, %v", begin+end, a, aWhole, b, bWhole)
		}
	}
}
