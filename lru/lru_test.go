package lru_test

import (
	"math"
	"math/rand"
	"slices"
	"strconv"
	"strings"
	"testing"

	"spillway/api"
	"spillway/lru"
)

func mapOf(t *testing.T, most int, keys ...string) *lru.Map {
	t.Helper()
	m, err := lru.New(most)
	if err != api.OK || m == nil {
		t.Fatalf("New(%d): %v, %v", most, m, err)
	}
	for i, key := range keys {
		if _, _, err := m.Put(key, i+1); err != api.OK {
			t.Fatalf("Put(%q) = %v", key, err)
		}
	}
	return m
}

// model is a map as the document tells of it: all touches there ever were, none forgotten.
type model struct {
	most    int
	values  map[string]int
	touches []string
	dropped map[string]bool // since it was touched
}

func newModel(most int) *model {
	return &model{most: most, values: map[string]int{}, dropped: map[string]bool{}}
}

func (m *model) touch(key string) {
	m.touches = append(m.touches, key)
	delete(m.dropped, key)
}

// order is the keys that are there, by the last touch of each.
func (m *model) order() []string {
	var l []string
	for i := len(m.touches) - 1; i >= 0; i-- {
		if _, there := m.values[m.touches[i]]; there && !slices.Contains(l, m.touches[i]) {
			l = append(l, m.touches[i])
		}
	}
	slices.Reverse(l)
	return l
}

func (m *model) put(key string, value int) (gone string, some bool) {
	if _, there := m.values[key]; !there && len(m.values) == m.most {
		gone, some = m.order()[0], true
		delete(m.values, gone)
	}
	m.values[key] = value
	m.touch(key)
	return gone, some
}

func (m *model) get(key string) (int, bool) {
	value, there := m.values[key]
	if there {
		m.touch(key)
	}
	return value, there
}

func (m *model) drop(keys ...string) int {
	was := len(m.values)
	for _, key := range keys {
		delete(m.values, key)
		m.dropped[key] = true
	}
	return was - len(m.values)
}

// check holds a map against the document; it touches nothing.
func check(t *testing.T, m *lru.Map, want *model) {
	t.Helper()
	if got := m.Keys(); !slices.Equal(got, want.order()) {
		t.Fatalf("Keys = %q, want %q", got, want.order())
	}
	if m.Len() != len(want.values) || m.Most() != want.most {
		t.Fatalf("Len %d, Most %d, want %d, %d", m.Len(), m.Most(), len(want.values), want.most)
	}
	for key, value := range want.values {
		if got, there := m.Peek(key); got != value || !there {
			t.Fatalf("Peek(%q) = %d, %v, want %d", key, got, there, value)
		}
	}
}

func put(t *testing.T, m *lru.Map, want *model, key string, value int) {
	t.Helper()
	gone, some, err := m.Put(key, value)
	wantGone, wantSome := want.put(key, value)
	if gone != wantGone || some != wantSome || err != api.OK {
		t.Fatalf("Put(%q, %d) = %q, %v, %v, want %q, %v", key, value, gone, some, err, wantGone, wantSome)
	}
	check(t, m, want)
}

// P5.1: New takes as many keys as may be, and one is the least.
func TestNew(t *testing.T) {
	tests := []struct {
		most int
		err  api.Errno
	}{
		{1, api.OK},
		{2, api.OK},
		{api.MaxKeys - 1, api.OK},
		{api.MaxKeys, api.OK},
		{0, api.ErrRange},
		{-1, api.ErrRange},
		{math.MinInt, api.ErrRange},
		{api.MaxKeys + 1, api.ErrRange},
		{math.MaxInt, api.ErrRange},
	}
	for _, x := range tests {
		m, err := lru.New(x.most)
		if err != x.err || (m == nil) != (x.err != api.OK) {
			t.Errorf("New(%d): %v, %v, want %v", x.most, m, err, x.err)
		}
		if err == api.OK {
			check(t, m, newModel(x.most))
			if got, there := m.Get(""); got != 0 || there {
				t.Errorf("New(%d): Get = %d, %v", x.most, got, there)
			}
		}
	}
}

// P5.1, P5.2: the document's example.
func TestExample(t *testing.T) {
	m := mapOf(t, 2, "a", "b")
	if got, there := m.Get("a"); got != 1 || !there {
		t.Errorf("Get(a) = %d, %v", got, there)
	}
	if gone, some, err := m.Put("c", 3); gone != "b" || !some || err != api.OK {
		t.Errorf("Put(c) = %q, %v, %v", gone, some, err)
	}
	if got := m.Keys(); !slices.Equal(got, []string{"a", "c"}) {
		t.Errorf("Keys = %q", got)
	}
}

// P5.1: a key that is there gets the new value and is touched, and none goes, also of a full map.
func TestPutOfWhatIsThere(t *testing.T) {
	for _, most := range []int{3, 4} {
		for _, key := range []string{"a", "b", "c"} {
			m, want := mapOf(t, most), newModel(most)
			for _, there := range []string{"a", "b", "c"} {
				put(t, m, want, there, 5)
			}
			put(t, m, want, key, -7)
			put(t, m, want, key, -7)
			if got, there := m.Peek(key); got != -7 || !there || m.Len() != 3 {
				t.Errorf("of %d: Peek(%q) = %d, %v, Len %d", most, key, got, there, m.Len())
			}
			if keys := m.Keys(); keys[2] != key {
				t.Errorf("of %d: Put(%q) did not touch it: %q", most, key, keys)
			}
		}
	}
}

// P5.1: of a full map the key that was touched least recently goes for a new one, and no other; of one with room none goes.
func TestPutOfNew(t *testing.T) {
	for _, most := range []int{1, 2, 3, 17} {
		m, want := mapOf(t, most), newModel(most)
		for i := range 3 * most {
			key := strconv.Itoa(i)
			gone, some, err := m.Put(key, i)
			want.put(key, i)
			wantGone := ""
			if i >= most {
				wantGone = strconv.Itoa(i - most)
			}
			if gone != wantGone || some != (i >= most) || err != api.OK {
				t.Errorf("of %d: Put(%q) = %q, %v, %v, want %q", most, key, gone, some, err, wantGone)
			}
			check(t, m, want)
			if _, there := m.Peek(wantGone); there {
				t.Errorf("of %d: %q went and is there", most, wantGone)
			}
		}
	}
}

// P5.1, P5.2: texts and values of any kind may be keys and values, the empty text and 0 among them; what went can have been the empty text.
func TestKeysOfAnyKind(t *testing.T) {
	keys := []string{"", " ", "a", "A", "\x00", "\xff\xfe", "ä", strings.Repeat("k", 1<<16)}
	values := []int{0, 1, -1, math.MinInt, math.MaxInt, 7, 8, 9}
	m, want := mapOf(t, len(keys)), newModel(len(keys))
	for i, key := range keys {
		if got, there := m.Get(key); got != 0 || there {
			t.Errorf("Get(%q) = %d, %v", key, got, there)
		}
		put(t, m, want, key, values[i])
	}
	for i, key := range keys {
		if got, there := m.Get(key); got != values[i] || !there {
			t.Errorf("Get(%q) = %d, %v", key, got, there)
		}
	}
	if gone, some, err := m.Put("one more", 1); gone != "" || !some || err != api.OK {
		t.Errorf("Put = %q, %v, %v", gone, some, err)
	}
	if _, there := m.Peek(""); there {
		t.Error("the empty text went, and is there")
	}
}

// P5.2: Get touches what is there, at any place; what is not there it neither touches nor makes.
func TestGetTouches(t *testing.T) {
	for _, x := range []struct {
		key   string
		value int
		there bool
		order []string
		goes  string
	}{
		{"a", 1, true, []string{"b", "c", "a"}, "b"},
		{"b", 2, true, []string{"a", "c", "b"}, "a"},
		{"c", 3, true, []string{"a", "b", "c"}, "a"},
		{"d", 0, false, []string{"a", "b", "c"}, "a"},
		{"", 0, false, []string{"a", "b", "c"}, "a"},
	} {
		m := mapOf(t, 3, "a", "b", "c")
		if got, there := m.Get(x.key); got != x.value || there != x.there {
			t.Errorf("Get(%q) = %d, %v", x.key, got, there)
		}
		if got := m.Keys(); !slices.Equal(got, x.order) || m.Len() != 3 {
			t.Errorf("behind Get(%q): %q, Len %d, want %q", x.key, got, m.Len(), x.order)
		}
		if gone, some, _ := m.Put("e", 5); gone != x.goes || !some {
			t.Errorf("behind Get(%q) %q goes, want %q", x.key, gone, x.goes)
		}
	}
}

// P5.2: Peek tells the same as Get, and touches nothing.
func TestPeekTouchesNothing(t *testing.T) {
	for _, key := range []string{"a", "b", "c", "d"} {
		m, twin := mapOf(t, 3, "a", "b", "c"), mapOf(t, 3, "a", "b", "c")
		got, there := m.Peek(key)
		wantValue, wantThere := twin.Get(key)
		if got != wantValue || there != wantThere {
			t.Errorf("Peek(%q) = %d, %v", key, got, there)
		}
		if keys := m.Keys(); !slices.Equal(keys, []string{"a", "b", "c"}) {
			t.Errorf("behind Peek(%q): %q", key, keys)
		}
		if gone, _, _ := m.Put("e", 5); gone != "a" {
			t.Errorf("behind Peek(%q) %q goes", key, gone)
		}
	}
}

// P5.2: Drop takes out just what it names, and counts what was there, once.
func TestDrop(t *testing.T) {
	tests := []struct {
		name string
		keys []string
		n    int
		left []string
	}{
		{"none", nil, 0, []string{"a", "b", "c", "d"}},
		{"the first", []string{"a"}, 1, []string{"b", "c", "d"}},
		{"one within", []string{"b"}, 1, []string{"a", "c", "d"}},
		{"the last", []string{"d"}, 1, []string{"a", "b", "c"}},
		{"two side by side", []string{"b", "c"}, 2, []string{"a", "d"}},
		{"both ends", []string{"d", "a"}, 2, []string{"b", "c"}},
		{"all", []string{"c", "a", "d", "b"}, 4, nil},
		{"one that is not there", []string{"e"}, 0, []string{"a", "b", "c", "d"}},
		{"some that are not there", []string{"", "c", "e", "a", "f"}, 2, []string{"b", "d"}},
		{"one twice", []string{"b", "b", "a", "b"}, 2, []string{"c", "d"}},
	}
	for _, x := range tests {
		m := mapOf(t, 4, "a", "b", "c", "d")
		if got := m.Drop(x.keys...); got != x.n {
			t.Errorf("%s: %d, want %d", x.name, got, x.n)
		}
		if got := m.Keys(); !slices.Equal(got, x.left) || m.Len() != len(x.left) || m.Most() != 4 {
			t.Errorf("%s: left are %q, Len %d, want %q", x.name, got, m.Len(), x.left)
		}
		for _, key := range x.keys {
			if value, there := m.Get(key); value != 0 || there {
				t.Errorf("%s: Get(%q) = %d, %v", x.name, key, value, there)
			}
		}
		if got := m.Drop(x.keys...); got != 0 {
			t.Errorf("%s: again %d", x.name, got)
		}
	}
}

// P5.1, P5.2: what was dropped leaves room, and comes back as new, touched last.
func TestRoomAgain(t *testing.T) {
	m, want := mapOf(t, 3), newModel(3)
	for _, key := range []string{"a", "b", "c"} {
		put(t, m, want, key, 1)
	}
	if got, n := m.Drop("a", "c"), want.drop("a", "c"); got != n {
		t.Errorf("Drop = %d, want %d", got, n)
	}
	for _, key := range []string{"c", "a", "d", "e"} {
		put(t, m, want, key, 2)
	}
	if got := m.Drop(m.Keys()...); got != 3 || m.Len() != 0 || len(m.Keys()) != 0 {
		t.Errorf("Drop of all = %d, then %q", got, m.Keys())
	}
	want.drop(want.order()...)
	put(t, m, want, "z", 3)
}

// P5.3: as many keys as may be, and never more.
func TestFullMap(t *testing.T) {
	m := mapOf(t, api.MaxKeys)
	for i := range 2 * api.MaxKeys {
		gone, some, err := m.Put(strconv.Itoa(i), i)
		if err != api.OK || some != (i >= api.MaxKeys) || some && gone != strconv.Itoa(i-api.MaxKeys) {
			t.Fatalf("Put of %d: %q, %v, %v", i, gone, some, err)
		}
		if got, want := m.Len(), min(i+1, api.MaxKeys); got != want {
			t.Fatalf("behind %d: Len = %d, want %d", i, got, want)
		}
	}
	keys := m.Keys()
	if len(keys) != api.MaxKeys || keys[0] != strconv.Itoa(api.MaxKeys) || keys[api.MaxKeys-1] != strconv.Itoa(2*api.MaxKeys-1) {
		t.Errorf("%d keys, from %q on", len(keys), keys[0])
	}
}

// P5.1 to P5.5: calls of all kinds, one behind the other, against the document.
func TestAgainstModel(t *testing.T) {
	r := rand.New(rand.NewSource(5))
	for range 60 {
		most := 1 + r.Intn(6)
		m, want := mapOf(t, most), newModel(most)
		for i := range 150 {
			key := strconv.Itoa(r.Intn(10))
			switch r.Intn(8) {
			case 0, 1, 2:
				put(t, m, want, key, i)
			case 3, 4:
				got, there := m.Get(key)
				if value, wantThere := want.get(key); got != value || there != wantThere {
					t.Fatalf("Get(%q) = %d, %v, want %d, %v", key, got, there, value, wantThere)
				}
			case 5:
				got, there := m.Peek(key)
				if value, wantThere := want.values[key]; got != value || there != wantThere {
					t.Fatalf("Peek(%q) = %d, %v, want %d, %v", key, got, there, value, wantThere)
				}
			case 6:
				other := strconv.Itoa(r.Intn(10))
				if got, n := m.Drop(key, other), want.drop(key, other); got != n {
					t.Fatalf("Drop(%q, %q) = %d, want %d", key, other, got, n)
				}
			case 7:
				m = m.Fork()
			}
			check(t, m, want)
			checkLastTouched(t, m, want)
			if m.Len() > most {
				t.Fatalf("%d keys of %d", m.Len(), most)
			}
		}
	}
}

// checkLastTouched is P5.4: of the last Most keys that were touched, those that were not dropped behind it are there.
func checkLastTouched(t *testing.T, m *lru.Map, want *model) {
	t.Helper()
	var last []string
	for i := len(want.touches) - 1; i >= 0 && len(last) < want.most; i-- {
		if !slices.Contains(last, want.touches[i]) {
			last = append(last, want.touches[i])
		}
	}
	for _, key := range last {
		if _, there := m.Peek(key); there == want.dropped[key] {
			t.Fatalf("touched last were %q, dropped is %v, and there are %q", last, want.dropped, m.Keys())
		}
	}
}

// P5.4: without drops the last Most keys that were touched are all that is there.
func TestLastTouchedStay(t *testing.T) {
	r := rand.New(rand.NewSource(54))
	for most := 1; most <= 8; most++ {
		m := mapOf(t, most)
		var touched []string
		touch := func(key string) {
			touched = append(slices.DeleteFunc(touched, func(k string) bool { return k == key }), key)
		}
		for i := range 300 {
			key := strconv.Itoa(r.Intn(12))
			if r.Intn(2) == 0 {
				m.Put(key, i)
				touch(key)
			} else if _, there := m.Get(key); there {
				touch(key)
			}
			if want := touched[max(0, len(touched)-most):]; !slices.Equal(m.Keys(), want) {
				t.Fatalf("of %d: %q, want %q", most, m.Keys(), want)
			}
		}
	}
}

// P5.5: Get tells what was put last, however often, and whatever came between.
func TestGetTellsTheLast(t *testing.T) {
	m := mapOf(t, 2)
	for i, value := range []int{4, 0, -9, math.MaxInt, math.MinInt, 4} {
		if _, _, err := m.Put("a", value); err != api.OK {
			t.Fatal(err)
		}
		m.Put("b"+strconv.Itoa(i%3), i)
		for range 2 {
			if got, there := m.Get("a"); got != value || !there {
				t.Errorf("Get = %d, %v, want %d", got, there, value)
			}
		}
	}
	m.Drop("a")
	m.Put("a", 77)
	if got, there := m.Get("a"); got != 77 || !there {
		t.Errorf("behind a drop Get = %d, %v", got, there)
	}
}

// P3: what is handed in stays, and what is answered is the caller's.
func TestListsStay(t *testing.T) {
	m := mapOf(t, 4, "a", "b", "c", "d")
	given := []string{"a", "x", "c", "d"}
	m.Drop(given[:3]...)
	if !slices.Equal(given, []string{"a", "x", "c", "d"}) {
		t.Errorf("what was handed in became %q", given)
	}
	one, other := m.Keys(), m.Keys()
	one[0] = "z"
	_ = append(one[:1], "z")
	if want := []string{"b", "d"}; !slices.Equal(other, want) || !slices.Equal(m.Keys(), want) {
		t.Errorf("one answer changed another one: %q, %q", other, m.Keys())
	}
	if got, there := m.Peek("b"); got != 2 || !there {
		t.Errorf("Peek(b) = %d, %v", got, there)
	}
}

// P4, P5.2: a Fork stands the same, and what becomes of the one changes nothing of the other one.
func TestFork(t *testing.T) {
	a, one := mapOf(t, 3), newModel(3)
	for _, key := range []string{"a", "b", "c"} {
		put(t, a, one, key, 1)
	}
	a.Get("a")
	one.get("a")
	b := a.Fork()
	other := newModel(3)
	for _, key := range []string{"b", "c", "a"} {
		other.put(key, 1)
	}
	check(t, b, other)
	put(t, a, one, "a", 20)
	put(t, a, one, "d", 4)
	check(t, b, other)
	if got := b.Drop("c", "a"); got != 2 {
		t.Errorf("Drop = %d", got)
	}
	other.drop("c", "a")
	check(t, a, one)
	put(t, b, other, "e", 5)
	b.Get("b")
	other.get("b")
	check(t, a, one)
	check(t, b, other)
	c := mapOf(t, 2).Fork()
	check(t, c, newModel(2))
	put(t, c, newModel(2), "a", 1)
}

// P1, P2: a nil map answers zero values, or ErrNil.
func TestNilMap(t *testing.T) {
	var m *lru.Map
	if gone, some, err := m.Put("a", 1); gone != "" || some || err != api.ErrNil {
		t.Errorf("Put = %q, %v, %v", gone, some, err)
	}
	if got, there := m.Get("a"); got != 0 || there {
		t.Errorf("Get = %d, %v", got, there)
	}
	if got, there := m.Peek("a"); got != 0 || there {
		t.Errorf("Peek = %d, %v", got, there)
	}
	if got := m.Drop("a", "b"); got != 0 {
		t.Errorf("Drop = %d", got)
	}
	if len(m.Keys()) != 0 || m.Len() != 0 || m.Most() != 0 || m.Fork() != nil {
		t.Errorf("Keys %q, Len %d, Most %d, Fork %v", m.Keys(), m.Len(), m.Most(), m.Fork())
	}
}
