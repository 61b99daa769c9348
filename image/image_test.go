package image

import (
	"encoding/binary"
	"fmt"
	"math"
	"slices"
	"strings"
	"testing"

	"selion/api"
	"selion/chain"
	"selion/store"
)

const top = math.MaxUint64

// is is a version with a value.
func is(at uint64, value string) chain.Version { return chain.Version{At: at, Value: value} }

// gone is a version without one.
func gone(at uint64) chain.Version { return chain.Version{At: at, Gone: true} }

// row is a key and its versions.
type row struct {
	key      string
	versions chain.Chain
}

// has is a row.
func has(key string, c ...chain.Version) row { return row{key, c} }

// sample is a clock and a store's rows, and the image's bytes.
type sample struct {
	name  string
	clock uint64
	rows  []row
	bytes string
}

// clocks are samples without keys, and with one whose versions are at time 1 and at the clock.
func clocks() []sample {
	var l []sample
	for _, x := range []struct {
		clock uint64
		bytes string
	}{
		{1, "\x01"},
		{2, "\x02"},
		{127, "\x7f"},
		{128, "\x80\x01"},
		{300, "\xac\x02"},
		{1 << 32, "\x80\x80\x80\x80\x10"},
		{api.MaxTime - 1, "\xff\xff\xff\xff\xff\x1f"},
		{api.MaxTime, "\x80\x80\x80\x80\x80\x20"},
	} {
		at := fmt.Sprintf(" at clock %d", x.clock)
		l = append(l,
			sample{"no keys" + at, x.clock, nil, x.bytes + "\x00"},
			sample{"time 1" + at, x.clock, []row{has("a", is(1, "x"))}, x.bytes + "\x01\x01a\x01\x01\x02x"},
			sample{"gone at time 1" + at, x.clock, []row{has("a", gone(1))}, x.bytes + "\x01\x01a\x01\x01\x00"},
			sample{"the clock's time" + at, x.clock, []row{has("a", is(x.clock, "x"))}, x.bytes + "\x01\x01a\x01" + x.bytes + "\x02x"},
			sample{"gone at the clock's time" + at, x.clock, []row{has("a", gone(x.clock))}, x.bytes + "\x01\x01a\x01" + x.bytes + "\x00"})
		if x.clock > 1 {
			l = append(l, sample{"time 1 and the clock's" + at, x.clock, []row{has("a", is(1, "x"), is(x.clock, "y"))}, x.bytes + "\x01\x01a\x02\x01\x02x" + x.bytes + "\x02y"})
		}
	}
	return l
}

// samples are images of each kind. Their bytes are written out, but for long values and many keys or versions.
func samples() []sample {
	long, key := strings.Repeat("v", api.MaxValue), strings.Repeat("k", api.MaxKey)
	ends := strings.Repeat("\xff", api.MaxKey)
	return append(slices.Concat(clocks(), many()),
		sample{"the chapter's example", 7, nil, "\x07\x00"},
		sample{"no keys at clock 0", 0, nil, "\x00\x00"},
		sample{"one key", 7, []row{has("a", is(5, "x"))}, "\x07\x01\x01a\x01\x05\x02x"},
		sample{"gone", 7, []row{has("a", gone(5))}, "\x07\x01\x01a\x01\x05\x00"},
		sample{"an empty value", 7, []row{has("a", is(5, ""))}, "\x07\x01\x01a\x01\x05\x01"},
		sample{"a value of a byte 0", 7, []row{has("a", is(5, "\x00"))}, "\x07\x01\x01a\x01\x05\x02\x00"},
		sample{"a value of bytes that would go on", 7, []row{has("a", is(5, "\x80\xff"))}, "\x07\x01\x01a\x01\x05\x03\x80\xff"},
		sample{"a value of 126 bytes", 7, []row{has("a", is(5, long[:126]))}, "\x07\x01\x01a\x01\x05\x7f" + long[:126]},
		sample{"a value of 127 bytes", 7, []row{has("a", is(5, long[:127]))}, "\x07\x01\x01a\x01\x05\x80\x01" + long[:127]},
		sample{"a value of MaxValue bytes", 7, []row{has("a", is(5, long))}, "\x07\x01\x01a\x01\x05\xc9\x01" + long},
		sample{"a value of MaxValue bytes between others", 7, []row{has("a", is(5, long), gone(6)), has("b", is(1, ""))}, "\x07\x02\x01a\x02\x05\xc9\x01" + long + "\x06\x00\x01b\x01\x01\x01"},
		sample{"each of the first times", 5, []row{has("a", is(1, "1"), is(2, "2"), is(3, "3"), is(4, "4"), is(5, "5"))}, "\x05\x01\x01a\x05\x01\x021\x02\x022\x03\x023\x04\x024\x05\x025"},
		sample{"values and gone in turn", 9, []row{has("a", is(1, "x"), gone(2), is(3, ""), gone(8), is(9, "y"))}, "\x09\x01\x01a\x05\x01\x02x\x02\x00\x03\x01\x08\x00\x09\x02y"},
		sample{"gone twice, and at last", 300, []row{has("a", gone(1), gone(2), is(200, "x"), gone(300))}, "\xac\x02\x01\x01a\x04\x01\x00\x02\x00\xc8\x01\x02x\xac\x02\x00"},
		sample{"a value again and again", 9, []row{has("a", is(2, "x"), is(4, "x"), is(5, "x"))}, "\x09\x01\x01a\x03\x02\x02x\x04\x02x\x05\x02x"},
		sample{"two keys at one time", 9, []row{has("a", is(4, "x")), has("b", is(4, "y"))}, "\x09\x02\x01a\x01\x04\x02x\x01b\x01\x04\x02y"},
		sample{"a later key at an earlier time", 9, []row{has("a", is(8, "x")), has("b", is(1, "y")), has("c", gone(4))}, "\x09\x03\x01a\x01\x08\x02x\x01b\x01\x01\x02y\x01c\x01\x04\x00"},
		sample{"keys with more and fewer versions", 9, []row{has("a", is(1, "x"), is(2, "y"), gone(3)), has("b", gone(9)), has("c", is(3, ""), is(8, "z"))},
			"\x09\x03\x01a\x03\x01\x02x\x02\x02y\x03\x00\x01b\x01\x09\x00\x01c\x02\x03\x01\x08\x02z"},
		sample{"a key of a byte 0", 7, []row{has("\x00", is(5, "x"))}, "\x07\x01\x01\x00\x01\x05\x02x"},
		sample{"a key of a byte ff", 7, []row{has("\xff", is(5, "x"))}, "\x07\x01\x01\xff\x01\x05\x02x"},
		sample{"a key of MaxKey bytes", 7, []row{has(key, is(5, "x"))}, "\x07\x01\x20" + key + "\x01\x05\x02x"},
		sample{"the last key of all", 7, []row{has(ends, gone(5))}, "\x07\x01\x20" + ends + "\x01\x05\x00"},
		sample{"the first key and the last one", 7, []row{has("\x00", is(5, "x")), has(ends, is(6, "y"))}, "\x07\x02\x01\x00\x01\x05\x02x\x20" + ends + "\x01\x06\x02y"},
		sample{"keys that begin like others", 9, []row{has("a", is(1, "1")), has("a\x00", is(2, "2")), has("aa", gone(3)), has("aaa", is(4, "")), has("ab", is(5, "3"))},
			"\x09\x05\x01a\x01\x01\x021\x02a\x00\x01\x02\x022\x02aa\x01\x03\x00\x03aaa\x01\x04\x01\x02ab\x01\x05\x023"},
		sample{"keys in the order of their bytes", 9, []row{has("A", is(1, "1")), has("Z", is(1, "2")), has("a", is(1, "3")), has("\x7f", is(1, "4")), has("\x80", is(1, "5")), has("ä", is(1, "6"))},
			"\x09\x06\x01A\x01\x01\x021\x01Z\x01\x01\x022\x01a\x01\x01\x023\x01\x7f\x01\x01\x024\x01\x80\x01\x01\x025\x02\xc3\xa4\x01\x01\x026"},
		sample{"a key and a value that look alike", 9, []row{has("\x01a\x01", is(9, "\x01a\x01"))}, "\x09\x01\x03\x01a\x01\x01\x09\x04\x01a\x01"},
	)
}

// many are samples with many keys, and with many versions of a key.
func many() []sample {
	var l []sample
	for _, n := range []int{127, 128, 1000} {
		x := sample{fmt.Sprintf("%d keys", n), 70000, nil, "\xf0\xa2\x04" + num(uint64(n))}
		for i := range n {
			key, value := fmt.Sprintf("key%05d", i), fmt.Sprintf("value%05d", i*i%n)
			if i%3 == 2 {
				x.rows = append(x.rows, has(key, is(9, value), gone(70000)))
				x.bytes += "\x08" + key + "\x02\x09\x0b" + value + "\xf0\xa2\x04\x00"
			} else {
				x.rows = append(x.rows, has(key, is(300, value)))
				x.bytes += "\x08" + key + "\x01\xac\x02\x0b" + value
			}
		}
		l = append(l, x)
	}
	for _, n := range []uint64{127, 128, 400} {
		versions := chain.Chain{}
		b := "\x01k" + num(n)
		for i := range n {
			at, value := 1+i*i, fmt.Sprintf("value%05d", i*i%n)
			if i%3 == 2 {
				versions = append(versions, gone(at))
				b += num(at) + "\x00"
			} else {
				versions = append(versions, is(at, value))
				b += num(at) + "\x0b" + value
			}
		}
		l = append(l,
			sample{fmt.Sprintf("%d versions", n), 1 << 20, []row{{"k", versions}}, num(1<<20) + "\x01" + b},
			sample{fmt.Sprintf("%d versions between others", n), 1 << 20, []row{has("a", is(1, "x")), {"k", versions}, has("z", gone(7))}, num(1<<20) + "\x03\x01a\x01\x01\x02x" + b + "\x01z\x01\x07\x00"})
	}
	return l
}

// small are the samples but the long ones, of which each byte may be tried.
func small() []sample {
	return slices.DeleteFunc(samples(), func(x sample) bool { return len(x.bytes) > 100 })
}

// made returns a store with these rows.
func made(rows []row) *store.Store {
	s := store.New()
	for _, r := range rows {
		for _, v := range r.versions {
			s.Put(r.key, v)
		}
	}
	return s
}

// rowsOf returns all that a store has.
func rowsOf(s *store.Store) []row {
	var l []row
	for key, c := range s.All() {
		l = append(l, row{key, slices.Clone(c)})
	}
	return l
}

// same tells whether two lists have the same keys with the same versions.
func same(a, b []row) bool {
	return slices.EqualFunc(a, b, func(p, q row) bool { return p.key == q.key && slices.Equal(p.versions, q.versions) })
}

// copied returns rows in memory of their own.
func copied(rows []row) []row {
	var l []row
	for _, r := range rows {
		l = append(l, row{r.key, slices.Clone(r.versions)})
	}
	return l
}

// short gives bytes for a message, not all of many.
func short[T string | []byte](b T) string {
	if len(b) <= 60 {
		return fmt.Sprintf("% x", b)
	}
	return fmt.Sprintf("% x .. (%d bytes)", b[:60], len(b))
}

// show gives rows for a message, not all of many.
func show(rows []row) string {
	return fmt.Sprintf("%.300q of %d keys", fmt.Sprint(rows[:min(len(rows), 6)]), len(rows))
}

// showStore gives a store for a message; there may be none.
func showStore(s *store.Store) string {
	if s == nil {
		return "no store"
	}
	return show(rowsOf(s))
}

// last is the chapter's word of chain's At, one version after another.
func last(c chain.Chain, at uint64) (v chain.Version, found bool) {
	for _, x := range c {
		if x.At <= at {
			v, found = x, true
		}
	}
	return v, found
}

// wantStore holds a store against what it is to have: each key's versions, at each time that makes a difference.
func wantStore(t *testing.T, what string, s *store.Store, rows []row) {
	t.Helper()
	if got := rowsOf(s); !same(got, rows) {
		t.Fatalf("P14.1: %s: the store has %s, want %s", what, show(got), show(rows))
	}
	for i, r := range rows {
		times := []uint64{0, 1, api.MaxTime, top}
		// Of many keys, the times of some tell enough.
		if i < 50 {
			for _, v := range r.versions[:min(len(r.versions), 50)] {
				times = append(times, v.At-1, v.At, v.At+1)
			}
		}
		for _, at := range times {
			want, found := last(r.versions, at)
			if v, ok := s.At(r.key, at); v != want || ok != found {
				t.Fatalf("P14.1: %s: At(%q, %d) = %v, %v, want %v, %v", what, r.key, at, v, ok, want, found)
			}
		}
	}
	for _, key := range []string{"", "none", "a\x00\x00", strings.Repeat("k", api.MaxKey+1)} {
		if v, ok := s.At(key, top); ok || v != (chain.Version{}) {
			t.Fatalf("P14.1: %s: At(%q) = %v, %v, but there is no such key", what, key, v, ok)
		}
	}
}

// wantImage decodes bytes that are an image's.
func wantImage(t *testing.T, what, b string, clock uint64, rows []row) {
	t.Helper()
	got, s, e := Decode([]byte(b))
	if e != api.OK || got != clock || s == nil {
		t.Fatalf("P14.1: %s: Decode(%s) = %d, %s, %d, want clock %d, %s, 0", what, short(b), got, showStore(s), e, clock, show(rows))
	}
	wantStore(t, what, s, rows)
	if again := Encode(got, s); string(again) != b {
		t.Fatalf("P14.1: %s: Encode of what Decode(%s) returned = %s", what, short(b), short(again))
	}
}

// wantNone decodes bytes that are no image's.
func wantNone(t *testing.T, what, b string) {
	t.Helper()
	got, s, e := Decode([]byte(b))
	if e != api.ErrData {
		t.Errorf("P14.1: %s: Decode(%s) = %d, %s, %d, want error %d", what, short(b), got, showStore(s), e, api.ErrData)
		return
	}
	if got != 0 || s != nil {
		t.Errorf("R3: %s: Decode(%s) = %d, %s with ErrData", what, short(b), got, showStore(s))
	}
}

// TestExample is the chapter's example.
func TestExample(t *testing.T) {
	b := []byte{0x07, 0x00}
	if got := Encode(7, store.New()); !slices.Equal(got, b) {
		t.Errorf("P14.1: Encode = % x, want % x", got, b)
	}
	clock, s, e := Decode(b)
	if e != api.OK || clock != 7 || s == nil {
		t.Fatalf("P14.1: Decode = %d, %s, %d, want clock 7 and a store", clock, showStore(s), e)
	}
	wantStore(t, "the example", s, nil)
}

func TestEncode(t *testing.T) {
	for _, x := range samples() {
		if got := Encode(x.clock, made(x.rows)); string(got) != x.bytes {
			t.Errorf("P14.1: %s: Encode = %s, want %s", x.name, short(got), short(x.bytes))
		}
	}
}

func TestDecode(t *testing.T) {
	for _, x := range samples() {
		wantImage(t, x.name, x.bytes, x.clock, x.rows)
	}
}

// TestLaterClock: a store may be encoded with each clock that none of its times is above.
func TestLaterClock(t *testing.T) {
	s := made([]row{has("a", is(3, "x"), gone(5)), has("b", is(9, ""))})
	rows := "\x02\x01a\x02\x03\x02x\x05\x00\x01b\x01\x09\x01"
	for _, clock := range []uint64{9, 10, 127, 128, 1 << 32, api.MaxTime - 1, api.MaxTime} {
		if got := Encode(clock, s); string(got) != num(clock)+rows {
			t.Errorf("P14.1: Encode(%d) = %s, want %s", clock, short(got), short(num(clock)+rows))
		}
		wantImage(t, "a later clock", num(clock)+rows, clock, rowsOf(s))
	}
}

// TestGoneWithValue: of a version that is Gone no value is encoded, so none comes back.
func TestGoneWithValue(t *testing.T) {
	s := store.New()
	s.Put("a", chain.Version{At: 5, Value: "x", Gone: true})
	if got := Encode(7, s); string(got) != "\x07\x01\x01a\x01\x05\x00" {
		t.Errorf("P14.1: Encode of a version that is Gone with a value = % x", got)
	}
	wantImage(t, "gone", "\x07\x01\x01a\x01\x05\x00", 7, []row{has("a", gone(5))})
}

// put is a Put of a store.
type put struct {
	key string
	v   chain.Version
}

// puts are those that make a store with these rows.
func puts(rows []row) []put {
	var l []put
	for _, r := range rows {
		for _, v := range r.versions {
			l = append(l, put{r.key, v})
		}
	}
	return l
}

// encoded returns the bytes of a store that is made by these puts.
func encoded(clock uint64, l []put) string {
	s := store.New()
	for _, p := range l {
		s.Put(p.key, p.v)
	}
	return string(Encode(clock, s))
}

// orders calls do with each order of a list.
func orders(l []put, n int, do func([]put)) {
	if n == len(l) {
		do(l)
		return
	}
	for i := n; i < len(l); i++ {
		l[n], l[i] = l[i], l[n]
		orders(l, n+1, do)
		l[n], l[i] = l[i], l[n]
	}
}

// TestOrder: the order in which versions were put makes no difference.
func TestOrder(t *testing.T) {
	rows := []row{has("a", is(1, "x"), gone(4), is(9, "y")), has("aa", is(4, "")), has("b", gone(2), is(3, "z"))}
	want := "\x09\x03\x01a\x03\x01\x02x\x04\x00\x09\x02y\x02aa\x01\x04\x01\x01b\x02\x02\x00\x03\x02z"
	orders(puts(rows), 0, func(l []put) {
		if got := encoded(9, l); got != want {
			t.Fatalf("P14.1: Encode of the store put by %v = %s, want %s", l, short(got), short(want))
		}
	})
	for _, x := range samples() {
		l := puts(x.rows)
		slices.Reverse(l)
		if got := encoded(x.clock, l); got != x.bytes {
			t.Errorf("P14.1: %s: put in reverse, Encode = %s, want %s", x.name, short(got), short(x.bytes))
		}
		// Evenly ahead of oddly.
		slices.SortStableFunc(l, func(p, q put) int { return int(p.v.At%2) - int(q.v.At%2) })
		if got := encoded(x.clock, l); got != x.bytes {
			t.Errorf("P14.1: %s: put by turns, Encode = %s, want %s", x.name, short(got), short(x.bytes))
		}
	}
}

// TestReplaced: what was put and is no longer there, as other versions took its place or it was purged, is not encoded.
func TestReplaced(t *testing.T) {
	for _, x := range samples() {
		s := store.New()
		for _, p := range puts(x.rows) {
			s.Put(p.key, is(p.v.At, "ahead"))
		}
		for _, p := range puts(x.rows) {
			s.Put(p.key, p.v)
		}
		if got := Encode(x.clock, s); string(got) != x.bytes {
			t.Errorf("P14.1: %s: with others ahead, Encode = %s, want %s", x.name, short(got), short(x.bytes))
		}
	}
	s := made([]row{has("a", gone(1), is(3, "x"), is(9, "y")), has("b", is(2, ""), gone(5)), has("c", gone(5)), has("d", gone(9))})
	for _, x := range []struct {
		at   uint64
		want string
	}{
		{0, "\x09\x04\x01a\x03\x01\x00\x03\x02x\x09\x02y\x01b\x02\x02\x01\x05\x00\x01c\x01\x05\x00\x01d\x01\x09\x00"},
		{4, "\x09\x04\x01a\x02\x03\x02x\x09\x02y\x01b\x02\x02\x01\x05\x00\x01c\x01\x05\x00\x01d\x01\x09\x00"},
		{5, "\x09\x02\x01a\x02\x03\x02x\x09\x02y\x01d\x01\x09\x00"},
		{9, "\x09\x01\x01a\x01\x09\x02y"},
	} {
		s.Purge(x.at)
		if got := Encode(9, s); string(got) != x.want {
			t.Errorf("P14.1: behind Purge(%d), Encode = %s, want %s", x.at, short(got), short(x.want))
		}
		wantImage(t, "a purged store", x.want, 9, rowsOf(s))
	}
	s.Put("a", gone(9))
	s.Purge(9)
	if got := Encode(9, s); string(got) != "\x09\x00" {
		t.Errorf("P14.1: purged to nothing, Encode = %s", short(got))
	}
}

// TestNoBytes: no bytes at all are no image's.
func TestNoBytes(t *testing.T) {
	for _, b := range [][]byte{nil, {}, make([]byte, 0, 9), []byte("\x07\x00")[:0]} {
		if clock, s, e := Decode(b); e != api.ErrData || clock != 0 || s != nil {
			t.Errorf("P14.1: Decode of no bytes = %d, %s, %d, want error %d", clock, showStore(s), e, api.ErrData)
		}
	}
}

// TestBeginnings: each beginning of an image's bytes is no image's, also if the others lie in the spare capacity. Of the long ones some are tried.
func TestBeginnings(t *testing.T) {
	for _, x := range samples() {
		step := 1 + len(x.bytes)/120
		for n := 0; n < len(x.bytes); n += step {
			wantNone(t, fmt.Sprintf("the first %d bytes of %s", n, x.name), x.bytes[:n])
			if clock, s, e := Decode([]byte(x.bytes)[:n]); e != api.ErrData || clock != 0 || s != nil {
				t.Errorf("P14.1: %s: Decode of the first %d bytes = %d, %s, %d, the others spare", x.name, n, clock, showStore(s), e)
			}
		}
		wantNone(t, "all but the last byte of "+x.name, x.bytes[:len(x.bytes)-1])
		wantNone(t, "all but the first byte of "+x.name, x.bytes[1:]+"\x80")
	}
}

// TestMoreBytes: an image's bytes with others behind them are no image's.
func TestMoreBytes(t *testing.T) {
	for _, x := range samples() {
		for c := range 256 {
			if len(x.bytes) > 1000 && c%16 > 1 {
				continue
			}
			wantNone(t, x.name+" and a byte", x.bytes+string([]byte{byte(c)}))
		}
		for _, more := range []string{"\x04zzzz\x01\x01\x02z", "\x04zzzz\x01\x01\x00", "\x01\x00", "\x01\x02x", x.bytes, strings.Repeat("\x00", 100)} {
			wantNone(t, x.name+" and more", x.bytes+more)
		}
	}
}

// TestChangedBytes: with a byte changed, removed or added, bytes are no image's, or just the bytes of another one.
func TestChangedBytes(t *testing.T) {
	for _, x := range small() {
		for i := range len(x.bytes) {
			head, tail := x.bytes[:i], x.bytes[i+1:]
			checkWord(t, head+tail)
			for c := range 256 {
				other := string([]byte{byte(c)})
				checkWord(t, head+other+tail)
				checkWord(t, head+other+x.bytes[i:])
				if other != x.bytes[i:i+1] {
					wantOther(t, x, head+other+tail)
				}
			}
		}
	}
	for _, x := range samples() {
		// Of the long ones, some bytes are changed by some bits.
		for i := 0; i < len(x.bytes); i += 1 + len(x.bytes)/60 {
			for _, bits := range []byte{0x01, 0x02, 0x80} {
				checkWord(t, x.bytes[:i]+string([]byte{x.bytes[i] ^ bits})+x.bytes[i+1:])
			}
		}
	}
}

// wantOther decodes bytes that are not x's: it must not be x that comes back.
func wantOther(t *testing.T, x sample, b string) {
	t.Helper()
	clock, s, e := Decode([]byte(b))
	if e != api.OK {
		return
	}
	if clock == x.clock && same(rowsOf(s), x.rows) || string(Encode(clock, s)) != b {
		t.Fatalf("P14.1: %s: Decode(%s) = %d, %s, whose Encode is %s", x.name, short(b), clock, showStore(s), short(Encode(clock, s)))
	}
}

// num returns a number's bytes.
func num(n uint64) string { return string(binary.AppendUvarint(nil, n)) }

// wide returns a number's bytes with one more than it needs.
func wide(n uint64) string {
	b := binary.AppendUvarint(nil, n)
	b[len(b)-1] |= 0x80
	return string(append(b, 0))
}

// text returns a text's bytes.
func text(s string) string { return num(uint64(len(s))) + s }

// large are numbers that are far too large. In fewer bits some of them would be small.
func large() []uint64 {
	var l []uint64
	for _, n := range []uint64{1 << 8, 1 << 16, 1 << 31, 1 << 32, 1 << 33, 1 << 40, 1 << 62, 1 << 63} {
		l = append(l, n-1, n, n+1, n+2, n+3)
	}
	return append(l, 127, 128, top-2, top-1, top)
}

// TestClock: an image's clock is up to MaxTime.
func TestClock(t *testing.T) {
	for _, clock := range []uint64{0, 1, 2, 127, 128, 1 << 32, 1<<32 + 1, api.MaxTime - 1, api.MaxTime} {
		wantImage(t, "a clock", num(clock)+"\x00", clock, nil)
		if clock > 0 {
			wantImage(t, "a clock", num(clock)+"\x01\x01a\x01\x01\x02x", clock, []row{has("a", is(1, "x"))})
		}
	}
	for _, clock := range []uint64{api.MaxTime + 1, api.MaxTime + 2, api.MaxTime + 1<<32, 1<<41 - 1, 1 << 41, 1<<41 + 1, 1 << 62, 1<<63 - 1, 1 << 63, 1<<63 + 1, top - 1, top} {
		for _, rest := range []string{"\x00", "\x01\x01a\x01\x01\x02x", "\x01\x01a\x01\x01\x00", "\x01\x01a\x01" + num(clock) + "\x02x"} {
			wantNone(t, fmt.Sprintf("clock %d", clock), num(clock)+rest)
		}
	}
}

// TestTimes: a version's time is from 1 to the clock, whichever of the versions it is.
func TestTimes(t *testing.T) {
	for _, clock := range []uint64{0, 1, 2, 3, 127, 128, 300, 1 << 32, api.MaxTime - 1, api.MaxTime} {
		for _, at := range []uint64{0, 1, 2, 3, 4, 127, 128, 129, 300, 301, 1 << 32, 1<<32 + 1, api.MaxTime - 1, api.MaxTime, api.MaxTime + 1, 1 << 41, 1<<63 + 1, top - 1, top} {
			what := fmt.Sprintf("time %d with clock %d", at, clock)
			for value, v := range map[string]chain.Version{"\x02x": is(at, "x"), "\x01": is(at, ""), "\x00": gone(at)} {
				first := num(clock) + "\x01\x01a\x01" + num(at) + value
				second := num(clock) + "\x01\x01a\x02\x01\x02y" + num(at) + value
				other := num(clock) + "\x02\x01a\x01\x01\x02y\x01b\x01" + num(at) + value
				if at < 1 || at > clock {
					wantNone(t, what, first)
					wantNone(t, what+", of another key", other)
				} else {
					wantImage(t, what, first, clock, []row{has("a", v)})
					wantImage(t, what+", of another key", other, clock, []row{has("a", is(1, "y")), has("b", v)})
				}
				if at < 2 || at > clock {
					wantNone(t, what+", behind time 1", second)
				} else {
					wantImage(t, what+", behind time 1", second, clock, []row{has("a", is(1, "y"), v)})
				}
			}
		}
	}
}

// TestTimesRise: each time of a key is above the one ahead of it; those of another key are not held against it.
func TestTimesRise(t *testing.T) {
	times := []uint64{1, 2, 3, 9, 127, 128, 1 << 32, 1<<32 + 1, api.MaxTime}
	encode := func(l ...uint64) (string, chain.Chain) {
		b, c := num(uint64(len(l))), chain.Chain{}
		for _, at := range l {
			b += num(at) + "\x02x"
			c = append(c, is(at, "x"))
		}
		return b, c
	}
	head := num(api.MaxTime) + "\x02\x01a"
	for i, p := range times {
		for j, q := range times {
			for k, r := range times {
				what := fmt.Sprintf("times %d, %d, %d", p, q, r)
				l, c := encode(p, q, r)
				last, d := encode(r)
				if i < j && j < k {
					wantImage(t, what, head+l+"\x01b"+last, api.MaxTime, []row{{"a", c}, {"b", d}})
					wantImage(t, what, head+last+"\x01b"+l, api.MaxTime, []row{{"a", d}, {"b", c}})
				} else {
					wantNone(t, what, head+l+"\x01b"+last)
					wantNone(t, what+" of the second key", head+last+"\x01b"+l)
				}
			}
		}
	}
	for _, two := range []string{"\x03\x02x\x03\x02x", "\x03\x02x\x03\x00", "\x03\x00\x03\x02x", "\x03\x00\x03\x00", "\x03\x01\x03\x01", "\x03\x02x\x02\x02x", "\x03\x00\x02\x00"} {
		wantNone(t, "times that do not rise", "\x05\x01\x01a\x02"+two)
		wantNone(t, "times that do not rise, behind another one", "\x05\x01\x01a\x03\x01\x02x"+two)
		wantNone(t, "times that do not rise, ahead of another one", "\x05\x01\x01a\x03"+two+"\x05\x00")
	}
}

// TestNoVersion: each key has at least one version.
func TestNoVersion(t *testing.T) {
	for what, b := range map[string]string{
		"the only key":    "\x05\x01\x01a\x00",
		"the first key":   "\x05\x02\x01a\x00\x01b\x01\x05\x02x",
		"the last key":    "\x05\x02\x01a\x01\x05\x02x\x01b\x00",
		"a key between":   "\x05\x03\x01a\x01\x05\x02x\x01b\x00\x01c\x01\x05\x00",
		"each key":        "\x05\x03\x01a\x00\x01b\x00\x01c\x00",
		"a key, clock 0":  "\x00\x01\x01a\x00",
		"keys at clock 0": "\x00\x02\x01a\x00\x01b\x00",
	} {
		wantNone(t, "no version of "+what, b)
	}
}

// TestNumbersOfKeys: there are just as many keys as their number says.
func TestNumbersOfKeys(t *testing.T) {
	rows := ""
	var l []row
	for i := range 6 {
		if i > 0 {
			key := string(rune('a' + i))
			rows += "\x01" + key + "\x01\x05\x02x"
			l = append(l, has(key, is(5, "x")))
		}
		for n := range uint64(12) {
			if n == uint64(i) {
				wantImage(t, "the right number of keys", "\x05"+num(n)+rows, 5, l)
			} else {
				wantNone(t, fmt.Sprintf("%d keys, number %d", i, n), "\x05"+num(n)+rows)
			}
		}
		for _, n := range large() {
			wantNone(t, fmt.Sprintf("%d keys, number %d", i, n), "\x05"+num(n)+rows)
		}
	}
}

// TestNumbersOfVersions: a key has just as many versions as their number says.
func TestNumbersOfVersions(t *testing.T) {
	versions := ""
	var c chain.Chain
	for i := range uint64(6) {
		if i > 0 {
			versions += num(i) + "\x02x"
			c = append(c, is(i, "x"))
		}
		for n := range uint64(12) {
			b := num(n) + versions
			what := fmt.Sprintf("%d versions, number %d", i, n)
			if n == i && i > 0 {
				wantImage(t, what, "\x09\x01\x01a"+b, 9, []row{{"a", c}})
				wantImage(t, what, "\x09\x02\x01a"+b+"\x01b\x01\x05\x00", 9, []row{{"a", c}, has("b", gone(5))})
			} else {
				wantNone(t, what, "\x09\x01\x01a"+b)
				wantNone(t, what+", ahead of another key", "\x09\x02\x01a"+b+"\x01b\x01\x05\x00")
			}
		}
		for _, n := range large() {
			what := fmt.Sprintf("%d versions, number %d", i, n)
			wantNone(t, what, "\x09\x01\x01a"+num(n)+versions)
			wantNone(t, what+", ahead of another key", "\x09\x02\x01a"+num(n)+versions+"\x01b\x01\x05\x00")
		}
	}
	for _, n := range large() {
		wantNone(t, fmt.Sprintf("number %d of keys and of versions", n), "\x09"+num(n)+"\x01a"+num(n)+"\x01\x02x")
	}
}

// TestKeysAscend: each key is above the one ahead of it.
func TestKeysAscend(t *testing.T) {
	keys := []string{"\x00", "\x00\x00", "A", "Z", "a", "a\x00", "aa", "ab", "b", "\x7f", "\x80", "ä", "\xff", "\xff\xff", strings.Repeat("\xff", api.MaxKey)}
	check := func(ascend bool, l ...string) {
		b := "\x05" + num(uint64(len(l)))
		var rows []row
		for _, key := range l {
			b += text(key) + "\x01\x05\x02x"
			rows = append(rows, has(key, is(5, "x")))
		}
		if what := fmt.Sprintf("keys %q", l); ascend {
			wantImage(t, what, b, 5, rows)
		} else {
			wantNone(t, what, b)
		}
	}
	for i, a := range keys {
		for j, b := range keys {
			check(i < j, a, b)
			for k, c := range keys {
				check(i < j && j < k, a, b, c)
			}
		}
	}
	for _, again := range []string{"\x01\x01\x02x", "\x01\x02\x02y", "\x01\x02\x00", "\x01\x05\x02x", "\x02\x03\x02x\x04\x00"} {
		wantNone(t, "a key again", "\x05\x02\x01a\x01\x02\x02x\x01a"+again)
		wantNone(t, "a key again, behind another one", "\x05\x03\x01a\x01\x02\x02x\x01b\x01\x01\x00\x01a"+again)
	}
}

// TestKeys: a key has from 1 to MaxKey bytes.
func TestKeys(t *testing.T) {
	for n := range 300 {
		key := strings.Repeat("k", n)
		for bytes, v := range map[string]chain.Version{"\x01\x05\x00": gone(5), "\x01\x05\x01": is(5, ""), "\x01\x05\x02x": is(5, "x")} {
			b, what := text(key)+bytes, fmt.Sprintf("a key of %d bytes", n)
			if n >= 1 && n <= api.MaxKey {
				wantImage(t, what, "\x05\x01"+b, 5, []row{has(key, v)})
				wantImage(t, what, "\x05\x03\x01a\x01\x01\x00"+b+"\x01z\x01\x01\x00", 5, []row{has("a", gone(1)), has(key, v), has("z", gone(1))})
				continue
			}
			wantNone(t, what, "\x05\x01"+b)
			wantNone(t, what+" behind another one", "\x05\x02\x01a\x01\x01\x00"+b)
			wantNone(t, what+" ahead of another one", "\x05\x02"+b+"\x01z\x01\x01\x00")
		}
	}
	for _, n := range large() {
		wantNone(t, fmt.Sprintf("a key of %d bytes", n), "\x05\x01"+num(n)+"a\x01\x05\x02x")
	}
}

// TestValues: a value has up to MaxValue bytes.
func TestValues(t *testing.T) {
	for n := range 600 {
		value := strings.Repeat("v", n)
		b, what := "\x02"+num(uint64(n)+1)+value, fmt.Sprintf("a value of %d bytes", n)
		if n <= api.MaxValue {
			wantImage(t, what, "\x05\x01\x01a\x01"+b, 5, []row{has("a", is(2, value))})
			wantImage(t, what, "\x05\x02\x01a\x03\x01\x02x"+b+"\x03\x00\x01b\x01"+b, 5, []row{has("a", is(1, "x"), is(2, value), gone(3)), has("b", is(2, value))})
			continue
		}
		wantNone(t, what, "\x05\x01\x01a\x01"+b)
		wantNone(t, what+" between others", "\x05\x01\x01a\x03\x01\x02x"+b+"\x03\x00")
		wantNone(t, what+" ahead of another key", "\x05\x02\x01a\x01"+b+"\x01b\x01\x01\x00")
	}
	for _, n := range append(large(), api.MaxValue+2) {
		what := fmt.Sprintf("a value of length %d plus 1", n-1)
		wantNone(t, what, "\x05\x01\x01a\x01\x05"+num(n))
		wantNone(t, what, "\x05\x01\x01a\x01\x05"+num(n)+strings.Repeat("v", 300))
	}
}

// TestNotShortest: a number that is not in the fewest bytes is none, whichever of an image's numbers it is.
func TestNotShortest(t *testing.T) {
	for _, f := range []func(uint64) string{wide, func(n uint64) string { return num(n)[:len(num(n))-1] + "\x80" }, func(uint64) string { return strings.Repeat("\x81", 10) + "\x00" }} {
		for _, x := range []struct{ what, b string }{
			{"the clock, no keys", f(7) + "\x00"},
			{"the clock 0", f(0) + "\x00"},
			{"a clock of two bytes", f(300) + "\x00"},
			{"the clock MaxTime", f(api.MaxTime) + "\x00"},
			{"the clock", f(5) + "\x01\x01a\x01\x05\x02x"},
			{"the number of no keys", "\x05" + f(0)},
			{"the number of keys", "\x05" + f(1) + "\x01a\x01\x05\x02x"},
			{"a key's length", "\x05\x01" + f(1) + "a\x01\x05\x02x"},
			{"a second key's length", "\x05\x02\x01a\x01\x05\x02x" + f(1) + "b\x01\x05\x02x"},
			{"the number of versions", "\x05\x01\x01a" + f(1) + "\x05\x02x"},
			{"the number of a second key's versions", "\x05\x02\x01a\x01\x05\x02x\x01b" + f(1) + "\x05\x02x"},
			{"a time", "\x05\x01\x01a\x01" + f(5) + "\x02x"},
			{"a time of two bytes", "\xac\x02\x01\x01a\x01" + f(300) + "\x02x"},
			{"a second time", "\x05\x01\x01a\x02\x01\x00" + f(5) + "\x02x"},
			{"gone", "\x05\x01\x01a\x01\x05" + f(0)},
			{"gone ahead of another one", "\x05\x01\x01a\x02\x04" + f(0) + "\x05\x00"},
			{"an empty value", "\x05\x01\x01a\x01\x05" + f(1)},
			{"a value's length", "\x05\x01\x01a\x01\x05" + f(2) + "x"},
			{"a value's length of two bytes", "\x05\x01\x01a\x01\x05" + f(201) + strings.Repeat("v", 200)},
		} {
			wantNone(t, "not in the fewest bytes: "+x.what, x.b)
		}
	}
}

// take takes the number at the beginning of b off, by Go's own varint.
func take(b string) (n uint64, rest string, ok bool) {
	n, size := binary.Uvarint([]byte(b))
	if size <= 0 || len(num(n)) != size {
		return 0, "", false
	}
	return n, b[size:], true
}

// wordText is the chapter's word of the key at the beginning of b.
func wordText(b string) (key, rest string, ok bool) {
	n, b, ok := take(b)
	if !ok || n < 1 || n > api.MaxKey || n > uint64(len(b)) {
		return "", "", false
	}
	return b[:n], b[n:], true
}

// wordVersion is the chapter's word of the version, with its time, at the beginning of b.
func wordVersion(b string) (v chain.Version, rest string, ok bool) {
	at, b, ok := take(b)
	if !ok {
		return v, "", false
	}
	n, b, ok := take(b)
	switch {
	case !ok || n > api.MaxValue+1 || n > uint64(len(b))+1:
		return v, "", false
	case n == 0:
		return gone(at), b, true
	}
	return is(at, b[:n-1]), b[n-1:], true
}

// wordRow is the chapter's word of the key and its versions at the beginning of b.
func wordRow(b string, clock uint64) (r row, rest string, ok bool) {
	if r.key, b, ok = wordText(b); !ok {
		return r, "", false
	}
	n, b, ok := take(b)
	if !ok || n < 1 || n > uint64(len(b)) {
		return r, "", false
	}
	for uint64(len(r.versions)) < n {
		var v chain.Version
		if v, b, ok = wordVersion(b); !ok || v.At < 1 || v.At > clock {
			return r, "", false
		}
		r.versions = append(r.versions, v)
	}
	for i := 1; i < len(r.versions); i++ {
		if r.versions[i-1].At >= r.versions[i].At {
			return r, "", false
		}
	}
	return r, b, true
}

// word is the chapter's word of an image's bytes.
func word(b string) (clock uint64, rows []row, ok bool) {
	clock, b, ok = take(b)
	if !ok || clock > api.MaxTime {
		return 0, nil, false
	}
	n, b, ok := take(b)
	if !ok || n > uint64(len(b)) {
		return 0, nil, false
	}
	for uint64(len(rows)) < n {
		var r row
		if r, b, ok = wordRow(b, clock); !ok {
			return 0, nil, false
		}
		rows = append(rows, r)
	}
	for i := 1; i < len(rows); i++ {
		if rows[i-1].key >= rows[i].key {
			return 0, nil, false
		}
	}
	return clock, rows, b == ""
}

// checkWord holds Decode of b against the chapter's word.
func checkWord(t *testing.T, b string) {
	t.Helper()
	if clock, rows, ok := word(b); ok {
		wantImage(t, "by the chapter's word", b, clock, rows)
	} else {
		wantNone(t, "by the chapter's word", b)
	}
	if t.Failed() {
		t.FailNow()
	}
}

// each calls do with every sequence of n bytes of those of set.
func each(set string, n int, do func(string)) {
	b := make([]byte, n)
	var fill func(int)
	fill = func(at int) {
		if at == n {
			do(string(b))
			return
		}
		for i := range len(set) {
			b[at] = set[i]
			fill(at + 1)
		}
	}
	fill(0)
}

// all is all bytes.
func all() string {
	b := make([]byte, 256)
	for i := range b {
		b[i] = byte(i)
	}
	return string(b)
}

// TestAllBytes decodes all sequences of up to two bytes, and longer ones out of some.
func TestAllBytes(t *testing.T) {
	do := func(b string) { checkWord(t, b) }
	for n := range 3 {
		each(all(), n, do)
	}
	for n := range 8 {
		each("\x00\x01\x02\x03\x80", n, do)
	}
	// Behind a clock and a number of keys, or a key too, there is more to be seen.
	for n := range 11 {
		each("\x00\x01\x02", n, func(b string) { do("\x02\x02" + b) })
	}
	for n := range 8 {
		each("\x00\x01\x02\x03", n, func(b string) { do("\x02\x01\x01a" + b); do("\x03\x02\x01a\x01\x02\x02x" + b) })
	}
}

// TestAllStores encodes all stores with up to three of some keys, each with each of some chains, and decodes them.
func TestAllStores(t *testing.T) {
	keys := []string{"\x00", "a", "a\x00", "\xff"}
	chains := []chain.Chain{{gone(1)}, {is(1, "")}, {is(9, "x")}, {is(1, "x"), gone(2)}, {gone(1), is(2, "\x01\x80")}, {is(1, ""), is(2, strings.Repeat("\x01", api.MaxValue)), gone(9)}}
	seen := map[string]bool{}
	var add func(clock uint64, rows []row, from int)
	add = func(clock uint64, rows []row, from int) {
		b := string(Encode(clock, made(rows)))
		if c, l, ok := word(b); !ok || c != clock || !same(l, rows) {
			t.Fatalf("P14.1: Encode(%d, %s) = %s", clock, show(rows), short(b))
		}
		if seen[b] {
			t.Fatalf("P14.1: Encode(%d, %s) = %s, like that of another store", clock, show(rows), short(b))
		}
		seen[b] = true
		wantImage(t, "all stores", b, clock, rows)
		if len(rows) == 3 {
			return
		}
		for i := from; i < len(keys); i++ {
			for _, c := range chains {
				add(clock, append(slices.Clone(rows), row{keys[i], c}), i+1)
			}
		}
	}
	for _, clock := range []uint64{9, 200, api.MaxTime} {
		add(clock, nil, 0)
	}
}

// TestEncodeMemory (R5): each answer is memory of its own, and stays as it is while the store is changed.
func TestEncodeMemory(t *testing.T) {
	for _, x := range samples() {
		s := made(x.rows)
		first := Encode(x.clock, s)
		_ = append(first, "more"...)
		second := Encode(x.clock, s)
		clear(first[:cap(first)])
		if string(second) != x.bytes || string(Encode(x.clock, s)) != x.bytes {
			t.Errorf("R5: %s: what Encode returned lies in another answer", x.name)
		}
		clear(second[:cap(second)])
		wantStore(t, x.name+", its bytes overwritten", s, x.rows)
		third := Encode(x.clock, s)
		for _, r := range x.rows {
			s.Put(r.key, is(r.versions[0].At, "other"))
		}
		s.Put("other", is(1, "other"))
		s.Purge(top)
		if string(third) != x.bytes {
			t.Errorf("R5: %s: what Encode returned lies in the store", x.name)
		}
	}
}

// TestEncodeLeaves (R5): Encode leaves the store as it was, and what was yielded of it.
func TestEncodeLeaves(t *testing.T) {
	for _, x := range samples() {
		s, other := made(x.rows), made(x.rows)
		var yielded []row
		for key, c := range s.All() {
			yielded = append(yielded, row{key, c})
		}
		for range 3 {
			Encode(x.clock, s)
		}
		wantStore(t, x.name+", encoded", s, x.rows)
		if !same(yielded, x.rows) {
			t.Errorf("R5: %s: Encode modified what the store yielded", x.name)
		}
		// It is the same store for later calls, too.
		for _, c := range []*store.Store{s, other} {
			c.Put("a", is(3, "later"))
			c.Put("new", gone(api.MaxTime))
		}
		if got, want := s.Purge(5), other.Purge(5); got != want || !same(rowsOf(s), rowsOf(other)) {
			t.Errorf("R5: %s: behind Encode the store has %s, want %s", x.name, showStore(s), showStore(other))
		}
	}
}

// TestEncodeWithin: a store may be encoded while it is gone through.
func TestEncodeWithin(t *testing.T) {
	for _, x := range small() {
		s := made(x.rows)
		var got []row
		for key, c := range s.All() {
			got = append(got, row{key, c})
			if b := Encode(x.clock, s); string(b) != x.bytes {
				t.Errorf("P14.1: %s: within All, Encode = %s, want %s", x.name, short(b), short(x.bytes))
			}
		}
		if !same(got, x.rows) {
			t.Errorf("R5: %s: with Encode on the way, All yields %s", x.name, show(got))
		}
	}
}

// TestDecodeMemory (R5): the bytes that are given stay as they are, with what lies behind them, and the store does not lie in them.
func TestDecodeMemory(t *testing.T) {
	for _, x := range samples() {
		whole := []byte("ahead" + x.bytes + "\x01z\x01\x01\x02z behind")
		given := whole[5 : 5+len(x.bytes)]
		before := string(whole)
		_, s, e := Decode(given)
		if e != api.OK || string(whole) != before {
			t.Fatalf("R5: %s: Decode modified the bytes, or what lies around them", x.name)
		}
		s.Put("a", is(1, "other"))
		s.Purge(top)
		if string(whole) != before {
			t.Errorf("R5: %s: a Put or Purge of the store modified the bytes", x.name)
		}
		_, s, _ = Decode(given)
		for i := range whole {
			whole[i] ^= 0xff
		}
		wantStore(t, x.name+", its bytes overwritten", s, x.rows)
	}
	for _, b := range []string{"", "\x07", "\x07\x01", "\x05\x01\x01a\x01\x05\x03x", "\x05\x02\x01b\x01\x05\x02x\x01a\x01\x05\x02x"} {
		whole := []byte(b + "behind")
		if Decode(whole[:len(b)]); string(whole) != b+"behind" {
			t.Errorf("R5: Decode(% x) modified the bytes, or what lies behind them", b)
		}
	}
}

// TestStoresApart (R5): stores that Decode returned, and the one that was encoded, are changed each by itself.
func TestStoresApart(t *testing.T) {
	for _, x := range samples() {
		from := made(x.rows)
		b := Encode(x.clock, from)
		_, first, _ := Decode(b)
		_, second, _ := Decode(b)
		want := copied(x.rows)
		for _, r := range x.rows {
			for _, v := range r.versions {
				first.Put(r.key, is(v.At, "other"))
				first.Put(r.key, gone(v.At+1))
			}
		}
		first.Put("new", is(1, "new"))
		wantStore(t, x.name+", another store changed", second, want)
		wantStore(t, x.name+", a store decoded from it changed", from, want)
		first.Purge(top)
		wantStore(t, x.name+", another store purged", second, want)
		from.Put("new", is(1, "new"))
		from.Purge(top)
		wantStore(t, x.name+", the store it was made of changed", second, want)
		if got := Encode(x.clock, second); string(got) != x.bytes {
			t.Errorf("R5: %s: behind changes of other stores, Encode = %s, want %s", x.name, short(got), short(x.bytes))
		}
	}
}

// TestNoKeysApart (R5): also stores without keys are not one and the same.
func TestNoKeysApart(t *testing.T) {
	_, first, _ := Decode([]byte("\x07\x00"))
	_, second, _ := Decode([]byte("\x07\x00"))
	first.Put("a", is(1, "x"))
	if first == second || len(rowsOf(second)) != 0 {
		t.Error("R5: two calls of Decode return one store")
	}
	_, third, _ := Decode([]byte("\x07\x00"))
	wantStore(t, "no keys", third, nil)
}

// TestDecodedIsAStore: what Decode returns goes on like a store that was made by the same puts.
func TestDecodedIsAStore(t *testing.T) {
	for _, x := range samples() {
		_, s, e := Decode([]byte(x.bytes))
		if e != api.OK {
			t.Fatalf("P14.1: %s: Decode = %d", x.name, e)
		}
		want := made(x.rows)
		for _, c := range []*store.Store{s, want} {
			c.Put("a", is(4, "put"))
			c.Put("a", gone(2))
			c.Put("b", is(300, ""))
			c.Put("\x00", is(1, "first"))
			c.Put("\xff\xff", is(x.clock+1, "last"))
		}
		wantStore(t, x.name+", and more", s, rowsOf(want))
		for _, at := range []uint64{0, 2, 5, 200, x.clock, top} {
			if got, n := s.Purge(at), want.Purge(at); got != n {
				t.Errorf("P14.1: %s: Purge(%d) of the store = %d, want %d", x.name, at, got, n)
			}
			wantStore(t, x.name+", and purged", s, rowsOf(want))
		}
	}
}

// TestAgain (R6): a result depends on the arguments alone, whatever was asked ahead of it.
func TestAgain(t *testing.T) {
	for range 2 {
		for _, x := range samples() {
			wantNone(t, "no image", "\x05\x02\x01b\x01\x05\x02x\x01a\x01\x05\x02x")
			Encode(0, store.New())
			wantImage(t, x.name, x.bytes, x.clock, x.rows)
			if got := Encode(x.clock, made(x.rows)); string(got) != x.bytes {
				t.Errorf("P14.1: %s: again, Encode = %s, want %s", x.name, short(got), short(x.bytes))
			}
		}
	}
}

// TestNoImages: nothing is promised of Encode for what no image is of, but that it ends without a panic (P1).
func TestNoImages(t *testing.T) {
	for _, x := range []struct {
		clock uint64
		rows  []row
	}{
		{api.MaxTime + 1, nil},
		{top, []row{has("a", is(top, "x"))}},
		{0, []row{has("a", is(0, "x"))}},
		{7, []row{has("a", is(0, "x"), is(7, "y"))}},
		{7, []row{has("a", is(8, "x"))}},
		{7, []row{has("a", is(api.MaxTime+1, "x"), gone(top))}},
		{7, []row{has("", is(5, "x"))}},
		{7, []row{has(strings.Repeat("k", 70000), is(5, strings.Repeat("v", 70000)))}},
	} {
		if b := Encode(x.clock, made(x.rows)); len(b) > 0 {
			Decode(b)
		}
	}
}
