package record

import (
	"encoding/binary"
	"fmt"
	"math"
	"reflect"
	"slices"
	"strings"
	"testing"

	"selion/api"
	"selion/chain"
	"selion/code"
)

const top = math.MaxUint64

// is is a write of a value at a time.
func is(at uint64, key, value string) Write {
	return Write{Key: key, Version: chain.Version{At: at, Value: value}}
}

// gone is a write that takes a key's value away at a time.
func gone(at uint64, key string) Write {
	return Write{Key: key, Version: chain.Version{At: at, Gone: true}}
}

// sample is a record and its bytes.
type sample struct {
	name  string
	c     Record
	bytes string
}

// samples are records of each kind. Their bytes are written out, but for long values and many writes.
func samples() []sample {
	long, key := strings.Repeat("v", api.MaxValue), strings.Repeat("k", api.MaxKey)
	ends := strings.Repeat("\xff", api.MaxKey)
	return append(many(),
		sample{"the chapter's example", Record{5, []Write{is(5, "a", "x")}}, "\x05\x01\x01\x61\x02\x78"},
		sample{"no writes", Record{7, nil}, "\x07\x00"},
		sample{"no writes at time 1", Record{1, nil}, "\x01\x00"},
		sample{"no writes at time 127", Record{127, nil}, "\x7f\x00"},
		sample{"no writes at time 128", Record{128, nil}, "\x80\x01\x00"},
		sample{"no writes at the last time but one", Record{api.MaxTime - 1, nil}, "\xff\xff\xff\xff\xff\x1f\x00"},
		sample{"no writes at MaxTime", Record{api.MaxTime, nil}, "\x80\x80\x80\x80\x80\x20\x00"},
		sample{"a value at time 1", Record{1, []Write{is(1, "a", "x")}}, "\x01\x01\x01a\x02x"},
		sample{"a value at MaxTime", Record{api.MaxTime, []Write{is(api.MaxTime, "a", "x")}}, "\x80\x80\x80\x80\x80\x20\x01\x01a\x02x"},
		sample{"gone", Record{5, []Write{gone(5, "a")}}, "\x05\x01\x01a\x00"},
		sample{"gone at time 1", Record{1, []Write{gone(1, "a")}}, "\x01\x01\x01a\x00"},
		sample{"gone at MaxTime", Record{api.MaxTime, []Write{gone(api.MaxTime, "a")}}, "\x80\x80\x80\x80\x80\x20\x01\x01a\x00"},
		sample{"an empty value", Record{5, []Write{is(5, "a", "")}}, "\x05\x01\x01a\x01"},
		sample{"a value of a byte 0", Record{5, []Write{is(5, "a", "\x00")}}, "\x05\x01\x01a\x02\x00"},
		sample{"a value of bytes that would go on", Record{5, []Write{is(5, "a", "\x80\xff")}}, "\x05\x01\x01a\x03\x80\xff"},
		sample{"a value of 126 bytes", Record{5, []Write{is(5, "a", long[:126])}}, "\x05\x01\x01a\x7f" + long[:126]},
		sample{"a value of 127 bytes", Record{5, []Write{is(5, "a", long[:127])}}, "\x05\x01\x01a\x80\x01" + long[:127]},
		sample{"a value of 128 bytes", Record{5, []Write{is(5, "a", long[:128])}}, "\x05\x01\x01a\x81\x01" + long[:128]},
		sample{"a value of MaxValue bytes", Record{5, []Write{is(5, "a", long)}}, "\x05\x01\x01a\xc9\x01" + long},
		sample{"a key of a byte 0", Record{5, []Write{is(5, "\x00", "x")}}, "\x05\x01\x01\x00\x02x"},
		sample{"a key of a byte ff", Record{5, []Write{is(5, "\xff", "x")}}, "\x05\x01\x01\xff\x02x"},
		sample{"a key of MaxKey bytes", Record{5, []Write{is(5, key, "x")}}, "\x05\x01\x20" + key + "\x02x"},
		sample{"the last key of all", Record{5, []Write{gone(5, ends)}}, "\x05\x01\x20" + ends + "\x00"},
		sample{"the first key and the last one", Record{5, []Write{is(5, "\x00", "x"), is(5, ends, "y")}}, "\x05\x02\x01\x00\x02x\x20" + ends + "\x02y"},
		sample{"two, gone and not", Record{300, []Write{gone(300, "a"), is(300, "b", "xy")}}, "\xac\x02\x02\x01a\x00\x01b\x03xy"},
		sample{"all gone", Record{9, []Write{gone(9, "a"), gone(9, "b"), gone(9, "c")}}, "\x09\x03\x01a\x00\x01b\x00\x01c\x00"},
		sample{"all empty", Record{9, []Write{is(9, "a", ""), is(9, "b", ""), is(9, "c", "")}}, "\x09\x03\x01a\x01\x01b\x01\x01c\x01"},
		sample{"keys that begin like others", Record{9, []Write{is(9, "a", "1"), is(9, "a\x00", "2"), is(9, "aa", ""), gone(9, "aaa"), is(9, "ab", "3")}},
			"\x09\x05\x01a\x021\x02a\x00\x022\x02aa\x01\x03aaa\x00\x02ab\x023"},
		sample{"keys in the order of their bytes", Record{9, []Write{is(9, "A", "1"), is(9, "Z", "2"), is(9, "a", "3"), is(9, "\x7f", "4"), is(9, "\x80", "5"), is(9, "ä", "6")}},
			"\x09\x06\x01A\x021\x01Z\x022\x01a\x023\x01\x7f\x024\x01\x80\x025\x02\xc3\xa4\x026"},
		sample{"a key and a value that look alike", Record{9, []Write{is(9, "\x01a\x02", "\x01a\x02")}}, "\x09\x01\x03\x01a\x02\x04\x01a\x02"},
	)
}

// many are records with many writes.
func many() []sample {
	var l []sample
	for _, n := range []int{127, 128, 300, 5000} {
		c := Record{At: 70000}
		b := "\xf0\xa2\x04" + string(binary.AppendUvarint(nil, uint64(n)))
		for i := range n {
			key, value := fmt.Sprintf("key%05d", i), fmt.Sprintf("value%05d", i*i%n)
			if i%3 == 2 {
				c.Writes = append(c.Writes, gone(70000, key))
				b += "\x08" + key + "\x00"
			} else {
				c.Writes = append(c.Writes, is(70000, key, value))
				b += "\x08" + key + "\x0b" + value
			}
		}
		l = append(l, sample{fmt.Sprintf("%d writes", n), c, b})
	}
	return l
}

// small are the samples but the long ones, of which each byte may be tried.
func small() []sample {
	return slices.DeleteFunc(samples(), func(x sample) bool { return len(x.bytes) > 300 })
}

// same reports whether two records are the same; an empty list and nil are.
func same(a, b Record) bool { return a.At == b.At && slices.Equal(a.Writes, b.Writes) }

// short gives bytes for a message, not all of many.
func short[T string | []byte](b T) string {
	if len(b) <= 40 {
		return fmt.Sprintf("% x", b)
	}
	return fmt.Sprintf("% x .. (%d bytes)", b[:40], len(b))
}

// show gives a record for a message, not all of many writes.
func show(c Record) string {
	l := c.Writes[:min(len(c.Writes), 6)]
	return fmt.Sprintf("{%d %.200q of %d}", c.At, fmt.Sprint(l), len(c.Writes))
}

// wantRecord decodes bytes that are a record's.
func wantRecord(t *testing.T, what, b string, want Record) {
	t.Helper()
	got, e := Decode([]byte(b))
	if e != api.OK || !same(got, want) {
		t.Fatalf("P13.1: %s: Decode(%s) = %s, %d, want %s, 0", what, short(b), show(got), e, show(want))
	}
	if again := Encode(got); string(again) != b {
		t.Fatalf("P13.1: %s: Decode(%s) = %s, whose Encode is %s", what, short(b), show(got), short(again))
	}
}

// wantNone decodes bytes that are no record's.
func wantNone(t *testing.T, what, b string) {
	t.Helper()
	got, e := Decode([]byte(b))
	if e != api.ErrData {
		t.Errorf("P13.1: %s: Decode(%s) = %s, %d, want error %d", what, short(b), show(got), e, api.ErrData)
		return
	}
	if got.At != 0 || len(got.Writes) != 0 {
		t.Errorf("R3: %s: Decode(%s) = %s with ErrData", what, short(b), show(got))
	}
}

// TestExample is the chapter's example.
func TestExample(t *testing.T) {
	c := Record{At: 5, Writes: []Write{{Key: "a", Version: chain.Version{At: 5, Value: "x"}}}}
	b := []byte{0x05, 0x01, 0x01, 0x61, 0x02, 0x78}
	if got := Encode(c); !slices.Equal(got, b) {
		t.Errorf("P13.1: Encode = % x, want % x", got, b)
	}
	if got, e := Decode(b); e != api.OK || !reflect.DeepEqual(got, c) {
		t.Errorf("P13.1: Decode = %v, %d, want %v", got, e, c)
	}
}

// TestEmbedding: a write is its key's version, whose fields and methods are its own.
func TestEmbedding(t *testing.T) {
	x := Write{Key: "a", Version: chain.Version{At: 5, Value: "x"}}
	if x.At != 5 || x.Value != "x" || x.Gone || x.Version.At != x.At {
		t.Errorf("P13.1: a write's time, value and Gone are %d, %q, %v", x.At, x.Value, x.Gone)
	}
	f, found := reflect.TypeFor[Write]().FieldByName("Version")
	if !found || !f.Anonymous {
		t.Error("Ways: a write does not embed its version")
	}
}

func TestEncode(t *testing.T) {
	for _, x := range samples() {
		if got := Encode(x.c); string(got) != x.bytes {
			t.Errorf("P13.1: %s: Encode = %s, want %s", x.name, short(got), short(x.bytes))
		}
	}
}

func TestDecode(t *testing.T) {
	for _, x := range samples() {
		wantRecord(t, x.name, x.bytes, x.c)
		got, _ := Decode([]byte(x.bytes))
		for _, w := range got.Writes {
			if w.At != x.c.At {
				t.Errorf("P13.1: %s: %q is At %d, want %d", x.name, w.Key, w.At, x.c.At)
			}
		}
	}
}

// TestEmptyLists (R4): no writes may be nil or an empty list.
func TestEmptyLists(t *testing.T) {
	for _, l := range [][]Write{nil, {}, make([]Write, 0, 9), []Write{is(7, "a", "x")}[:0]} {
		if got := Encode(Record{At: 7, Writes: l}); string(got) != "\x07\x00" {
			t.Errorf("R4: Encode of no writes = % x, want 07 00", got)
		}
	}
}

// TestGoneWithValue: of a version that is Gone no value is encoded, so none comes back.
func TestGoneWithValue(t *testing.T) {
	x := Write{Key: "a", Version: chain.Version{At: 5, Value: "x", Gone: true}}
	if got := Encode(Record{5, []Write{x}}); string(got) != "\x05\x01\x01a\x00" {
		t.Errorf("P13.1: Encode of a version that is Gone with a value = % x", got)
	}
	wantRecord(t, "gone", "\x05\x01\x01a\x00", Record{5, []Write{gone(5, "a")}})
	if got := valued(x.Version); got != "\x05\x00" {
		t.Errorf("P13.1: Value of a version that is Gone with a value writes % x", got)
	}
}

// TestNoBytes: no bytes at all are no record's.
func TestNoBytes(t *testing.T) {
	for _, b := range [][]byte{nil, {}, make([]byte, 0, 9), []byte("\x05\x00")[:0]} {
		if c, e := Decode(b); e != api.ErrData || c.At != 0 || len(c.Writes) != 0 {
			t.Errorf("P13.1: Decode of no bytes = %s, %d, want error %d", show(c), e, api.ErrData)
		}
	}
}

// TestBeginnings: each beginning of a record's bytes is no record's, also if the others lie in the spare capacity. Of the long ones some are tried.
func TestBeginnings(t *testing.T) {
	for _, x := range samples() {
		step := 1 + len(x.bytes)/600
		for n := 0; n < len(x.bytes); n += step {
			wantNone(t, fmt.Sprintf("the first %d bytes of %s", n, x.name), x.bytes[:n])
			if c, e := Decode([]byte(x.bytes)[:n]); e != api.ErrData || c.At != 0 || len(c.Writes) != 0 {
				t.Errorf("P13.1: %s: Decode of the first %d bytes = %s, %d, the others spare", x.name, n, show(c), e)
			}
		}
		wantNone(t, "all but the last byte of "+x.name, x.bytes[:len(x.bytes)-1])
	}
}

// TestMoreBytes: a record's bytes with others behind them are no record's.
func TestMoreBytes(t *testing.T) {
	for _, x := range samples() {
		for c := range 256 {
			wantNone(t, x.name+" and a byte", x.bytes+string([]byte{byte(c)}))
		}
		for _, more := range []string{"\x01z\x02z", "\x01z\x00", "\x7fz\x00", x.bytes, strings.Repeat("\x00", 100)} {
			wantNone(t, x.name+" and more", x.bytes+more)
		}
	}
}

// TestChangedBytes: with a byte changed, removed or added, bytes are no record's, or just the bytes of another one.
func TestChangedBytes(t *testing.T) {
	for _, x := range small() {
		for i := range len(x.bytes) {
			head, tail := x.bytes[:i], x.bytes[i+1:]
			checkWord(t, head+tail)
			for c := range 256 {
				other := string([]byte{byte(c)})
				checkWord(t, head+other+tail)
				checkWord(t, head+other+x.bytes[i:])
				if other != x.bytes[i:i+1] {
					wantOther(t, x, head+other+tail)
				}
			}
		}
	}
}

// wantOther decodes bytes that are not x's: it must not be x that comes back.
func wantOther(t *testing.T, x sample, b string) {
	t.Helper()
	c, e := Decode([]byte(b))
	if e != api.OK {
		return
	}
	if same(c, x.c) || string(Encode(c)) != b {
		t.Fatalf("P13.1: %s: Decode(%s) = %s, whose Encode is %s", x.name, short(b), show(c), short(Encode(c)))
	}
}

// num returns a number's bytes.
func num(n uint64) string { return string(binary.AppendUvarint(nil, n)) }

// wide returns a number's bytes with one more than it needs.
func wide(n uint64) string {
	b := binary.AppendUvarint(nil, n)
	b[len(b)-1] |= 0x80
	return string(append(b, 0))
}

// TestTimes: a record's time is from 1 to MaxTime.
func TestTimes(t *testing.T) {
	for _, rest := range []string{"\x00", "\x01\x01a\x02x", "\x01\x01a\x00"} {
		for _, at := range []uint64{1, 2, 127, 128, 1 << 32, 1<<32 + 1, api.MaxTime - 1, api.MaxTime} {
			c, e := Decode([]byte(num(at) + rest))
			if e != api.OK || c.At != at {
				t.Errorf("P13.1: Decode(% x) = %s, %d, want time %d", num(at)+rest, show(c), e, at)
			}
		}
		for _, at := range []uint64{0, api.MaxTime + 1, api.MaxTime + 2, api.MaxTime + 1<<32, 2 * api.MaxTime, 1<<41 + 1, 1 << 62, 1<<63 - 1, 1 << 63, 1<<63 + 1, top - 1, top} {
			wantNone(t, fmt.Sprintf("time %d", at), num(at)+rest)
		}
	}
}

// TestNumbersOfWrites: there are just as many writes as their number says.
func TestNumbersOfWrites(t *testing.T) {
	writes := ""
	var l []Write
	for i := range 6 {
		if i > 0 {
			writes += "\x01" + string(rune('a'+i)) + "\x02x"
			l = append(l, is(5, string(rune('a'+i)), "x"))
		}
		for n := range uint64(12) {
			b := "\x05" + num(n) + writes
			if n == uint64(i) {
				wantRecord(t, "the right number", b, Record{5, l})
			} else {
				wantNone(t, fmt.Sprintf("%d writes, number %d", i, n), b)
			}
		}
		for _, n := range []uint64{127, 128, 256, 65536, 1<<31 - 1, 1 << 31, 1 << 32, 1 << 40, 1 << 62, 1<<63 - 1, 1 << 63, top - 1, top} {
			for d := range uint64(6) {
				// In fewer bits some of these would be the right number.
				wantNone(t, "a number that is far too large", "\x05"+num(n-d)+writes)
				wantNone(t, "a number that is far too large", "\x05"+num(min(n, top-d)+d)+writes)
			}
		}
	}
}

// TestKeysAscend: each key is above the one ahead of it.
func TestKeysAscend(t *testing.T) {
	keys := []string{"\x00", "\x00\x00", "A", "Z", "a", "a\x00", "aa", "ab", "b", "\x7f", "\x80", "ä", "\xff", "\xff\xff", strings.Repeat("\xff", api.MaxKey)}
	encode := func(l ...string) string {
		b := "\x05" + num(uint64(len(l)))
		for _, key := range l {
			b += num(uint64(len(key))) + key + "\x02x"
		}
		return b
	}
	for i, a := range keys {
		for j, b := range keys {
			if i < j {
				wantRecord(t, "ascending keys", encode(a, b), Record{5, []Write{is(5, a, "x"), is(5, b, "x")}})
			} else {
				wantNone(t, fmt.Sprintf("keys %q, %q", a, b), encode(a, b))
			}
			for k, c := range keys {
				if i < j && j < k {
					wantRecord(t, "ascending keys", encode(a, b, c), Record{5, []Write{is(5, a, "x"), is(5, b, "x"), is(5, c, "x")}})
				} else {
					wantNone(t, fmt.Sprintf("keys %q, %q, %q", a, b, c), encode(a, b, c))
				}
			}
		}
	}
	wantNone(t, "a key again, gone", "\x05\x02\x01a\x02x\x01a\x00")
	wantNone(t, "a key again, gone twice", "\x05\x02\x01a\x00\x01a\x00")
}

// TestKeys: a key has from 1 to MaxKey bytes.
func TestKeys(t *testing.T) {
	for n := range 300 {
		key := strings.Repeat("k", n)
		for _, value := range []string{"\x00", "\x01", "\x02x"} {
			b := num(uint64(n)) + key + value
			if n >= 1 && n <= api.MaxKey {
				if c, e := Decode([]byte("\x05\x01" + b)); e != api.OK || c.Writes[0].Key != key {
					t.Errorf("P13.1: a key of %d bytes: %s, %d", n, show(c), e)
				}
				continue
			}
			what := fmt.Sprintf("a key of %d bytes", n)
			wantNone(t, what, "\x05\x01"+b)
			wantNone(t, what+" behind another one", "\x05\x02\x01a\x00"+b)
			wantNone(t, what+" ahead of another one", "\x05\x02"+b+"\x01z\x00")
		}
	}
	for _, n := range []uint64{1 << 31, 1<<32 + 1, 1 << 40, 1<<63 - 1, 1 << 63, 1<<63 + 1, top} {
		wantNone(t, fmt.Sprintf("a key of %d bytes", n), "\x05\x01"+num(n)+"a\x02x")
	}
}

// TestValues: a value has up to MaxValue bytes.
func TestValues(t *testing.T) {
	for n := range 600 {
		value := strings.Repeat("v", n)
		b := "\x01a" + num(uint64(n)+1) + value
		if n <= api.MaxValue {
			wantRecord(t, "a value", "\x05\x01"+b, Record{5, []Write{is(5, "a", value)}})
			wantRecord(t, "a value ahead of another one", "\x05\x02"+b+"\x01b\x00", Record{5, []Write{is(5, "a", value), gone(5, "b")}})
			continue
		}
		what := fmt.Sprintf("a value of %d bytes", n)
		wantNone(t, what, "\x05\x01"+b)
		wantNone(t, what+" ahead of another one", "\x05\x02"+b+"\x01b\x00")
	}
	for _, n := range tooLong() {
		wantNone(t, fmt.Sprintf("a value of length %d plus 1", n-1), "\x05\x01\x01a"+num(n)+strings.Repeat("v", 300))
		wantNone(t, fmt.Sprintf("a value of length %d plus 1", n-1), "\x05\x01\x01a"+num(n))
	}
}

// tooLong are lengths of values, plus 1, that are above MaxValue. Some of them would be small in fewer bits.
func tooLong() []uint64 {
	return []uint64{api.MaxValue + 2, 256, 257, 65536 + 2, 1<<31 + 1, 1 << 32, 1<<32 + 1, 1<<32 + 2, 1 << 40, 1<<63 - 1, 1 << 63, 1<<63 + 1, 1<<63 + 2, top - 1, top}
}

// TestNotShortest: a number that is not in the fewest bytes is none, whichever of a record's numbers it is.
func TestNotShortest(t *testing.T) {
	for _, f := range []func(uint64) string{wide, func(n uint64) string { return num(n)[:len(num(n))-1] + "\x80" }} {
		for _, x := range []struct{ what, b string }{
			{"time", f(5) + "\x00"},
			{"time of two bytes", f(300) + "\x00"},
			{"MaxTime", f(api.MaxTime) + "\x00"},
			{"time ahead of a write", f(5) + "\x01\x01a\x02x"},
			{"no writes", "\x05" + f(0)},
			{"a write", "\x05" + f(1) + "\x01a\x02x"},
			{"a key's length", "\x05\x01" + f(1) + "a\x02x"},
			{"a second key's length", "\x05\x02\x01a\x02x" + f(1) + "b\x02x"},
			{"gone", "\x05\x01\x01a" + f(0)},
			{"an empty value", "\x05\x01\x01a" + f(1)},
			{"a value's length", "\x05\x01\x01a" + f(2) + "x"},
			{"a value's length of two bytes", "\x05\x01\x01a" + f(201) + strings.Repeat("v", 200)},
			{"gone ahead of another one", "\x05\x02\x01a" + f(0) + "\x01b\x00"},
		} {
			wantNone(t, x.what, x.b)
		}
	}
	eleven := strings.Repeat("\x85", 10) + "\x00"
	for _, b := range []string{eleven + "\x00", "\x05" + eleven, "\x05\x01" + eleven + "a\x00", "\x05\x01\x01a" + eleven} {
		wantNone(t, "a number of eleven bytes", b)
	}
}

// take takes the number at the beginning of b off, by Go's own varint.
func take(b string) (n uint64, rest string, ok bool) {
	n, size := binary.Uvarint([]byte(b))
	if size <= 0 || len(num(n)) != size {
		return 0, "", false
	}
	return n, b[size:], true
}

// wordVersion is the chapter's word of the version's bytes at the beginning of b.
func wordVersion(b string) (v chain.Version, rest string, ok bool) {
	n, b, ok := take(b)
	switch {
	case !ok || n > api.MaxValue+1 || n > uint64(len(b))+1:
		return v, "", false
	case n == 0:
		return chain.Version{Gone: true}, b, true
	}
	return chain.Version{Value: b[:n-1]}, b[n-1:], true
}

// wordRecord is the chapter's word of a record's bytes.
func wordRecord(b string) (c Record, ok bool) {
	at, b, ok := take(b)
	if !ok || at == 0 || at > api.MaxTime {
		return c, false
	}
	number, b, ok := take(b)
	if !ok || number > uint64(len(b)) {
		return c, false
	}
	c.At = at
	for uint64(len(c.Writes)) < number {
		size, rest, ok := take(b)
		if !ok || size < 1 || size > api.MaxKey || size > uint64(len(rest)) {
			return c, false
		}
		x := Write{Key: rest[:size]}
		if x.Version, b, ok = wordVersion(rest[size:]); !ok {
			return c, false
		}
		x.At = at
		c.Writes = append(c.Writes, x)
	}
	for i := 1; i < len(c.Writes); i++ {
		if c.Writes[i-1].Key >= c.Writes[i].Key {
			return c, false
		}
	}
	return c, b == ""
}

// checkWord holds Decode of b against the chapter's word.
func checkWord(t *testing.T, b string) {
	t.Helper()
	want, ok := wordRecord(b)
	if ok {
		wantRecord(t, "by the chapter's word", b, want)
	} else {
		wantNone(t, "by the chapter's word", b)
	}
	if t.Failed() {
		t.FailNow()
	}
}

// each calls do with every sequence of n bytes of those of set.
func each(set string, n int, do func(string)) {
	b := make([]byte, n)
	var fill func(int)
	fill = func(at int) {
		if at == n {
			do(string(b))
			return
		}
		for i := range len(set) {
			b[at] = set[i]
			fill(at + 1)
		}
	}
	fill(0)
}

// all is all bytes.
func all() string {
	b := make([]byte, 256)
	for i := range b {
		b[i] = byte(i)
	}
	return string(b)
}

// TestAllBytes decodes all sequences of up to two bytes, and longer ones out of some.
func TestAllBytes(t *testing.T) {
	do := func(b string) { checkWord(t, b) }
	for n := range 3 {
		each(all(), n, do)
	}
	for n := range 8 {
		each("\x00\x01\x02\x03\x80", n, do)
	}
	// Behind a time and a number of writes there is more to be seen.
	for n := range 9 {
		each("\x00\x01\x02\x03", n, func(b string) { do("\x05\x02" + b) })
	}
	for n := range 12 {
		each("\x00\x01\x02", n, func(b string) { do("\x05\x03" + b) })
	}
}

// TestAllRecords encodes all records of up to three of some keys, each with each of some versions, and decodes them.
func TestAllRecords(t *testing.T) {
	keys := []string{"\x00", "a", "a\x00", "b", "\xff"}
	values := []chain.Version{{Gone: true}, {}, {Value: "x"}, {Value: "\x00\x80"}, {Value: strings.Repeat("\x01", api.MaxValue)}}
	seen := map[string]bool{}
	var add func(c Record, from int)
	add = func(c Record, from int) {
		b := string(Encode(c))
		if word, ok := wordRecord(b); !ok || !same(word, c) {
			t.Fatalf("P13.1: Encode(%s) = %s", show(c), short(b))
		}
		if seen[b] {
			t.Fatalf("P13.1: Encode(%s) = %s, like that of another record", show(c), short(b))
		}
		seen[b] = true
		wantRecord(t, "all records", b, c)
		if len(c.Writes) == 3 {
			return
		}
		for i := from; i < len(keys); i++ {
			for _, v := range values {
				v.At = c.At
				add(Record{c.At, append(slices.Clone(c.Writes), Write{keys[i], v})}, i+1)
			}
		}
	}
	for _, at := range []uint64{1, 200, api.MaxTime} {
		add(Record{At: at}, 0)
	}
}

// valued returns what Value writes to a new Writer.
func valued(v chain.Version) string {
	var w code.Writer
	Value(&w, v)
	return string(w.B)
}

// version is a version, with the bytes that Value writes.
type version struct {
	v     chain.Version
	bytes string
}

// versions are versions at the limits of their time, with their bytes: Gone, and with values, the limits' among them.
func versions() []version {
	long := strings.Repeat("v", api.MaxValue)
	var l []version
	for at, bytes := range map[uint64]string{
		0:               "\x00",
		1:               "\x01",
		127:             "\x7f",
		128:             "\x80\x01",
		300:             "\xac\x02",
		api.MaxTime - 1: "\xff\xff\xff\xff\xff\x1f",
		api.MaxTime:     "\x80\x80\x80\x80\x80\x20",
		api.MaxTime + 1: "\x81\x80\x80\x80\x80\x20",
		top:             "\xff\xff\xff\xff\xff\xff\xff\xff\xff\x01",
	} {
		l = append(l,
			version{chain.Version{At: at, Gone: true}, bytes + "\x00"},
			version{chain.Version{At: at}, bytes + "\x01"},
			version{chain.Version{At: at, Value: "x"}, bytes + "\x02x"},
			version{chain.Version{At: at, Value: "\x00"}, bytes + "\x02\x00"},
			version{chain.Version{At: at, Value: "\xff\x80\x00"}, bytes + "\x04\xff\x80\x00"},
			version{chain.Version{At: at, Value: long[:126]}, bytes + "\x7f" + long[:126]},
			version{chain.Version{At: at, Value: long[:127]}, bytes + "\x80\x01" + long[:127]},
			version{chain.Version{At: at, Value: long}, bytes + "\xc9\x01" + long})
	}
	slices.SortFunc(l, func(a, b version) int { return strings.Compare(a.bytes, b.bytes) })
	return l
}

// wantVersion reads a version that is to be there, and holds what is left against rest.
func wantVersion(t *testing.T, r *code.Reader, want chain.Version, rest string) {
	t.Helper()
	if got := Read(r); r.Bad || got != want {
		t.Fatalf("P13.1: Read() = %.60q, Bad %v, want %.60q, false", fmt.Sprint(got), r.Bad, fmt.Sprint(want))
	}
	if string(r.B) != rest {
		t.Fatalf("P13.1: Read() leaves %s, want %s", short(r.B), short(rest))
	}
}

// wantBad reads a version where there is none. Then the reader is Bad, and stays so.
func wantBad(t *testing.T, what string, r *code.Reader) {
	t.Helper()
	for range 3 {
		if Read(r); !r.Bad || r.End() {
			t.Errorf("P13.1: %s: Read: the reader is not Bad", what)
			return
		}
	}
}

func TestValue(t *testing.T) {
	for _, x := range versions() {
		if got := valued(x.v); got != x.bytes {
			t.Errorf("P13.1: Value(%.60q) writes %s, want %s", fmt.Sprint(x.v), short(got), short(x.bytes))
		}
	}
}

func TestRead(t *testing.T) {
	for _, x := range versions() {
		for _, tail := range []string{"", "\x00", "\x01", "\x80", "\xff\xff", "xyz", x.bytes} {
			r := &code.Reader{B: []byte(x.bytes + tail)}
			wantVersion(t, r, x.v, tail)
			if r.End() != (tail == "") {
				t.Errorf("P13.1: End() = %v with % x left", r.End(), tail)
			}
		}
	}
}

// TestValueLengths: Value writes, and Read reads, values of every length up to MaxValue, and Read no longer ones.
func TestValueLengths(t *testing.T) {
	for n := range 600 {
		v := chain.Version{At: 9, Value: strings.Repeat("v", n)}
		b := valued(v)
		if want := "\x09" + num(uint64(n)+1) + v.Value; b != want {
			t.Fatalf("P13.1: Value of %d bytes writes %s, want %s", n, short(b), short(want))
		}
		r := &code.Reader{B: []byte(b + "more")}
		if n <= api.MaxValue {
			wantVersion(t, r, v, "more")
		} else {
			wantBad(t, fmt.Sprintf("a value of %d bytes", n), r)
		}
	}
}

// TestReadTooLong: a value that is longer than MaxValue, or than the bytes that there are, is none.
func TestReadTooLong(t *testing.T) {
	for _, n := range tooLong() {
		for _, body := range []string{"", "v", strings.Repeat("v", 300), strings.Repeat("\x00", 70000)} {
			wantBad(t, fmt.Sprintf("length %d plus 1", n-1), &code.Reader{B: []byte("\x05" + num(n) + body)})
		}
	}
	for n := uint64(2); n <= api.MaxValue+1; n++ {
		wantBad(t, fmt.Sprintf("length %d, a byte less", n-1), &code.Reader{B: []byte("\x05" + num(n) + strings.Repeat("v", int(n-2)))})
	}
}

// TestReadEnds: bytes that end ahead of a version or within it, also if the others lie in the spare capacity.
func TestReadEnds(t *testing.T) {
	wantBad(t, "no bytes", &code.Reader{})
	wantBad(t, "no bytes", &code.Reader{B: []byte{}})
	for _, x := range versions() {
		for n := range len(x.bytes) {
			what := fmt.Sprintf("the first %d bytes of %s", n, short(x.bytes))
			wantBad(t, what, &code.Reader{B: []byte(x.bytes[:n])})
			wantBad(t, what+", the others spare", &code.Reader{B: []byte(x.bytes)[:n]})
		}
		r := &code.Reader{B: []byte(x.bytes)}
		wantVersion(t, r, x.v, "")
		wantBad(t, "behind a version", r)
	}
}

// TestReadNotShortest: numbers that are not in the fewest bytes.
func TestReadNotShortest(t *testing.T) {
	for _, b := range []string{
		wide(5) + "\x00", wide(5) + "\x02x", wide(300) + "\x01", wide(0) + "\x01", wide(api.MaxTime) + "\x00",
		"\x05" + wide(0), "\x05" + wide(1), "\x05" + wide(2) + "x", "\x05" + wide(201) + strings.Repeat("v", 200),
		strings.Repeat("\xff", 9) + "\x02" + "\x00", "\x05" + strings.Repeat("\x80", 10) + "\x01",
	} {
		wantBad(t, "a number that is none", &code.Reader{B: []byte(b)})
		wantBad(t, "a number that is none", &code.Reader{B: []byte(b + strings.Repeat("\x00", 300))})
	}
}

// TestReadBad: a reader that is Bad stays so, whatever bytes it has.
func TestReadBad(t *testing.T) {
	for _, b := range []string{"", "\x05\x00", "\x05\x01", "\x05\x02x", "\x00\x00\x00\x00"} {
		wantBad(t, "set by hand", &code.Reader{B: []byte(b), Bad: true})
	}
	r := &code.Reader{B: []byte("\x05\x03x")}
	wantBad(t, "a value that is not all", r)
	for _, b := range []string{"\x05\x00", "\x05\x02x", "\x00\x00\x00\x00"} {
		r.B = []byte(b)
		wantBad(t, "given other bytes", r)
	}
	if n, s := r.Num(), r.Text(9); n != 0 || s != "" {
		t.Errorf("P5.2: a Bad reader reads %d and %q", n, s)
	}
}

// TestReadAll holds Read of all sequences of up to two bytes, and of longer ones out of some, against the chapter's word.
func TestReadAll(t *testing.T) {
	check := func(b string) {
		at, rest, ok := take(b)
		want, rest, found := wordVersion(rest)
		r := &code.Reader{B: []byte(b)}
		if !ok || !found {
			wantBad(t, fmt.Sprintf("% x", b), r)
			return
		}
		want.At = at
		wantVersion(t, r, want, rest)
	}
	for n := range 3 {
		each(all(), n, check)
	}
	for n := range 8 {
		each("\x00\x01\x02\x03\x80", n, check)
	}
}

// TestOneAfterAnother writes several versions by one Writer, among numbers and texts, and reads them by one reader.
func TestOneAfterAnother(t *testing.T) {
	l := versions()
	w := code.Writer{B: []byte("own")}
	want := "own"
	for i, x := range l {
		w.Num(uint64(i))
		Value(&w, x.v)
		w.Text("t")
		Value(&w, l[len(l)-1-i].v)
		want += num(uint64(i)) + x.bytes + "\x01t" + l[len(l)-1-i].bytes
		if string(w.B) != want {
			t.Fatalf("P13.1: behind Value %d the Writer has %s, want %s", i, short(w.B), short(want))
		}
	}
	r := &code.Reader{B: w.B[3:]}
	for i, x := range l {
		want = string(r.B)
		if n := r.Num(); n != uint64(i) {
			t.Fatalf("P13.1: number %d is read as %d", i, n)
		}
		wantVersion(t, r, x.v, want[len(num(uint64(i)))+len(x.bytes):])
		if s := r.Text(1); s != "t" {
			t.Fatalf("P13.1: text %d is read as %q", i, s)
		}
		want = string(r.B)
		wantVersion(t, r, l[len(l)-1-i].v, want[len(l[len(l)-1-i].bytes):])
	}
	if !r.End() {
		t.Error("P13.1: not End() behind the last version")
	}
	wantBad(t, "behind the last version", r)
}

// TestSpareCapacity: what a Writer begins with stays in front, whatever spare capacity lies behind it.
func TestSpareCapacity(t *testing.T) {
	for spare := range 9 {
		b := append(make([]byte, 0, 3+spare), "own"...)
		w := code.Writer{B: b}
		Value(&w, chain.Version{At: 300, Value: "xy"})
		Value(&w, chain.Version{At: 1, Gone: true})
		if want := "own\xac\x02\x03xy\x01\x00"; string(w.B) != want || string(b) != "own" {
			t.Errorf("P13.1: %d spare: the Writer has % x, want % x", spare, w.B, want)
		}
	}
}

// TestEncodeMemory (R5): the list that is given stays as it is, with what lies behind it; each answer is memory of its own.
func TestEncodeMemory(t *testing.T) {
	mark := is(9, "mark", "mark")
	for _, x := range samples() {
		whole := append(slices.Clone(x.c.Writes), mark, mark, mark)
		given := Record{x.c.At, whole[:len(x.c.Writes)]}
		before := slices.Clone(whole)
		first := Encode(given)
		_ = append(first, "more"...)
		second := Encode(given)
		clear(first[:cap(first)])
		if string(second) != x.bytes || string(Encode(given)) != x.bytes {
			t.Errorf("R5: %s: what Encode returned lies in another answer", x.name)
		}
		if !slices.Equal(whole, before) || given.At != x.c.At {
			t.Errorf("R5: %s: Encode modified the list, or what lies behind it", x.name)
		}
		clear(whole)
		if string(second) != x.bytes {
			t.Errorf("R5: %s: what Encode returned lies in the list", x.name)
		}
	}
}

// TestDecodeMemory (R5): the bytes that are given stay as they are, with what lies behind them; neither they nor another record lie in an answer.
func TestDecodeMemory(t *testing.T) {
	for _, x := range samples() {
		whole := []byte(x.bytes + "\x01z\x02z behind")
		given := whole[:len(x.bytes)]
		before := string(whole)
		first, e1 := Decode(given)
		_ = append(first.Writes, is(9, "more", "more"))
		second, e2 := Decode(given)
		if e1 != api.OK || e2 != api.OK || string(whole) != before {
			t.Errorf("R5: %s: Decode modified the bytes, or what lies behind them", x.name)
		}
		clear(first.Writes[:cap(first.Writes)])
		if !same(second, x.c) {
			t.Errorf("R5: %s: what Decode returned lies in another answer", x.name)
		}
		for i := range whole {
			whole[i] ^= 0xff
		}
		if !same(second, x.c) {
			t.Errorf("R5: %s: what Decode returned lies in the bytes", x.name)
		}
	}
	for _, b := range []string{"", "\x00\x00", "\x05\x01\x01a\x03x", "\x05\x00\x00"} {
		whole := []byte(b + "behind")
		if Decode(whole[:len(b)]); string(whole) != b+"behind" {
			t.Errorf("R5: Decode(% x) modified the bytes, or what lies behind them", b)
		}
	}
}

// TestReadMemory (R5): the bytes that are read stay as they are, and a version does not lie in them.
func TestReadMemory(t *testing.T) {
	for _, x := range versions() {
		whole := []byte("ahead" + x.bytes + x.bytes + "behind")
		before := string(whole)
		r := &code.Reader{B: whole[5 : len(whole)-6]}
		first := Read(r)
		if string(whole) != before {
			t.Errorf("R5: Read modified the bytes, or what lies ahead of them or behind them")
		}
		clear(whole[:5+len(x.bytes)])
		second := Read(r)
		clear(whole)
		if first != x.v || second != x.v {
			t.Errorf("R5: Read() = %.60q lies in the bytes", fmt.Sprint(x.v))
		}
	}
	broken := []byte("\x05\x05xx\x00\x00")
	if Read(&code.Reader{B: broken[:4]}); string(broken) != "\x05\x05xx\x00\x00" {
		t.Error("R5: Read of bytes that are none modified them")
	}
}

// TestAgain (R6): a result depends on the arguments alone, whatever was asked ahead of it.
func TestAgain(t *testing.T) {
	for range 2 {
		for _, x := range samples() {
			wantNone(t, "no record", "\x05\x02\x01b\x02x\x01a\x02x")
			Encode(Record{})
			wantRecord(t, x.name, x.bytes, x.c)
		}
	}
}

// TestNoRecords: nothing is promised of Encode for what is no record, nor of Value for a value that is too long, but that they end without a panic (P1).
func TestNoRecords(t *testing.T) {
	for _, c := range []Record{
		{},
		{At: top},
		{At: api.MaxTime + 1, Writes: []Write{is(1, "a", "x")}},
		{At: 5, Writes: []Write{is(6, "a", "x")}},
		{At: 5, Writes: []Write{is(5, "b", "x"), is(5, "a", "x")}},
		{At: 5, Writes: []Write{is(5, "a", "x"), is(5, "a", "x")}},
		{At: 5, Writes: []Write{is(5, "", "x"), {}}},
		{At: 5, Writes: []Write{is(5, strings.Repeat("k", 70000), strings.Repeat("v", 70000))}},
	} {
		if b := Encode(c); len(b) > 0 {
			Decode(b)
		}
		for _, w := range c.Writes {
			Value(&code.Writer{}, w.Version)
		}
	}
}
