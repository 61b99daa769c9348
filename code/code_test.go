package code

import (
	"bytes"
	"encoding/binary"
	"fmt"
	"math"
	"slices"
	"strings"
	"testing"
)

const top = math.MaxUint64

// lengths holds, for each length from one byte to ten, the least and the greatest number that need it, with their bytes.
var lengths = []struct {
	n     uint64
	bytes string
}{
	{0, "\x00"},
	{127, "\x7f"},
	{128, "\x80\x01"},
	{16383, "\xff\x7f"},
	{16384, "\x80\x80\x01"},
	{1<<21 - 1, "\xff\xff\x7f"},
	{1 << 21, "\x80\x80\x80\x01"},
	{1<<28 - 1, "\xff\xff\xff\x7f"},
	{1 << 28, "\x80\x80\x80\x80\x01"},
	{1<<35 - 1, "\xff\xff\xff\xff\x7f"},
	{1 << 35, "\x80\x80\x80\x80\x80\x01"},
	{1<<42 - 1, "\xff\xff\xff\xff\xff\x7f"},
	{1 << 42, "\x80\x80\x80\x80\x80\x80\x01"},
	{1<<49 - 1, "\xff\xff\xff\xff\xff\xff\x7f"},
	{1 << 49, "\x80\x80\x80\x80\x80\x80\x80\x01"},
	{1<<56 - 1, "\xff\xff\xff\xff\xff\xff\xff\x7f"},
	{1 << 56, "\x80\x80\x80\x80\x80\x80\x80\x80\x01"},
	{1<<63 - 1, "\xff\xff\xff\xff\xff\xff\xff\xff\x7f"},
	{1 << 63, "\x80\x80\x80\x80\x80\x80\x80\x80\x80\x01"},
	{top, "\xff\xff\xff\xff\xff\xff\xff\xff\xff\x01"},
}

// others holds numbers whose bits tell the bytes apart.
var others = []struct {
	n     uint64
	bytes string
}{
	{1, "\x01"},
	{10, "\x0a"},
	{300, "\xac\x02"}, // the chapter's example
	{0x3f80, "\x80\x7f"},
	{16385, "\x81\x80\x01"},
	{1 << 40, "\x80\x80\x80\x80\x80\x20"}, // MaxTime
	{0x0123456789abcdef, "\xef\x9b\xaf\xcd\xf8\xac\xd1\x91\x01"},
	{0xfedcba9876543210, "\x90\xe4\xd0\xb2\x87\xd3\xae\xee\xfe\x01"},
	{1<<63 | 1, "\x81\x80\x80\x80\x80\x80\x80\x80\x80\x01"},
	{top - 1, "\xfe\xff\xff\xff\xff\xff\xff\xff\xff\x01"},
}

// texts holds texts and the bytes of their lengths.
var texts = []struct{ s, length string }{
	{"", "\x00"},
	{"x", "\x01"},
	{"\x00", "\x01"},
	{"\xff", "\x01"},
	{"key", "\x03"},
	{"a key\tof\nlines", "\x0e"},
	{"\x80\x81\xfe\xff\x00", "\x05"},
	{"äöü€", "\x09"},
	{strings.Repeat("s", 126), "\x7e"},
	{strings.Repeat("s", 127), "\x7f"},
	{strings.Repeat("s", 128), "\x80\x01"},
	{strings.Repeat("s", 129), "\x81\x01"},
	{strings.Repeat("\x80", 200), "\xc8\x01"},
	{strings.Repeat("ab", 150), "\xac\x02"},
	{strings.Repeat("\xff\x00", 8191) + "z", "\xff\x7f"},
	{strings.Repeat("\x00", 16384), "\x80\x80\x01"},
	{strings.Repeat("long", 20000), "\x80\xf1\x04"},
}

// numbers returns all numbers around each power of two, and those of the tables.
func numbers() []uint64 {
	l := []uint64{0}
	for bit := range 64 {
		for d := range uint64(5) {
			l = append(l, 1<<bit+d-2, 3<<bit+d-2, 5<<bit+d-2)
		}
	}
	for _, c := range slices.Concat(lengths, others) {
		l = append(l, c.n)
	}
	return l
}

// num returns a number's bytes as a new Writer writes them.
func num(n uint64) string {
	var w Writer
	w.Num(n)
	return string(w.B)
}

// text returns a text's bytes as a new Writer writes them.
func text(s string) string {
	var w Writer
	w.Text(s)
	return string(w.B)
}

// over returns a reader of a copy of these bytes.
func over(s string) *Reader { return &Reader{B: []byte(s)} }

// short gives bytes for a message, not all of many.
func short(s string) string {
	if len(s) <= 24 {
		return fmt.Sprintf("% x", s)
	}
	return fmt.Sprintf("% x .. (%d bytes)", s[:24], len(s))
}

// wantNum reads a number that is to be there, and holds what is left against rest.
func wantNum(t *testing.T, r *Reader, want uint64, rest string) {
	t.Helper()
	got := r.Num()
	if got != want || r.Bad {
		t.Fatalf("P5.2: Num() = %d, Bad %v, want %d, false", got, r.Bad, want)
	}
	if string(r.B) != rest {
		t.Fatalf("P5.2: Num() = %d leaves %s, want %s", got, short(string(r.B)), short(rest))
	}
}

// wantText reads a text that is to be there, and holds what is left against rest.
func wantText(t *testing.T, r *Reader, most int, want, rest string) {
	t.Helper()
	got := r.Text(most)
	if got != want || r.Bad {
		t.Fatalf("P5.2: Text(%d) = %s, Bad %v, want %s, false", most, short(got), r.Bad, short(want))
	}
	if string(r.B) != rest {
		t.Fatalf("P5.2: Text(%d) leaves %s, want %s", most, short(string(r.B)), short(rest))
	}
}

// stuck goes on with a reader that is Bad: whatever is called, in whatever order, nothing is there any more.
func stuck(t *testing.T, what string, r *Reader) {
	t.Helper()
	for i := range 8 {
		if !r.Bad {
			t.Fatalf("P5.2: %s: Bad is not set, or no more", what)
		}
		if r.End() {
			t.Fatalf("P5.2: %s: End() of a Bad reader", what)
		}
		// Two calls of each, so that each follows itself and the other.
		if i/2%2 == 0 {
			if n := r.Num(); n != 0 {
				t.Fatalf("P5.2: %s: Num() = %d of a Bad reader, want 0", what, n)
			}
		} else if s := r.Text(math.MaxInt >> (9 * i)); s != "" {
			t.Fatalf("P5.2: %s: Text() = %s of a Bad reader, want none", what, short(s))
		}
	}
	if !r.Bad {
		t.Fatalf("P5.2: %s: Bad is no more set", what)
	}
}

// noNum reads a number where there is none.
func noNum(t *testing.T, what string, r *Reader) {
	t.Helper()
	if got := r.Num(); got != 0 || !r.Bad {
		t.Errorf("P5.2: %s: Num() = %d, Bad %v, want 0, true", what, got, r.Bad)
		return
	}
	stuck(t, what, r)
}

// noText reads a text where there is none.
func noText(t *testing.T, what string, r *Reader, most int) {
	t.Helper()
	if got := r.Text(most); got != "" || !r.Bad {
		t.Errorf("P5.2: %s: Text(%d) = %s, Bad %v, want none, true", what, most, short(got), r.Bad)
		return
	}
	stuck(t, what, r)
}

// TestExample is the chapter's example.
func TestExample(t *testing.T) {
	var w Writer
	w.Num(300)
	if !bytes.Equal(w.B, []byte{0xac, 0x02}) {
		t.Errorf("P5.1: Num(300) appends % x, want ac 02", w.B)
	}
}

// TestUse writes some numbers and texts, one behind another, and reads them.
func TestUse(t *testing.T) {
	var w Writer
	w.Num(5)
	w.Text("a")
	w.Num(300)
	w.Text("")
	w.Text("key")
	want := "\x05" + "\x01a" + "\xac\x02" + "\x00" + "\x03key"
	if string(w.B) != want {
		t.Fatalf("P5.1: B is % x, want % x", w.B, want)
	}
	r := Reader{B: w.B}
	wantNum(t, &r, 5, want[1:])
	wantText(t, &r, 32, "a", want[3:])
	wantNum(t, &r, 300, want[5:])
	wantText(t, &r, 32, "", want[6:])
	if r.End() {
		t.Error("P5.2: End() with a text left")
	}
	wantText(t, &r, 32, "key", "")
	if !r.End() {
		t.Error("P5.2: not End() with nothing left")
	}
	noNum(t, "behind all", &r)
}

// TestNumBytes holds the bytes of numbers of each length against what they are.
func TestNumBytes(t *testing.T) {
	for i, c := range slices.Concat(lengths, others) {
		if got := num(c.n); got != c.bytes {
			t.Errorf("P5.1: Num(%d) appends % x, want % x", c.n, got, c.bytes)
		}
		if i < len(lengths) && len(num(c.n)) != i/2+1 {
			t.Errorf("P5.1: Num(%d) appends %d bytes, want %d", c.n, len(num(c.n)), i/2+1)
		}
	}
}

// TestNumOtherwise holds the bytes of many numbers against those that Go's library writes.
func TestNumOtherwise(t *testing.T) {
	check := func(n uint64) {
		if got, want := num(n), string(binary.AppendUvarint(nil, n)); got != want {
			t.Fatalf("P5.1: Num(%d) appends % x, want % x", n, got, want)
		}
	}
	for n := range uint64(1 << 17) {
		check(n)
	}
	for _, n := range numbers() {
		check(n)
	}
}

// TestTextBytes holds the bytes of texts against what they are.
func TestTextBytes(t *testing.T) {
	for _, c := range texts {
		if got := text(c.s); got != c.length+c.s {
			t.Errorf("P5.1: Text(%d bytes) appends %s, want %s", len(c.s), short(got), short(c.length+c.s))
		}
	}
}

// TestWriterOfItsOwn: what a Writer begins with stays in front, whether or not there is spare capacity behind it.
func TestWriterOfItsOwn(t *testing.T) {
	for _, own := range []string{"", "\x80", "own bytes", "\xff\xff\xff"} {
		for spare := range 14 {
			b := append(make([]byte, 0, len(own)+spare), own...)
			w := Writer{B: b}
			w.Num(16384)
			if want := own + "\x80\x80\x01"; string(w.B) != want {
				t.Errorf("P5.1: with %q, %d spare: Num(16384): B is % x, want % x", own, spare, w.B, want)
			}
			w.Text("text")
			if want := own + "\x80\x80\x01\x04text"; string(w.B) != want {
				t.Errorf("P5.1: with %q, %d spare: Text: B is % x, want % x", own, spare, w.B, want)
			}
			if string(b) != own {
				t.Errorf("R5: with %q, %d spare: the bytes that it began with are % x now", own, spare, b)
			}
		}
	}
}

// TestManyWrites: each write leaves what is there and appends its own bytes.
func TestManyWrites(t *testing.T) {
	var w Writer
	var want []byte
	for i := range 20000 {
		n := uint64(i) * 0x9e3779b97f4a7c15 >> (i % 64)
		s := strings.Repeat(string(rune('a'+i%26)), i%131)
		before := len(w.B)
		if i%2 == 0 {
			w.Num(n)
			want = binary.AppendUvarint(want, n)
		} else {
			w.Text(s)
			want = append(binary.AppendUvarint(want, uint64(len(s))), s...)
		}
		if !bytes.Equal(w.B[before:], want[before:]) {
			t.Fatalf("P5.1: write %d appends %s, want %s", i, short(string(w.B[before:])), short(string(want[before:])))
		}
	}
	if !bytes.Equal(w.B, want) {
		t.Fatal("P5.1: a later write changed what an earlier one had written")
	}
	r := Reader{B: w.B}
	for i := range 20000 {
		if i%2 == 0 {
			if got, n := r.Num(), uint64(i)*0x9e3779b97f4a7c15>>(i%64); got != n || r.Bad {
				t.Fatalf("P5.2: number %d is read as %d, Bad %v, want %d, false", i, got, r.Bad, n)
			}
		} else if got := r.Text(130); len(got) != i%131 || strings.Trim(got, string(rune('a'+i%26))) != "" || r.Bad {
			t.Fatalf("P5.2: text %d is read as %s, Bad %v", i, short(got), r.Bad)
		}
	}
	if !r.End() {
		t.Error("P5.2: not End() behind the last one")
	}
}

// TestTwoWriters: what one Writer is told, another does not know.
func TestTwoWriters(t *testing.T) {
	var a, b Writer
	for i := range uint64(300) {
		a.Num(i)
		b.Text("t")
		a.Text("")
	}
	for i := range uint64(300) {
		if !bytes.HasPrefix(a.B, []byte(num(i)+"\x00")) {
			t.Fatalf("P5.1: the first Writer has %s at number %d", short(string(a.B)), i)
		}
		a.B = a.B[len(num(i))+1:]
	}
	if len(a.B) != 0 || string(b.B) != strings.Repeat("\x01t", 300) {
		t.Errorf("P5.1: the Writers have %s and %s", short(string(a.B)), short(string(b.B)))
	}
}

// tails are bytes that may follow: none, and such as would change what is read if they were taken for a part of it.
var tails = []string{"", "\x00", "\x01", "\x7f", "\x80", "\x80\x01", "\xff\xff\xff\xff\xff\xff\xff\xff\xff\xff\xff\xff", "abc"}

// TestNumBack: a number comes back, and only its bytes are consumed.
func TestNumBack(t *testing.T) {
	for _, tail := range tails {
		for _, c := range slices.Concat(lengths, others) {
			r := over(c.bytes + tail)
			wantNum(t, r, c.n, tail)
			if r.End() != (tail == "") {
				t.Errorf("P5.2: End() = %v with % x left", r.End(), tail)
			}
		}
		for _, n := range numbers() {
			wantNum(t, over(num(n)+tail), n, tail)
		}
	}
	for n := range uint64(1 << 17) {
		wantNum(t, over(num(n)), n, "")
	}
}

// TestNumEnds: B ends ahead of a number, in each place within one, and just behind one.
func TestNumEnds(t *testing.T) {
	noNum(t, "no bytes", &Reader{})
	noNum(t, "no bytes", &Reader{B: []byte{}})
	noNum(t, "no bytes, but spare capacity", &Reader{B: make([]byte, 0, 20)})
	for _, c := range slices.Concat(lengths, others) {
		for cut := range len(c.bytes) {
			noNum(t, fmt.Sprintf("the first %d bytes of %d", cut, c.n), over(c.bytes[:cut]))
			// What lies in the spare capacity is not there.
			noNum(t, fmt.Sprintf("the first %d bytes of %d, the others spare", cut, c.n), &Reader{B: []byte(c.bytes)[:cut]})
		}
		r := over(c.bytes)
		wantNum(t, r, c.n, "")
		noNum(t, fmt.Sprintf("just behind %d", c.n), r)
	}
}

// TestNumTooGreat: numbers of more than 64 bits.
func TestNumTooGreat(t *testing.T) {
	for _, nine := range []string{strings.Repeat("\x80", 9), strings.Repeat("\xff", 9), "\x81\x82\x83\x84\x85\x86\x87\x88\x89"} {
		for last := 2; last < 256; last++ {
			b := nine + string([]byte{byte(last)})
			for _, tail := range tails {
				noNum(t, fmt.Sprintf("% x", b+tail), over(b+tail))
			}
		}
		// The greatest last byte of ten that is one.
		if r := over(nine + "\x01"); r.Num() < 1<<63 || r.Bad {
			t.Errorf("P5.2: % x 01 is not read as a number", nine)
		}
	}
}

// TestNumTooLong: numbers of more than ten bytes, whatever their bits are.
func TestNumTooLong(t *testing.T) {
	for _, n := range []int{10, 11, 12, 15, 18, 19, 20, 64, 128, 1000, 100000} {
		for _, b := range []string{"\x80", "\x81", "\xff"} {
			many := strings.Repeat(b, n)
			noNum(t, fmt.Sprintf("%d times %x", n, b), over(many))
			for _, end := range []string{"\x00", "\x01", "\x02", "\x7f"} {
				noNum(t, fmt.Sprintf("%d times %x, and %x", n, b, end), over(many+end))
			}
		}
	}
}

// TestNumNotShortest: numbers of each length that fewer bytes would hold.
func TestNumNotShortest(t *testing.T) {
	for _, c := range slices.Concat(lengths, others) {
		wide := []byte(c.bytes)
		for len(wide) < 12 {
			wide[len(wide)-1] |= 0x80
			wide = append(wide, 0)
			for _, tail := range tails {
				noNum(t, fmt.Sprintf("%d in %d bytes", c.n, len(wide)), over(string(wide)+tail))
			}
		}
	}
	// Bytes without bits ahead of the last one are needed: these are the least numbers of their lengths.
	for n := 2; n <= 10; n++ {
		b := strings.Repeat("\x80", n-1) + "\x01"
		wantNum(t, over(b), 1<<(7*(n-1)), "")
	}
}

// wordNum is the chapter's word of what a number at the beginning of b is: one whose bytes come first.
func wordNum(b []byte) (n uint64, size int) {
	n, size = binary.Uvarint(b)
	if size <= 0 || !bytes.HasPrefix(b, binary.AppendUvarint(nil, n)) || len(binary.AppendUvarint(nil, n)) != size {
		return 0, 0
	}
	return n, size
}

// checkNum holds a reading of b against the chapter's word.
func checkNum(t *testing.T, b []byte) {
	t.Helper()
	want, size := wordNum(b)
	r := Reader{B: b}
	got := r.Num()
	if got != want || r.Bad != (size == 0) {
		t.Fatalf("P5.2: % x: Num() = %d, Bad %v, want %d of %d bytes", b, got, r.Bad, want, size)
	}
	if !r.Bad && !bytes.Equal(r.B, b[size:]) {
		t.Fatalf("P5.2: % x: Num() leaves % x, want % x", b, r.B, b[size:])
	}
	if r.End() != (!r.Bad && size == len(b)) {
		t.Fatalf("P5.2: % x: End() = %v behind Num()", b, r.End())
	}
}

// each calls do with every sequence of n bytes of those of set.
func each(set []byte, n int, do func([]byte)) {
	b := make([]byte, n)
	var fill func(int)
	fill = func(at int) {
		if at == n {
			do(b)
			return
		}
		for _, c := range set {
			b[at] = c
			fill(at + 1)
		}
	}
	fill(0)
}

// TestNumAll reads all sequences of up to two bytes, and of up to seven and eleven bytes out of some.
func TestNumAll(t *testing.T) {
	all := make([]byte, 256)
	for i := range all {
		all[i] = byte(i)
	}
	do := func(b []byte) { checkNum(t, b) }
	for n := range 3 {
		each(all, n, do)
	}
	for n := range 8 {
		each([]byte{0, 1, 0x7f, 0x80, 0x81, 0xff}, n, do)
	}
	for n := range 12 {
		each([]byte{0, 1, 0x80}, n, do)
	}
	// All last two of nine and of ten bytes, as well as what may lie behind them.
	for n := 7; n <= 8; n++ {
		for _, first := range []byte{0x80, 0xff} {
			lead := bytes.Repeat([]byte{first}, n)
			each(all, 2, func(b []byte) {
				do(slices.Concat(lead, b))
				do(slices.Concat(lead, b, []byte{0}))
			})
		}
	}
}

// TestTextBack: a text comes back, with just most bytes as well as with fewer, and only its bytes are consumed.
func TestTextBack(t *testing.T) {
	for _, c := range texts {
		for _, tail := range tails {
			for _, most := range []int{len(c.s), len(c.s) + 1, 2*len(c.s) + 100, math.MaxInt32, math.MaxInt} {
				r := over(c.length + c.s + tail)
				wantText(t, r, most, c.s, tail)
				if r.End() != (tail == "") {
					t.Errorf("P5.2: End() = %v with % x left", r.End(), tail)
				}
			}
			if len(c.s) > 0 {
				noText(t, fmt.Sprintf("%d bytes, one more than most", len(c.s)), over(c.length+c.s+tail), len(c.s)-1)
				noText(t, fmt.Sprintf("%d bytes, more than 0", len(c.s)), over(c.length+c.s+tail), 0)
			}
		}
	}
}

// TestTextOfEachLength: texts of every length about the limit of one byte, with every most about them.
func TestTextOfEachLength(t *testing.T) {
	for n := range 300 {
		s := strings.Repeat("q", n)
		for most := max(0, n-3); most <= n+3; most++ {
			r := over(text(s) + "rest")
			if n <= most {
				wantText(t, r, most, s, "rest")
			} else {
				noText(t, fmt.Sprintf("%d bytes", n), r, most)
			}
		}
	}
}

// TestTextOfNone: with most 0 just the text of no bytes is one.
func TestTextOfNone(t *testing.T) {
	for _, tail := range tails {
		wantText(t, over("\x00"+tail), 0, "", tail)
	}
	noText(t, "one byte", over("\x01a"), 0)
	noText(t, "one byte, that is not there", over("\x01"), 0)
	noText(t, "no bytes at all", over(""), 0)
	noText(t, "no bytes at all", &Reader{}, 0)
	noText(t, "no bytes, in two", over("\x80\x00"), 0)
}

// TestTextEnds: B ends ahead of a text, within its length, and within its bytes.
func TestTextEnds(t *testing.T) {
	for _, c := range texts {
		b := c.length + c.s
		for cut := 0; cut < len(b); cut += 1 + cut/50 {
			for _, most := range []int{len(c.s), math.MaxInt} {
				noText(t, fmt.Sprintf("the first %d bytes of %d", cut, len(b)), over(b[:cut]), most)
				// What lies in the spare capacity is not there.
				noText(t, fmt.Sprintf("the first %d bytes of %d, the others spare", cut, len(b)), &Reader{B: []byte(b)[:cut]}, most)
			}
		}
		noText(t, fmt.Sprintf("all but one of %d bytes", len(b)), over(b[:len(b)-1]), math.MaxInt)
		r := over(b)
		wantText(t, r, math.MaxInt, c.s, "")
		noText(t, "just behind a text", r, math.MaxInt)
	}
}

// TestTextLength: a length that is no number makes no text, and neither does one that is more than there are bytes.
func TestTextLength(t *testing.T) {
	body := strings.Repeat("b", 400)
	for _, most := range []int{0, 1, 127, 128, 400, math.MaxInt32, math.MaxInt} {
		for _, length := range []string{
			"\x80\x00", "\x81\x00", "\xff\x00", "\x80\x80\x00", "\x81\x80\x80\x80\x80\x80\x80\x80\x80\x00", // not in the fewest bytes
			"\xff\xff\xff\xff\xff\xff\xff\xff\xff\x02", "\x81\x80\x80\x80\x80\x80\x80\x80\x80\x02", // more than 64 bits
			"\xff\xff\xff\xff\xff\xff\xff\xff\xff\xff\x01", "\x81\x80\x80\x80\x80\x80\x80\x80\x80\x80\x01", "\x81\x80\x80\x80\x80\x80\x80\x80\x80\x80\x00", // more than ten bytes
		} {
			noText(t, fmt.Sprintf("length % x", length), over(length+body), most)
		}
		for _, length := range []string{"\x80", "\xff", "\x80\x80\x80", strings.Repeat("\x81", 9), strings.Repeat("\x81", 10)} {
			noText(t, fmt.Sprintf("length % x, and no more", length), over(length), most)
		}
		// 1<<32 + 1 and 1<<63 + 1 would be 1 in fewer bits.
		for _, n := range []uint64{401, 402, 1<<16 + 1, 1<<31 - 1, 1<<31 + 1, 1<<32 - 1, 1 << 32, 1<<32 + 1, 1 << 40, math.MaxInt - 1, math.MaxInt, 1 << 63, 1<<63 + 1, 1<<63 + 400, top - 400, top - 1, top} {
			noText(t, fmt.Sprintf("length %d, 400 bytes", n), over(num(n)+body), most)
			noText(t, fmt.Sprintf("length %d, no bytes", n), over(num(n)), most)
		}
	}
}

// TestTextAll reads all sequences of up to two bytes and some of up to six as texts.
func TestTextAll(t *testing.T) {
	check := func(b []byte) {
		for most := range 5 {
			n, size := wordNum(b)
			found := size > 0 && n <= uint64(most) && n <= uint64(len(b)-size)
			r := Reader{B: b}
			got := r.Text(most)
			if r.Bad == found || !found && got != "" || found && got != string(b[size:size+int(n)]) {
				t.Fatalf("P5.2: % x: Text(%d) = % x, Bad %v", b, most, got, r.Bad)
			}
			if found && !bytes.Equal(r.B, b[size+int(n):]) {
				t.Fatalf("P5.2: % x: Text(%d) leaves % x", b, most, r.B)
			}
		}
	}
	all := make([]byte, 256)
	for i := range all {
		all[i] = byte(i)
	}
	for n := range 3 {
		each(all, n, check)
	}
	for n := range 7 {
		each([]byte{0, 1, 2, 3, 0x80, 0xff}, n, check)
	}
}

// TestTextBelowNone: nothing is promised for a negative most, but that the call ends, without a panic (P1).
func TestTextBelowNone(t *testing.T) {
	for _, most := range []int{-1, -2, -1 << 31, math.MinInt} {
		for _, b := range []string{"", "\x00", "\x01a", "\x05ab", "\x80", num(top), num(1<<63) + "abc"} {
			over(b).Text(most)
		}
	}
}

// TestBad: once Bad is set, by whatever and wherever, nothing more is read, whatever B holds.
func TestBad(t *testing.T) {
	good := num(7) + text("seven") + num(300)
	for what, do := range map[string]func(r *Reader){
		"set by hand":                   func(r *Reader) { r.Bad = true },
		"set by a number":               func(r *Reader) { r.B = append([]byte("\x80\x00"), r.B...); r.Num() },
		"set by a great number":         func(r *Reader) { r.B = append([]byte(strings.Repeat("\xff", 10)), r.B...); r.Num() },
		"set by a text's length":        func(r *Reader) { r.B = append([]byte("\x80\x00"), r.B...); r.Text(100) },
		"set by a text above most":      func(r *Reader) { r.B = append([]byte("\x02ab"), r.B...); r.Text(1) },
		"set by a text that is not all": func(r *Reader) { r.B = append([]byte("\x7f"), r.B...); r.Text(1000) },
		"set by the end":                func(r *Reader) { r.B = nil; r.Num() },
	} {
		r := over(good)
		do(r)
		stuck(t, what, r)
		// A Bad reader that is given other bytes stays Bad.
		for _, b := range []string{good, "", "\x00", "\x05", "\x01a", text("a text")} {
			r.B = []byte(b)
			if r.End() {
				t.Errorf("P5.2: %s: End() with %q", what, b)
			}
			if n := r.Num(); n != 0 || !r.Bad {
				t.Errorf("P5.2: %s: Num() = %d with %q, Bad %v", what, n, b, r.Bad)
			}
			r.B = []byte(b)
			if s := r.Text(100); s != "" || !r.Bad {
				t.Errorf("P5.2: %s: Text() = %q with %q, Bad %v", what, s, b, r.Bad)
			}
		}
	}
}

// TestEnd asks at once, in the middle, at the end, and after Bad.
func TestEnd(t *testing.T) {
	for _, r := range []*Reader{{}, {B: []byte{}}, {B: make([]byte, 0, 9)}} {
		if !r.End() || !r.End() || r.Bad {
			t.Error("P5.2: not End() without bytes")
		}
	}
	for _, b := range []string{"\x00", "\x80", "\xff\xff", "a"} {
		r := over(b)
		if r.End() || r.Bad || string(r.B) != b {
			t.Errorf("P5.2: End() with % x to read, or it changed the reader", b)
		}
	}
	r := over(num(300) + text("t") + text(""))
	for _, do := range []func(){func() { r.Num() }, func() { r.Text(1) }, func() { r.Text(0) }} {
		if r.End() || r.End() {
			t.Errorf("P5.2: End() with % x left", r.B)
		}
		do()
	}
	if !r.End() || !r.End() || r.Bad {
		t.Error("P5.2: not End() at the end")
	}
	r.Num()
	if r.End() || r.End() {
		t.Error("P5.2: End() of a reader that went beyond the end")
	}
	if (&Reader{Bad: true}).End() || (&Reader{B: []byte{0}, Bad: true}).End() {
		t.Error("P5.2: End() of a reader that was Bad from the beginning")
	}
}

// TestBytesStay: reading changes none of the bytes that are read, nor those in the spare capacity behind them (R5).
func TestBytesStay(t *testing.T) {
	whole := "ahead" + num(300) + text("text") + num(top) + text("") + "\x80\x00" + "spare"
	b := []byte(whole)
	r := Reader{B: b[5 : len(b)-5]}
	r.Num()
	r.Text(10)
	r.Num()
	r.Text(10)
	r.End()
	r.Num()
	r.Num()
	r.Text(10)
	if string(b) != whole {
		t.Errorf("R5: the bytes that were read are % x now, and were % x", b, whole)
	}
}

// TestAnswersStay: a text that was read is the same when the bytes that it was read from are written to, and one that was written is when the Writer's bytes are (R5).
func TestAnswersStay(t *testing.T) {
	for _, c := range texts {
		b := []byte(text(c.s) + text(c.s))
		r := Reader{B: b}
		first := r.Text(math.MaxInt)
		for i := range len(b) / 2 {
			b[i] ^= 0xff
		}
		second := r.Text(math.MaxInt)
		clear(b)
		if first != c.s || second != c.s {
			t.Errorf("R5: a text of %d bytes is another one when what it was read from is written to", len(c.s))
		}
		told := strings.Clone(c.s)
		var w Writer
		w.Text(told)
		clear(w.B)
		if told != c.s {
			t.Errorf("R5: a text of %d bytes that was written shares memory with what was handed in", len(c.s))
		}
	}
}

// TestReadWhileWriting: a reader over a Writer's bytes reads what was there, whatever is written behind it.
func TestReadWhileWriting(t *testing.T) {
	var w Writer
	w.Num(300)
	w.Text("one")
	r := Reader{B: w.B}
	for range 100 {
		w.Text("more")
	}
	wantNum(t, &r, 300, "\x03one")
	wantText(t, &r, 3, "one", "")
	if !r.End() {
		t.Error("P5.2: what is written later shows in a reader")
	}
}

// TestAgain: a result depends only on what was done with its reader or Writer (R6).
func TestAgain(t *testing.T) {
	broken := over("\x80")
	broken.Num()
	for range 3 {
		for _, c := range lengths {
			a, b := over(c.bytes+"x"), over(c.bytes+"x")
			wantNum(t, a, c.n, "x")
			wantNum(t, b, c.n, "x")
			if got := num(c.n); got != c.bytes {
				t.Errorf("R6: Num(%d) appends % x at another time", c.n, got)
			}
		}
	}
	stuck(t, "a reader aside", broken)
}
