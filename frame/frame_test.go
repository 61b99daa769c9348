package frame

import (
	"bytes"
	"encoding/binary"
	"fmt"
	"hash/crc32"
	"math"
	"slices"
	"strings"
	"testing"
)

// many returns n bytes that do not repeat soon.
func many(n int) []byte {
	b := make([]byte, n)
	x := uint32(n) + 1
	for i := range b {
		x = x*1664525 + 1013904223
		b[i] = byte(x >> 24)
	}
	return b
}

// piece returns a piece's bytes by the chapter's words, with Go's own checksum.
func piece(data string) string {
	b := binary.LittleEndian.AppendUint32(nil, uint32(len(data)))
	b = binary.LittleEndian.AppendUint32(b, crc32.ChecksumIEEE([]byte(data)))
	return string(b) + data
}

// said returns a piece's bytes with a length of one's own.
func said(size uint32, data string) string {
	return string(binary.LittleEndian.AppendUint32(nil, size)) + piece(data)[4:]
}

// word is the chapter's word of what Split returns, by Go's own checksum.
func word(b []byte) (out []string, good int) {
	for {
		rest := b[good:]
		if len(rest) < 8 {
			return out, good
		}
		size := int64(binary.LittleEndian.Uint32(rest))
		if size > int64(len(rest)-8) || crc32.ChecksumIEEE(rest[8:8+size]) != binary.LittleEndian.Uint32(rest[4:]) {
			return out, good
		}
		out = append(out, string(rest[8:8+size]))
		good += 8 + int(size)
	}
}

// short gives bytes for a message, not all of many.
func short(s string) string {
	if len(s) <= 32 {
		return fmt.Sprintf("% x", s)
	}
	return fmt.Sprintf("% x .. (%d bytes)", s[:32], len(s))
}

// all gives pieces as texts.
func all(out [][]byte) []string {
	var l []string
	for _, b := range out {
		l = append(l, string(b))
	}
	return l
}

// wantSplit splits b and holds what is answered against what is to be.
func wantSplit(t *testing.T, what, b string, want []string, good int) {
	t.Helper()
	out, n := Split([]byte(b))
	if !slices.Equal(all(out), want) {
		t.Fatalf("P6.1: %s: Split(%s) has %d pieces, %q, want %d, %q", what, short(b), len(out), out, len(want), want)
	}
	if n != good {
		t.Fatalf("P6.1: %s: Split(%s) has %d good bytes, want %d", what, short(b), n, good)
	}
}

// checkSplit splits b and holds what is answered against the chapter's word.
func checkSplit(t *testing.T, what, b string) {
	t.Helper()
	want, good := word([]byte(b))
	wantSplit(t, what, b, want, good)
}

// TestExample is the chapter's example.
func TestExample(t *testing.T) {
	if got := Sum([]byte("123456789")); got != 0xcbf43926 {
		t.Errorf("P6.1: Sum(123456789) = %08x, want cbf43926", got)
	}
}

// TestUse wraps some data, one behind another, and splits them.
func TestUse(t *testing.T) {
	log := slices.Concat(Wrap([]byte("one")), Wrap(nil), Wrap([]byte("three")))
	wantSplit(t, "three pieces", string(log), []string{"one", "", "three"}, 8+3+8+8+5)
	wantSplit(t, "two pieces, and one without its last byte", string(log[:len(log)-1]), []string{"one", ""}, 8+3+8)
}

// TestSumKnown holds sums against known ones.
func TestSumKnown(t *testing.T) {
	for _, c := range []struct {
		b    string
		want uint32
	}{
		{"", 0},
		{"\x00", 0xd202ef8d},
		{"\x01", 0xa505df1b},
		{"\x80", 0x3fba6cad},
		{"\xff", 0xff000000},
		{"a", 0xe8b7be43},
		{"b", 0x71beeff9},
		{"ab", 0x9e83486d},
		{"abc", 0x352441c2},
		{"\x00\x00\x00\x00", 0x2144df1c},
		{"\xff\xff\xff\xff", 0xffffffff},
		{strings.Repeat("\x00", 32), 0x190a55ad},
		{strings.Repeat("\xff", 32), 0xff6cab0b},
		{"The quick brown fox jumps over the lazy dog", 0x414fa339},
	} {
		if got := Sum([]byte(c.b)); got != c.want {
			t.Errorf("P6.1: Sum(%s) = %08x, want %08x", short(c.b), got, c.want)
		}
	}
	if Sum(nil) != 0 || Sum(make([]byte, 0, 9)) != 0 {
		t.Error("P6.1: the sum of no bytes is not 0")
	}
}

// TestSumOtherwise holds sums against Go's own: of no bytes, of all sequences of one and of two, of each single bit in some places, and of many bytes.
func TestSumOtherwise(t *testing.T) {
	check := func(b []byte) {
		t.Helper()
		if got, want := Sum(b), crc32.ChecksumIEEE(b); got != want {
			t.Fatalf("P6.1: Sum(%s) = %08x, want %08x", short(string(b)), got, want)
		}
	}
	check(nil)
	for i := range 256 {
		check([]byte{byte(i)})
		for j := range 256 {
			check([]byte{byte(i), byte(j)})
		}
	}
	for n := 1; n < 12; n++ {
		for bit := range 8 * n {
			b := make([]byte, n)
			b[bit/8] = 1 << (bit % 8)
			check(b)
		}
	}
	for n := range 600 {
		check(many(n))
		check(make([]byte, n))
		check(bytes.Repeat([]byte{0xff}, n))
	}
	for _, n := range []int{1 << 16, 1<<16 + 1, 1<<20 + 3} {
		check(many(n))
	}
}

// TestWrapBytes holds pieces' bytes against what they are.
func TestWrapBytes(t *testing.T) {
	for _, c := range []struct{ data, want string }{
		{"", "\x00\x00\x00\x00\x00\x00\x00\x00"},
		{"\x00", "\x01\x00\x00\x00\x8d\xef\x02\xd2\x00"},
		{"a", "\x01\x00\x00\x00\x43\xbe\xb7\xe8a"},
		{"abc", "\x03\x00\x00\x00\xc2\x41\x24\x35abc"},
		{"123456789", "\x09\x00\x00\x00\x26\x39\xf4\xcb123456789"},
	} {
		if got := string(Wrap([]byte(c.data))); got != c.want {
			t.Errorf("P6.1: Wrap(%q) = % x, want % x", c.data, got, c.want)
		}
	}
	if got := string(Wrap(nil)); got != "\x00\x00\x00\x00\x00\x00\x00\x00" {
		t.Errorf("P6.1: Wrap(nil) = % x, want eight bytes 0", got)
	}
	for i := range 256 {
		if got, want := string(Wrap([]byte{byte(i)})), piece(string([]byte{byte(i)})); got != want {
			t.Errorf("P6.1: Wrap of the byte %02x = % x, want % x", i, got, want)
		}
	}
}

// TestWrapLengths: the length's bytes, the lowest first, and the sum and the data behind them, at lengths about those that need a further byte.
func TestWrapLengths(t *testing.T) {
	for _, c := range []struct {
		n      int
		length string
	}{
		{0, "\x00\x00\x00\x00"},
		{1, "\x01\x00\x00\x00"},
		{2, "\x02\x00\x00\x00"},
		{127, "\x7f\x00\x00\x00"},
		{128, "\x80\x00\x00\x00"},
		{255, "\xff\x00\x00\x00"},
		{256, "\x00\x01\x00\x00"},
		{257, "\x01\x01\x00\x00"},
		{513, "\x01\x02\x00\x00"},
		{65535, "\xff\xff\x00\x00"},
		{65536, "\x00\x00\x01\x00"},
		{65537, "\x01\x00\x01\x00"},
		{1<<24 - 1, "\xff\xff\xff\x00"},
		{1 << 24, "\x00\x00\x00\x01"},
	} {
		data := many(c.n)
		got := string(Wrap(data))
		if len(got) != 8+c.n || got[:4] != c.length {
			t.Fatalf("P6.1: Wrap(%d bytes) = %s, want the length % x", c.n, short(got), c.length)
		}
		if got != piece(string(data)) {
			t.Fatalf("P6.1: Wrap(%d bytes) = %s, want %s", c.n, short(got), short(piece(string(data))))
		}
		if out, good := Split([]byte(got)); len(out) != 1 || !bytes.Equal(out[0], data) || good != 8+c.n {
			t.Fatalf("P6.1: Split does not return the %d bytes that Wrap took", c.n)
		}
	}
}

// TestWrapAll holds pieces of every length up to 600 against the chapter's word, and splits them.
func TestWrapAll(t *testing.T) {
	for n := range 600 {
		data := string(many(n))
		got := string(Wrap([]byte(data)))
		if got != piece(data) {
			t.Fatalf("P6.1: Wrap(%d bytes) = %s, want %s", n, short(got), short(piece(data)))
		}
		wantSplit(t, "one piece", got, []string{data}, 8+n)
	}
}

// TestSplitNone: no bytes have no pieces.
func TestSplitNone(t *testing.T) {
	for _, b := range [][]byte{nil, {}, make([]byte, 0, 30), []byte(piece("spare"))[:0]} {
		if out, good := Split(b); len(out) != 0 || good != 0 {
			t.Errorf("P6.1: Split of no bytes = %q, %d, want none, 0", out, good)
		}
	}
}

// rows are data of pieces that lie one behind another, empty ones in front, between others, and at the end.
func rows() [][]string {
	long, longer := string(many(255)), string(many(256))
	var counted []string
	for i := range 300 {
		counted = append(counted, string(many(i%7)))
	}
	return [][]string{
		{"a"},
		{""},
		{"", ""},
		{"a", "b"},
		{"", "a"},
		{"a", ""},
		{"a", "", "b"},
		{"", "", "a", "", "", "bc", ""},
		{"the same", "the same", "the same"},
		{long, longer, "", long + longer},
		{piece("a piece"), piece(""), piece("in") + piece("a piece")},
		{"\x00\x00\x00\x00\x00\x00\x00\x00", "\xff\xff\xff\xff"},
		counted,
	}
}

// join returns the bytes of the pieces of these data, one behind another.
func join(row []string) string {
	var b strings.Builder
	for _, data := range row {
		b.WriteString(piece(data))
	}
	return b.String()
}

// tails are bytes that are no piece: too few, with a length above what is there, or with a wrong sum. None of them makes one with what follows in these tests.
var tails = []string{
	"", "\x00", "\x01", "\xff", "\x00\x00\x00\x00", "\x00\x00\x00\x00\x00\x00\x00", "\x01\x00\x00\x00\x00\x00\x00\x00", "\x00\x00\x00\x00\x01\x00\x00\x00", "\xff\xff\xff\xff\xff\xff\xff\xff",
	"text that is no piece", "\x01\x00\x00\x00\x43\xbe\xb7\xe8b", "\x02\x00\x00\x00\x43\xbe\xb7\xe8a", "\x00\x00\x00\x01\x00\x00\x00\x00",
}

// TestSplitMany: all pieces of a row, whatever lies behind the last one, if it is none.
func TestSplitMany(t *testing.T) {
	for i, row := range rows() {
		for j, tail := range tails {
			wantSplit(t, fmt.Sprintf("row %d, tail %d", i, j), join(row)+tail, row, len(join(row)))
		}
	}
}

// TestSplitEnds: the bytes end anywhere: within the length, the sum, the data, or just behind a piece. What lies in the spare capacity is not there.
func TestSplitEnds(t *testing.T) {
	for i, row := range rows() {
		b := []byte(join(row))
		var want []string
		good, next := 0, 0
		for cut := range len(b) + 1 {
			for next < len(row) && cut == good+8+len(row[next]) {
				want, good, next = row[:next+1], cut, next+1
			}
			if len(b) > 1000 && cut%11 > 1 && cut != good {
				continue
			}
			wantSplit(t, fmt.Sprintf("row %d, the first %d bytes", i, cut), string(b[:cut]), want, good)
			if out, n := Split(b[:cut]); len(out) != len(want) || n != good {
				t.Fatalf("P6.1: row %d, the first %d bytes, the others spare: %d pieces, %d bytes, want %d, %d", i, cut, len(out), n, len(want), good)
			}
		}
		if next != len(row) {
			t.Fatalf("row %d: only %d pieces were cut", i, next)
		}
	}
}

// TestSplitLengths: a length that says more than is there makes no piece, however far above; one that says less has another sum.
func TestSplitLengths(t *testing.T) {
	data := "ten bytes!"
	for _, before := range [][]string{nil, {""}, {"before"}, {"two", "before"}} {
		b := join(before)
		for _, size := range []uint32{0, 1, 9, 11, 12, 18, 255, 256, 266, 1<<8 | 10, 1<<16 | 10, 1<<24 | 10, math.MaxInt32 - 8, math.MaxInt32 - 7, math.MaxInt32 - 1, math.MaxInt32, 1 << 31, 1<<31 | 1, 1<<31 | 10, math.MaxUint32 - 18, math.MaxUint32 - 10, math.MaxUint32 - 8, math.MaxUint32 - 7, math.MaxUint32 - 1, math.MaxUint32} {
			what := fmt.Sprintf("%d pieces, and one of length %d", len(before), size)
			wantSplit(t, what, b+said(size, data), before, len(b))
			wantSplit(t, what+" with another behind it", b+said(size, data)+piece(""), before, len(b))
			if size > 0 {
				wantSplit(t, what+", of no bytes", b+said(size, ""), before, len(b))
			}
		}
		wantSplit(t, "the right length", b+said(10, data), append(slices.Clone(before), data), len(b)+18)
		// By its length the first one reaches just to the end, over the second, but has its own data's sum.
		wantSplit(t, "a length up to the end", b+said(10+8, data)+piece(""), before, len(b))
		wantSplit(t, "a length of one above the end", b+said(10+8+1, data)+piece(""), before, len(b))
	}
}

// TestSplitTurned: with one bit turned anywhere in its sum or its data, or in its length, a piece is none, nor is any behind it.
func TestSplitTurned(t *testing.T) {
	for _, data := range []string{"", "a", "\x00", "\xff", "abc", "123456789", string(many(255)), string(many(256)), string(many(300))} {
		for _, behind := range []string{"", piece(""), piece("b"), piece(data) + piece("c"), "\x00\x00"} {
			good := piece("ahead")
			for bit := range 8 * len(piece(data)) {
				b := []byte(good + piece(data) + behind)
				b[len(good)+bit/8] ^= 1 << (bit % 8)
				what := fmt.Sprintf("%d bytes of data, bit %d turned", len(data), bit)
				wantSplit(t, what, string(b), []string{"ahead"}, len(good))
				wantSplit(t, what+", nothing ahead", string(b[len(good):]), nil, 0)
			}
		}
	}
}

// TestSplitByte: with any other byte in any place a piece is none.
func TestSplitByte(t *testing.T) {
	for at := range piece("ab") {
		for d := 1; d < 256; d++ {
			b := []byte(piece("ab"))
			b[at] += byte(d)
			wantSplit(t, fmt.Sprintf("byte %d", at), string(b)+piece("good"), nil, 0)
		}
	}
}

// TestSplitBehindBad: a good piece behind a bad one is not answered.
func TestSplitBehindBad(t *testing.T) {
	bad := []byte(piece("bad"))
	bad[4]++
	for i, row := range rows() {
		b := join(row) + string(bad)
		for j, behind := range rows() {
			wantSplit(t, fmt.Sprintf("rows %d and %d", i, j), b+join(behind), row, len(join(row)))
			wantSplit(t, fmt.Sprintf("a bad one, and row %d", j), string(bad)+join(behind), nil, 0)
		}
	}
	// The order of sum and data, of sum and length, and of the bytes in each matters.
	for _, b := range []string{
		"\x01\x00\x00\x00a\x43\xbe\xb7\xe8", "\x43\xbe\xb7\xe8\x01\x00\x00\x00a", "\x00\x00\x00\x01\x43\xbe\xb7\xe8a", "\x01\x00\x00\x00\xe8\xb7\xbe\x43a",
	} {
		wantSplit(t, "bytes in another order", b, nil, 0)
	}
}

// TestSplitAll splits all rows of up to four of some parts, good pieces, bad ones, and parts of pieces, and all sequences of up to eleven bytes out of some.
func TestSplitAll(t *testing.T) {
	turned := []byte(piece("turned"))
	turned[5] ^= 0x10
	parts := []string{
		piece(""), piece("a"), piece("bc"), piece(string(many(40))), piece(piece("in")),
		string(turned), said(0, "none"), said(9, "c"), said(1<<31, "d"), said(math.MaxUint32, ""),
		"\x00", "\x00\x00\x00\x00", "\x03\x00\x00", "text",
	}
	var fill func(b string, more int)
	fill = func(b string, more int) {
		checkSplit(t, "a row of parts", b)
		if more == 0 {
			return
		}
		for _, p := range parts {
			fill(b+p, more-1)
		}
	}
	fill("", 4)
	var each func(b []byte, more int)
	each = func(b []byte, more int) {
		checkSplit(t, "a sequence of bytes", string(b))
		if more == 0 {
			return
		}
		for _, c := range []byte{0, 1, 0xff} {
			each(append(b, c), more-1)
		}
	}
	each(make([]byte, 0, 11), 11)
}

// spared returns a text's bytes with other bytes ahead of them and behind them, in their spare capacity, and a function that tells whether all those are as they were.
func spared(s string) (b []byte, same func() bool) {
	whole := []byte("ahead" + s + "behind")
	was := string(whole)
	return whole[5 : 5+len(s)], func() bool { return string(whole) == was }
}

// TestHandedIn: no call changes what was handed in, its spare capacity included (R5).
func TestHandedIn(t *testing.T) {
	for i, row := range rows() {
		for _, tail := range tails {
			b, same := spared(join(row) + tail)
			Split(b)
			if !same() {
				t.Fatalf("R5: row %d: Split changed what was handed in", i)
			}
			Sum(b)
			if !same() {
				t.Fatalf("R5: row %d: Sum changed what was handed in", i)
			}
			Wrap(b)
			if !same() {
				t.Fatalf("R5: row %d: Wrap changed what was handed in", i)
			}
		}
	}
}

// scribble writes to all of b, its spare capacity included.
func scribble(b []byte) {
	b = b[:cap(b)]
	for i := range b {
		b[i] ^= 0xff
	}
}

// TestWrapNew: what Wrap answers is newly allocated (R5).
func TestWrapNew(t *testing.T) {
	for _, data := range []string{"", "a", "abc", string(many(8)), string(many(300))} {
		b, same := spared(data)
		first, second := Wrap(b), Wrap(b)
		scribble(first)
		if !same() {
			t.Errorf("R5: %d bytes: what was handed in changes with what Wrap answered", len(data))
		}
		if string(second) != piece(data) {
			t.Errorf("R5: %d bytes: two answers of Wrap share memory", len(data))
		}
		scribble(b)
		if string(second) != piece(data) {
			t.Errorf("R5: %d bytes: what Wrap answered changes with what was handed in", len(data))
		}
		if string(append(Wrap([]byte(data)), "more"...)) != piece(data)+"more" {
			t.Errorf("R5: %d bytes: a piece cannot be appended to", len(data))
		}
	}
}

// TestSplitNew: what Split answers is newly allocated, each piece by itself, so that none changes with another, with what was handed in, or with another answer, nor the other way round (R5).
func TestSplitNew(t *testing.T) {
	for i, row := range rows() {
		b, same := spared(join(row) + "\x01\x00")
		out, _ := Split(b)
		other, _ := Split(b)
		for j := range out {
			scribble(out[j])
			if !same() {
				t.Fatalf("R5: row %d: what was handed in changes with piece %d", i, j)
			}
			if !slices.Equal(all(out[j+1:]), row[j+1:]) {
				t.Fatalf("R5: row %d: a piece changes with piece %d", i, j)
			}
		}
		if !slices.Equal(all(other), row) {
			t.Fatalf("R5: row %d: two answers of Split share memory", i)
		}
		scribble(b)
		if !slices.Equal(all(other), row) {
			t.Fatalf("R5: row %d: what Split answered changes with what was handed in", i)
		}
	}
}

// TestSplitAppend: what is appended to a piece shows nowhere else (R5).
func TestSplitAppend(t *testing.T) {
	for i, row := range rows() {
		b, same := spared(join(row))
		out, _ := Split(b)
		for j := range out {
			if got := append(out[j], "more and still more"...); string(got) != row[j]+"more and still more" {
				t.Fatalf("R5: row %d: piece %d cannot be appended to", i, j)
			}
		}
		if !same() || !slices.Equal(all(out), row) {
			t.Fatalf("R5: row %d: what is appended to a piece shows in another, or in what was handed in", i)
		}
	}
}

// TestAgain: the same bytes have the same results, whatever was asked between (R6).
func TestAgain(t *testing.T) {
	for range 3 {
		for i, row := range rows() {
			wantSplit(t, fmt.Sprintf("row %d", i), join(row), row, len(join(row)))
			Split([]byte(said(math.MaxUint32, "bad")))
			if got := string(Wrap([]byte(row[0]))); got != piece(row[0]) {
				t.Errorf("R6: Wrap(%q) = %s at another time", row[0], short(got))
			}
			if Sum([]byte("123456789")) != 0xcbf43926 {
				t.Error("R6: the sum is another one at another time")
			}
		}
	}
}
