package plan

import (
	"fmt"
	"math"
	"math/cmplx"
	"slices"
	"strings"
	"testing"

	"selion/lock"
	"selion/span"
)

const (
	last = math.MaxUint64
	// greatest is the greatest part that a corner may have.
	greatest = 1<<41 - 1
)

// box returns the box of the times from lo to hi and the indices from low to high.
func box(lo, hi, low, high float64) Box {
	return Box{Min: complex(lo, low), Max: complex(hi, high)}
}

// on returns a lock on the keys from one to another one, at the times from one to another one.
func on(from, to string, lo, hi uint64) lock.Lock {
	return lock.Lock{Owner: 1, From: from, To: to, Span: span.Span{Lo: lo, Hi: hi}}
}

// lines gives what a drawing of these lines is.
func lines(l ...string) string {
	if len(l) == 0 {
		return ""
	}
	return strings.Join(l, "\n") + "\n"
}

// wantBoxes holds Boxes against the boxes that it is to return.
func wantBoxes(t *testing.T, keys []string, l []lock.Lock, want ...Box) {
	t.Helper()
	if got := Boxes(keys, l); !slices.Equal(got, want) {
		t.Errorf("P11.2: Boxes(%q, %v) = %v, want %v", keys, l, got, want)
	}
}

// wantDrawn holds Draw against the lines that it is to return.
func wantDrawn(t *testing.T, l []Box, from uint64, wide, high int, want ...string) {
	t.Helper()
	if got := Draw(l, from, wide, high); got != lines(want...) {
		t.Errorf("P11.2: Draw(%v, %d, %d, %d) = %q, want %q", l, from, wide, high, got, lines(want...))
	}
}

// wantMeet holds Meet, in both orders, against the box that it is to return; nil: there is none.
func wantMeet(t *testing.T, a, b Box, want *Box) {
	t.Helper()
	for _, x := range [][2]Box{{a, b}, {b, a}} {
		got, ok := x[0].Meet(x[1])
		switch {
		case want == nil && (ok || got != Box{}):
			t.Errorf("P11.1: %v.Meet(%v) = %v, %v, want a zero box, false", x[0], x[1], got, ok)
		case want != nil && (!ok || got != *want):
			t.Errorf("P11.1: %v.Meet(%v) = %v, %v, want %v, true", x[0], x[1], got, ok, *want)
		}
	}
}

// TestExample is the chapter's example.
func TestExample(t *testing.T) {
	l := []lock.Lock{on("k", "k", 2, 3)}
	wantBoxes(t, []string{"k"}, l, box(2, 3, 0, 0))
	wantDrawn(t, Boxes([]string{"k"}, l), 1, 4, 1, ".11.")
}

// shapes are boxes of each shape: points, rows, columns and others, at both ends of the parts and between.
func shapes() []Box {
	return []Box{
		box(0, 0, 0, 0), box(3, 3, 2, 2), box(greatest, greatest, greatest, greatest), box(greatest, greatest, 0, 0),
		box(0, 9, 0, 0), box(2, 3, 4, 4), box(5, 9, 1, 1), box(0, greatest, 7, 7), box(greatest-1, greatest, 7, 7),
		box(0, 0, 0, 9), box(4, 4, 2, 3), box(1, 1, 5, 9), box(7, 7, 0, greatest), box(7, 7, greatest-1, greatest),
		box(0, 1, 0, 1), box(2, 9, 4, 5), box(4, 5, 2, 9), box(3, 8, 3, 8), box(10, 20, 30, 60), box(30, 60, 10, 20), box(0, greatest, 0, greatest),
		box(-3, 3, -2, 2), box(-5, -5, -7, -7),
	}
}

// TestHas asks for a box's corners, for points on its sides and within it, and for those just outside of it in each direction.
func TestHas(t *testing.T) {
	for _, b := range shapes() {
		lo, hi, low, high := real(b.Min), real(b.Max), imag(b.Min), imag(b.Max)
		// The parts of a point within the box, or on a side of it if it has no others.
		x, y := math.Floor((lo+hi)/2), math.Floor((low+high)/2)
		for _, p := range []complex128{
			complex(lo, low), complex(lo, high), complex(hi, low), complex(hi, high),
			complex(lo, y), complex(hi, y), complex(x, low), complex(x, high), complex(x, y),
		} {
			if !b.Has(p) {
				t.Errorf("P11.1: %v.Has(%v) = false", b, p)
			}
		}
		for _, p := range []complex128{
			complex(lo-1, low), complex(lo-1, y), complex(lo-1, high), complex(hi+1, low), complex(hi+1, y), complex(hi+1, high),
			complex(lo, low-1), complex(x, low-1), complex(hi, low-1), complex(lo, high+1), complex(x, high+1), complex(hi, high+1),
			complex(lo-1, low-1), complex(lo-1, high+1), complex(hi+1, low-1), complex(hi+1, high+1),
			complex(-1e9, y), complex(1e15, y), complex(x, -1e9), complex(x, 1e15),
		} {
			if b.Has(p) {
				t.Errorf("P11.1: %v.Has(%v) = true", b, p)
			}
		}
	}
}

// TestHasParts: the real part of a point is held against times and the imaginary one against indices.
func TestHasParts(t *testing.T) {
	b := box(10, 20, 1, 3)
	for p, want := range map[complex128]bool{15 + 2i: true, 10 + 3i: true, 20 + 1i: true, 2 + 15i: false, 3 + 10i: false, 15 + 15i: false, 2 + 2i: false} {
		if b.Has(p) != want {
			t.Errorf("P11.1: %v.Has(%v) = %v, want %v", b, p, !want, want)
		}
	}
	if !(Box{}).Has(0) || (Box{}).Has(1) || (Box{}).Has(1i) || (Box{}).Has(-1) || (Box{}).Has(-1i) {
		t.Error("P11.1: a zero box is not the box of the point 0")
	}
}

func TestMeet(t *testing.T) {
	one := box(2, 6, 3, 7)
	for _, x := range []struct{ b, want Box }{
		// Equal, and one within the other.
		{one, one},
		{box(3, 5, 4, 6), box(3, 5, 4, 6)},
		{box(4, 4, 5, 5), box(4, 4, 5, 5)},
		{box(2, 2, 3, 3), box(2, 2, 3, 3)},
		{box(6, 6, 3, 7), box(6, 6, 3, 7)},
		{box(0, 9, 0, 9), one},
		{box(2, 9, 3, 9), one},
		// At each corner.
		{box(0, 3, 0, 4), box(2, 3, 3, 4)},
		{box(5, 9, 0, 4), box(5, 6, 3, 4)},
		{box(0, 3, 6, 9), box(2, 3, 6, 7)},
		{box(5, 9, 6, 9), box(5, 6, 6, 7)},
		// At each side: all of it, and a part of it.
		{box(0, 3, 3, 7), box(2, 3, 3, 7)},
		{box(5, 9, 3, 7), box(5, 6, 3, 7)},
		{box(2, 6, 0, 4), box(2, 6, 3, 4)},
		{box(2, 6, 6, 9), box(2, 6, 6, 7)},
		{box(0, 2, 4, 6), box(2, 2, 4, 6)},
		{box(6, 9, 4, 6), box(6, 6, 4, 6)},
		{box(3, 5, 0, 3), box(3, 5, 3, 3)},
		{box(3, 5, 7, 9), box(3, 5, 7, 7)},
		// In one point, at each corner.
		{box(0, 2, 0, 3), box(2, 2, 3, 3)},
		{box(6, 9, 0, 3), box(6, 6, 3, 3)},
		{box(0, 2, 7, 9), box(2, 2, 7, 7)},
		{box(6, 9, 7, 9), box(6, 6, 7, 7)},
		// Across.
		{box(0, 9, 5, 5), box(2, 6, 5, 5)},
		{box(4, 4, 0, 9), box(4, 4, 3, 7)},
		{box(0, 9, 4, 6), box(2, 6, 4, 6)},
		{box(3, 5, 0, 9), box(3, 5, 3, 7)},
	} {
		wantMeet(t, one, x.b, &x.want)
	}
}

func TestMeetNothing(t *testing.T) {
	one := box(2, 6, 3, 7)
	for _, b := range []Box{
		// The times overlap, the keys do not.
		box(2, 6, 0, 2), box(2, 6, 8, 9), box(0, 9, 0, 2), box(3, 5, 8, 8), box(6, 9, 0, 0), box(0, 2, 9, 9),
		// The keys overlap, the times do not.
		box(0, 1, 3, 7), box(7, 9, 3, 7), box(0, 1, 0, 9), box(7, 7, 4, 6), box(8, 9, 7, 9), box(0, 0, 0, 3),
		// Neither do.
		box(0, 1, 0, 2), box(7, 9, 0, 2), box(0, 1, 8, 9), box(7, 9, 8, 9), box(-9, -1, -9, -1), box(greatest, greatest, greatest, greatest),
		// The times are like the keys of one.
		box(7, 7, 2, 2),
	} {
		wantMeet(t, one, b, nil)
	}
	wantMeet(t, Box{}, box(1, 1, 0, 0), nil)
	wantMeet(t, Box{}, box(0, 0, 1, 1), nil)
}

// TestMeetEnds: boxes with great parts.
func TestMeetEnds(t *testing.T) {
	whole, end := box(0, greatest, 0, greatest), box(greatest, greatest, greatest, greatest)
	for _, b := range []Box{whole, end, box(0, 0, 0, 0), box(greatest-1, greatest, 0, 0), box(0, 0, greatest-1, greatest), box(1<<40, 1<<40, 5, 5)} {
		wantMeet(t, whole, b, &b)
	}
	wantMeet(t, box(greatest-1, greatest, 0, greatest), box(0, greatest-1, greatest, greatest), &Box{complex(greatest-1, greatest), complex(greatest-1, greatest)})
	wantMeet(t, end, box(0, greatest-1, 0, greatest), nil)
	wantMeet(t, end, box(0, greatest, 0, greatest-1), nil)
	// That of two boxes over the point 0 is a zero box, too, but there is one.
	wantMeet(t, Box{}, whole, &Box{})
}

// grid is all boxes with parts from 0 to 3, moved by a point.
func grid(by complex128) []Box {
	var out []Box
	for lo := range 4 {
		for hi := lo; hi < 4; hi++ {
			for low := range 4 {
				for high := low; high < 4; high++ {
					b := box(float64(lo), float64(hi), float64(low), float64(high))
					out = append(out, Box{b.Min + by, b.Max + by})
				}
			}
		}
	}
	return out
}

// points is all points with parts from -1 to 4, moved by a point.
func points(by complex128) []complex128 {
	var out []complex128
	for x := -1; x < 5; x++ {
		for y := -1; y < 5; y++ {
			out = append(out, complex(float64(x), float64(y))+by)
		}
	}
	return out
}

// TestGrid holds Has, Meet and Cells, for all small boxes and pairs of them, at both ends of the parts, against one another.
func TestGrid(t *testing.T) {
	for _, by := range []complex128{0, complex(5, 1), complex(greatest-3, greatest-3)} {
		for _, a := range grid(by) {
			cells := 0.0
			for _, p := range points(by) {
				// The distances from the corners: none of them has a negative part.
				d, e := p-a.Min, a.Max-p
				want := real(d) >= 0 && imag(d) >= 0 && real(e) >= 0 && imag(e) >= 0
				if a.Has(p) != want {
					t.Fatalf("P11.1: %v.Has(%v) = %v", a, p, !want)
				}
				if want {
					cells++
				}
			}
			if a.Cells() != cells {
				t.Fatalf("P11.1: %v.Cells() = %v, want %v", a, a.Cells(), cells)
			}
			for _, b := range grid(by) {
				meets(t, a, b, points(by))
			}
		}
	}
}

// meets holds Meet against Has at some points, which must be all that one of the boxes has.
func meets(t *testing.T, a, b Box, l []complex128) {
	t.Helper()
	both, ok := a.Meet(b)
	common := 0.0
	for _, p := range l {
		want := a.Has(p) && b.Has(p)
		if want {
			common++
		}
		if ok && both.Has(p) != want {
			t.Fatalf("P11.1: %v.Meet(%v) = %v, but Has(%v) = %v", a, b, both, p, !want)
		}
	}
	if ok != (common > 0) || !ok && both != (Box{}) || ok && both.Cells() != common {
		t.Fatalf("P11.1: %v.Meet(%v) = %v, %v; there are %v common points", a, b, both, ok, common)
	}
}

func TestCells(t *testing.T) {
	const size = 1 << 41
	for _, x := range []struct {
		b    Box
		want float64
	}{
		{Box{}, 1}, {box(5, 5, 3, 3), 1}, {box(greatest, greatest, greatest, greatest), 1}, {box(greatest, greatest, 0, 0), 1},
		{box(2, 3, 4, 4), 2}, {box(0, 9, 0, 0), 10}, {box(7, 12, 9, 9), 6},
		{box(4, 4, 2, 3), 2}, {box(0, 0, 0, 9), 10}, {box(9, 9, 7, 12), 6},
		{box(0, 1, 0, 1), 4}, {box(2, 4, 5, 11), 21}, {box(5, 11, 2, 4), 21}, {box(0, 999, 0, 499), 500000}, {box(-2, 2, -1, 1), 15},
		{box(0, greatest, 0, 0), size}, {box(0, 0, 0, greatest), size}, {box(1, greatest, 3, 3), size - 1}, {box(3, 3, 2, greatest), size - 2},
		{box(greatest-9, greatest, greatest-4, greatest), 50}, {box(greatest-1, greatest, greatest-2, greatest), 6},
		{box(0, greatest, 6, 8), 3 * size}, {box(1, greatest, 0, 4095), 4096 * (size - 1)}, {box(0, 1000, 3, greatest), 1001 * (size - 3)},
		{box(0, greatest, 0, greatest), size * size}, {box(0, greatest, 0, 1<<40-1), size * size / 2},
	} {
		if got := x.b.Cells(); got != x.want {
			t.Errorf("P11.1: %v.Cells() = %v, want %v", x.b, got, x.want)
		}
	}
}

func TestBoxesOfNothing(t *testing.T) {
	keys := []string{"b", "d", "f"}
	l := []lock.Lock{on("a", "z", 1, 9), on("b", "b", 1, 1), on("", "\xff", 0, 3)}
	wantBoxes(t, nil, nil)
	wantBoxes(t, []string{}, []lock.Lock{})
	wantBoxes(t, keys, nil)
	wantBoxes(t, keys, []lock.Lock{})
	wantBoxes(t, nil, l)
	wantBoxes(t, []string{}, l)
}

// TestBoxesKeys: one lock on keys of the list, between them, ahead of all and behind all.
func TestBoxesKeys(t *testing.T) {
	keys := []string{"b", "d", "f", "h"}
	for _, x := range []struct {
		from, to  string
		low, high float64
	}{
		// Keys of the list.
		{"b", "b", 0, 0}, {"d", "d", 1, 1}, {"h", "h", 3, 3}, {"b", "d", 0, 1}, {"d", "h", 1, 3}, {"b", "h", 0, 3},
		// Between two of them.
		{"c", "e", 1, 1}, {"a", "c", 0, 0}, {"g", "z", 3, 3}, {"c", "g", 1, 2}, {"b\x00", "h\x00", 1, 3}, {"c\xff", "f\x00", 1, 2},
		// One of them, and one between.
		{"b", "c", 0, 0}, {"c", "d", 1, 1}, {"d", "g", 1, 2}, {"e", "h", 2, 3},
		// From ahead of all, to behind all.
		{"", "\xff", 0, 3}, {"a", "z", 0, 3}, {"", "b", 0, 0}, {"", "g", 0, 2}, {"h", "\xff", 3, 3}, {"B", "b", 0, 0},
	} {
		wantBoxes(t, keys, []lock.Lock{on(x.from, x.to, 2, 7)}, box(2, 7, x.low, x.high))
		wantBoxes(t, keys, []lock.Lock{on(x.from, x.to, 4, 4)}, box(4, 4, x.low, x.high))
	}
}

// TestBoxesOmitted: a lock that contains none of the keys has no box, alone and between others.
func TestBoxesOmitted(t *testing.T) {
	keys := []string{"b", "d", "f", "h"}
	first, next := on("a", "d", 5, 6), on("f", "z", 1, 9)
	for _, x := range []lock.Lock{
		// Between two keys.
		on("c", "c", 1, 9), on("b\x00", "c\xff", 1, 9), on("e", "ez", 1, 9), on("g", "g", 0, 0),
		// Ahead of all, and behind all.
		on("", "", 1, 9), on("", "a\xff", 1, 9), on("B", "H", 1, 9), on("h\x00", "h\x00", 1, 9), on("i", "z", 1, 9), on("\xff", "\xff\xff", 1, 9),
		// From above To, on keys of the list and between.
		on("d", "b", 1, 9), on("h", "b", 1, 9), on("h", "f", 1, 9), on("e", "c", 1, 9), on("z", "a", 1, 9), on("z", "", 1, 9), on("d", "c", 1, 9), on("e", "d", 1, 9), on("d\x00", "d", 1, 9),
	} {
		wantBoxes(t, keys, []lock.Lock{x})
		wantBoxes(t, keys, []lock.Lock{x, x})
		wantBoxes(t, keys, []lock.Lock{x, first, x, next, x}, box(5, 6, 0, 1), box(1, 9, 2, 3))
	}
}

// TestBoxesWithoutTimes: there is no box whose Min is beyond its Max, so that a lock without times has none.
func TestBoxesWithoutTimes(t *testing.T) {
	keys := []string{"b", "d"}
	first := on("b", "d", 5, 6)
	for _, x := range []lock.Lock{on("b", "b", 1, 0), on("a", "z", 9, 2), on("d", "d", last, 0), on("d", "b", 1, 0)} {
		wantBoxes(t, keys, []lock.Lock{x})
		wantBoxes(t, keys, []lock.Lock{x, first, x}, box(5, 6, 0, 1))
	}
}

// TestBoxesOrder: the boxes come in the order of the locks, whatever their keys, times and owners, equal ones each once.
func TestBoxesOrder(t *testing.T) {
	keys := []string{"", "a", "aa", "b", "\x80"}
	l := []lock.Lock{on("b", "b", 7, 9), on("", "", 1, 2), on("a", "b", 3, 3), on("aa", "\xff", 0, 1<<40), on("b", "b", 7, 9), on("", "aa", 1<<40, 1<<40), on("c", "\x7f", 1, 1)}
	want := []Box{box(7, 9, 3, 3), box(1, 2, 0, 0), box(3, 3, 1, 3), box(0, 1<<40, 2, 4), box(7, 9, 3, 3), box(1<<40, 1<<40, 0, 2)}
	for i := range l {
		l[i].Owner = 7 - 2*i
	}
	wantBoxes(t, keys, l, want...)
	slices.Reverse(l)
	slices.Reverse(want)
	wantBoxes(t, keys, l, want...)
}

// TestBoxesOfAll holds the boxes of all locks between some words against the keys one by one, for all lists of some keys.
func TestBoxesOfAll(t *testing.T) {
	words := []string{"", "a", "a\x00", "ab", "b", "c", "\xff"}
	for list := range 1 << len(words) {
		var keys []string
		for i, w := range words {
			if list>>i&1 == 1 {
				keys = append(keys, w)
			}
		}
		var l []lock.Lock
		var want []Box
		for i, from := range words {
			for j, to := range words {
				x := on(from, to, uint64(i), uint64(i+j))
				l = append(l, x)
				want = append(want, rows(keys, x)...)
			}
		}
		wantBoxes(t, keys, l, want...)
	}
}

// rows gives a lock's box, none if it contains none of the keys, by asking for each key.
func rows(keys []string, l lock.Lock) []Box {
	var in []int
	for i, k := range keys {
		if l.From <= k && k <= l.To {
			in = append(in, i)
		}
	}
	if len(in) == 0 {
		return nil
	}
	return []Box{box(float64(l.Span.Lo), float64(l.Span.Hi), float64(in[0]), float64(in[len(in)-1]))}
}

// TestBoxesOfTable: the locks of a table.
func TestBoxesOfTable(t *testing.T) {
	var table lock.Table
	for _, x := range []lock.Lock{on("a", "c", 1, 4), on("c", "a", 1, 4), on("b", "b", 3, 2), on("b", "b", 3, 6), on("d", "e", 2, 2)} {
		table.Add(x)
	}
	keys := []string{"a", "b", "c"}
	wantBoxes(t, keys, table.All(), box(1, 4, 0, 2), box(3, 6, 1, 1))
	wantDrawn(t, Boxes(keys, table.All()), 0, 8, 3, ".1111...", ".112211.", ".1111...")
}

func TestDrawNothing(t *testing.T) {
	for _, l := range [][]Box{nil, {}} {
		wantDrawn(t, l, 0, 1, 1, ".")
		wantDrawn(t, l, 7, 5, 1, ".....")
		wantDrawn(t, l, 1<<40, 3, 2, "...", "...")
	}
}

// TestDrawMarks: the mark of no boxes, of one to nine, and of more, over one point.
func TestDrawMarks(t *testing.T) {
	marks := ".123456789++++++++++++++"
	for n := range len(marks) {
		l := slices.Repeat([]Box{box(2, 2, 1, 1)}, n)
		wantDrawn(t, l, 2, 1, 2, marks[n:n+1], ".")
		wantDrawn(t, l, 1, 3, 3, "...", "."+marks[n:n+1]+".", "...")
	}
	for _, n := range []int{48, 99, 100, 206, 207, 208, 209, 210, 255, 256, 257, 264, 266, 512, 1000, 65536} {
		wantDrawn(t, slices.Repeat([]Box{box(2, 2, 0, 0)}, n), 1, 3, 1, ".+.")
	}
	var l []Box
	for i := range 12 {
		l = append(l, box(float64(i), 11, 0, float64(i)))
	}
	wantDrawn(t, l, 0, 13, 3, "..123456789+.", ".123456789++.", "123456789+++.")
}

// TestDrawFrom: from 0, from ahead of a box, from its first time, from within it, from its last time, and from behind all.
func TestDrawFrom(t *testing.T) {
	l := []Box{box(2, 5, 0, 1), box(4, 7, 1, 1)}
	for _, x := range []struct {
		from          uint64
		upper, bottom string
	}{
		{0, "..112211..", "..1111...."}, {1, ".112211...", ".1111....."}, {2, "112211....", "1111......"}, {3, "12211.....", "111......."},
		{4, "2211......", "11........"}, {5, "211.......", "1........."}, {7, "1.........", ".........."}, {8, "..........", ".........."}, {1000, "..........", ".........."},
	} {
		wantDrawn(t, l, x.from, 10, 2, x.upper, x.bottom)
		wantDrawn(t, l, x.from, 3, 2, x.upper[:3], x.bottom[:3])
		wantDrawn(t, l, x.from, 1, 1, x.bottom[:1])
	}
	wantDrawn(t, []Box{box(0, 0, 0, 0), box(0, 2, 1, 1)}, 0, 4, 2, "111.", "1...")
}

// TestDrawGreat: times at the end of those that a box may have, and a from whose times go on above all times.
func TestDrawGreat(t *testing.T) {
	end := []Box{box(greatest-1, greatest, 0, 0), box(1<<40, 1<<40, 1, 1)}
	wantDrawn(t, end, greatest-3, 6, 2, "......", "..11..")
	wantDrawn(t, end, greatest, 2, 1, "1.")
	wantDrawn(t, end, greatest+1, 2, 1, "..")
	wantDrawn(t, end, 1<<40-2, 5, 2, "..1..", ".....")
	all := []Box{box(0, greatest, 0, 1), box(0, 3, 0, 0)}
	for _, from := range []uint64{1 << 41, 1 << 52, 1<<53 + 1, 1<<63 - 1, 1 << 63, 1<<63 + 1, last - 2, last - 1, last} {
		wantDrawn(t, all, from, 6, 2, "......", "......")
	}
	wantDrawn(t, all, greatest-2, 6, 1, "111...")
}

// TestDrawSizes: below 1, wide gives empty lines and high gives none.
func TestDrawSizes(t *testing.T) {
	l := []Box{box(0, 9, 0, 9)}
	for _, wide := range []int{0, -1, -5, math.MinInt} {
		wantDrawn(t, l, 0, wide, 1, "")
		wantDrawn(t, l, 3, wide, 4, "", "", "", "")
		wantDrawn(t, nil, last, wide, 2, "", "")
	}
	for _, high := range []int{0, -1, -5, math.MinInt, math.MinInt + 1} {
		for _, wide := range []int{0, 1, 7, -1, math.MinInt, math.MaxInt} {
			wantDrawn(t, l, 0, wide, high)
			wantDrawn(t, nil, last, wide, high)
		}
	}
}

// TestDrawOrder: the highest index comes first, index 0 last, and boxes above high are not drawn.
func TestDrawOrder(t *testing.T) {
	l := []Box{box(0, 0, 0, 0), box(1, 1, 1, 1), box(2, 2, 2, 2), box(1, 3, 3, 9)}
	wantDrawn(t, l, 0, 4, 1, "1...")
	wantDrawn(t, l, 0, 4, 2, ".1..", "1...")
	wantDrawn(t, l, 0, 4, 3, "..1.", ".1..", "1...")
	wantDrawn(t, l, 0, 4, 4, ".111", "..1.", ".1..", "1...")
	wantDrawn(t, l, 0, 4, 5, ".111", ".111", "..1.", ".1..", "1...")
	slices.Reverse(l)
	wantDrawn(t, l, 0, 4, 4, ".111", "..1.", ".1..", "1...")
}

// TestDrawPairs draws all pairs of small boxes and holds each mark against Has.
func TestDrawPairs(t *testing.T) {
	for _, a := range grid(0) {
		for _, b := range grid(complex(1, 2)) {
			l := []Box{a, b, a}
			var want []string
			for y := 6; y >= 0; y-- {
				line := ""
				for x := 1; x < 7; x++ {
					n := 0
					for _, c := range l {
						if c.Has(complex(float64(x), float64(y))) {
							n++
						}
					}
					line += ".123"[n : n+1]
				}
				want = append(want, line)
			}
			wantDrawn(t, l, 1, 6, 7, want...)
		}
	}
}

// TestArguments (R5): the slices that are given are not changed, nor is what lies behind them.
func TestArguments(t *testing.T) {
	keys := []string{"a", "b", "c", "behind", "behind"}
	l := []lock.Lock{on("a", "b", 1, 4), on("x", "z", 1, 4), on("c", "c", 2, 3), on("behind", "behind", 7, 7)}
	boxes := []Box{box(3, 4, 1, 1), box(1, 2, 0, 0), box(0, 9, 0, 9), box(7, 7, 7, 7)}
	oldKeys, oldLocks, oldBoxes := slices.Clone(keys), slices.Clone(l), slices.Clone(boxes)
	for range 2 {
		wantBoxes(t, keys[:3], l[:3], box(1, 4, 0, 1), box(2, 3, 2, 2))
		wantDrawn(t, boxes[:2], 0, 6, 2, "...11.", ".11...")
	}
	if !slices.Equal(keys, oldKeys) || !slices.Equal(l, oldLocks) || !slices.Equal(boxes, oldBoxes) {
		t.Errorf("R5: the arguments are %q, %v and %v after the calls", keys, l, boxes)
	}
}

// TestResults (R5, R6): no list that was returned changes with another one, and the same call answers the same again.
func TestResults(t *testing.T) {
	keys := []string{"a", "b", "c"}
	l := []lock.Lock{on("a", "b", 1, 4), on("c", "c", 2, 3), on("b", "c", 6, 6)}
	want := []Box{box(1, 4, 0, 1), box(2, 3, 2, 2), box(6, 6, 1, 2)}
	first, second := Boxes(keys, l), Boxes(keys, l)
	drawn := Draw(second, 0, 8, 3)
	whole := first[:cap(first)]
	for i := range whole {
		whole[i] = box(77, 77, 77, 77)
	}
	clear(keys)
	clear(l)
	if !slices.Equal(second, want) || Draw(second, 0, 8, 3) != drawn {
		t.Errorf("R5: what Boxes returned is %v after writes to other lists, want %v", second, want)
	}
	wantDrawn(t, second, 0, 8, 3, "..11..1.", ".1111.1.", ".1111...")
}

// TestNoPanic (P1): also where nothing is promised of the results, each call ends without a panic.
func TestNoPanic(t *testing.T) {
	odd := []Box{box(5, 2, 0, 0), box(0, 0, 5, 2), box(1<<62, 1<<63, -5, 1e300), {cmplx.NaN(), cmplx.Inf()}, {cmplx.Inf(), -cmplx.Inf()}, {}}
	for _, a := range odd {
		for _, b := range odd {
			a.Meet(b)
			a.Has(b.Min)
			a.Cells()
		}
	}
	for _, from := range []uint64{0, 1, 1 << 62, last} {
		if got := Draw(odd, from, 3, 2); len(got) != 8 {
			t.Errorf("P11.2: Draw of %v is %q", odd, got)
		}
	}
	locks := []lock.Lock{on("a", "c", 0, last), on("b", "b", last, last), {}, on("", "\xff", 1<<60, 1<<61)}
	for _, keys := range [][]string{{"c", "a", "b"}, {"a", "a", "a"}, {"b", "b", "a"}, {""}} {
		got := fmt.Sprint(Boxes(keys, locks))
		if got != fmt.Sprint(Boxes(keys, locks)) {
			t.Errorf("R6: Boxes(%q, %v) answers %s, and something else then", keys, locks, got)
		}
	}
}
