package spans

import (
	"math"
	"slices"
	"testing"

	"selion/span"
)

const last = math.MaxUint64

// list is a list of spans that need not be a set.
type list = []span.Span

// pairs returns the spans with these ends, Lo and Hi in turn.
func pairs(ends ...uint64) list {
	var l list
	for i := 0; i+1 < len(ends); i += 2 {
		l = append(l, span.Span{Lo: ends[i], Hi: ends[i+1]})
	}
	return l
}

func TestOf(t *testing.T) {
	for _, c := range []struct {
		l    list
		want Set
	}{
		{pairs(5, 9, 1, 4), pairs(1, 9)}, // the chapter's example
		{nil, nil},
		{list{}, nil},
		{pairs(4, 4), pairs(4, 4)},
		{pairs(2, 9), pairs(2, 9)},
		// Apart, and in any order.
		{pairs(1, 2, 4, 5), pairs(1, 2, 4, 5)},
		{pairs(4, 5, 1, 2), pairs(1, 2, 4, 5)},
		{pairs(7, 8, 1, 2, 4, 5), pairs(1, 2, 4, 5, 7, 8)},
		// They touch.
		{pairs(1, 4, 5, 9), pairs(1, 9)},
		{pairs(6, 6, 4, 4, 5, 5), pairs(4, 6)},
		{pairs(1, 2, 6, 7, 3, 5), pairs(1, 7)},
		// They overlap.
		{pairs(1, 5, 5, 9), pairs(1, 9)},
		{pairs(4, 9, 1, 6), pairs(1, 9)},
		{pairs(1, 3, 6, 9, 2, 7), pairs(1, 9)},
		// They lie in one another.
		{pairs(1, 9, 4, 5), pairs(1, 9)},
		{pairs(4, 5, 1, 9), pairs(1, 9)},
		{pairs(1, 9, 1, 4), pairs(1, 9)},
		{pairs(1, 4, 1, 9), pairs(1, 9)},
		{pairs(1, 9, 5, 9), pairs(1, 9)},
		{pairs(1, 9, 2, 3, 7, 12), pairs(1, 12)},
		{pairs(2, 9, 2, 9), pairs(2, 9)},
		// Some have no times.
		{pairs(1, 0), nil},
		{pairs(9, 2, 1, 0, last, 0), nil},
		{pairs(1, 0, 4, 5, 9, 2), pairs(4, 5)},
		{pairs(1, 2, 5, 3, 6, 7), pairs(1, 2, 6, 7)},
		{pairs(0, 2, last, 3, 5, 6, 1, 0), pairs(0, 2, 5, 6)},
		// The ends of the range.
		{pairs(0, 0), pairs(0, 0)},
		{pairs(last, last), pairs(last, last)},
		{pairs(last, last, 0, 0), pairs(0, 0, last, last)},
		{pairs(0, last, 0, 0, last, last), pairs(0, last)},
		{pairs(0, last, 5, 9), pairs(0, last)},
		{pairs(1, last, 0, 0), pairs(0, last)},
		{pairs(last, last, 0, last-1), pairs(0, last)},
		{pairs(last, last, 0, last-2), pairs(0, last-2, last, last)},
		{pairs(2, last, 0, 0), pairs(0, 0, 2, last)},
	} {
		if got := Of(c.l...); !slices.Equal(got, c.want) {
			t.Errorf("P2.1: Of(%v) = %v, want %v", c.l, got, c.want)
		}
	}
	if got := Of(); len(got) != 0 {
		t.Errorf("P2.1: Of() = %v, want no spans", got)
	}
}

func TestHasAndFirst(t *testing.T) {
	for _, c := range []struct {
		l       Set
		in, out []uint64
	}{
		{nil, nil, []uint64{0, 1, last}},
		{Set{}, nil, []uint64{0, 1, last}},
		{pairs(4, 4), []uint64{4}, []uint64{0, 3, 5, last}},
		{pairs(2, 5, 7, 9), []uint64{2, 3, 5, 7, 8, 9}, []uint64{0, 1, 6, 10, last}},
		{pairs(0, 0, last, last), []uint64{0, last}, []uint64{1, last - 1}},
		{pairs(0, last), []uint64{0, 1, 1 << 40, last - 1, last}, nil},
		{pairs(last, last), []uint64{last}, []uint64{0, last - 1}},
	} {
		for _, at := range c.in {
			if !c.l.Has(at) {
				t.Errorf("P2.1: %v.Has(%v) = false", c.l, at)
			}
		}
		for _, at := range c.out {
			if c.l.Has(at) {
				t.Errorf("P2.1: %v.Has(%v) = true", c.l, at)
			}
		}
		var least uint64
		if len(c.in) > 0 {
			least = c.in[0]
		}
		if at, ok := c.l.First(); at != least || ok != (len(c.in) > 0) {
			t.Errorf("P2.1: %v.First() = %v, %v", c.l, at, ok)
		}
	}
}

func TestJoinMeetLess(t *testing.T) {
	for _, c := range []struct{ l, m, join, meet, less Set }{
		{nil, nil, nil, nil, nil},
		{Set{}, nil, nil, nil, nil},
		{pairs(2, 9), nil, pairs(2, 9), nil, pairs(2, 9)},
		{nil, pairs(2, 9), pairs(2, 9), nil, nil},
		{pairs(2, 9), pairs(2, 9), pairs(2, 9), pairs(2, 9), nil},
		{pairs(2, 9), pairs(4, 5), pairs(2, 9), pairs(4, 5), pairs(2, 3, 6, 9)},
		{pairs(4, 5), pairs(2, 9), pairs(2, 9), pairs(4, 5), nil},
		{pairs(1, 4), pairs(5, 9), pairs(1, 9), nil, pairs(1, 4)},
		{pairs(1, 3), pairs(5, 9), pairs(1, 3, 5, 9), nil, pairs(1, 3)},
		{pairs(1, 5), pairs(5, 9), pairs(1, 9), pairs(5, 5), pairs(1, 4)},
		// One span fills the gap of the other set, or covers several of its spans.
		{pairs(1, 2, 5, 6), pairs(3, 4), pairs(1, 6), nil, pairs(1, 2, 5, 6)},
		{pairs(1, 2, 5, 6), pairs(2, 5), pairs(1, 6), pairs(2, 2, 5, 5), pairs(1, 1, 6, 6)},
		{pairs(1, 2, 4, 5, 7, 8), pairs(2, 7), pairs(1, 8), pairs(2, 2, 4, 5, 7, 7), pairs(1, 1, 8, 8)},
		{pairs(2, 7), pairs(1, 2, 4, 5, 7, 8), pairs(1, 8), pairs(2, 2, 4, 5, 7, 7), pairs(3, 3, 6, 6)},
		{pairs(1, 1, 3, 3), pairs(2, 2, 4, 4), pairs(1, 4), nil, pairs(1, 1, 3, 3)},
		{pairs(1, 4, 8, 9), pairs(3, 8, 20, 30), pairs(1, 9, 20, 30), pairs(3, 4, 8, 8), pairs(1, 2, 9, 9)},
		// The ends of the range.
		{pairs(0, last), pairs(0, last), pairs(0, last), pairs(0, last), nil},
		{pairs(0, last), nil, pairs(0, last), nil, pairs(0, last)},
		{nil, pairs(0, last), pairs(0, last), nil, nil},
		{pairs(0, last), pairs(0, 0), pairs(0, last), pairs(0, 0), pairs(1, last)},
		{pairs(0, last), pairs(last, last), pairs(0, last), pairs(last, last), pairs(0, last-1)},
		{pairs(0, last), pairs(1, last-1), pairs(0, last), pairs(1, last-1), pairs(0, 0, last, last)},
		{pairs(0, 0), pairs(1, last), pairs(0, last), nil, pairs(0, 0)},
		{pairs(0, 0), pairs(last, last), pairs(0, 0, last, last), nil, pairs(0, 0)},
		{pairs(last, last), pairs(0, last-1), pairs(0, last), nil, pairs(last, last)},
	} {
		if got := c.l.Join(c.m); !slices.Equal(got, c.join) {
			t.Errorf("P2.1: %v.Join(%v) = %v, want %v", c.l, c.m, got, c.join)
		}
		if got := c.m.Join(c.l); !slices.Equal(got, c.join) {
			t.Errorf("P2.1: %v.Join(%v) = %v, want %v", c.m, c.l, got, c.join)
		}
		if got := c.l.Meet(c.m); !slices.Equal(got, c.meet) {
			t.Errorf("P2.1: %v.Meet(%v) = %v, want %v", c.l, c.m, got, c.meet)
		}
		if got := c.m.Meet(c.l); !slices.Equal(got, c.meet) {
			t.Errorf("P2.1: %v.Meet(%v) = %v, want %v", c.m, c.l, got, c.meet)
		}
		if got := c.l.Less(c.m); !slices.Equal(got, c.less) {
			t.Errorf("P2.1: %v.Less(%v) = %v, want %v", c.l, c.m, got, c.less)
		}
	}
}

func TestSame(t *testing.T) {
	for _, c := range []struct {
		a, b Set
		want bool
	}{
		{nil, nil, true},
		{nil, Set{}, true}, // R4
		{Set{}, Set{}, true},
		{Set{}, make(Set, 0, 4), true},
		{pairs(2, 9), pairs(2, 9), true},
		{pairs(2, 9), append(make(Set, 0, 4), pairs(2, 9)...), true},
		{pairs(0, 0, last, last), pairs(0, 0, last, last), true},
		{pairs(0, last), pairs(0, last), true},
		{pairs(2, 9), nil, false},
		{pairs(0, 0), nil, false},
		{pairs(2, 9), pairs(2, 8), false},
		{pairs(2, 9), pairs(3, 9), false},
		{pairs(2, 9), pairs(2, 9, 11, 12), false},
		{pairs(11, 12), pairs(2, 9, 11, 12), false},
		{pairs(2, 4, 6, 9), pairs(2, 9), false},
		{pairs(2, 4, 6, 9), pairs(2, 4, 7, 9), false},
		{pairs(2, 4, 6, 9), pairs(2, 4, 6, 8), false},
		{pairs(0, last), pairs(0, last-1), false},
	} {
		if got := Same(c.a, c.b); got != c.want {
			t.Errorf("P2.1: Same(%v, %v) = %v", c.a, c.b, got)
		}
		if got := Same(c.b, c.a); got != c.want {
			t.Errorf("P2.1: Same(%v, %v) = %v", c.b, c.a, got)
		}
	}
}

// cells divide all times into few parts, so that a set of whole cells is a number with a bit for each of them.
var cells = pairs(0, 0, 1, 1, 2, 2, 3, last-3, last-2, last-2, last-1, last-1, last, last)

// setOf returns the set of the cells whose bits are set, found bit by bit without the package's functions.
func setOf(bits int) Set {
	var l Set
	for i, c := range cells {
		switch {
		case bits>>i&1 == 0:
		case i > 0 && bits>>(i-1)&1 == 1:
			l[len(l)-1].Hi = c.Hi
		default:
			l = append(l, c)
		}
	}
	return l
}

// TestAllSets calls everything for sets of whole cells, of which there are few enough to try every pair.
func TestAllSets(t *testing.T) {
	for a := range 1 << len(cells) {
		l := setOf(a)
		for i, c := range cells {
			if want := a>>i&1 == 1; l.Has(c.Lo) != want || l.Has(c.Hi) != want {
				t.Fatalf("P2.1: %v.Has(%v), (%v)", l, c.Lo, c.Hi)
			}
		}
		for b := range 1 << len(cells) {
			m := setOf(b)
			if got := l.Join(m); !slices.Equal(got, setOf(a|b)) {
				t.Fatalf("P2.1: %v.Join(%v) = %v", l, m, got)
			}
			if got := l.Meet(m); !slices.Equal(got, setOf(a&b)) {
				t.Fatalf("P2.1: %v.Meet(%v) = %v", l, m, got)
			}
			if got := l.Less(m); !slices.Equal(got, setOf(a&^b)) {
				t.Fatalf("P2.1: %v.Less(%v) = %v", l, m, got)
			}
			if got := Same(l, m); got != (a == b) {
				t.Fatalf("P2.1: Same(%v, %v) = %v", l, m, got)
			}
		}
	}
}

// TestAllTriples makes sets of any three spans between the cells' ends, with and without times.
func TestAllTriples(t *testing.T) {
	var all list
	var bits []int
	for i, lo := range cells {
		for j, hi := range cells {
			all = append(all, span.Span{Lo: lo.Lo, Hi: hi.Hi})
			in := 0
			for k := i; k <= j; k++ {
				in |= 1 << k
			}
			bits = append(bits, in)
		}
	}
	for i, a := range all {
		for j, b := range all {
			for k, c := range all {
				if got := Of(a, b, c); !slices.Equal(got, setOf(bits[i]|bits[j]|bits[k])) {
					t.Fatalf("P2.1: Of(%v, %v, %v) = %v", a, b, c, got)
				}
			}
		}
	}
}

// TestManySpans: sets with more spans than a result's memory first has room for, from lists in falling and mixed order.
func TestManySpans(t *testing.T) {
	const many = 1000
	var even, odd Set
	var mixed list
	for i := range uint64(many) {
		even = append(even, span.Span{Lo: 4 * i, Hi: 4*i + 1})
		odd = append(odd, span.Span{Lo: 4*i + 2, Hi: 4*i + 3})
		at := i * 7 % many
		mixed = append(mixed, span.Span{Lo: 4 * at, Hi: 4*at + 1})
	}
	whole := Set(pairs(0, 4*many-1))
	falling := slices.Clone(even)
	slices.Reverse(falling)
	for what, got := range map[string][2]Set{
		"Of falling": {Of(falling...), even},
		"Of mixed":   {Of(mixed...), even},
		"Join":       {even.Join(odd), whole},
		"Meet":       {even.Meet(odd), nil},
		"Meet whole": {whole.Meet(odd), odd},
		"Less":       {whole.Less(even), odd},
		"Less apart": {even.Less(odd), even},
		"Less all":   {even.Less(whole), nil},
	} {
		if !slices.Equal(got[0], got[1]) {
			t.Errorf("P2.1: %s: %d spans, want %d", what, len(got[0]), len(got[1]))
		}
	}
}

// mark fills what a call must neither read nor write.
var mark = span.Span{Lo: 77, Hi: 88}

// fence returns l as the beginning of a longer list, whose rest consists of marks, and that list.
func fence(l list) (given, whole list) {
	whole = slices.Repeat(list{mark}, len(l)+8)
	copy(whole, l)
	return whole[:len(l)], whole
}

// overwrite fills l and its spare capacity with marks.
func overwrite(l list) {
	l = l[:cap(l)]
	for i := range l {
		l[i] = mark
	}
}

// TestMemory: P2 with R5 and R6: arguments stay as they are, with what lies behind them, and a result is memory of its own, whatever the arguments are.
func TestMemory(t *testing.T) {
	calls := []struct {
		what string
		call func(l, m Set) Set
	}{
		{"Of(l)", func(l, m Set) Set { return Of(l...) }},
		{"Join", func(l, m Set) Set { return l.Join(m) }},
		{"Meet", func(l, m Set) Set { return l.Meet(m) }},
		{"Less", func(l, m Set) Set { return l.Less(m) }},
		{"l.Join(l)", func(l, m Set) Set { return l.Join(l) }},
		{"l.Meet(l)", func(l, m Set) Set { return l.Meet(l) }},
		{"l.Less(l)", func(l, m Set) Set { return l.Less(l) }},
		{"others", func(l, m Set) Set { l.Has(4); l.First(); Same(l, m); return nil }},
	}
	sets := []Set{nil, pairs(4, 5), pairs(0, last), pairs(1, 2, 4, 5, 9, 9), pairs(0, 0, 5, 6, last, last)}
	for _, c := range calls {
		for _, a := range sets {
			for _, b := range sets {
				checkMemory(t, c.what, c.call, a, b)
			}
		}
	}
	// A list that is not a set, so that Of has to sort and to unite.
	of := func(l, m Set) Set { return Of(l...) }
	checkMemory(t, "Of", of, pairs(9, 9, 5, 2, 4, 5, 1, 4, 9, 12), nil)
}

// checkMemory calls twice, so that what is kept between calls shows, and then overwrites what one result or the arguments have.
func checkMemory(t *testing.T, what string, call func(l, m Set) Set, a, b Set) {
	t.Helper()
	l, wholeL := fence(a)
	m, wholeM := fence(b)
	beforeL, beforeM := slices.Clone(wholeL), slices.Clone(wholeM)
	first := call(l, m)
	want := slices.Clone(first)
	second := call(l, m)
	if !slices.Equal(second, want) {
		t.Fatalf("R6: %s of %v, %v: %v, then %v", what, a, b, want, second)
	}
	overwrite(first)
	if !slices.Equal(wholeL, beforeL) || !slices.Equal(wholeM, beforeM) {
		t.Fatalf("R5: %s of %v, %v modified an argument, or its result lies in one", what, a, b)
	}
	overwrite(wholeL)
	overwrite(wholeM)
	if !slices.Equal(second, want) {
		t.Fatalf("R5: %s of %v, %v: the result lies in an argument or in another result", what, a, b)
	}
}

// TestAnyLists: nothing is promised for lists that are not sets, except that a call ends without a panic.
func TestAnyLists(t *testing.T) {
	lists := []Set{pairs(9, 2), pairs(1, 0, 1, 0), pairs(5, 9, 1, 4), pairs(0, last, 0, last), pairs(last, last, 4, 2, 0, 0), pairs(3, 4, 3, 4)}
	for _, l := range lists {
		for _, m := range append(lists, nil, pairs(1, 2, 4, 5)) {
			l.Has(3)
			l.First()
			for _, both := range [][2]Set{{l, m}, {m, l}} {
				both[0].Join(both[1])
				both[0].Meet(both[1])
				both[0].Less(both[1])
				Same(both[0], both[1])
			}
		}
	}
}
