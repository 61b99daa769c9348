package span

import (
	"math"
	"testing"
)

const last = math.MaxUint64

// blank is the form that P1.1 requires of a result without times.
var blank = Span{1, 0}

func TestEmpty(t *testing.T) {
	for _, c := range []struct {
		s    Span
		want bool
	}{
		{Span{2, 9}, false},
		{Span{4, 4}, false},
		{Span{0, 0}, false},
		{Span{last, last}, false},
		{Span{0, last}, false},
		{Span{1, 0}, true},
		{Span{9, 2}, true},
		{Span{last, 0}, true},
		{Span{last, last - 1}, true},
	} {
		if got := c.s.Empty(); got != c.want {
			t.Errorf("P1.1: %v.Empty() = %v, want %v", c.s, got, c.want)
		}
	}
}

func TestHas(t *testing.T) {
	for _, c := range []struct {
		s    Span
		at   uint64
		want bool
	}{
		{Span{2, 9}, 1, false},
		{Span{2, 9}, 2, true},
		{Span{2, 9}, 5, true},
		{Span{2, 9}, 9, true},
		{Span{2, 9}, 10, false},
		{Span{4, 4}, 4, true},
		{Span{4, 4}, 3, false},
		{Span{4, 4}, 5, false},
		{Span{0, 3}, 0, true},
		{Span{0, 3}, last, false},
		{Span{3, last}, last, true},
		{Span{3, last}, 0, false},
		{Span{0, last}, 0, true},
		{Span{0, last}, last, true},
		{Span{1, 0}, 0, false},
		{Span{1, 0}, 1, false},
		{Span{9, 2}, 2, false},
		{Span{9, 2}, 5, false},
		{Span{9, 2}, 9, false},
	} {
		if got := c.s.Has(c.at); got != c.want {
			t.Errorf("P1.1: %v.Has(%v) = %v, want %v", c.s, c.at, got, c.want)
		}
	}
}

func TestMeet(t *testing.T) {
	for _, c := range []struct{ s, o, want Span }{
		{Span{2, 9}, Span{4, 5}, Span{4, 5}},
		{Span{2, 6}, Span{4, 9}, Span{4, 6}},
		{Span{2, 5}, Span{5, 9}, Span{5, 5}},
		{Span{2, 4}, Span{5, 9}, blank},
		{Span{2, 3}, Span{8, 9}, blank},
		{Span{2, 9}, Span{2, 9}, Span{2, 9}},
		{Span{0, last}, Span{2, 9}, Span{2, 9}},
		{Span{0, last}, Span{0, last}, Span{0, last}},
		{Span{0, 5}, Span{0, 0}, Span{0, 0}},
		{Span{5, last}, Span{last, last}, Span{last, last}},
		{Span{0, 0}, Span{last, last}, blank},
		{Span{2, 9}, Span{1, 0}, blank},
		{Span{2, 9}, Span{7, 4}, blank},
		{Span{0, last}, Span{last, 0}, blank},
		{Span{7, 4}, Span{8, 3}, blank},
		{Span{7, 4}, Span{7, 4}, blank},
	} {
		if got := c.s.Meet(c.o); got != c.want {
			t.Errorf("P1.1: %v.Meet(%v) = %v, want %v", c.s, c.o, got, c.want)
		}
		if got := c.o.Meet(c.s); got != c.want {
			t.Errorf("P1.1: %v.Meet(%v) = %v, want %v", c.o, c.s, got, c.want)
		}
	}
}

func TestAboveAndBelow(t *testing.T) {
	for _, c := range []struct {
		s            Span
		at           uint64
		above, below Span
	}{
		{Span{2, 9}, 5, Span{6, 9}, Span{2, 4}},
		{Span{2, 9}, 1, Span{2, 9}, blank},
		{Span{2, 9}, 2, Span{3, 9}, blank},
		{Span{2, 9}, 3, Span{4, 9}, Span{2, 2}},
		{Span{2, 9}, 8, Span{9, 9}, Span{2, 7}},
		{Span{2, 9}, 9, blank, Span{2, 8}},
		{Span{2, 9}, 10, blank, Span{2, 9}},
		{Span{4, 4}, 4, blank, blank},
		{Span{0, 4}, 0, Span{1, 4}, blank},
		{Span{0, 0}, 0, blank, blank},
		{Span{0, 0}, 1, blank, Span{0, 0}},
		{Span{0, last}, 0, Span{1, last}, blank},
		{Span{0, last}, last, blank, Span{0, last - 1}},
		{Span{3, last}, last, blank, Span{3, last - 1}},
		{Span{3, last}, last - 1, Span{last, last}, Span{3, last - 2}},
		{Span{last, last}, last, blank, blank},
		{Span{last, last}, last - 1, Span{last, last}, blank},
		{Span{1, 0}, 0, blank, blank},
		{Span{1, 0}, 1, blank, blank},
		{Span{9, 2}, 0, blank, blank},
		{Span{9, 2}, 5, blank, blank},
		{Span{9, 2}, last, blank, blank},
		{Span{last, 0}, 0, blank, blank},
		{Span{last, 0}, last, blank, blank},
	} {
		if got := c.s.Above(c.at); got != c.above {
			t.Errorf("P1.1: %v.Above(%v) = %v, want %v", c.s, c.at, got, c.above)
		}
		if got := c.s.Below(c.at); got != c.below {
			t.Errorf("P1.1: %v.Below(%v) = %v, want %v", c.s, c.at, got, c.below)
		}
	}
}

func TestLess(t *testing.T) {
	for _, c := range []struct{ s, o, low, high Span }{
		{Span{2, 9}, Span{4, 5}, Span{2, 3}, Span{6, 9}}, // the chapter's example
		{Span{2, 9}, Span{2, 5}, blank, Span{6, 9}},
		{Span{2, 9}, Span{5, 9}, Span{2, 4}, blank},
		{Span{2, 9}, Span{0, 5}, blank, Span{6, 9}},
		{Span{2, 9}, Span{5, 12}, Span{2, 4}, blank},
		{Span{2, 9}, Span{2, 9}, blank, blank},
		{Span{2, 9}, Span{1, 10}, blank, blank},
		{Span{2, 9}, Span{0, 1}, blank, Span{2, 9}},
		{Span{2, 9}, Span{10, 12}, Span{2, 9}, blank},
		{Span{0, last}, Span{0, last}, blank, blank},
		{Span{0, last}, Span{0, 0}, blank, Span{1, last}},
		{Span{0, last}, Span{last, last}, Span{0, last - 1}, blank},
		{Span{0, last}, Span{1, last - 1}, Span{0, 0}, Span{last, last}},
		{Span{2, 9}, Span{1, 0}, Span{2, 9}, blank},
		{Span{2, 9}, Span{7, 4}, Span{2, 9}, blank},
		{Span{2, 9}, Span{last, 0}, Span{2, 9}, blank},
		{Span{0, last}, Span{last, 0}, Span{0, last}, blank},
		{Span{9, 2}, Span{4, 5}, blank, blank},
		{Span{9, 2}, Span{7, 4}, blank, blank},
		{Span{last, 0}, Span{0, last}, blank, blank},
	} {
		low, high := c.s.Less(c.o)
		if low != c.low || high != c.high {
			t.Errorf("P1.1: %v.Less(%v) = %v, %v, want %v, %v", c.s, c.o, low, high, c.low, c.high)
		}
	}
}

// ends are times at both ends of the range, so that whatever wraps round shows.
var ends = []uint64{0, 1, 2, 3, 4, 1 << 40, last - 4, last - 3, last - 2, last - 1, last}

// pairs returns every span, with and without times, that can be made of ends.
func pairs() []Span {
	var l []Span
	for _, lo := range ends {
		for _, hi := range ends {
			l = append(l, Span{lo, hi})
		}
	}
	return l
}

// checkTimes holds a result against what it is to contain, time by time.
func checkTimes(t *testing.T, what string, got Span, want func(at uint64) bool) {
	t.Helper()
	if got.Lo > got.Hi && got != blank {
		t.Errorf("P1.1: %s: %v has no times, but is not {1, 0}", what, got)
	}
	for _, at := range ends {
		if has := got.Lo <= at && at <= got.Hi; has != want(at) {
			t.Fatalf("P1.1: %s: %v at time %v: %v", what, got, at, has)
		}
	}
}

// TestTimeByTime goes through all calls on all of these spans: P1.1, and P1 (none of them panics).
func TestTimeByTime(t *testing.T) {
	in := func(s Span, at uint64) bool { return s.Lo <= at && at <= s.Hi }
	for _, s := range pairs() {
		for _, at := range ends {
			if s.Has(at) != in(s, at) {
				t.Fatalf("P1.1: %v.Has(%v)", s, at)
			}
			checkTimes(t, "Above", s.Above(at), func(x uint64) bool { return in(s, x) && x > at })
			checkTimes(t, "Below", s.Below(at), func(x uint64) bool { return in(s, x) && x < at })
		}
		for _, o := range pairs() {
			checkTimes(t, "Meet", s.Meet(o), func(x uint64) bool { return in(s, x) && in(o, x) })
			void := o.Lo > o.Hi
			low, high := s.Less(o)
			checkTimes(t, "Less, low", low, func(x uint64) bool { return in(s, x) && (void || x < o.Lo) })
			checkTimes(t, "Less, high", high, func(x uint64) bool { return in(s, x) && !void && x > o.Hi })
		}
	}
}

// TestAgain: P2 with R6: what was called before has no influence on a result.
func TestAgain(t *testing.T) {
	type answers struct {
		empty, has              bool
		meet, above, below      Span
		low, high               Span
		meetBack, lowBack, rest Span
	}
	ask := func(s, o Span) (a answers) {
		a.empty, a.has = s.Empty(), s.Has(o.Lo)
		a.meet, a.above, a.below = s.Meet(o), s.Above(o.Lo), s.Below(o.Hi)
		a.low, a.high = s.Less(o)
		a.meetBack = o.Meet(s)
		a.lowBack, a.rest = o.Less(s)
		return a
	}
	all := pairs()
	var first []answers
	for _, s := range all {
		for _, o := range all {
			first = append(first, ask(s, o))
		}
	}
	for i := len(first) - 1; i >= 0; i-- {
		s, o := all[i/len(all)], all[i%len(all)]
		if ask(s, o) != first[i] {
			t.Fatalf("R6: %v and %v are answered otherwise the second time", s, o)
		}
	}
}
