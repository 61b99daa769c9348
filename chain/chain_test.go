package chain

import (
	"fmt"
	"math"
	"slices"
	"strings"
	"testing"
)

const last = math.MaxUint64

// is returns a version with a value.
func is(at uint64, value string) Version { return Version{At: at, Value: value} }

// gone returns a version without one.
func gone(at uint64) Version { return Version{At: at, Gone: true} }

// show gives a version as text.
func show(v Version) string {
	if v.Gone {
		return fmt.Sprintf("%d gone %q", v.At, v.Value)
	}
	return fmt.Sprintf("%d %q", v.At, v.Value)
}

// list gives a chain as text.
func list(c Chain) string {
	var l []string
	for _, v := range c {
		l = append(l, show(v))
	}
	return "[" + strings.Join(l, ", ") + "]"
}

// ascends tells whether each time of c is above the one before it.
func ascends(c Chain) bool {
	for i := 1; i < len(c); i++ {
		if c[i-1].At >= c[i].At {
			return false
		}
	}
	return true
}

// wantAt holds At against the version that it is to return; nil: there is none.
func wantAt(t *testing.T, c Chain, at uint64, want *Version) {
	t.Helper()
	got, found := c.At(at)
	switch {
	case want == nil && (found || got != Version{}):
		t.Errorf("P8.1: %s.At(%d) = %s, %v, want a zero version, false", list(c), at, show(got), found)
	case want != nil && (!found || got != *want):
		t.Errorf("P8.1: %s.At(%d) = %s, %v, want %s, true", list(c), at, show(got), found, show(*want))
	}
}

// wantPut holds Put against the chain that it is to return.
func wantPut(t *testing.T, c Chain, v Version, want Chain) {
	t.Helper()
	if got := c.Put(v); !slices.Equal(got, want) {
		t.Errorf("P8.1: %s.Put(%s) = %s, want %s", list(c), show(v), list(got), list(want))
	}
}

// wantPurge holds Purge against the chain that it is to return.
func wantPurge(t *testing.T, c Chain, at uint64, want Chain) {
	t.Helper()
	if got := c.Purge(at); !slices.Equal(got, want) {
		t.Errorf("P8.1: %s.Purge(%d) = %s, want %s", list(c), at, list(got), list(want))
	}
}

// TestExample is the chapter's example.
func TestExample(t *testing.T) {
	for _, c := range []Chain{
		{is(1, "a"), is(4, "b"), is(7, "c")},
		{gone(1), is(4, ""), gone(7)},
	} {
		wantPurge(t, c, 5, c[1:])
	}
}

// bare are chains without versions.
func bare() []Chain { return []Chain{nil, {}, make(Chain, 0, 4), (Chain{is(1, "a"), is(2, "b")})[:0]} }

func TestWithoutVersions(t *testing.T) {
	for _, c := range bare() {
		for _, at := range []uint64{0, 1, 5, 1 << 40, last - 1, last} {
			wantAt(t, c, at, nil)
			wantPurge(t, c, at, nil)
			for _, v := range []Version{is(at, "x"), is(at, ""), gone(at)} {
				wantPut(t, c, v, Chain{v})
			}
		}
	}
}

// mixed is a chain with values, an empty one among them, and versions that are Gone, two of them in a row.
func mixed() Chain {
	return Chain{is(2, "a"), gone(3), is(6, ""), is(9, "b"), gone(12), gone(14), is(1<<40, "c")}
}

func TestAt(t *testing.T) {
	c := mixed()
	for _, x := range []struct {
		at uint64
		i  int // the version's index, -1 for none
	}{
		// Ahead of the first version.
		{0, -1}, {1, -1},
		// At each version's time, and between two.
		{2, 0}, {3, 1}, {4, 1}, {5, 1}, {6, 2}, {7, 2}, {8, 2}, {9, 3}, {10, 3}, {11, 3},
		{12, 4}, {13, 4}, {14, 5}, {15, 5}, {1<<40 - 1, 5}, {1 << 40, 6},
		// Behind the last one.
		{1<<40 + 1, 6}, {1 << 63, 6}, {last - 1, 6}, {last, 6},
	} {
		if x.i < 0 {
			wantAt(t, c, x.at, nil)
		} else {
			wantAt(t, c, x.at, &c[x.i])
		}
	}
}

// TestAtOne: chains of one version, at the ends of the times, too.
func TestAtOne(t *testing.T) {
	for _, at := range []uint64{0, 1, 5, 1 << 40, last - 1, last} {
		for _, v := range []Version{is(at, "x"), is(at, ""), gone(at)} {
			c := Chain{v}
			wantAt(t, c, at, &v)
			wantAt(t, c, last, &v)
			if at > 0 {
				wantAt(t, c, at-1, nil)
				wantAt(t, c, 0, nil)
			}
			if at < last {
				wantAt(t, c, at+1, &v)
			}
		}
	}
	both := Chain{gone(0), is(last, "x")}
	wantAt(t, both, 0, &both[0])
	wantAt(t, both, last-1, &both[0])
	wantAt(t, both, last, &both[1])
}

// TestPut puts versions ahead of all, between two and behind all, and in the place of each one.
func TestPut(t *testing.T) {
	a, b, c := is(2, "a"), gone(4), is(7, "c")
	old := Chain{a, b, c}
	for _, v := range []Version{is(0, "x"), is(1, ""), gone(0), gone(1)} {
		wantPut(t, old, v, Chain{v, a, b, c})
	}
	for _, v := range []Version{is(3, "x"), is(3, ""), gone(3)} {
		wantPut(t, old, v, Chain{a, v, b, c})
	}
	for _, v := range []Version{is(5, "x"), is(6, ""), gone(5), gone(6)} {
		wantPut(t, old, v, Chain{a, b, v, c})
	}
	for _, v := range []Version{is(8, "x"), is(last, ""), gone(8), gone(last)} {
		wantPut(t, old, v, Chain{a, b, c, v})
	}
	// A value by a value and by Gone, Gone by a value and by Gone.
	for _, v := range []Version{is(2, "x"), is(2, ""), is(2, "a"), gone(2)} {
		wantPut(t, old, v, Chain{v, b, c})
	}
	for _, v := range []Version{is(4, "x"), is(4, ""), gone(4)} {
		wantPut(t, old, v, Chain{a, v, c})
	}
	for _, v := range []Version{is(7, "x"), is(7, ""), is(7, "c"), gone(7)} {
		wantPut(t, old, v, Chain{a, b, v})
	}
}

// TestPutAtEnds: the least and the greatest time are times like others.
func TestPutAtEnds(t *testing.T) {
	a, z := is(0, "a"), is(last, "z")
	wantPut(t, Chain{a, z}, gone(0), Chain{gone(0), z})
	wantPut(t, Chain{a, z}, gone(last), Chain{a, gone(last)})
	wantPut(t, Chain{a, z}, is(1, "x"), Chain{a, is(1, "x"), z})
	wantPut(t, Chain{a, z}, is(last-1, "x"), Chain{a, is(last-1, "x"), z})
	wantPut(t, Chain{a}, z, Chain{a, z})
	wantPut(t, Chain{z}, a, Chain{a, z})
	wantPut(t, Chain{a}, gone(0), Chain{gone(0)})
	wantPut(t, Chain{gone(last)}, z, Chain{z})
}

// orders calls do with l in each order.
func orders(l []Version, do func(l []Version)) {
	var place func(n int)
	place = func(n int) {
		if n == len(l) {
			do(l)
			return
		}
		for i := n; i < len(l); i++ {
			l[n], l[i] = l[i], l[n]
			place(n + 1)
			l[n], l[i] = l[i], l[n]
		}
	}
	place(0)
}

// TestPutInAnyOrder: the same versions make the same chain, in whatever order they come.
func TestPutInAnyOrder(t *testing.T) {
	want := Chain{gone(0), is(1, "a"), is(2, ""), gone(9), is(1<<40, "b"), is(last, "c")}
	orders(slices.Clone(want), func(l []Version) {
		var c Chain
		for _, v := range l {
			c = c.Put(v)
			if !ascends(c) {
				t.Fatalf("P8.1: behind Put(%s) of %s: %s, whose times do not ascend", show(v), list(l), list(c))
			}
		}
		if !slices.Equal(c, want) {
			t.Fatalf("P8.1: Puts of %s = %s, want %s", list(l), list(c), list(want))
		}
		for _, v := range l {
			wantPut(t, c, v, want)
		}
	})
}

// TestPutOften: of several versions with a time the one that was put last stays, whatever was put between them.
func TestPutOften(t *testing.T) {
	for _, l := range [][]Version{
		{is(4, "a"), gone(4)},
		{gone(4), is(4, "a")},
		{is(4, "a"), is(4, "b"), is(4, "")},
		{gone(4), is(4, ""), gone(4), is(4, "c")},
		{is(0, "a"), gone(0), is(last, "b"), gone(last), is(0, "c")},
		{is(4, "a"), is(2, "b"), gone(4), gone(2), is(3, "c"), is(4, "d"), is(3, "")},
	} {
		var c Chain
		newest := map[uint64]Version{}
		for _, v := range l {
			c = c.Put(v)
			newest[v.At] = v
			if len(c) != len(newest) || !ascends(c) {
				t.Errorf("P8.1: Puts of %s, up to %s = %s, want ascending times, %d of them", list(l), show(v), list(c), len(newest))
			}
			for _, got := range c {
				if got != newest[got.At] {
					t.Errorf("P8.1: Puts of %s, up to %s = %s, want %s in it", list(l), show(v), list(c), show(newest[got.At]))
				}
			}
		}
	}
}

func TestPurge(t *testing.T) {
	c := mixed()
	for _, x := range []struct {
		at   uint64
		stay int // from this index on
	}{
		// Ahead of all versions: nothing is removed.
		{0, 0}, {1, 0},
		// At a version's time, and between two; the last one up to the time stays, unless it is Gone.
		{2, 0}, {3, 2}, {4, 2}, {5, 2}, {6, 2}, {7, 2}, {8, 2}, {9, 3}, {10, 3}, {11, 3},
		{12, 5}, {13, 5}, {14, 6}, {15, 6}, {1<<40 - 1, 6}, {1 << 40, 6},
		// Behind all.
		{1<<40 + 1, 6}, {last - 1, 6}, {last, 6},
	} {
		wantPurge(t, c, x.at, c[x.stay:])
	}
}

// TestPurgeOne: a chain of one version stays, unless that is Gone and up to the time.
func TestPurgeOne(t *testing.T) {
	for _, at := range []uint64{0, 1, 5, 1 << 40, last - 1, last} {
		for _, x := range []uint64{0, 1, 4, 5, 6, 1<<40 - 1, 1 << 40, 1<<40 + 1, last - 1, last} {
			for _, v := range []Version{is(at, "x"), is(at, "")} {
				wantPurge(t, Chain{v}, x, Chain{v})
			}
			if x < at {
				wantPurge(t, Chain{gone(at)}, x, Chain{gone(at)})
			} else {
				wantPurge(t, Chain{gone(at)}, x, nil)
			}
		}
	}
}

// TestPurgeToNothing: a chain becomes empty if its last version is Gone and up to the time, and only then.
func TestPurgeToNothing(t *testing.T) {
	wantPurge(t, Chain{is(1, "a"), gone(4)}, 4, nil)
	wantPurge(t, Chain{is(1, "a"), gone(4)}, last, nil)
	wantPurge(t, Chain{is(1, "a"), gone(4)}, 3, Chain{is(1, "a"), gone(4)})
	wantPurge(t, Chain{is(1, "a"), is(2, "b"), is(3, ""), gone(4)}, 5, nil)
	wantPurge(t, Chain{gone(1), gone(2), gone(3)}, 3, nil)
	wantPurge(t, Chain{gone(1), gone(2), gone(3)}, 2, Chain{gone(3)})
	wantPurge(t, Chain{gone(0), is(1, "a"), gone(last)}, last, nil)
	wantPurge(t, Chain{gone(0), is(1, "a"), gone(last)}, last-1, Chain{is(1, "a"), gone(last)})
	wantPurge(t, Chain{gone(0), is(1, "a"), gone(last)}, 0, Chain{is(1, "a"), gone(last)})
	wantPurge(t, Chain{gone(1), is(4, "a")}, last, Chain{is(4, "a")})
	wantPurge(t, Chain{gone(1), is(4, "")}, last, Chain{is(4, "")})
}

// TestWholeVersions: a version is found as it was put, whatever its value is, also if it is Gone and has one.
func TestWholeVersions(t *testing.T) {
	values := []string{"", "a", "-", "\x00", "\xff\xfe", "gone", "ä€", strings.Repeat("x", 200), strings.Repeat("long", 1000)}
	var c Chain
	for i, value := range values {
		c = c.Put(is(uint64(2*i), value))
		c = c.Put(Version{At: uint64(2*i + 1), Value: value, Gone: true})
	}
	for i, value := range values {
		plain, removed := is(uint64(2*i), value), Version{At: uint64(2*i + 1), Value: value, Gone: true}
		wantAt(t, c, plain.At, &plain)
		wantAt(t, c, removed.At, &removed)
		wantPurge(t, c, plain.At, c[2*i:])
		wantPurge(t, c, removed.At, c[2*i+2:])
	}
}

// times are few times, the ends of the range among them, of which the chains of TestAllChains have some.
func times() []uint64 { return []uint64{0, 1, 4, last - 1, last} }

// allChains calls do with each chain of these times, with a value, an empty one, and Gone at each of them.
func allChains(do func(c Chain)) {
	var add func(c Chain, rest []uint64)
	add = func(c Chain, rest []uint64) {
		if len(rest) == 0 {
			do(c)
			return
		}
		at := rest[0]
		add(c, rest[1:])
		for _, v := range []Version{is(at, fmt.Sprint(at)), is(at, ""), gone(at)} {
			add(append(slices.Clone(c), v), rest[1:])
		}
	}
	add(nil, times())
}

// asked are the times at which the chains of allChains are asked: theirs, and between them.
func asked() []uint64 { return []uint64{0, 1, 2, 3, 4, 5, 1 << 40, last - 2, last - 1, last} }

// plainAt is At by the chapter's words, version by version.
func plainAt(c Chain, t uint64) *Version {
	var got *Version
	for i := range c {
		if c[i].At <= t {
			got = &c[i]
		}
	}
	return got
}

// plainPut is Put by the chapter's words: all the versions with another time, and v.
func plainPut(c Chain, v Version) Chain {
	var below, above Chain
	for _, x := range c {
		if x.At < v.At {
			below = append(below, x)
		}
		if x.At > v.At {
			above = append(above, x)
		}
	}
	return append(append(below, v), above...)
}

// plainPurge is Purge by the chapter's words: all the versions but those before the last one up to t, and that one, if it is Gone.
func plainPurge(c Chain, t uint64) Chain {
	end := plainAt(c, t)
	var out Chain
	for _, x := range c {
		if end == nil || x.At > end.At || x.At == end.At && !x.Gone {
			out = append(out, x)
		}
	}
	return out
}

// value tells what a chain says of a time: the value, and whether there is one.
func value(c Chain, t uint64) (string, bool) {
	v, found := c.At(t)
	if !found || v.Gone {
		return "", false
	}
	return v.Value, true
}

// TestAllChains holds every call on every chain of few times against the chapter's words.
func TestAllChains(t *testing.T) {
	allChains(func(c Chain) {
		for _, at := range asked() {
			wantAt(t, c, at, plainAt(c, at))
			wantPurge(t, c, at, plainPurge(c, at))
			for _, v := range []Version{is(at, "new"), is(at, ""), gone(at)} {
				wantPut(t, c, v, plainPut(c, v))
			}
		}
	})
}

// TestPurgeKeepsValues: from the purged time on there is the same value, or none, before and after, and whatever is put there later.
func TestPurgeKeepsValues(t *testing.T) {
	same := func(before, after Chain, purged uint64) {
		t.Helper()
		for _, at := range asked() {
			if at < purged {
				continue
			}
			old, had := value(before, at)
			now, has := value(after, at)
			if old != now || had != has {
				t.Fatalf("P8.1: %s, purged at %d, is %s: at %d there is %q, %v, want %q, %v", list(before), purged, list(after), at, now, has, old, had)
			}
		}
	}
	allChains(func(c Chain) {
		for _, purged := range asked() {
			p := c.Purge(purged)
			same(c, p, purged)
			for _, at := range asked() {
				if at <= purged {
					continue
				}
				same(c.Put(is(at, "new")), p.Put(is(at, "new")), purged)
				same(c.Put(gone(at)), p.Put(gone(at)), purged)
			}
		}
	})
}

// TestPurgeAgain: what was purged at a time has nothing to remove at that time, and at a later one is as if it had not been purged.
func TestPurgeAgain(t *testing.T) {
	allChains(func(c Chain) {
		for i, first := range asked() {
			p := c.Purge(first)
			if !ascends(p) {
				t.Fatalf("P8.1: %s.Purge(%d) = %s, whose times do not ascend", list(c), first, list(p))
			}
			wantPurge(t, p, first, p)
			for _, second := range asked()[i:] {
				wantPurge(t, p, second, c.Purge(second))
			}
		}
	})
}

// TestLong: chains of many versions, made from the front, from the back, and to and fro.
func TestLong(t *testing.T) {
	for _, n := range []int{10, 64, 65, 500} {
		want := make(Chain, n)
		for i := range want {
			want[i] = is(uint64(3*i+3), fmt.Sprint(i))
			if i%4 == 3 {
				want[i] = gone(uint64(3*i + 3))
			}
		}
		var front, back, across Chain
		for i := range want {
			front = front.Put(want[i])
			back = back.Put(want[n-1-i])
			across = across.Put(want[i*7%n]) // 7 has no factor in common with any n, so that every i is met
		}
		for what, c := range map[string]Chain{"front": front, "back": back, "across": across} {
			if !slices.Equal(c, want) {
				t.Fatalf("P8.1: %d versions put from the %s: %s", n, what, list(c))
			}
		}
		for i := range uint64(3*n + 5) {
			wantAt(t, want, i, plainAt(want, i))
			wantPurge(t, want, i, plainPurge(want, i))
			wantPut(t, want, is(i, "new"), plainPut(want, is(i, "new")))
			wantPut(t, want, gone(i), plainPut(want, gone(i)))
		}
	}
}

// mark fills what a call must neither read nor write.
func mark() Version { return Version{At: 5, Value: "mark", Gone: true} }

// fence returns c as the beginning of a longer list, whose rest consists of marks, and that list.
func fence(c Chain) (given, whole Chain) {
	whole = slices.Repeat(Chain{mark()}, len(c)+4)
	copy(whole, c)
	return whole[:len(c)], whole
}

// overwrite fills c and its spare capacity with marks.
func overwrite(c Chain) {
	c = c[:cap(c)]
	for i := range c {
		c[i] = mark()
	}
}

// change is a call that answers a chain.
type change struct {
	name string
	do   func(c Chain) Chain
}

// changes are calls of Put and Purge at all the times that are asked.
func changes() []change {
	var l []change
	for _, at := range asked() {
		l = append(l,
			change{fmt.Sprintf("Put(%d x)", at), func(c Chain) Chain { return c.Put(is(at, "x")) }},
			change{fmt.Sprintf("Put(%d gone)", at), func(c Chain) Chain { return c.Put(gone(at)) }},
			change{fmt.Sprintf("Purge(%d)", at), func(c Chain) Chain { return c.Purge(at) }})
	}
	return l
}

// TestMemory (R5, R6): the chain that is asked stays as it is, with what lies behind it; each answer is memory of its own.
func TestMemory(t *testing.T) {
	allChains(func(c Chain) {
		for _, x := range changes() {
			given, whole := fence(c)
			before := slices.Clone(whole)
			first := x.do(given)
			want := slices.Clone(first)
			second := x.do(given)
			if !slices.Equal(second, want) {
				t.Fatalf("R6: %s.%s = %s, then %s", list(c), x.name, list(want), list(second))
			}
			if !slices.Equal(whole, before) {
				t.Fatalf("R5: %s of %s modified it, or what lies behind it", x.name, list(c))
			}
			overwrite(first)
			if !slices.Equal(whole, before) || !slices.Equal(second, want) {
				t.Fatalf("R5: %s of %s: what it returned lies in the chain, or in another answer", x.name, list(c))
			}
			overwrite(whole)
			if !slices.Equal(second, want) {
				t.Fatalf("R5: %s of %s lies in the chain", x.name, list(c))
			}
		}
	})
}

// TestAppend (R5): neither the chain nor the answer changes when something is appended to the other one.
func TestAppend(t *testing.T) {
	allChains(func(c Chain) {
		for _, x := range changes() {
			given, whole := fence(c)
			before := slices.Clone(whole)
			out := x.do(given)
			want := slices.Clone(out)
			more := append(out, is(7, "y"))
			_ = append(given, is(8, "z"))
			before[len(given)] = is(8, "z")
			if !slices.Equal(whole, before) {
				t.Fatalf("R5: %s of %s: appended to the answer, and the chain is %s", x.name, list(c), list(whole))
			}
			if !slices.Equal(out, want) || !slices.Equal(more, append(want, is(7, "y"))) {
				t.Fatalf("R5: %s of %s: appended to the chain, and the answer is %s", x.name, list(c), list(more))
			}
		}
	})
}

// TestAtChangesNothing (R5, R6): At leaves the chain as it is, with what lies behind it, and answers the same again.
func TestAtChangesNothing(t *testing.T) {
	allChains(func(c Chain) {
		for _, at := range asked() {
			given, whole := fence(c)
			before := slices.Clone(whole)
			v, found := given.At(at)
			again, still := given.At(at)
			if v != again || found != still {
				t.Fatalf("R6: %s.At(%d) = %s, %v, then %s, %v", list(c), at, show(v), found, show(again), still)
			}
			if !slices.Equal(whole, before) {
				t.Fatalf("R5: At(%d) of %s modified it, or what lies behind it", at, list(c))
			}
		}
	})
}

// TestNoChains: nothing is promised for lists whose times do not ascend, except that a call ends without a panic.
func TestNoChains(t *testing.T) {
	for _, c := range []Chain{
		{is(2, "a"), is(1, "b")},
		{is(1, "a"), is(1, "b")},
		{gone(1), gone(1), gone(1)},
		{is(last, "a"), is(0, "b"), gone(last), gone(0)},
		{is(9, ""), gone(7), is(8, "c"), is(1, "d"), gone(2)},
	} {
		for _, at := range asked() {
			c.At(at)
			c.Put(is(at, "x"))
			c.Put(gone(at))
			c.Purge(at)
		}
	}
}
