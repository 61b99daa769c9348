package store

import (
	"fmt"
	"iter"
	"maps"
	"math"
	"slices"
	"strings"
	"testing"

	"selion/chain"
)

const last = math.MaxUint64

// is returns a version with a value.
func is(at uint64, value string) chain.Version { return chain.Version{At: at, Value: value} }

// gone returns a version without one.
func gone(at uint64) chain.Version { return chain.Version{At: at, Gone: true} }

// pair is a key with its versions, as an iteration yields them.
type pair struct {
	key      string
	versions chain.Chain
}

// has returns a pair.
func has(key string, c ...chain.Version) pair { return pair{key, c} }

// show gives a version as text.
func show(v chain.Version) string {
	if v.Gone {
		return fmt.Sprintf("%d gone %q", v.At, v.Value)
	}
	return fmt.Sprintf("%d %q", v.At, v.Value)
}

// list gives pairs as text.
func list(l []pair) string {
	var out []string
	for _, p := range l {
		var c []string
		for _, v := range p.versions {
			c = append(c, show(v))
		}
		out = append(out, fmt.Sprintf("%q: [%s]", p.key, strings.Join(c, ", ")))
	}
	return "{" + strings.Join(out, "; ") + "}"
}

// same tells whether two lists have the same keys with the same versions.
func same(a, b []pair) bool {
	return slices.EqualFunc(a, b, func(p, q pair) bool { return p.key == q.key && slices.Equal(p.versions, q.versions) })
}

// yielded returns what an iteration yields, just as it yields it: not copied.
func yielded(it iter.Seq2[string, chain.Chain]) []pair {
	var l []pair
	for key, c := range it {
		l = append(l, pair{key, c})
	}
	return l
}

// copied returns pairs in memory of their own.
func copied(l []pair) []pair {
	var out []pair
	for _, p := range l {
		out = append(out, pair{p.key, slices.Clone(p.versions)})
	}
	return out
}

// model is a store by the chapter's words: a chain for each key.
type model map[string]chain.Chain

func (m model) put(key string, v chain.Version) { m[key] = m[key].Put(v) }

func (m model) purge(t uint64) int {
	removed := 0
	for key, c := range m {
		p := c.Purge(t)
		removed += len(c) - len(p)
		m[key] = p
	}
	maps.DeleteFunc(m, func(_ string, c chain.Chain) bool { return len(c) == 0 })
	return removed
}

func (m model) all() []pair {
	var l []pair
	for _, key := range slices.Sorted(maps.Keys(m)) {
		l = append(l, pair{key, m[key]})
	}
	return l
}

func (m model) rows(from, to string) []pair {
	return slices.DeleteFunc(m.all(), func(p pair) bool { return p.key < from || p.key > to })
}

// made returns a store with these pairs, and its model.
func made(l ...pair) (*Store, model) {
	s, m := New(), model{}
	for _, p := range l {
		for _, v := range p.versions {
			s.Put(p.key, v)
			m.put(p.key, v)
		}
	}
	return s, m
}

// wantAll holds All against what it is to yield.
func wantAll(t *testing.T, when string, s *Store, want ...pair) {
	t.Helper()
	if got := yielded(s.All()); !same(got, want) {
		t.Fatalf("P9.1: %s: All() yields %s, want %s", when, list(got), list(want))
	}
}

// wantRows holds Rows against what it is to yield.
func wantRows(t *testing.T, when string, s *Store, from, to string, want ...pair) {
	t.Helper()
	if got := yielded(s.Rows(from, to)); !same(got, want) {
		t.Fatalf("P9.1: %s: Rows(%q, %q) yields %s, want %s", when, from, to, list(got), list(want))
	}
}

// wantAt holds At against the version that it is to return; nil: there is none.
func wantAt(t *testing.T, when string, s *Store, key string, at uint64, want *chain.Version) {
	t.Helper()
	got, found := s.At(key, at)
	switch {
	case want == nil && (found || got != chain.Version{}):
		t.Fatalf("P9.1: %s: At(%q, %d) = %s, %v, want a zero version, false", when, key, at, show(got), found)
	case want != nil && (!found || got != *want):
		t.Fatalf("P9.1: %s: At(%q, %d) = %s, %v, want %s, true", when, key, at, show(got), found, show(*want))
	}
}

// wantPurge holds Purge against the number of versions that it is to remove.
func wantPurge(t *testing.T, when string, s *Store, at uint64, want int) {
	t.Helper()
	if got := s.Purge(at); got != want {
		t.Fatalf("P9.1: %s: Purge(%d) = %d, want %d", when, at, got, want)
	}
}

// times are those at which stores are asked.
func times() []uint64 { return []uint64{0, 1, 2, 3, 4, 5, 1 << 40, last - 1, last} }

// check holds all that a store says of these keys against its model.
func check(t *testing.T, when string, s *Store, m model, keys []string) {
	t.Helper()
	wantAll(t, when, s, m.all()...)
	for _, key := range keys {
		for _, at := range times() {
			if v, found := m[key].At(at); found {
				wantAt(t, when, s, key, at, &v)
			} else {
				wantAt(t, when, s, key, at, nil)
			}
		}
		for _, to := range keys {
			wantRows(t, when, s, key, to, m.rows(key, to)...)
		}
	}
}

// TestExample is the chapter's example, whatever the store has.
func TestExample(t *testing.T) {
	for _, keys := range [][]string{{}, {"a"}, {"b"}, {"a", "b"}, {"", "a", "ab", "b", "c"}, {"0", "z"}, {"ab"}} {
		s := New()
		for _, key := range keys {
			s.Put(key, is(1, "x"))
		}
		wantRows(t, fmt.Sprintf("keys %q", keys), s, "b", "a")
	}
}

func TestNew(t *testing.T) {
	keys := []string{"", "\x00", "a", "b", "\xff", strings.Repeat("long", 1000)}
	s := New()
	check(t, "a new store", s, model{}, keys)
	for _, at := range times() {
		wantPurge(t, "a new store", s, at, 0)
	}
	check(t, "a new store, purged", s, model{}, keys)
	s.Put("a", is(1, "x"))
	wantAll(t, "one Put", s, has("a", is(1, "x")))
}

// mixed is a chain with values, an empty one among them, and versions that are Gone, two of them in a row.
func mixed() []chain.Version {
	return []chain.Version{is(2, "a"), gone(3), is(6, ""), is(9, "b"), gone(12), gone(14), is(1<<40, "c")}
}

func TestAt(t *testing.T) {
	c := mixed()
	s, _ := made(has("a", is(0, "other")), has("k", c...), has("z", gone(5)))
	for _, x := range []struct {
		at uint64
		i  int // the version's index, -1 for none
	}{
		// Ahead of the first version.
		{0, -1}, {1, -1},
		// At each version's time, and between two.
		{2, 0}, {3, 1}, {4, 1}, {5, 1}, {6, 2}, {7, 2}, {8, 2}, {9, 3}, {10, 3}, {11, 3},
		{12, 4}, {13, 4}, {14, 5}, {15, 5}, {1<<40 - 1, 5}, {1 << 40, 6},
		// Behind the last one.
		{1<<40 + 1, 6}, {1 << 63, 6}, {last - 1, 6}, {last, 6},
	} {
		if x.i < 0 {
			wantAt(t, "mixed", s, "k", x.at, nil)
		} else {
			wantAt(t, "mixed", s, "k", x.at, &c[x.i])
		}
		for _, key := range []string{"", "\x00", "b", "j", "k\x00", "kk", "K", "l", "zz", "\xff"} {
			wantAt(t, "no such key", s, key, x.at, nil)
		}
	}
}

// TestAtEnds: the least and the greatest time are times like others.
func TestAtEnds(t *testing.T) {
	first, end := gone(0), is(last, "x")
	s, _ := made(has("both", first, end), has("first", first), has("end", end))
	for _, x := range []struct {
		key  string
		at   uint64
		want *chain.Version
	}{
		{"both", 0, &first}, {"both", 1, &first}, {"both", last - 1, &first}, {"both", last, &end},
		{"first", 0, &first}, {"first", last, &first},
		{"end", 0, nil}, {"end", last - 1, nil}, {"end", last, &end},
		{"fir", 0, nil}, {"fir", last, nil}, {"firsts", 0, nil}, {"firsts", last, nil},
	} {
		wantAt(t, "ends", s, x.key, x.at, x.want)
	}
}

// TestPutKey puts a new key ahead of all keys, between two, and behind all.
func TestPutKey(t *testing.T) {
	b, d, f := has("b", is(1, "x")), has("d", gone(2)), has("f", is(3, ""))
	for _, x := range []struct {
		add  pair
		want []pair
	}{
		{has("", is(9, "n")), []pair{has("", is(9, "n")), b, d, f}},
		{has("a", gone(0)), []pair{has("a", gone(0)), b, d, f}},
		{has("c", is(0, "")), []pair{b, has("c", is(0, "")), d, f}},
		{has("d\x00", gone(last)), []pair{b, d, has("d\x00", gone(last)), f}},
		{has("e", is(last, "n")), []pair{b, d, has("e", is(last, "n")), f}},
		{has("fa", is(3, "")), []pair{b, d, f, has("fa", is(3, ""))}},
		{has("\xff", gone(2)), []pair{b, d, f, has("\xff", gone(2))}},
	} {
		s, _ := made(b, d, f)
		s.Put(x.add.key, x.add.versions[0])
		wantAll(t, "Put of "+list([]pair{x.add}), s, x.want...)
		wantAt(t, "Put of "+list([]pair{x.add}), s, x.add.key, last, &x.add.versions[0])
	}
}

// TestPutVersion puts a version of a key that is there: ahead of the others, between two, behind all, and in the place of each one.
func TestPutVersion(t *testing.T) {
	a, b := is(2, "a"), gone(5)
	low, high := has("j", a, b), has("l", a, b)
	for _, x := range []struct {
		v    chain.Version
		want []chain.Version
	}{
		{is(0, "x"), []chain.Version{is(0, "x"), a, b}},
		{gone(1), []chain.Version{gone(1), a, b}},
		{is(3, ""), []chain.Version{a, is(3, ""), b}},
		{gone(4), []chain.Version{a, gone(4), b}},
		{is(6, "x"), []chain.Version{a, b, is(6, "x")}},
		{gone(last), []chain.Version{a, b, gone(last)}},
		{is(2, "x"), []chain.Version{is(2, "x"), b}},
		{is(2, ""), []chain.Version{is(2, ""), b}},
		{gone(2), []chain.Version{gone(2), b}},
		{is(5, "x"), []chain.Version{a, is(5, "x")}},
		{gone(5), []chain.Version{a, gone(5)}},
	} {
		s, _ := made(low, has("k", a, b), high)
		for range 2 {
			s.Put("k", x.v)
			wantAll(t, "Put of "+show(x.v), s, low, has("k", x.want...), high)
		}
		wantAt(t, "Put of "+show(x.v), s, "k", x.v.At, &x.v)
	}
}

// TestWholeVersions: a version is found as it was put, whatever its value is, also if it is Gone and has one.
func TestWholeVersions(t *testing.T) {
	s, m := New(), model{}
	var keys []string
	for i, value := range []string{"", "a", "-", "\x00", "\xff\xfe", "ä€", strings.Repeat("x", 200), strings.Repeat("long", 1000)} {
		key := fmt.Sprint(i)
		keys = append(keys, key)
		for _, v := range []chain.Version{is(1, value), {At: 3, Value: value, Gone: true}, is(1<<40, value+value)} {
			s.Put(key, v)
			m.put(key, v)
		}
	}
	check(t, "values", s, m, keys)
}

// strange are keys in ascending order: the empty one, bytes of every kind, and keys that begin with another one.
func strange() []string {
	return []string{"", "\x00", "\x00\x00", "\x00\xff", "\x01", " ", "0", "00", "1", "10", "9", "A", "Z", "a", "a\x00", "a ", "aa", "aaa", "ab", "b", "z", "\x7f",
		"\x80", "\xc3", "\xc3\xa4", "\xe2\x82\xac", "\xef\xbf\xbd", "\xf0\x90\x80\x80", "\xfe\xff", "\xff", "\xff\x00", "\xff\xff", "\xff\xff\xff"}
}

// TestStrangeKeys: keys are ordered byte by byte, whatever their bytes are, and in whatever order they come.
func TestStrangeKeys(t *testing.T) {
	keys := strange()
	n := len(keys)
	var want []pair
	for i, key := range keys {
		want = append(want, has(key, is(uint64(i), key), gone(100)))
	}
	for what, place := range map[string]func(i int) int{
		"from the front": func(i int) int { return i },
		"from the back":  func(i int) int { return n - 1 - i },
		"to and fro":     func(i int) int { return i * 5 % n }, // n has no factor 5, so that every key comes
	} {
		s, m := New(), model{}
		for i := range n {
			p := want[place(i)]
			for _, v := range p.versions {
				s.Put(p.key, v)
				m.put(p.key, v)
			}
		}
		wantAll(t, what, s, want...)
		check(t, what, s, m, keys)
	}
}

// TestEveryByte: two keys are one only if all their bytes are the same.
func TestEveryByte(t *testing.T) {
	s := New()
	var want []pair
	for i := range 256 {
		one, two := string([]byte{byte(i)}), string([]byte{byte(i), byte(255 - i)})
		want = append(want, has(one, is(uint64(i), one)), has(two, gone(uint64(i))))
	}
	for i := range want {
		p := want[i*7%len(want)]
		s.Put(p.key, p.versions[0])
	}
	wantAll(t, "every byte", s, want...)
	for i, p := range want {
		wantRows(t, "every byte", s, p.key, p.key, p)
		wantRows(t, "every byte", s, p.key, "\xff\xff\xff", want[i:]...)
		wantRows(t, "every byte", s, "", p.key, want[:i+1]...)
		wantAt(t, "every byte", s, p.key, last, &p.versions[0])
	}
}

// entry is a Put.
type entry struct {
	key string
	v   chain.Version
}

// order returns l in one of its orders, a number for each.
func order(l []entry, number int) []entry {
	var out []entry
	rest := slices.Clone(l)
	for len(rest) > 0 {
		i := number % len(rest)
		number /= len(rest)
		out = append(out, rest[i])
		rest = slices.Delete(rest, i, i+1)
	}
	return out
}

// TestAnyOrder: the same keys and versions make the same store, in whatever order they come, and putting them again changes nothing.
func TestAnyOrder(t *testing.T) {
	want := []pair{has("", is(1, "x")), has("a", is(0, ""), gone(4), is(last, "y")), has("a\x00", gone(3)), has("b", gone(0), is(9, "z"))}
	var all []entry
	for _, p := range want {
		for _, v := range p.versions {
			all = append(all, entry{p.key, v})
		}
	}
	const orders = 1 * 2 * 3 * 4 * 5 * 6 * 7 // of all seven
	for number := range orders {
		s := New()
		for range 2 {
			for _, x := range order(all, number) {
				s.Put(x.key, x.v)
			}
			wantAll(t, fmt.Sprintf("Puts in order %d", number), s, want...)
		}
	}
}

func TestRows(t *testing.T) {
	b, d, dd, f := has("b", is(1, "x")), has("d", gone(2), is(3, "")), has("dd", is(4, "y")), has("f", gone(9))
	s, _ := made(f, dd, d, b)
	for _, x := range []struct {
		from, to string
		want     []pair
	}{
		// Both there, inclusive.
		{"b", "f", []pair{b, d, dd, f}}, {"b", "dd", []pair{b, d, dd}}, {"d", "dd", []pair{d, dd}}, {"dd", "f", []pair{dd, f}},
		// One of them there, or none.
		{"b", "c", []pair{b}}, {"b", "e", []pair{b, d, dd}}, {"a", "b", []pair{b}}, {"c", "d", []pair{d}}, {"d\x00", "f", []pair{dd, f}},
		{"a", "g", []pair{b, d, dd, f}}, {"", "\xff", []pair{b, d, dd, f}}, {"c", "e", []pair{d, dd}}, {"b\x00", "d\xff", []pair{d, dd}},
		{"b\x00", "c\xff", nil}, {"d\x00", "dc\xff", nil}, {"e", "ez", nil},
		// The same key twice.
		{"b", "b", []pair{b}}, {"d", "d", []pair{d}}, {"dd", "dd", []pair{dd}}, {"f", "f", []pair{f}},
		{"", "", nil}, {"a", "a", nil}, {"c", "c", nil}, {"d\x00", "d\x00", nil}, {"g", "g", nil},
		// From above to.
		{"f", "b", nil}, {"d", "b", nil}, {"dd", "d", nil}, {"e", "c", nil}, {"g", "a", nil}, {"\xff", "", nil}, {"b", "a", nil}, {"g", "f", nil}, {"d\x00", "d", nil},
		// Ahead of all, behind all.
		{"", "a", nil}, {"", "a\xff", nil}, {"", "b", []pair{b}}, {"f\x00", "z", nil}, {"g", "\xff", nil}, {"f", "z", []pair{f}},
	} {
		wantRows(t, "four keys", s, x.from, x.to, x.want...)
	}
	wantAll(t, "four keys", s, b, d, dd, f)
}

// TestEmptyKey: the empty key is a key like others.
func TestEmptyKey(t *testing.T) {
	e, a := has("", is(1, "x"), gone(2)), has("a", is(1, "y"))
	s, m := made(a, e)
	wantRows(t, "the empty key", s, "", "", e)
	wantRows(t, "the empty key", s, "", "a", e, a)
	wantRows(t, "the empty key", s, "\x00", "a", a)
	wantRows(t, "the empty key", s, "a", "")
	check(t, "the empty key", s, m, []string{"", "\x00", "a"})
	wantPurge(t, "the empty key", s, 2, 2)
	wantAt(t, "the empty key, purged", s, "", last, nil)
	wantAll(t, "the empty key, purged", s, a)
}

// iteration is an iteration with what it is to yield.
type iteration struct {
	it   iter.Seq2[string, chain.Chain]
	want []pair
}

// iterations are those over a store's rows: all of them, and some.
func iterations(s *Store, m model) map[string]iteration {
	out := map[string]iteration{"All()": {s.All(), m.all()}}
	for _, from := range []string{"", "b", "c", "g"} {
		for _, to := range []string{"a", "b", "e", "\xff"} {
			out[fmt.Sprintf("Rows(%q, %q)", from, to)] = iteration{s.Rows(from, to), m.rows(from, to)}
		}
	}
	return out
}

// five returns a store of five keys, and its model.
func five() (*Store, model) {
	return made(has("a", is(1, "x"), gone(2)), has("b", is(0, "")), has("c", gone(3), is(4, "y"), is(5, "z")), has("d", is(2, "v")), has("f", gone(last)))
}

// TestStop stops iterations at each of their rows; they yield nothing any more then, and everything when they are repeated.
func TestStop(t *testing.T) {
	s, m := five()
	for name, x := range iterations(s, m) {
		for n := 1; n <= len(x.want); n++ {
			var got []pair
			for key, c := range x.it {
				got = append(got, pair{key, c})
				if len(got) == n {
					break
				}
			}
			if !same(got, x.want[:n]) {
				t.Errorf("P9.1: %s, stopped at row %d, yields %s, want %s", name, n, list(got), list(x.want[:n]))
			}
			calls := 0
			x.it(func(string, chain.Chain) bool {
				calls++
				return calls < n
			})
			if calls != n {
				t.Errorf("P9.1: %s goes on to row %d when it is stopped at row %d", name, calls, n)
			}
			if got := yielded(x.it); !same(got, x.want) {
				t.Errorf("P9.1: %s, stopped at row %d and repeated, yields %s, want %s", name, n, list(got), list(x.want))
			}
		}
	}
	check(t, "iterations stopped", s, m, slices.Sorted(maps.Keys(m)))
}

// TestRepeat runs iterations several times.
func TestRepeat(t *testing.T) {
	s, m := five()
	for name, x := range iterations(s, m) {
		for i := range 3 {
			if got := yielded(x.it); !same(got, x.want) {
				t.Errorf("P9.1: %s yields %s the time %d, want %s", name, list(got), i+1, list(x.want))
			}
		}
	}
}

// TestWithin begins each iteration at each row of each other one, and each one within itself, stopped early and whole.
func TestWithin(t *testing.T) {
	s, m := five()
	for outer, x := range iterations(s, m) {
		within := iterations(s, m)
		within["itself"] = x
		for inner, y := range within {
			var got []pair
			for key, c := range x.it {
				got = append(got, pair{key, c})
				for range y.it {
					break
				}
				if l := yielded(y.it); !same(l, y.want) {
					t.Errorf("P9.1: %s within %s yields %s, want %s", inner, outer, list(l), list(y.want))
				}
			}
			if !same(got, x.want) {
				t.Errorf("P9.1: %s, with %s within it, yields %s, want %s", outer, inner, list(got), list(x.want))
			}
		}
	}
}

// several are pairs for TestPurge.
func several() []pair {
	return []pair{
		has("a", is(2, "a"), gone(5), is(8, "b")),
		has("b", gone(3)),
		has("c", is(4, "c")),
		has("d", is(6, "d"), gone(7)),
	}
}

func TestPurge(t *testing.T) {
	l := several()
	a, b, c, d, later := l[0], l[1], l[2], l[3], has("a", is(8, "b"))
	for _, x := range []struct {
		at      uint64
		removed int
		want    []pair
	}{
		// Ahead of all versions.
		{0, 0, l}, {1, 0, l},
		// At each version's time, and between two.
		{2, 0, l}, {3, 1, []pair{a, c, d}}, {4, 1, []pair{a, c, d}},
		{5, 3, []pair{later, c, d}}, {6, 3, []pair{later, c, d}},
		{7, 5, []pair{later, c}}, {8, 5, []pair{later, c}},
		// Behind all.
		{9, 5, []pair{later, c}}, {1 << 40, 5, []pair{later, c}}, {last, 5, []pair{later, c}},
	} {
		s, _ := made(l...)
		when := fmt.Sprintf("purged at %d", x.at)
		wantPurge(t, when, s, x.at, x.removed)
		wantAll(t, when, s, x.want...)
		wantRows(t, when, s, "a", "d", x.want...)
		left := model{}
		for _, p := range x.want {
			left[p.key] = p.versions
		}
		check(t, when, s, left, []string{"", "a", "b", "bb", "c", "d", "e"})
		wantPurge(t, when+" again", s, x.at, 0)
		wantAll(t, when+" again", s, x.want...)
		// A key that is there no more is a new one.
		s.Put("b", is(20, "n"))
		if len(left["b"]) == 0 {
			wantRows(t, when+", then Put", s, "b", "b", has("b", is(20, "n")))
		} else {
			wantRows(t, when+", then Put", s, "b", "b", has("b", append(b.versions, is(20, "n"))...))
		}
	}
}

// TestPurgeAtEnds purges at the least and at the greatest time.
func TestPurgeAtEnds(t *testing.T) {
	x, z := is(0, "x"), is(last, "z")
	s, _ := made(has("a", gone(0)), has("b", x, gone(last)), has("c", gone(0), z), has("d", x), has("e", x, z))
	wantPurge(t, "at 0", s, 0, 2)
	wantAll(t, "at 0", s, has("b", x, gone(last)), has("c", z), has("d", x), has("e", x, z))
	wantPurge(t, "at the last time but one", s, last-1, 0)
	wantAll(t, "at the last time but one", s, has("b", x, gone(last)), has("c", z), has("d", x), has("e", x, z))
	wantPurge(t, "at the last time", s, last, 3)
	wantAll(t, "at the last time", s, has("c", z), has("d", x), has("e", z))
}

// TestPurgeToNothing: a store may lose all its keys, and is as a new one then.
func TestPurgeToNothing(t *testing.T) {
	s, _ := made(has("", gone(1)), has("a", is(1, "x"), gone(2)), has("b", gone(1), gone(2), gone(3)))
	wantPurge(t, "everything is gone", s, 3, 6)
	check(t, "everything is gone", s, model{}, []string{"", "a", "b", "c"})
	wantPurge(t, "nothing is there", s, last, 0)
	s.Put("b", is(1, "again"))
	s.Put("a", gone(1))
	wantAll(t, "Puts behind that", s, has("a", gone(1)), has("b", is(1, "again")))
}

// TestPurgeKeepsValues: from the purged time on each key has the same value, or none, before and after.
func TestPurgeKeepsValues(t *testing.T) {
	value := func(s *Store, key string, at uint64) string {
		v, found := s.At(key, at)
		if !found || v.Gone {
			return "none"
		}
		return "value " + v.Value
	}
	for purged := range uint64(12) {
		before, _ := made(several()...)
		after, _ := made(several()...)
		after.Purge(purged)
		for _, key := range []string{"a", "b", "c", "d"} {
			for at := purged; at < 14; at++ {
				if old, now := value(before, key, at), value(after, key, at); old != now {
					t.Errorf("P9.1: purged at %d: key %q has %q at %d, want %q", purged, key, now, at, old)
				}
			}
		}
	}
}

// call is a call that changes a store, with what it does to the model; both answer how many versions were removed.
type call struct {
	name  string
	do    func(s *Store) int
	model func(m model) int
}

// calls are calls on few keys at few times.
func calls() []call {
	var l []call
	for _, x := range []entry{{"a", is(1, "x")}, {"a", gone(3)}, {"a", is(3, "y")}, {"b", gone(2)}, {"b", is(4, "")}, {"", is(2, "z")}, {"", gone(last)}, {"ab", gone(0)}} {
		l = append(l, call{
			fmt.Sprintf("Put(%q, %s)", x.key, show(x.v)),
			func(s *Store) int { s.Put(x.key, x.v); return 0 },
			func(m model) int { m.put(x.key, x.v); return 0 },
		})
	}
	for _, at := range []uint64{0, 2, 3, last} {
		l = append(l, call{
			fmt.Sprintf("Purge(%d)", at),
			func(s *Store) int { return s.Purge(at) },
			func(m model) int { return m.purge(at) },
		})
	}
	return l
}

// TestSequences holds every sequence of four calls against the model.
func TestSequences(t *testing.T) {
	all := calls()
	n := len(all)
	keys := []string{"", "a", "aa", "ab", "b", "c"}
	for i := range n * n * n * n {
		s, m := New(), model{}
		var names []string
		for _, k := range []int{i % n, i / n % n, i / n / n % n, i / n / n / n} {
			x := all[k]
			names = append(names, x.name)
			if got, want := x.do(s), x.model(m); got != want {
				t.Fatalf("P9.1: %v: the last one removes %d versions, want %d", names, got, want)
			}
		}
		check(t, strings.Join(names, ", "), s, m, keys)
	}
}

// TestMany: stores of many keys with several versions, purged from time to time.
func TestMany(t *testing.T) {
	const n = 500
	s, m := New(), model{}
	key := func(i int) string { return fmt.Sprint(i * 7919 % n) }
	for i := range 4 * n {
		v := is(uint64(i%n/100+i/n), fmt.Sprint(i))
		if i%3 == 1 {
			v = gone(v.At)
		}
		s.Put(key(i), v)
		m.put(key(i), v)
		if i%300 == 299 {
			at := uint64(i / 300)
			wantPurge(t, "many", s, at, m.purge(at))
			wantAll(t, "many", s, m.all()...)
		}
	}
	for i := range n {
		from, to := key(i), key(3*i+1)
		wantRows(t, "many", s, from, to, m.rows(from, to)...)
	}
	check(t, "many", s, m, []string{"", "0", "1", "250", "4990", "9"})
}

// TestTwoStores: what is done with a store does not touch another one, also when both have the same keys and versions.
func TestTwoStores(t *testing.T) {
	all := calls()
	keys := []string{"", "a", "aa", "ab", "b", "c"}
	for i := range all {
		for j := range all {
			one, first := five()
			two, second := made()
			for key, c := range one.All() {
				for _, v := range c {
					two.Put(key, v)
					second.put(key, v)
				}
			}
			all[i].do(one)
			all[i].model(first)
			check(t, "the other store, after "+all[i].name, two, second, keys)
			all[j].do(two)
			all[j].model(second)
			check(t, "a store, after another one's "+all[j].name, one, first, keys)
			check(t, "a store, after "+all[j].name, two, second, keys)
			check(t, "a third store", New(), model{}, keys)
		}
	}
}

// mark is a version that no store of the tests has.
func mark() chain.Version { return chain.Version{At: 77, Value: "mark", Gone: true} }

// overwrite fills a chain and its spare capacity with marks.
func overwrite(c chain.Chain) {
	c = c[:cap(c)]
	for i := range c {
		c[i] = mark()
	}
}

// TestWritten (R5): the store does not change when what it yielded is written to, nor does anything else that it yielded.
func TestWritten(t *testing.T) {
	s, m := five()
	keys := slices.Sorted(maps.Keys(m))
	for name, x := range iterations(s, m) {
		for i := range x.want {
			first, second, other := yielded(x.it), yielded(x.it), yielded(s.All())
			overwrite(first[i].versions)
			check(t, name+", written to", s, m, keys)
			if !same(second, x.want) || !same(other, m.all()) {
				t.Fatalf("R5: %s: what one run yields is changed by a write to what another one yielded", name)
			}
			for k := range first {
				if k != i && !slices.Equal(first[k].versions, x.want[k].versions) {
					t.Fatalf("R5: %s: the versions of %q share memory with those of %q", name, first[k].key, first[i].key)
				}
			}
		}
	}
	for name, x := range iterations(s, m) {
		for _, c := range x.it {
			overwrite(c)
		}
		check(t, name+", written to on its way", s, m, keys)
	}
}

// TestAppended (R5): the store does not change when something is appended to what it yielded, and what was appended stays when the store is changed.
func TestAppended(t *testing.T) {
	keys := []string{"", "a", "b", "c", "d", "f"}
	for _, x := range calls() {
		s, m := five()
		l := yielded(s.All())
		before := copied(l)
		var more []pair
		for _, p := range l {
			more = append(more, pair{p.key, append(p.versions, mark())})
		}
		check(t, "appended to", s, m, keys)
		x.do(s)
		x.model(m)
		check(t, "appended to, then "+x.name, s, m, keys)
		for i, p := range more {
			if want := append(slices.Clone(before[i].versions), mark()); !slices.Equal(p.versions, want) {
				t.Fatalf("R5: appended to what All yielded, then %s: it is %s, want %s", x.name, list(more[i:i+1]), list([]pair{{p.key, want}}))
			}
		}
	}
}

// TestKept (R5): what a store yielded does not change when the store is changed.
func TestKept(t *testing.T) {
	for _, x := range calls() {
		for _, y := range calls() {
			s, m := five()
			for name, z := range iterations(s, m) {
				l := yielded(z.it)
				before := copied(l)
				x.do(s)
				y.do(s)
				if !same(l, before) {
					t.Fatalf("R5: %s yielded %s, which is %s after %s, %s", name, list(before), list(l), x.name, y.name)
				}
			}
		}
	}
}

// TestChangedOnTheWay: a loop may change the store. It ends, the versions that it was given stay as they are, and the store is as without the loop. What is yielded after the change is not promised.
func TestChangedOnTheWay(t *testing.T) {
	keys := []string{"", "a", "aa", "ab", "b", "c", "d", "f"}
	for _, x := range calls() {
		for at := range 5 {
			s, m := five()
			n := 0
			for key, c := range s.All() {
				before := slices.Clone(c)
				if n == at {
					x.do(s)
					x.model(m)
				}
				n++
				if !slices.Equal(c, before) {
					t.Fatalf("R5: the versions of %q change within the loop by %s", key, x.name)
				}
			}
			if n <= at {
				t.Fatalf("P9.1: All() yields %d rows, want more than %d", n, at)
			}
			check(t, "changed on the way by "+x.name, s, m, keys)
			wantRows(t, "changed on the way by "+x.name, s, "", "\xff", m.all()...)
		}
	}
}

// TestAskedOnly (R6): At, Rows and All change nothing, also where there is no such key, and answer the same again.
func TestAskedOnly(t *testing.T) {
	s, m := five()
	keys := append(slices.Sorted(maps.Keys(m)), "", "\x00", "ab", "e", "z", "\xff\xff")
	for range 3 {
		check(t, "asked", s, m, keys)
	}
	wantAll(t, "asked", s, m.all()...)
	wantPurge(t, "asked", s, 0, 0)
}
