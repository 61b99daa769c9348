package lock

import (
	"fmt"
	"math"
	"slices"
	"strings"
	"testing"

	"selion/span"
	"selion/spans"
)

const last = math.MaxUint64

// on returns a lock of an owner on the keys from one to another one, at the times from one to another one.
func on(owner int, from, to string, lo, hi uint64) Lock {
	return Lock{Owner: owner, From: from, To: to, Span: span.Span{Lo: lo, Hi: hi}}
}

// set returns the set whose spans have these ends, Lo and Hi in turn.
func set(ends ...uint64) spans.Set {
	var l spans.Set
	for i := 0; i+1 < len(ends); i += 2 {
		l = append(l, span.Span{Lo: ends[i], Hi: ends[i+1]})
	}
	return l
}

// list gives locks as text.
func list(l []Lock) string {
	var out []string
	for _, x := range l {
		out = append(out, fmt.Sprintf("%d: %q to %q at %d to %d", x.Owner, x.From, x.To, x.Span.Lo, x.Span.Hi))
	}
	return "[" + strings.Join(out, "; ") + "]"
}

// made returns a table to which these locks were added.
func made(l ...Lock) *Table {
	var t Table
	for _, x := range l {
		t.Add(x)
	}
	return &t
}

// wantAll holds All against the locks that it is to return.
func wantAll(t *testing.T, when string, table *Table, want ...Lock) {
	t.Helper()
	if got := table.All(); !slices.Equal(got, want) {
		t.Fatalf("P10.1: %s: All() = %s, want %s", when, list(got), list(want))
	}
}

// wantAgainst holds Against against the set that it is to return.
func wantAgainst(t *testing.T, when string, table *Table, owner int, key string, want spans.Set) {
	t.Helper()
	if got := table.Against(owner, key); !slices.Equal(got, want) {
		t.Fatalf("P10.1: %s: Against(%d, %q) = %v, want %v", when, owner, key, got, want)
	}
}

// TestExample is the chapter's example.
func TestExample(t *testing.T) {
	for _, table := range []*Table{
		made(on(1, "k", "k", 1, 3), on(1, "k", "k", 4, 5)),
		made(on(1, "k", "k", 4, 5), on(2, "k", "k", 1, 3)),
		made(on(0, "a", "k", 1, 3), on(1, "k", "z", 4, 5)),
	} {
		wantAgainst(t, "the example", table, 9, "k", set(1, 5))
	}
}

// owners are numbers that an owner may have.
func owners() []int { return []int{0, 1, 2, 3, -1, math.MaxInt, math.MinInt} }

// times are those at which tables are frozen and purged.
func times() []uint64 { return []uint64{0, 1, 2, 5, 1 << 40, last - 1, last} }

// TestWithoutLocks: the zero value of a Table is empty, and each call may be the first one.
func TestWithoutLocks(t *testing.T) {
	for _, owner := range owners() {
		for _, at := range times() {
			for what, do := range map[string]func(table *Table){
				"new":      func(*Table) {},
				"released": func(table *Table) { table.Release(owner) },
				"frozen":   func(table *Table) { table.Freeze(owner, at) },
				"purged":   func(table *Table) { table.Purge(at) },
			} {
				var table Table
				do(&table)
				wantAll(t, what, &table)
				for _, key := range []string{"", "a", "\xff"} {
					wantAgainst(t, what, &table, owner, key, nil)
				}
				x := on(owner, "a", "b", 1, 2)
				table.Add(x)
				wantAll(t, what+", then added to", &table, x)
			}
		}
	}
}

// TestAdd adds locks of all kinds, each one alone, and each one behind another.
func TestAdd(t *testing.T) {
	first := on(7, "f", "g", 3, 4)
	for _, owner := range owners() {
		for _, x := range []Lock{
			on(owner, "a", "a", 1, 1), on(owner, "a", "b", 1, 9), on(owner, "", "", 5, 5), on(owner, "", "\xff", 1, 1<<40),
			on(owner, "a", "a\x00", 2, 3), on(owner, "B", "a", 2, 3), on(owner, "10", "9", 2, 3), on(owner, "z", "\x80", 2, 3),
			on(owner, strings.Repeat("k", 32), strings.Repeat("k", 33), 2, 3),
			on(owner, "f", "g", 3, 4),
			// The ends of the times.
			on(owner, "a", "a", 0, 0), on(owner, "a", "a", last, last), on(owner, "a", "a", 0, last), on(owner, "a", "a", last-1, last),
		} {
			wantAll(t, "one lock", made(x), x)
			wantAll(t, "one lock twice", made(x, x), x, x)
			wantAll(t, "a lock behind another", made(first, x), first, x)
			wantAgainst(t, "one lock", made(x), 8, x.From, spans.Of(x.Span))
			wantAgainst(t, "one lock", made(x), 8, x.To, spans.Of(x.Span))
			wantAgainst(t, "one lock", made(x), x.Owner, x.From, nil)
		}
	}
}

// TestAddNothing: a lock whose From is above To, or whose Span has no times, is not added.
func TestAddNothing(t *testing.T) {
	first, next := on(7, "a", "z", 3, 4), on(0, "", "a", 1, 9)
	for _, owner := range owners() {
		for _, x := range []Lock{
			on(owner, "b", "a", 1, 9), on(owner, "a", "", 1, 9), on(owner, "a\x00", "a", 1, 9), on(owner, "a", "B", 1, 9),
			on(owner, "9", "10", 1, 9), on(owner, "\x80", "z", 1, 9), on(owner, "\xff", "", 0, last), on(owner, "ab", "aa", last, last),
			on(owner, "a", "z", 1, 0), on(owner, "a", "z", 5, 4), on(owner, "a", "a", last, 0), on(owner, "a", "z", last, last-1), on(owner, "", "", 9, 2),
			on(owner, "z", "a", 1, 0), on(owner, "b", "a", 9, 2),
		} {
			wantAll(t, "only "+list([]Lock{x}), made(x))
			wantAll(t, "twice "+list([]Lock{x}), made(x, x))
			table := made(first, x, next, x)
			wantAll(t, "with "+list([]Lock{x}), table, first, next)
			wantAgainst(t, "with "+list([]Lock{x}), table, 8, "b", set(3, 4))
			wantAgainst(t, "with "+list([]Lock{x}), table, 8, "a", set(1, 9))
		}
	}
}

// several are locks in no order of their owners, keys or times; some of them are the same.
func several() []Lock {
	return []Lock{
		on(3, "m", "p", 4, 9), on(1, "a", "z", 1, 2), on(0, "c", "c", 5, 5), on(2, "b", "c", 2, 6), on(1, "m", "m", 8, 9),
		on(0, "a", "b", 1, 7), on(3, "a", "a", 1, 1), on(1, "a", "z", 1, 2), on(2, "c", "d", 6, 8), on(0, "c", "c", 5, 5),
	}
}

// TestAll: the locks come in the order in which they were added, whatever that order is.
func TestAll(t *testing.T) {
	l := several()
	for range len(l) {
		wantAll(t, "several locks", made(l...), l...)
		l = append(l[1:], l[0])
	}
	slices.Reverse(l)
	table := made()
	for i, x := range l {
		table.Add(x)
		wantAll(t, "one lock more", table, l[:i+1]...)
	}
}

// TestAgainstKeys asks for keys within a lock's keys, at their ends, and beyond.
func TestAgainstKeys(t *testing.T) {
	for _, x := range []struct {
		from, to string
		in, out  []string
	}{
		{"b", "d", []string{"b", "b\x00", "bz", "c", "c\xff", "d"}, []string{"", "a", "a\xff\xff", "d\x00", "da", "e", "B", "C", "\xff"}},
		{"k", "k", []string{"k"}, []string{"", "j", "k\x00", "kk", "l", "K"}},
		{"", "", []string{""}, []string{"\x00", "a", "\xff"}},
		{"", "\xff", []string{"", "\x00", "a", "\x7f", "\x80", "\xfe\xff", "\xff"}, []string{"\xff\x00", "\xff\xff"}},
		{"a", "aa", []string{"a", "a\x00", "aZ", "aa"}, []string{"", "aa\x00", "ab", "b"}},
		{"Z", "a", []string{"Z", "Zz", "_", "a"}, []string{"Y", "z", "aa", "0"}},
		{"10", "9", []string{"10", "100", "2", "8", "9"}, []string{"1", "0", "91"}},
		{"\x7f", "\x80", []string{"\x7f", "\x7f\xff", "\x80"}, []string{"~", "\x80\x00", "\xc3\xa4"}},
	} {
		table := made(on(1, x.from, x.to, 3, 6))
		for _, key := range x.in {
			wantAgainst(t, fmt.Sprintf("on %q to %q", x.from, x.to), table, 2, key, set(3, 6))
		}
		for _, key := range x.out {
			wantAgainst(t, fmt.Sprintf("on %q to %q", x.from, x.to), table, 2, key, nil)
		}
	}
}

// TestAgainstOwners: an owner's own locks do not count, all others do, those of owner 0 among them.
func TestAgainstOwners(t *testing.T) {
	table := made(on(0, "k", "k", 1, 2), on(1, "k", "k", 4, 5), on(2, "k", "k", 7, 8), on(1, "a", "z", 10, 11), on(-1, "k", "k", 13, 14), on(1, "x", "z", 16, 17))
	for _, x := range []struct {
		owner int
		want  spans.Set
	}{
		{0, set(4, 5, 7, 8, 10, 11, 13, 14)},
		{1, set(1, 2, 7, 8, 13, 14)},
		{2, set(1, 2, 4, 5, 10, 11, 13, 14)},
		{-1, set(1, 2, 4, 5, 7, 8, 10, 11)},
		{3, set(1, 2, 4, 5, 7, 8, 10, 11, 13, 14)},
		{math.MaxInt, set(1, 2, 4, 5, 7, 8, 10, 11, 13, 14)},
	} {
		wantAgainst(t, "five owners", table, x.owner, "k", x.want)
	}
	wantAgainst(t, "another key", table, 3, "y", set(10, 11, 16, 17))
	wantAgainst(t, "another key", table, 1, "y", nil)
	wantAgainst(t, "a key of none", table, 3, "zz", nil)
}

// TestAgainstTimes: the result is a set, however the locks' times lie to one another.
func TestAgainstTimes(t *testing.T) {
	for _, x := range []struct{ times, want spans.Set }{
		{set(4, 5), set(4, 5)},
		{set(4, 5, 1, 3), set(1, 5)},
		{set(7, 9, 1, 2, 4, 5), set(1, 2, 4, 5, 7, 9)},
		{set(1, 6, 4, 9), set(1, 9)},
		{set(1, 9, 4, 5), set(1, 9)},
		{set(4, 5, 1, 9), set(1, 9)},
		{set(2, 3, 2, 3), set(2, 3)},
		{set(1, 1, 5, 5, 3, 3, 2, 2), set(1, 3, 5, 5)},
		{set(0, 0, last, last), set(0, 0, last, last)},
		{set(1, last, 0, 0), set(0, last)},
		{set(last, last, 0, last-1), set(0, last)},
	} {
		table := made()
		for i, s := range x.times {
			table.Add(Lock{Owner: i, From: "a", To: "k", Span: s})
		}
		wantAgainst(t, fmt.Sprintf("locks at %v", x.times), table, 99, "k", x.want)
	}
}

// without returns the locks that are not the owner's.
func without(owner int, l []Lock) []Lock {
	var out []Lock
	for _, x := range l {
		if x.Owner != owner {
			out = append(out, x)
		}
	}
	return out
}

// TestRelease: all locks of an owner go, and no others; those of owner 0 like those of any other.
func TestRelease(t *testing.T) {
	for _, owner := range append(owners(), 7) {
		table, rest := made(several()...), without(owner, several())
		table.Release(owner)
		wantAll(t, fmt.Sprintf("owner %d released", owner), table, rest...)
		table.Release(owner)
		wantAll(t, fmt.Sprintf("owner %d released twice", owner), table, rest...)
		x := on(owner, "q", "q", 3, 3)
		table.Add(x)
		wantAll(t, fmt.Sprintf("owner %d released, then added to", owner), table, append(rest, x)...)
	}
	table := made(several()...)
	for _, owner := range []int{2, 0, 3, 1} {
		table.Release(owner)
	}
	wantAll(t, "all released", table)
	wantAgainst(t, "all released", table, 9, "c", nil)
}

func TestReleaseAgainst(t *testing.T) {
	table := made(on(1, "k", "k", 1, 5), on(2, "a", "z", 4, 8), on(0, "k", "k", 10, 11))
	table.Release(1)
	wantAgainst(t, "owner 1 released", table, 9, "k", set(4, 8, 10, 11))
	table.Release(0)
	wantAgainst(t, "owner 0 released", table, 9, "k", set(4, 8))
}

func TestFreeze(t *testing.T) {
	other, committed := on(2, "a", "z", 1, 9), on(0, "b", "b", 1, 9)
	for _, x := range []struct{ at, low, high, one uint64 }{ // the locks' last times, 0 if they are removed
		// Ahead of all their times.
		{0, 0, 0, 0}, {1, 0, 0, 0},
		// At each one's ends, and between.
		{2, 2, 0, 0}, {3, 3, 0, 0}, {4, 4, 4, 0}, {5, 5, 5, 0}, {6, 5, 6, 6}, {7, 5, 7, 6},
		// Behind all.
		{8, 5, 7, 6}, {1 << 40, 5, 7, 6}, {last, 5, 7, 6},
	} {
		when := fmt.Sprintf("frozen at %d", x.at)
		table := made(on(1, "a", "c", 2, 5), other, on(1, "d", "d", 4, 7), committed, on(1, "e", "e", 6, 6))
		table.Freeze(1, x.at)
		want := slices.DeleteFunc([]Lock{on(0, "a", "c", 2, x.low), other, on(0, "d", "d", 4, x.high), committed, on(0, "e", "e", 6, x.one)},
			func(l Lock) bool { return l.Span.Hi == 0 })
		wantAll(t, when, table, want...)
		// The owner has none any more.
		table.Freeze(1, 0)
		table.Release(1)
		wantAll(t, when+", then released", table, want...)
		// They are owner 0's like others.
		table.Release(0)
		wantAll(t, when+", then owner 0 released", table, other)
	}
}

// TestFreezeAgainst: what was frozen counts against its old owner, too, and not against owner 0.
func TestFreezeAgainst(t *testing.T) {
	table := made(on(1, "k", "k", 2, 7), on(2, "k", "k", 9, 12))
	wantAgainst(t, "ahead of it", table, 1, "k", set(9, 12))
	table.Freeze(1, 5)
	wantAgainst(t, "frozen", table, 1, "k", set(2, 5, 9, 12))
	wantAgainst(t, "frozen", table, 2, "k", set(2, 5))
	wantAgainst(t, "frozen", table, 0, "k", set(9, 12))
	wantAgainst(t, "frozen", table, 3, "k", set(2, 5, 9, 12))
	table.Freeze(2, 10)
	wantAgainst(t, "frozen both", table, 0, "k", nil)
	wantAgainst(t, "frozen both", table, 2, "k", set(2, 5, 9, 10))
}

// TestFreezeCommitted: owner 0 is an owner like others: its locks are reduced to their times up to at.
func TestFreezeCommitted(t *testing.T) {
	table := made(on(0, "a", "a", 1, 9), on(1, "a", "a", 1, 9), on(0, "b", "b", 6, 9), on(0, "c", "c", 5, 9))
	table.Freeze(0, 5)
	wantAll(t, "owner 0 frozen", table, on(0, "a", "a", 1, 5), on(1, "a", "a", 1, 9), on(0, "c", "c", 5, 5))
	table.Freeze(0, 0)
	wantAll(t, "owner 0 frozen at 0", table, on(1, "a", "a", 1, 9))
}

// TestFreezeOther: freezing an owner that has no locks changes nothing.
func TestFreezeOther(t *testing.T) {
	for _, owner := range []int{4, -1, -3, math.MaxInt, math.MinInt} {
		for _, at := range times() {
			table := made(several()...)
			table.Freeze(owner, at)
			wantAll(t, fmt.Sprintf("owner %d frozen", owner), table, several()...)
		}
	}
}

func TestPurge(t *testing.T) {
	other := on(1, "a", "z", 1, 9)
	low, high, one := on(0, "a", "c", 2, 5), on(0, "d", "d", 4, 7), on(0, "e", "e", 6, 6)
	for _, x := range []struct {
		at   uint64
		want []Lock
	}{
		{0, []Lock{low, other, high, one}}, {1, []Lock{low, other, high, one}},
		{2, []Lock{on(0, "a", "c", 3, 5), other, high, one}}, {3, []Lock{on(0, "a", "c", 4, 5), other, high, one}},
		{4, []Lock{on(0, "a", "c", 5, 5), other, on(0, "d", "d", 5, 7), one}},
		{5, []Lock{other, on(0, "d", "d", 6, 7), one}}, {6, []Lock{other, on(0, "d", "d", 7, 7)}},
		{7, []Lock{other}}, {8, []Lock{other}}, {1 << 40, []Lock{other}}, {last - 1, []Lock{other}}, {last, []Lock{other}},
	} {
		when := fmt.Sprintf("purged at %d", x.at)
		table := made(low, other, high, one)
		table.Purge(x.at)
		wantAll(t, when, table, x.want...)
		table.Purge(x.at)
		wantAll(t, when+" twice", table, x.want...)
		table.Purge(0)
		wantAll(t, when+", then at 0", table, x.want...)
		table.Add(one)
		wantAll(t, when+", then added to", table, append(slices.Clone(x.want), one)...)
	}
}

// TestPurgeAgainst: the times that were purged do not count any more.
func TestPurgeAgainst(t *testing.T) {
	table := made(on(0, "k", "k", 2, 7), on(1, "a", "z", 1, 3), on(-1, "k", "k", 5, 6))
	table.Purge(4)
	wantAgainst(t, "purged", table, 9, "k", set(1, 3, 5, 7))
	wantAgainst(t, "purged", table, 1, "k", set(5, 7))
	wantAgainst(t, "purged", table, 0, "k", set(1, 3, 5, 6))
	table.Purge(7)
	wantAgainst(t, "purged more", table, 9, "k", set(1, 3, 5, 6))
}

// TestEndsOfTimes freezes and purges at the least and at the greatest time locks that reach there.
func TestEndsOfTimes(t *testing.T) {
	first, end, whole := on(1, "a", "a", 0, 0), on(1, "b", "b", last, last), on(1, "c", "c", 0, last)
	for _, x := range []struct {
		name string
		do   func(table *Table)
		want []Lock
	}{
		{"Freeze(1, 0)", func(table *Table) { table.Freeze(1, 0) }, []Lock{on(0, "a", "a", 0, 0), on(0, "c", "c", 0, 0)}},
		{"Freeze(1, 1)", func(table *Table) { table.Freeze(1, 1) }, []Lock{on(0, "a", "a", 0, 0), on(0, "c", "c", 0, 1)}},
		{"Freeze(1, last-1)", func(table *Table) { table.Freeze(1, last-1) }, []Lock{on(0, "a", "a", 0, 0), on(0, "c", "c", 0, last-1)}},
		{"Freeze(1, last)", func(table *Table) { table.Freeze(1, last) }, []Lock{on(0, "a", "a", 0, 0), on(0, "b", "b", last, last), on(0, "c", "c", 0, last)}},
		{"Purge(last)", func(table *Table) { table.Purge(last) }, []Lock{first, end, whole}},
		{"Release(1)", func(table *Table) { table.Release(1) }, nil},
	} {
		table := made(first, end, whole)
		x.do(table)
		wantAll(t, x.name, table, x.want...)
	}
	for _, x := range []struct {
		at   uint64
		want []Lock
	}{
		{0, []Lock{on(0, "b", "b", last, last), on(0, "c", "c", 1, last)}},
		{last - 2, []Lock{on(0, "b", "b", last, last), on(0, "c", "c", last-1, last)}},
		{last - 1, []Lock{on(0, "b", "b", last, last), on(0, "c", "c", last, last)}},
		{last, nil},
	} {
		table := made(first, end, whole)
		table.Freeze(1, last)
		table.Purge(x.at)
		wantAll(t, fmt.Sprintf("frozen, then purged at %d", x.at), table, x.want...)
	}
}

// model is a table by the chapter's words: each lock with a list of its times, which are below limit.
type model []claim

type claim struct {
	owner    int
	from, to string
	times    []uint64
}

const limit = 7

func (m *model) add(l Lock) {
	c := claim{owner: l.Owner, from: l.From, to: l.To}
	for at := range uint64(limit) {
		if l.Span.Has(at) {
			c.times = append(c.times, at)
		}
	}
	if l.From <= l.To && len(c.times) > 0 {
		*m = append(*m, c)
	}
}

// keep gives an owner's locks to owner 0, with the times that good tells.
func (m *model) keep(owner int, good func(at uint64) bool) {
	var out model
	for _, c := range *m {
		if c.owner == owner {
			c.owner = 0
			c.times = slices.DeleteFunc(slices.Clone(c.times), func(at uint64) bool { return !good(at) })
		}
		if len(c.times) > 0 {
			out = append(out, c)
		}
	}
	*m = out
}

func (m model) all() []Lock {
	var out []Lock
	for _, c := range m {
		out = append(out, on(c.owner, c.from, c.to, c.times[0], c.times[len(c.times)-1]))
	}
	return out
}

func (m model) against(owner int, key string, at uint64) bool {
	for _, c := range m {
		if c.owner != owner && c.from <= key && key <= c.to && slices.Contains(c.times, at) {
			return true
		}
	}
	return false
}

// check holds all that a table says against its model.
func check(t *testing.T, when string, table *Table, m model) {
	t.Helper()
	wantAll(t, when, table, m.all()...)
	for owner := range 4 {
		for _, key := range []string{"", "a", "b", "bb", "c", "d"} {
			got := table.Against(owner, key)
			if !slices.Equal(got, spans.Of(got...)) {
				t.Fatalf("P10.1: %s: Against(%d, %q) = %v, which is no set", when, owner, key, got)
			}
			for at := range uint64(limit + 1) {
				if got.Has(at) != m.against(owner, key, at) {
					t.Fatalf("P10.1: %s: Against(%d, %q) = %v, want Has(%d) = %v", when, owner, key, got, at, m.against(owner, key, at))
				}
			}
		}
	}
}

// call is a call that changes a table, with what it does to the model.
type call struct {
	name  string
	do    func(table *Table)
	model func(m *model)
}

// calls are calls with few owners, keys and times.
func calls() []call {
	var l []call
	for _, x := range []Lock{on(1, "a", "b", 1, 4), on(1, "c", "c", 3, 6), on(2, "b", "c", 2, 3), on(2, "a", "a", 5, 5), on(0, "b", "b", 0, 3), on(1, "b", "a", 1, 4), on(2, "a", "c", 3, 2)} {
		l = append(l, call{"Add(" + list([]Lock{x}) + ")", func(table *Table) { table.Add(x) }, func(m *model) { m.add(x) }})
	}
	for owner := range 3 {
		l = append(l, call{
			fmt.Sprintf("Release(%d)", owner),
			func(table *Table) { table.Release(owner) },
			func(m *model) { m.keep(owner, func(uint64) bool { return false }) },
		})
		for _, at := range []uint64{2, 4} {
			l = append(l, call{
				fmt.Sprintf("Freeze(%d, %d)", owner, at),
				func(table *Table) { table.Freeze(owner, at) },
				func(m *model) { m.keep(owner, func(x uint64) bool { return x <= at }) },
			})
		}
	}
	for _, at := range []uint64{0, 2, 3} {
		l = append(l, call{
			fmt.Sprintf("Purge(%d)", at),
			func(table *Table) { table.Purge(at) },
			func(m *model) { m.keep(0, func(x uint64) bool { return x > at }) },
		})
	}
	return l
}

// sequences holds a table behind every sequence of so many calls against its model.
func sequences(t *testing.T, size int, start func() (*Table, model)) {
	all := calls()
	count := 1
	for range size {
		count *= len(all)
	}
	for i := range count {
		table, m := start()
		var names []string
		for number := i; len(names) < size; number /= len(all) {
			x := all[number%len(all)]
			names = append(names, x.name)
			x.do(table)
			x.model(&m)
		}
		check(t, strings.Join(names, ", "), table, m)
	}
}

func TestSequences(t *testing.T) {
	sequences(t, 4, func() (*Table, model) { return &Table{}, nil })
	sequences(t, 3, base)
}

// TestMany: tables of many locks, whose owners are committed and aborted in turn, purged from time to time.
func TestMany(t *testing.T) {
	var table Table
	var m model
	keys := []string{"a", "b", "bb", "c", "d"}
	for i := range 400 {
		for k := range 3 {
			lo := uint64(i*k) % limit
			from, to := keys[(i+k)%len(keys)], keys[(i*7+k)%len(keys)]
			x := on(1+(i+k)%5, from, to, lo, min(lo+uint64(i%3), limit-1))
			table.Add(x)
			m.add(x)
		}
		owner, at := 1+i%5, uint64(i)%limit
		if i%4 == 0 {
			table.Release(owner)
			m.keep(owner, func(uint64) bool { return false })
		} else {
			table.Freeze(owner, at)
			m.keep(owner, func(x uint64) bool { return x <= at })
		}
		if i%50 == 49 {
			table.Purge(at)
			m.keep(0, func(x uint64) bool { return x > at })
		}
		check(t, fmt.Sprintf("many locks, round %d", i), &table, m)
	}
}

// base returns a table of some locks, and its model.
func base() (*Table, model) {
	var table Table
	var m model
	for _, x := range []Lock{on(1, "a", "b", 1, 4), on(0, "b", "c", 0, 6), on(2, "b", "c", 2, 3), on(1, "b", "d", 5, 6), on(0, "a", "a", 3, 3)} {
		table.Add(x)
		m.add(x)
	}
	return &table, m
}

// mark is a lock that no table of the tests has.
func mark() Lock { return on(77, "mark", "mark", 77, 77) }

// TestWritten (R5): a table does not change when what it returned is written or appended to, and no result does when another one is.
func TestWritten(t *testing.T) {
	table, m := base()
	first, second := table.All(), table.All()
	l := append(first, mark())
	for i := range l {
		l[i] = mark()
	}
	for i := range first {
		first[i] = mark()
	}
	check(t, "All written to", table, m)
	if !slices.Equal(second, m.all()) {
		t.Fatalf("R5: what All() returned is %s after a write to what it returned before", list(second))
	}
	table.Add(mark())
	if l[len(l)-1] != mark() || !slices.Equal(second, m.all()) {
		t.Fatal("R5: what All() returned is changed by Add")
	}
	table.Release(mark().Owner)
	for _, key := range []string{"a", "b", "c", "d"} {
		one, two := table.Against(3, key), table.Against(3, key)
		before := slices.Clone(two)
		one = one[:cap(one)]
		for i := range one {
			one[i] = mark().Span
		}
		check(t, "Against written to", table, m)
		if !slices.Equal(two, before) {
			t.Fatalf("R5: what Against returned is %v after a write to what it returned before, want %v", two, before)
		}
	}
}

// TestKept (R5): what a table returned does not change when the table is changed; nor does a copy of the table that is kept for inspection.
func TestKept(t *testing.T) {
	for _, x := range calls() {
		for _, y := range calls() {
			table, m := base()
			all, against, copied := table.All(), table.Against(3, "b"), *table
			before := slices.Clone(against)
			x.do(table)
			y.do(table)
			when := x.name + ", " + y.name
			if !slices.Equal(all, m.all()) || !slices.Equal(against, before) {
				t.Fatalf("R5: after %s what was returned is %s and %v, want %s and %v", when, list(all), against, list(m.all()), before)
			}
			check(t, "a copy, after the table's "+when, &copied, m)
		}
	}
}

// TestTwoTables: what is done with a table does not touch another one.
func TestTwoTables(t *testing.T) {
	for _, x := range calls() {
		for _, y := range calls() {
			one, first := base()
			two, second := base()
			x.do(one)
			x.model(&first)
			check(t, "the other table, after "+x.name, two, second)
			y.do(two)
			y.model(&second)
			check(t, "a table, after another one's "+y.name, one, first)
			check(t, "a table, after "+y.name, two, second)
			check(t, "a third table", &Table{}, nil)
		}
	}
}

// TestAskedOnly (R6): All and Against change nothing and answer the same again.
func TestAskedOnly(t *testing.T) {
	table, m := base()
	for range 3 {
		check(t, "asked", table, m)
		for _, owner := range owners() {
			table.Against(owner, "nowhere")
		}
	}
	wantAll(t, "asked", table, m.all()...)
}
