package txn

import (
	"fmt"
	"math"
	"slices"
	"strconv"
	"strings"
	"testing"

	"selion/api"
	"selion/chain"
	"selion/lock"
	"selion/span"
	"selion/store"
)

// face is what a manager does, and shows for inspection. The model of model_test.go is one, too.
type face interface {
	Clock() uint64
	Live() []int
	Get(n int) (*Txn, api.Errno)
	Tick(by uint64) api.Errno
	Safe() uint64
	Least() uint64
	Begin(width uint64) (int, api.Errno)
	Snapshot() (int, api.Errno)
	Read(n int, key string) (string, bool, api.Errno)
	Scan(n int, from, to string, many int) ([]Pair, api.Errno)
	Put(n int, key, value string) api.Errno
	Delete(n int, key string) api.Errno
	Point(n int) (uint64, api.Errno)
	Wrote(n int) []string
	Version(n int, key string) chain.Version
	Commit(n int) (uint64, api.Errno)
	Abort(n int) api.Errno
	Purge(t uint64) (int, api.Errno)

	locks() []lock.Lock
	rows() map[string]chain.Chain
}

func (m *Manager) locks() []lock.Lock { return m.Locks.All() }

func (m *Manager) rows() map[string]chain.Chain {
	rows := map[string]chain.Chain{}
	for key, c := range m.Store.All() {
		rows[key] = c
	}
	return rows
}

// word gives a value as a word: - for an empty one.
func word(value string) string {
	if value == "" {
		return "-"
	}
	return value
}

// version gives a version as text.
func version(v chain.Version) string {
	switch {
	case v.Gone && v.Value != "":
		return fmt.Sprintf("%d=gone with %q", v.At, v.Value)
	case v.Gone:
		return fmt.Sprintf("%d=gone", v.At)
	}
	return fmt.Sprintf("%d=%s", v.At, word(v.Value))
}

// locks gives locks as text.
func locks(l []lock.Lock) string {
	var out []string
	for _, x := range l {
		out = append(out, fmt.Sprintf("%d %s..%s %d..%d", x.Owner, x.From, x.To, x.Span.Lo, x.Span.Hi))
	}
	return strings.Join(out, ", ")
}

// rows gives keys with their versions as text.
func rows(m map[string]chain.Chain) string {
	var out []string
	for key, c := range m {
		line := key
		for _, v := range c {
			line += " " + version(v)
		}
		out = append(out, line)
	}
	slices.Sort(out)
	return strings.Join(out, ", ")
}

// pairs gives pairs as text.
func pairs(l []Pair) string {
	out := "pairs"
	for _, p := range l {
		out += " " + p.Key + "=" + word(p.Value)
	}
	return out
}

// kind gives a transaction as text.
func kind(x *Txn) string {
	name := map[Kind]string{Write: "write", Snap: "snap"}[x.Kind]
	return fmt.Sprintf("%s %d..%d", name, x.Span.Lo, x.Span.Hi)
}

// answer gives a call's result as text: the error, if there is one, beside which every other result must be zero (R3).
func answer(e api.Errno, zero bool, good string) string {
	switch {
	case e == api.OK:
		return good
	case !zero:
		return fmt.Sprintf("error %d, and not zero: %s", e, good)
	}
	return fmt.Sprintf("error %d", e)
}

// do makes the call that a command stands for and gives its results as text.
func do(m face, command string) string {
	w := append(strings.Fields(command), "", "", "", "", "")
	// A word that is no number is 0.
	n, _ := strconv.Atoi(w[1])
	u, _ := strconv.ParseUint(w[1], 10, 64)
	switch w[0] {
	case "tick":
		return answer(m.Tick(u), true, "ok")
	case "begin":
		n, e := m.Begin(u)
		return answer(e, n == 0, fmt.Sprint(n))
	case "snapshot":
		n, e := m.Snapshot()
		return answer(e, n == 0, fmt.Sprint(n))
	case "get":
		value, has, e := m.Read(n, w[2])
		if e == api.OK && !has && value == "" {
			return "none"
		}
		return answer(e, !has && value == "", fmt.Sprintf("value %s", word(value)))
	case "scan":
		many, _ := strconv.Atoi(w[4])
		l, e := m.Scan(n, w[2], w[3], many)
		return answer(e, len(l) == 0, pairs(l))
	case "put":
		return answer(m.Put(n, w[2], strings.TrimPrefix(w[3], "-")), true, "ok")
	case "delete":
		return answer(m.Delete(n, w[2]), true, "ok")
	case "point":
		t, e := m.Point(n)
		return answer(e, t == 0, fmt.Sprint(t))
	case "commit":
		t, e := m.Commit(n)
		return answer(e, t == 0, fmt.Sprint(t))
	case "abort":
		return answer(m.Abort(n), true, "ok")
	case "purge":
		n, e := m.Purge(u)
		return answer(e, n == 0, fmt.Sprint(n))
	}
	return tell(m, w, n)
}

// tell is do for the commands that change nothing.
func tell(m face, w []string, n int) string {
	switch w[0] {
	case "clock":
		return fmt.Sprint(m.Clock())
	case "safe":
		return fmt.Sprint(m.Safe())
	case "least":
		return fmt.Sprint(m.Least())
	case "live":
		return strings.Trim(fmt.Sprint(m.Live()), "[]")
	case "txn":
		x, e := m.Get(n)
		if x == nil {
			return answer(e, true, "nothing")
		}
		return answer(e, false, kind(x))
	case "wrote":
		return strings.Join(m.Wrote(n), " ")
	case "version":
		return version(m.Version(n, w[2]))
	case "locks":
		return locks(m.locks())
	case "rows":
		return rows(m.rows())
	}
	return "no such command"
}

// show gives as text all that a manager shows.
func show(m face) string {
	l := []string{"clock", "safe", "least", "live", "locks", "rows"}
	for _, n := range m.Live() {
		for _, what := range []string{"txn", "wrote", "point"} {
			l = append(l, fmt.Sprint(what, " ", n))
		}
		for _, key := range m.Wrote(n) {
			l = append(l, fmt.Sprint("version ", n, " ", key))
		}
	}
	for i, command := range l {
		l[i] += ": " + do(m, command)
	}
	return strings.Join(l, "; ")
}

// play makes the calls of a script, command: result; command: result, and holds each result against the script's.
func play(t *testing.T, about string, m face, script string) {
	t.Helper()
	for step := range strings.SplitSeq(script, ";") {
		command, want, _ := strings.Cut(step, ":")
		before := show(m)
		if got := do(m, command); got != strings.TrimSpace(want) {
			t.Fatalf("%s: %s = %s, want%s (in: %s; before it: %s)", about, strings.TrimSpace(command), got, want, script, before)
		}
		// P7: a call that returns an error changes nothing, except ErrConflict.
		if after := show(m); strings.HasPrefix(strings.TrimSpace(want), "error") && strings.TrimSpace(want) != "error 7" && before != after {
			t.Fatalf("P7: %s: %s has changed %s into %s (in: %s)", about, step, before, after, script)
		}
	}
}

// fresh returns a manager over an empty store.
func fresh() *Manager { return New(store.New(), 0) }

// over returns a manager that has committed what a script says, so that its store has versions and its clock is theirs.
func over(t *testing.T, script string) *Manager {
	t.Helper()
	m := fresh()
	play(t, "what was before", m, script)
	return m
}

// unchanged makes a call that returns an error and tells whether anything has changed (P7).
func unchanged(t *testing.T, about string, m *Manager, want api.Errno, call func() api.Errno) {
	t.Helper()
	before := show(m)
	if got := call(); got != want {
		t.Fatalf("%s: error %d, want %d", about, got, want)
	}
	if after := show(m); after != before {
		t.Fatalf("P7: %s: error %d has changed %s into %s", about, want, before, after)
	}
}

// TestExample is the chapter's example, and that of DOC.md.
func TestExample(t *testing.T) {
	play(t, "the chapter's example", fresh(), "begin 3: 1; txn 1: write 1..3")
	play(t, "DOC.md's example", fresh(), "begin 9: 1; begin 9: 2; get 1 a: none; put 2 a x: ok; commit 2: error 7; put 1 b y: ok; commit 1: 1; begin 9: 3; get 3 b: value y")
}

func TestKinds(t *testing.T) {
	if Write != 0 || Snap != 1 {
		t.Errorf("P12: Write = %d, Snap = %d, want 0, 1", Write, Snap)
	}
}

func TestNew(t *testing.T) {
	for _, clock := range []uint64{0, 1, 7, 1000, api.MaxTime - 1, api.MaxTime} {
		for _, filled := range []bool{false, true} {
			s := store.New()
			if filled && clock > 0 {
				s.Put("a", chain.Version{At: 1, Value: "x"})
				s.Put("b", chain.Version{At: clock, Gone: true})
			}
			m := New(s, clock)
			before := rows(m.rows())
			if m.Store != s {
				t.Error("P12.1: New: another store")
			}
			play(t, "P12.1: New", m, fmt.Sprintf("clock: %d; safe: %d; least: %d; live:; locks:; rows: %s; txn 0: error 4; txn 1: error 4; txn -1: error 4; wrote 1:; version 1 a: 0=-",
				clock, clock, clock, before))
			play(t, "P12.2: New", m, fmt.Sprintf("snapshot: 1; txn 1: snap %d..%d; clock: %d", clock, clock, clock))
			if filled && clock > 0 {
				play(t, "P12.3: New over a store", m, "get 1 a: value x; get 1 b: none")
			}
		}
	}
	// Two managers have nothing in common.
	one, two := fresh(), fresh()
	play(t, "P12.1: one manager", one, "begin 9: 1; get 1 a: none; tick 5: ok")
	play(t, "P12.1: another manager", two, "clock: 0; live:; locks:; begin 9: 1; txn 1: write 1..9")
}

func TestNewAboveClock(t *testing.T) {
	m := New(store.New(), 41)
	play(t, "P12.1: clock 41", m, "begin 2: 1; txn 1: write 42..43; get 1 a: none; locks: 1 a..a 1..43; put 1 a x: ok; commit 1: 42; clock: 42; rows: a 42=x; locks: 0 a..a 1..42")
}

func TestLiveAndGet(t *testing.T) {
	m := fresh()
	play(t, "P12.1", m, `live:; begin 5: 1; live: 1; snapshot: 2; begin 7: 3; tick 4: ok; begin 2: 4; snapshot: 5; live: 1 2 3 4 5;
		txn 1: write 1..5; txn 2: snap 0..0; txn 3: write 1..7; txn 4: write 5..6; txn 5: snap 0..0; txn 6: error 4; txn 0: error 4; txn -1: error 4;
		commit 3: 1; live: 1 2 4 5; txn 3: error 4; abort 1: ok; live: 2 4 5; txn 1: error 4; commit 2: 0; abort 5: ok; live: 4; begin 1: 6; live: 4 6; commit 4: 5; commit 6: error 7; live:; txn 6: error 4`)
	// In ascending order, whatever the order in which a map is scanned.
	m = fresh()
	for n := 1; n <= 200; n++ {
		if n > 12 {
			play(t, "P12.1", m, fmt.Sprintf("abort %d: ok", n-12))
		}
		play(t, "P12.1", m, fmt.Sprintf("begin 9: %d", n))
		if got := m.Live(); !slices.IsSorted(got) || len(got) != min(n, 12) || got[len(got)-1] != n {
			t.Fatalf("P12.1: Live() = %v behind Begin %d", got, n)
		}
	}
}

// TestGetInspection: what Get returns is the transaction itself, whose Span calls reduce.
func TestGetInspection(t *testing.T) {
	m := over(t, "begin 9: 1; begin 1: 2; begin 9: 3; put 3 a x: ok; commit 2: 1; commit 3: 2")
	x, e := m.Get(1)
	if e != api.OK || *x != (Txn{Kind: Write, Span: span.Span{Lo: 1, Hi: 9}}) {
		t.Fatalf("P12.1: Get(1) = %v, %d", x, e)
	}
	play(t, "P12.3", m, "get 1 a: value x")
	if *x != (Txn{Kind: Write, Span: span.Span{Lo: 3, Hi: 9}}) {
		t.Errorf("P12.3: after a Read Get(1) = %v", *x)
	}
	if y, e := m.Get(4); y != nil || e != api.ErrNone {
		t.Errorf("R3: Get(4) = %v, %d, want nil, ErrNone", y, e)
	}
}

func TestTick(t *testing.T) {
	for _, clock := range []uint64{0, 1, 500, api.MaxTime - 1, api.MaxTime} {
		left := api.MaxTime - clock
		for _, by := range []uint64{0, 1, 2, left / 2, left, left + 1, left + 2, api.MaxTime, api.MaxTime + 1, math.MaxUint64 - clock, math.MaxUint64 - clock + 1, math.MaxUint64} {
			m := New(store.New(), clock)
			when := fmt.Sprintf("P12.1: clock %d: Tick(%d)", clock, by)
			if by > left {
				unchanged(t, when, m, api.ErrTime, func() api.Errno { return m.Tick(by) })
				continue
			}
			play(t, when, m, fmt.Sprintf("tick %d: ok; clock: %d; safe: %d; least: %d; tick %d: ok; clock: %d; tick 0: ok; tick 1: error 6; clock: %d", by, clock+by, clock+by, clock+by, left-by, api.MaxTime, api.MaxTime))
		}
	}
	play(t, "P12.1: with transactions", fresh(), "begin 3: 1; snapshot: 2; tick 0: ok; clock: 0; tick 10: ok; clock: 10; txn 1: write 1..3; txn 2: snap 0..0; begin 3: 3; txn 3: write 11..13; commit 1: 1; clock: 10")
}

func TestSafeAndLeast(t *testing.T) {
	play(t, "P12.1: none", fresh(), "safe: 0; least: 0; tick 7: ok; safe: 7; least: 7")
	play(t, "P12.1: ones that write", fresh(), `tick 7: ok; begin 5: 1; safe: 7; least: 7; tick 3: ok; safe: 7; least: 7; begin 5: 2; safe: 7; tick 1: ok;
		begin 1: 3; commit 1: 8; safe: 10; least: 10; clock: 11; abort 2: ok; safe: 11; commit 3: 12; clock: 12; safe: 12; least: 12`)
	play(t, "P12.1: reduced spans", fresh(), `begin 9: 1; begin 9: 2; put 2 a x: ok; begin 1: 3; commit 3: 1; commit 2: 2; clock: 2; safe: 0; get 1 a: value x; txn 1: write 3..9;
		safe: 2; least: 2; tick 1: ok; safe: 2; begin 9: 4; safe: 2; abort 1: ok; safe: 3; least: 3`)
	play(t, "P12.1: snapshots", fresh(), "tick 4: ok; snapshot: 1; safe: 4; least: 4; tick 4: ok; safe: 8; least: 4; snapshot: 2; tick 1: ok; safe: 9; least: 4; commit 1: 4; safe: 9; least: 8; abort 2: ok; least: 9")
	play(t, "P12.1: both", fresh(), `tick 4: ok; begin 9: 1; tick 4: ok; snapshot: 2; txn 2: snap 4..4; begin 2: 3; safe: 4; least: 4; abort 1: ok; safe: 8; least: 4; tick 1: ok; safe: 8; snapshot: 4; txn 4: snap 8..8;
		commit 2: 4; safe: 8; least: 8; commit 3: 9; safe: 9; least: 8; commit 4: 8; least: 9; clock: 9`)
	play(t, "P12.1: at time 0", fresh(), "snapshot: 1; begin 1: 2; tick 9: ok; safe: 0; least: 0; commit 2: 1; safe: 9; least: 0")
}

func TestBegin(t *testing.T) {
	for _, clock := range []uint64{0, 1, 99, api.MaxTime - 1001, api.MaxTime - 1000, api.MaxTime - 999, api.MaxTime - 2, api.MaxTime - 1} {
		for _, width := range []uint64{1, 2, 3, 500, 999, api.MaxWidth} {
			end := min(clock+width, api.MaxTime)
			play(t, "P12.2", New(store.New(), clock), fmt.Sprintf("begin %d: 1; txn 1: write %d..%d; clock: %d; safe: %d; locks:; wrote 1:; point 1: %d", width, clock+1, end, clock, clock, clock+1))
		}
	}
	for _, clock := range []uint64{0, 1, api.MaxTime - 1, api.MaxTime} {
		for _, width := range []uint64{0, api.MaxWidth + 1, api.MaxWidth + 2, api.MaxTime, math.MaxUint64 - clock, math.MaxUint64 - clock + 1, math.MaxUint64} {
			m := New(store.New(), clock)
			play(t, "P12.2: another width", m, fmt.Sprintf("begin %d: error 1; snapshot: 1; begin %d: error 1", width, width))
		}
	}
	play(t, "P12.2: at MaxTime", New(store.New(), api.MaxTime), "begin 1: error 6; begin 1000: error 6; begin 0: error 1; begin 1001: error 1; snapshot: 1; begin 5: error 6; txn 1: snap 1099511627776..1099511627776; commit 1: 1099511627776")
	play(t, "P12.2: up to MaxTime", New(store.New(), api.MaxTime-1), "begin 9: 1; txn 1: write 1099511627776..1099511627776; commit 1: 1099511627776; begin 9: error 6; clock: 1099511627776")
	play(t, "P12.2: ticked to MaxTime", New(store.New(), api.MaxTime-4), "begin 9: 1; txn 1: write 1099511627773..1099511627776; tick 4: ok; begin 9: error 6; snapshot: 2; txn 2: snap 1099511627772..1099511627772; commit 1: 1099511627773; clock: 1099511627776")
}

// TestLiveLimit begins as many as are allowed, of both kinds.
func TestLiveLimit(t *testing.T) {
	for snaps := range api.MaxLive + 1 {
		m := fresh()
		for n := 1; n <= api.MaxLive; n++ {
			if n <= snaps {
				play(t, "P12.2", m, fmt.Sprintf("snapshot: %d", n))
			} else {
				play(t, "P12.2", m, fmt.Sprintf("begin 20: %d", n))
			}
		}
		play(t, "P12.2: MaxLive are active", m, "begin 1: error 5; begin 1000: error 5; snapshot: error 5; begin 0: error 1; begin 1001: error 1; begin 5: error 5")
		play(t, "P12.2: one is committed", m, fmt.Sprintf("commit 16: %d; begin 5: 17; begin 5: error 5; snapshot: error 5", min(16-snaps, 1)))
		play(t, "P12.2: one is aborted", m, "abort 3: ok; snapshot: 18; snapshot: error 5; begin 1: error 5")
	}
	m := New(store.New(), api.MaxTime-1)
	for n := 1; n <= api.MaxLive; n++ {
		play(t, "P12.2", m, fmt.Sprintf("begin 9: %d", n))
	}
	play(t, "P12.2: the clock is held ahead of the number of those that are active", m, "begin 1: error 5; tick 1: ok; begin 1: error 6; begin 0: error 1; snapshot: error 5")
	// One that a conflict has aborted is not active.
	play(t, "P12.2: a conflict", m, "commit 1: 1099511627776; commit 2: error 7; snapshot: 17; snapshot: 18; snapshot: error 5")
}

func TestSnapshot(t *testing.T) {
	play(t, "P12.2", fresh(), `snapshot: 1; txn 1: snap 0..0; tick 5: ok; snapshot: 2; txn 2: snap 5..5; begin 9: 3; tick 2: ok; snapshot: 4; txn 4: snap 5..5; commit 3: 6; snapshot: 5; txn 5: snap 7..7;
		txn 1: snap 0..0; point 1: 0; point 5: 7; wrote 1:; clock: 7; locks:`)
}

func TestNumbers(t *testing.T) {
	m := New(store.New(), api.MaxTime-5)
	play(t, "P12.2: only successful calls use up a number", m, "begin 0: error 1; begin 1001: error 1; begin 1: 1; begin 0: error 1; snapshot: 2; abort 1: ok; begin 1: 3; commit 3: 1099511627772; begin 9: 4; abort 4: ok; abort 4: error 4; snapshot: 5; tick 4: ok; begin 1: error 6; begin 1: error 6; snapshot: 6")
	for n := 7; n < 7+api.MaxLive-3; n++ {
		play(t, "P12.2", m, fmt.Sprintf("snapshot: %d", n))
	}
	play(t, "P12.2: ErrLive uses up none", m, "snapshot: error 5; snapshot: error 5; abort 2: ok; snapshot: 20; snapshot: error 5; commit 20: 1099511627776; snapshot: 21")
}

// badKeys are keys that are not valid, goodKeys are ones that are, in ascending order.
func badKeys() []string {
	return []string{"", strings.Repeat("k", api.MaxKey+1), strings.Repeat("\x00", api.MaxKey+1), strings.Repeat("ä", api.MaxKey/2+1), strings.Repeat("k", 5000)}
}

func goodKeys() []string {
	return []string{"\x00", " ", "#", "-", "0", "a", "a\x00", strings.Repeat("k", api.MaxKey), strings.Repeat("ä", api.MaxKey/2), "\xff", strings.Repeat("\xff", api.MaxKey)}
}

// TestKeys makes each call that has a key with valid ones and others, by a transaction of each kind and by none.
func TestKeys(t *testing.T) {
	m := fresh()
	play(t, "P12.2", m, "begin 9: 1; snapshot: 2; begin 9: 3; commit 3: 1; begin 9: 4; abort 4: ok")
	for _, n := range []int{1, 2, 0, 3, 4, 5, -1, math.MinInt, math.MaxInt} {
		for _, key := range append(badKeys(), goodKeys()...) {
			bad := slices.Contains(badKeys(), key)
			want, write := api.OK, api.OK
			switch {
			case n != 1 && n != 2:
				want, write = api.ErrNone, api.ErrNone
			case n == 2 && bad:
				want, write = api.ErrKey, api.ErrRead
			case n == 2:
				write = api.ErrRead
			case bad:
				want, write = api.ErrKey, api.ErrKey
			}
			about := fmt.Sprintf("transaction %d, key %q", n, key)
			value, has, e := m.Read(n, key)
			if e != want || value != "" || has {
				t.Fatalf("P12.3: %s: Read = %q, %v, %d, want none, %d", about, value, has, e, want)
			}
			first, last := "\x00", strings.Repeat("\xff", api.MaxKey)
			for _, call := range []struct {
				name string
				want api.Errno
				do   func() api.Errno
			}{
				{"Read", want, func() api.Errno { _, _, e := m.Read(n, key); return e }},
				{"Scan from", want, func() api.Errno { _, e := m.Scan(n, key, last, 9); return e }},
				{"Scan to", want, func() api.Errno { _, e := m.Scan(n, first, key, 9); return e }},
				{"Scan both", want, func() api.Errno { _, e := m.Scan(n, key, key, 50); return e }},
				{"Put", write, func() api.Errno { return m.Put(n, key, "") }},
				{"Delete", write, func() api.Errno { return m.Delete(n, key) }},
			} {
				if call.want != api.OK {
					unchanged(t, "P12.3, P12.4: "+about+": "+call.name, m, call.want, call.do)
				} else if e := call.do(); e != api.OK {
					t.Fatalf("P12.3, P12.4: %s: %s: error %d", about, call.name, e)
				}
			}
		}
	}
	if got := m.Wrote(1); !slices.Equal(got, slices.Sorted(slices.Values(goodKeys()))) {
		t.Errorf("P12.4: Wrote(1) = %q", got)
	}
}

// several is the start of many tests: a has versions at 1 and 4, b is gone at 2, c has a version at 12; transactions 9 and 10 have the spans {1, 6} and {1, 4}.
const several = `begin 1: 1; begin 2: 2; begin 3: 3; begin 4: 4; begin 6: 5; begin 6: 6; begin 4: 7; begin 5: 8; begin 6: 9; begin 4: 10;
	put 1 a x: ok; put 1 b y: ok; commit 1: 1; delete 2 b: ok; commit 2: 2; commit 3: 3; put 4 a z: ok; commit 4: 4;
	abort 5: ok; abort 6: ok; abort 7: ok; abort 8: ok; tick 7: ok; begin 1: 11; put 11 c w: ok; commit 11: 12; clock: 12; locks:; rows: a 1=x 4=z, b 1=y 2=gone, c 12=w; live: 9 10`

func TestRead(t *testing.T) {
	for _, x := range []struct{ about, script string }{
		{"a version within the span", "get 9 a: value z; txn 9: write 5..6; locks: 9 a..a 5..6"},
		{"a version at Hi", "get 10 a: error 7; live: 9; txn 10: error 4; locks:; get 10 a: error 4; txn 9: write 1..6"},
		{"a deleted one within the span", "get 9 b: none; txn 9: write 3..6; locks: 9 b..b 3..6; get 10 b: none; txn 10: write 3..4; locks: 9 b..b 3..6, 10 b..b 3..4"},
		{"a version above Hi", "get 9 c: none; txn 9: write 1..6; locks: 9 c..c 1..6; get 10 c: none; txn 10: write 1..4"},
		{"no version", "get 9 d: none; txn 9: write 1..6; locks: 9 d..d 1..6"},
		{"a version below the span", "begin 3: 12; get 12 a: value z; txn 12: write 13..15; locks: 12 a..a 5..15; get 12 b: none; get 12 c: value w; txn 12: write 13..15; locks: 12 a..a 5..15, 12 b..b 3..15, 12 c..c 13..15"},
		{"each of them", "get 9 d: none; get 9 b: none; get 9 c: none; get 9 a: value z; txn 9: write 5..6; locks: 9 d..d 1..6, 9 b..b 3..6, 9 c..c 1..6, 9 a..a 5..6"},
		{"in another order: the span is not enlarged again", "get 9 a: value z; txn 9: write 5..6; get 9 b: none; txn 9: write 5..6; get 9 d: none; txn 9: write 5..6; locks: 9 a..a 5..6, 9 b..b 3..6, 9 d..d 1..6"},
		{"a new lock each time", "get 9 a: value z; get 9 a: value z; get 9 a: value z; locks: 9 a..a 5..6, 9 a..a 5..6, 9 a..a 5..6; txn 9: write 5..6"},
		{"its own write, without a lock", "put 9 a v: ok; get 9 a: value v; txn 9: write 1..6; locks:; put 9 a -: ok; get 9 a: value -; locks:; put 9 d u: ok; get 9 d: value u; locks:; live: 9 10"},
		{"its own deletion, without a lock", "delete 9 a: ok; get 9 a: none; txn 9: write 1..6; locks:; delete 9 d: ok; get 9 d: none; locks:; put 9 d u: ok; get 9 d: value u; delete 9 d: ok; get 9 d: none; locks:"},
		{"its own write of a key with a version at Hi", "put 10 a v: ok; get 10 a: value v; delete 10 a: ok; get 10 a: none; live: 9 10; txn 10: write 1..4"},
		{"a read, and then its own write", "get 9 a: value z; put 9 a v: ok; get 9 a: value v; locks: 9 a..a 5..6; delete 9 a: ok; get 9 a: none; locks: 9 a..a 5..6"},
		{"another's write", "put 10 a v: ok; put 10 d v: ok; get 9 a: value z; get 9 d: none; locks: 9 a..a 5..6, 9 d..d 1..6"},
		{"a conflict ends its locks and no others", "get 10 b: none; get 9 d: none; get 10 d: none; locks: 10 b..b 3..4, 9 d..d 1..6, 10 d..d 1..4; put 10 e v: ok; get 10 a: error 7; locks: 9 d..d 1..6; live: 9; wrote 10:; version 10 e: 0=-; commit 10: error 4; abort 10: error 4; rows: a 1=x 4=z, b 1=y 2=gone, c 12=w"},
		{"a deleted one at Hi", "begin 4: 12; begin 4: 13; begin 4: 14; begin 4: 15; delete 12 b: ok; commit 13: 13; commit 14: 14; commit 15: 15; commit 12: 16; tick 1: ok; begin 1: 16; get 16 b: none"},
		{"numbers of none", "get 0 a: error 4; get 1 a: error 4; get 5 a: error 4; get 12 a: error 4; get -9 a: error 4; get 0: error 4; get 9: error 2; get 10 kkkkkkkkkkkkkkkkkkkkkkkkkkkkkkkkk: error 2"},
	} {
		play(t, "P12.3: Read: "+x.about, over(t, several), x.script)
	}
}

// TestReadGoneAtHi: a key that is deleted at Hi is a conflict like one that gets a value there.
func TestReadGoneAtHi(t *testing.T) {
	m := fresh()
	play(t, "P12.3", m, "begin 2: 1; begin 2: 2; begin 3: 3; begin 2: 4; commit 1: 1; delete 2 a: ok; commit 2: 2; get 3 a: none; txn 3: write 3..3; get 4 a: error 7; live: 3; locks: 3 a..a 3..3")
}

// TestReadTimes holds Read against versions of a key at each time of the clock and behind, for each span.
func TestReadTimes(t *testing.T) {
	for at := uint64(1); at <= 9; at++ {
		for _, gone := range []bool{false, true} {
			for lo := uint64(1); lo <= 9; lo++ {
				for hi := lo; hi <= 9; hi++ {
					m := New(store.New(), lo-1)
					play(t, "P12.2", m, fmt.Sprintf("begin %d: 1; txn 1: write %d..%d", hi-lo+1, lo, hi))
					m.Store.Put("k", chain.Version{At: at, Value: map[bool]string{false: "x"}[gone], Gone: gone})
					after, reply := lo, "value x"
					if gone || at > hi {
						reply = "none"
					}
					if at <= hi {
						after = max(lo, at+1)
					}
					from := uint64(1)
					if at <= hi {
						from = at + 1
					}
					about := fmt.Sprintf("P12.3: span {%d, %d}, version at %d", lo, hi, at)
					if at == hi {
						play(t, about, m, "get 1 k: error 7; live:; locks:")
						continue
					}
					play(t, about, m, fmt.Sprintf("get 1 k: %s; txn 1: write %d..%d; locks: 1 k..k %d..%d", reply, after, hi, from, hi))
				}
			}
		}
	}
}

func TestSnapshotReads(t *testing.T) {
	play(t, "P12.3: as of its time, without locks", over(t, several), `snapshot: 12; txn 12: snap 0..0; get 12 a: none; get 12 c: none; scan 12 a z 9: pairs; abort 9: ok; abort 10: ok;
		snapshot: 13; txn 13: snap 12..12; get 13 a: value z; get 13 b: none; get 13 c: value w; get 13 d: none; scan 13 a z 9: pairs a=z c=w; scan 13 b z 9: pairs c=w; scan 13 a z 1: pairs a=z; scan 13 b b 9: pairs; locks:; txn 13: snap 12..12;
		get 12 a: none; scan 12 a z 9: pairs; txn 12: snap 0..0; locks:; live: 12 13`)
	// What is committed behind its time it does not see, at its time it does.
	play(t, "P12.3: behind its time", fresh(), `begin 9: 1; put 1 a x: ok; commit 1: 1; snapshot: 2; begin 9: 3; put 3 a y: ok; put 3 b y: ok; snapshot: 4; commit 3: 2; snapshot: 5; begin 9: 6; delete 6 a: ok; commit 6: 3; snapshot: 7;
		get 2 a: value x; get 2 b: none; get 4 a: value x; get 4 b: none; get 5 a: value y; get 5 b: value y; get 7 a: none; scan 2 a z 9: pairs a=x; scan 4 a z 9: pairs a=x; scan 5 a z 9: pairs a=y b=y; scan 7 a z 9: pairs b=y; locks:;
		commit 2: 1; commit 4: 1; commit 5: 2; commit 7: 3; clock: 3`)
	// A snapshot reads a version at its time without a conflict, also at time 0.
	play(t, "P12.3: no conflict", fresh(), "begin 1: 1; put 1 a x: ok; commit 1: 1; snapshot: 2; get 2 a: value x; scan 2 a a 1: pairs a=x; live: 2; snapshot: 3; put 3 a y: error 8; get 3 a: value x")
}

func TestScan(t *testing.T) {
	for _, x := range []struct{ about, script string }{
		{"the latest of all versions", "scan 9 a z 9: pairs a=z; txn 9: write 5..6; locks: 9 a..z 1..6"},
		{"a version at Hi", "scan 10 a z 9: error 7; live: 9; locks:; txn 10: error 4; scan 10 a z 9: error 4"},
		{"a deleted one", "scan 9 b b 9: pairs; txn 9: write 3..6; locks: 9 b..b 1..6; scan 10 b c 9: pairs; txn 10: write 3..4; locks: 9 b..b 1..6, 10 b..c 1..4"},
		{"a version above Hi", "scan 9 c z 9: pairs; txn 9: write 1..6; locks: 9 c..z 1..6"},
		{"no keys", "scan 9 d z 9: pairs; txn 9: write 1..6; locks: 9 d..z 1..6; scan 9 aa aa 1: pairs; locks: 9 d..z 1..6, 9 aa..aa 1..6"},
		{"versions below the span", "begin 3: 12; scan 12 a z 9: pairs a=z c=w; txn 12: write 13..15; locks: 12 a..z 1..15; scan 12 a b 9: pairs a=z; scan 12 b z 9: pairs c=w; txn 12: write 13..15"},
		{"both ends are included", "begin 3: 12; scan 12 a c 9: pairs a=z c=w; scan 12 a a 9: pairs a=z; scan 12 c c 9: pairs c=w; scan 12 aa bz 9: pairs; scan 12 A Z 9: pairs; locks: 12 a..c 1..15, 12 a..a 1..15, 12 c..c 1..15, 12 aa..bz 1..15, 12 A..Z 1..15"},
		{"a new lock each time", "scan 9 b z 9: pairs; scan 9 b z 9: pairs; scan 9 b z 1: pairs; locks: 9 b..z 1..6, 9 b..z 1..6, 9 b..z 1..6; get 9 b: none; locks: 9 b..z 1..6, 9 b..z 1..6, 9 b..z 1..6, 9 b..b 3..6"},
		{"the lock is from 1 on, also when the span is not", "get 9 a: value z; scan 9 a b 9: pairs a=z; txn 9: write 5..6; locks: 9 a..a 5..6, 9 a..b 1..6; tick 5: ok; begin 2: 12; scan 12 a a 1: pairs a=z; locks: 9 a..a 5..6, 9 a..b 1..6, 12 a..a 1..19"},
		{"the span is not enlarged again", "scan 9 a a 9: pairs a=z; txn 9: write 5..6; scan 9 b b 9: pairs; txn 9: write 5..6; scan 9 x z 9: pairs; txn 9: write 5..6"},
		{"keys that are not among the first many count, too", "begin 9: 12; put 12 d v: ok; commit 12: 13; begin 2: 13; begin 2: 14; put 14 e v: ok; commit 14: 14; scan 13 a z 1: pairs a=z; txn 13: write 15..15; begin 1: 15; locks: 13 a..z 1..15"},
		{"a conflict at a key that is not among the first many", "begin 1: 12; begin 1: 13; put 12 z v: ok; commit 12: 13; scan 13 a z 1: error 7; live: 9 10; locks:"},
		{"a conflict ends its locks and no others", "get 9 d: none; get 10 d: none; scan 10 b b 9: pairs; put 10 e v: ok; scan 10 a a 9: error 7; locks: 9 d..d 1..6; live: 9; wrote 10:; commit 10: error 4; rows: a 1=x 4=z, b 1=y 2=gone, c 12=w"},
		{"its own writes", "put 9 a v: ok; put 9 d -: ok; put 9 bb u: ok; scan 9 a z 9: pairs a=v bb=u d=-; txn 9: write 3..6; locks: 9 a..z 1..6; scan 9 b c 9: pairs bb=u; scan 9 d d 9: pairs d=-; scan 9 e z 9: pairs"},
		{"its own deletions", "delete 9 a: ok; delete 9 d: ok; put 9 e v: ok; scan 9 a z 9: pairs e=v; txn 9: write 3..6; delete 9 b: ok; scan 9 a c 9: pairs; txn 9: write 3..6; delete 9 e: ok; scan 9 a z 9: pairs"},
		{"keys that it has written itself cause no conflict", "put 10 a v: ok; scan 10 a a 9: pairs a=v; txn 10: write 1..4; locks: 10 a..a 1..4; scan 10 a b 9: pairs a=v; txn 10: write 3..4; delete 10 a: ok; scan 10 a z 9: pairs; live: 9 10"},
		{"others' writes", "put 10 a v: ok; put 10 d v: ok; delete 10 b: ok; scan 9 a z 9: pairs a=z; txn 9: write 5..6; locks: 9 a..z 1..6"},
		{"own writes before, between and behind the store's, in order", "begin 9: 12; put 12 z 1: ok; put 12 A 2: ok; put 12 ab 3: ok; put 12 c 4: ok; put 12 b 5: ok; put 12 bb 6: ok; scan 12 A z 9: pairs A=2 a=z ab=3 b=5 bb=6 c=4 z=1; scan 12 A z 1: pairs A=2; scan 12 A z 3: pairs A=2 a=z ab=3; scan 12 A z 6: pairs A=2 a=z ab=3 b=5 bb=6 c=4; scan 12 a c 4: pairs a=z ab=3 b=5 bb=6; scan 12 ac bc 50: pairs b=5 bb=6"},
		{"errors in their order", "scan 0 b a 0: error 4; scan 12 a z 9: error 4; scan 9 b a 9: error 2; scan 9 aa a 0: error 2; scan 9 a z 0: error 1; scan 9 a z -1: error 1; scan 9 a z 51: error 1; scan 10 a z 0: error 1; scan 9: error 2; scan 10 b a 51: error 2; snapshot: 12; scan 12 b a 0: error 2; scan 12 a b 0: error 1; scan 12 a b 51: error 1; live: 9 10 12"},
	} {
		play(t, "P12.3: Scan: "+x.about, over(t, several), x.script)
	}
}

// TestScanMany scans more keys than MaxScan, with each many; some of the keys are the transaction's own.
func TestScanMany(t *testing.T) {
	const count = api.MaxScan + 10
	m := fresh()
	play(t, "P12.2", m, "begin 9: 1; begin 9: 2; begin 9: 3")
	var all []Pair
	for i := range count {
		key := fmt.Sprintf("k%02d", i)
		all = append(all, Pair{Key: key, Value: "v" + key})
		for n := 1; n <= 2; n++ {
			if i%3 != n {
				play(t, "P12.4", m, fmt.Sprintf("put %d %s v%s: ok", n, key, key))
			}
		}
		if i%5 == 0 {
			play(t, "P12.4", m, fmt.Sprintf("put 1 %s0 x: ok; delete 2 %s0: ok", key, key))
		}
	}
	play(t, "P12.4", m, "commit 1: 1; snapshot: 4")
	for _, many := range []int{1, 2, count/3 + 1, 49, api.MaxScan} {
		got, e := m.Scan(2, "k", "l", many)
		if e != api.OK || !slices.Equal(got, all[:many]) {
			t.Fatalf("P12.3: Scan of %d = %s, %d", many, pairs(got), e)
		}
		got, e = m.Scan(2, "k07", "k07", many)
		if e != api.OK || !slices.Equal(got, all[7:8]) {
			t.Fatalf("P12.3: Scan of one key = %s, %d", pairs(got), e)
		}
		// The last ones, of which there are fewer than many.
		rest := all[count-many/2-1:]
		got, e = m.Scan(2, rest[0].Key, "z", many)
		if e != api.OK || !slices.Equal(got, rest) {
			t.Fatalf("P12.3: Scan of the last ones = %s, %d, want %s", pairs(got), e, pairs(rest))
		}
	}
	for _, many := range []int{0, -1, api.MaxScan + 1, math.MinInt, math.MaxInt} {
		for _, n := range []int{2, 4} {
			unchanged(t, fmt.Sprintf("P12.3: Scan of %d", many), m, api.ErrRange, func() api.Errno { _, e := m.Scan(n, "k", "l", many); return e })
		}
	}
}

func TestPutAndDelete(t *testing.T) {
	for _, x := range []struct{ about, script string }{
		{"take effect at the commit, not before", `put 9 a v: ok; put 9 d u: ok; delete 9 b: ok; rows: a 1=x 4=z, b 1=y 2=gone, c 12=w; get 10 d: none; abort 10: ok; rows: a 1=x 4=z, b 1=y 2=gone, c 12=w;
			begin 9: 12; get 12 a: value z; get 12 d: none; abort 12: ok; locks:; commit 9: 5; rows: a 1=x 4=z 5=v, b 1=y 2=gone 5=gone, c 12=w, d 5=u; begin 9: 13; get 13 a: value v; get 13 b: none; get 13 d: value u`},
		{"the last one counts", "put 9 a u: ok; put 9 a v: ok; put 9 b u: ok; delete 9 b: ok; delete 9 c: ok; put 9 c -: ok; put 9 d u: ok; delete 9 d: ok; put 9 d v: ok; wrote 9: a b c d; version 9 a: 0=v; version 9 b: 0=gone; version 9 c: 0=-; version 9 d: 0=v; commit 9: 5; rows: a 1=x 4=z 5=v, b 1=y 2=gone 5=gone, c 5=- 12=w, d 5=v"},
		{"cause no locks and leave the span", "put 9 a v: ok; delete 9 b: ok; txn 9: write 1..6; locks:; put 10 a v: ok; txn 10: write 1..4; locks:; live: 9 10"},
		{"errors in their order", "snapshot: 12; put 0 a v: error 4; put 0: error 4; put 12 a v: error 8; put 12: error 8; delete 12 a: error 8; delete 12: error 8; delete 5 a: error 4; delete 5: error 4; put 9: error 2; delete 9: error 2; wrote 9:; wrote 12:; put 9 a v: ok; put 9: error 2; version 9 a: 0=v"},
		{"are forgotten with the transaction", "put 9 a v: ok; delete 9 b: ok; abort 9: ok; wrote 9:; version 9 a: 0=-; rows: a 1=x 4=z, b 1=y 2=gone, c 12=w; begin 9: 12; wrote 12:; get 12 a: value z; commit 12: 13; rows: a 1=x 4=z, b 1=y 2=gone, c 12=w"},
		{"of two transactions are their own", "put 9 a v: ok; put 10 a u: ok; put 10 e u: ok; wrote 9: a; wrote 10: a e; version 9 a: 0=v; version 10 a: 0=u; version 9 e: 0=-; get 9 a: value v; get 10 a: value u"},
		{"ahead of a version do not hide it", "put 9 c v: ok; commit 9: 5; rows: a 1=x 4=z, b 1=y 2=gone, c 5=v 12=w; begin 9: 12; get 12 c: value w"},
	} {
		play(t, "P12.4: "+x.about, over(t, several), x.script)
	}
}

func TestValues(t *testing.T) {
	m := fresh()
	play(t, "P12.2", m, "begin 9: 1; snapshot: 2; put 1 b w: ok")
	long := strings.Repeat("v", api.MaxValue+1)
	for _, value := range []string{long, strings.Repeat("\x00", api.MaxValue+1), strings.Repeat("ä", api.MaxValue/2+1), strings.Repeat("v", 70000)} {
		for _, key := range []string{"a", "b", strings.Repeat("k", api.MaxKey)} {
			unchanged(t, "P12.4: a long value", m, api.ErrValue, func() api.Errno { return m.Put(1, key, value) })
			unchanged(t, "P12.4: of a snapshot", m, api.ErrRead, func() api.Errno { return m.Put(2, key, value) })
			unchanged(t, "P12.4: of none", m, api.ErrNone, func() api.Errno { return m.Put(3, key, value) })
		}
		for _, key := range badKeys() {
			unchanged(t, "P12.4: no key", m, api.ErrKey, func() api.Errno { return m.Put(1, key, value) })
			unchanged(t, "P12.4: of a snapshot", m, api.ErrRead, func() api.Errno { return m.Put(2, key, value) })
			unchanged(t, "P12.4: of none", m, api.ErrNone, func() api.Errno { return m.Put(3, key, value) })
		}
	}
	for i, value := range []string{"", "v", "\x00", "-", long[:api.MaxValue-1], long[:api.MaxValue], strings.Repeat("ä", api.MaxValue/2), strings.Repeat("\xff", api.MaxValue)} {
		key := fmt.Sprintf("k%d", i)
		if e := m.Put(1, key, value); e != api.OK {
			t.Fatalf("P12.4: Put of %d bytes: error %d", len(value), e)
		}
		if got := m.Version(1, key); got != (chain.Version{Value: value}) {
			t.Fatalf("P12.4: Version = %s, want %q", version(got), value)
		}
		if got, has, e := m.Read(1, key); got != value || !has || e != api.OK {
			t.Fatalf("P12.3: Read = %q, %v, %d, want %q", got, has, e, value)
		}
	}
	play(t, "P12.4", m, "commit 1: 1; begin 9: 3")
	if got, has, e := m.Read(3, "k5"); got != long[:api.MaxValue] || !has || e != api.OK {
		t.Errorf("P12.4: committed is %q, %v, %d", got, has, e)
	}
}

func TestWroteAndVersion(t *testing.T) {
	play(t, "P12.4", over(t, several), `wrote 0:; wrote -1:; wrote 1:; wrote 12:; wrote 9:; version 0 a: 0=-; version 1 a: 0=-; version 12 a: 0=-; version 9 a: 0=-; version 9 c: 0=-; version 9: 0=-; put 9 m v: ok; put 9 a u: ok; delete 9 z: ok; put 9 Z -: ok; delete 9 10: ok; put 9 9 t: ok;
		wrote 9: 10 9 Z a m z; version 9 m: 0=v; version 9 a: 0=u; version 9 z: 0=gone; version 9 Z: 0=-; version 9 10: 0=gone; version 9 b: 0=-; version 10 m: 0=-; wrote 10:; get 9 c: none; scan 9 a z 9: pairs a=u m=v; wrote 9: 10 9 Z a m z; snapshot: 12; get 12 a: none; wrote 12:; version 12 a: 0=-;
		commit 9: 5; wrote 9:; version 9 m: 0=-`)
	m := fresh()
	play(t, "P12.2", m, "begin 9: 1")
	for i := range 300 {
		key := strconv.Itoa(i * 7919 % 1000)
		play(t, "P12.4", m, fmt.Sprintf("put 1 %s v: ok", key))
	}
	if got := m.Wrote(1); len(got) != 300 || !slices.IsSorted(got) {
		t.Errorf("P12.4: Wrote(1) = %v", got)
	}
}

func TestPoint(t *testing.T) {
	for _, x := range []struct{ about, script string }{
		{"of none", "point 0: error 4; point 1: error 4; point -1: error 4; begin 9: 1; point 1: 1; abort 1: ok; point 1: error 4; begin 9: 2; commit 2: 1; point 2: error 4"},
		{"of a snapshot", "snapshot: 1; point 1: 0; tick 8: ok; snapshot: 2; point 2: 8; begin 1: 3; commit 3: 9; point 2: 8; point 1: 0; snapshot: 4; point 4: 9; begin 9: 5; get 5 a: none; point 4: 9"},
		{"twice with the same result", "begin 3: 1; point 1: 1; point 1: 1; txn 1: write 1..3; clock: 0; begin 3: 2; point 2: 1; point 1: 1; put 1 a x: ok; point 1: 1; point 1: 1; live: 1 2; rows:; commit 1: 1; point 2: 2; point 2: 2"},
		{"past taken times", "begin 4: 1; begin 4: 2; begin 4: 3; begin 4: 4; begin 4: 5; commit 2: 1; point 1: 2; commit 4: 2; point 1: 3; commit 1: 3; point 3: 4; point 5: 4; commit 5: 4; point 3: error 7; live: 3; txn 3: write 1..4; point 3: error 7; commit 3: error 7; live:"},
		{"between taken times", "begin 1: 1; begin 9: 2; begin 9: 3; begin 9: 4; tick 3: ok; begin 1: 5; commit 5: 4; commit 1: 1; point 2: 2; commit 2: 2; point 3: 3; commit 3: 3; point 4: 5"},
		{"within a reduced span", "begin 5: 1; begin 5: 2; begin 1: 3; commit 3: 1; put 2 a x: ok; commit 2: 2; get 1 a: value x; point 1: 3; txn 1: write 3..5"},
		{"past a lock of another on a key that it has written", "begin 2: 1; begin 9: 2; get 1 a: none; point 2: 1; put 2 a x: ok; point 2: 3; put 2 b x: ok; point 2: 3; abort 1: ok; point 2: 1"},
		{"past a lock of another on a key that it has deleted", "begin 2: 1; begin 9: 2; get 1 a: none; delete 2 a: ok; point 2: 3; commit 2: 3; rows: a 3=gone"},
		{"not past a lock on a key that it has not written", "begin 2: 1; begin 9: 2; get 1 a: none; scan 1 c e 9: pairs; get 2 a: none; put 2 b x: ok; put 2 bz x: ok; put 2 ea x: ok; point 2: 1; put 2 d x: ok; point 2: 3"},
		{"not past its own locks", "begin 9: 1; get 1 a: none; scan 1 a z 9: pairs; put 1 a x: ok; delete 1 b: ok; point 1: 1; commit 1: 1; locks: 0 a..a 1..1, 0 a..z 1..1"},
		{"past locks of several, at several keys", "begin 3: 1; begin 1: 2; begin 9: 3; begin 9: 4; get 2 a: none; commit 2: 1; get 1 b: none; tick 5: ok; begin 1: 5; get 5 c: none; put 3 a x: ok; point 3: 2; put 3 b x: ok; point 3: 4; put 3 c x: ok; point 3: 8; abort 5: ok; point 3: 4; abort 1: ok; point 3: 2"},
		{"past locks and taken times together", "begin 9: 1; begin 2: 2; begin 9: 3; begin 9: 4; tick 2: ok; begin 1: 5; get 2 a: none; put 1 a x: ok; commit 5: 3; point 1: 4; commit 3: 1; point 1: 4; abort 2: ok; point 1: 2"},
		{"past locks of owner 0", "begin 9: 1; begin 9: 2; begin 9: 3; begin 2: 4; commit 3: 1; get 2 a: none; put 1 a x: ok; point 1: error 7; commit 2: 2; locks: 0 a..a 1..2; point 1: 3; put 4 a y: ok; point 4: error 7; put 4 b y: ok; commit 1: 3; commit 4: error 7; rows: a 3=x"},
		{"past locks of owner 0 from a scan", "begin 9: 1; begin 9: 2; begin 9: 3; scan 2 a m 9: pairs; commit 2: 1; scan 3 c z 9: pairs; commit 3: 2; put 1 b x: ok; point 1: 3; delete 1 z: ok; point 1: 3; locks: 0 a..m 1..1, 0 c..z 1..2"},
		{"with no time left nothing is changed", "begin 9: 1; begin 9: 2; get 1 a: none; put 2 a x: ok; put 2 b y: ok; get 2 c: none; point 2: error 7; point 2: error 7; live: 1 2; txn 2: write 1..9; wrote 2: a b; version 2 a: 0=x; locks: 1 a..a 1..9, 2 c..c 1..9; abort 1: ok; point 2: 1; commit 2: 1; rows: a 1=x, b 1=y"},
		{"past a lock at the beginning of its span only", "begin 9: 1; tick 2: ok; begin 1: 2; tick 2: ok; begin 9: 3; put 1 a x: ok; get 2 a: none; put 3 a y: ok; point 1: 4; point 3: 5; get 3 b: none; put 1 b x: ok; point 1: error 7; put 2 b z: ok; point 2: error 7"},
		{"the greatest time of its span", "begin 2: 1; begin 3: 2; scan 1 a z 9: pairs; put 2 a x: ok; point 2: 3; commit 2: 3; clock: 3; rows: a 3=x; commit 1: 1; clock: 3"},
	} {
		play(t, "P12.4: Point: "+x.about, fresh(), x.script)
	}
}

// TestPointWidth: every one of the greatest span's times can be the point.
func TestPointWidth(t *testing.T) {
	m := fresh()
	play(t, "P12.2", m, "begin 1000: 1; begin 1000: 2")
	for at := 1; at < api.MaxWidth; at++ {
		play(t, "P12.4", m, fmt.Sprintf("point 1: %d; begin 1: %d; commit %d: %d", at, at+2, at+2, at))
	}
	play(t, "P12.4", m, "commit 1: 1000; point 2: error 7; commit 2: error 7")
}

func TestCommit(t *testing.T) {
	for _, x := range []struct{ about, script string }{
		{"of none", "commit 0: error 4; commit 1: error 4; commit -1: error 4; begin 9: 1; commit 1: 1; commit 1: error 4; begin 9: 2; abort 2: ok; commit 2: error 4"},
		{"at Point's time", "begin 9: 1; put 1 a x: ok; delete 1 b: ok; put 1 c -: ok; point 1: 1; commit 1: 1; rows: a 1=x, b 1=gone, c 1=-; clock: 1; live:; locks:; txn 1: error 4"},
		{"without writes", "begin 9: 1; begin 9: 2; commit 1: 1; clock: 1; rows:; point 2: 2; commit 2: 2; clock: 2"},
		{"the time is taken", "begin 3: 1; begin 3: 2; begin 3: 3; begin 3: 4; commit 1: 1; commit 2: 2; commit 3: 3; commit 4: error 7; live:; clock: 3"},
		{"the clock does not go back", "begin 9: 1; tick 5: ok; commit 1: 1; clock: 5; begin 9: 2; txn 2: write 6..14; tick 1: ok; commit 2: 6; clock: 6; begin 9: 3; begin 9: 4; commit 3: 7; clock: 7; commit 4: 8; clock: 8"},
		{"its locks become those of owner 0, up to that time", "begin 9: 1; begin 9: 2; begin 9: 3; get 1 a: none; get 2 b: none; scan 1 c d 9: pairs; commit 3: 1; get 1 e: none; commit 1: 2; locks: 0 a..a 1..2, 2 b..b 1..9, 0 c..d 1..2, 0 e..e 1..2; commit 2: 3; locks: 0 a..a 1..2, 0 b..b 1..3, 0 c..d 1..2, 0 e..e 1..2"},
		{"locks from a version on", "begin 9: 1; begin 9: 2; put 1 a x: ok; commit 1: 1; get 2 a: value x; commit 2: 2; locks: 0 a..a 2..2; begin 9: 3; get 3 a: value x; tick 3: ok; begin 9: 4; get 4 a: value x; commit 3: 3; commit 4: 6; locks: 0 a..a 2..2, 0 a..a 2..3, 0 a..a 2..6"},
		{"with a conflict it is aborted", "begin 2: 1; begin 2: 2; begin 2: 3; begin 2: 4; get 2 z: none; commit 1: 1; put 2 a x: ok; delete 2 b: ok; commit 3: 2; point 2: error 7; live: 2 4; locks: 2 z..z 1..2; commit 2: error 7; live: 4; locks:; rows:; clock: 2; wrote 2:; version 2 a: 0=-; commit 2: error 4; get 2 a: error 4; abort 2: error 4; safe: 0; begin 1: 5; safe: 0; abort 4: ok; safe: 2"},
		{"with a conflict by a lock it is aborted", "begin 9: 1; begin 9: 2; get 1 a: none; get 2 b: none; put 2 a x: ok; commit 2: error 7; live: 1; locks: 1 a..a 1..9; rows:; clock: 0; point 1: 1; put 1 b y: ok; commit 1: 1; rows: b 1=y"},
		{"a snapshot just ends", "tick 4: ok; begin 9: 1; put 1 a x: ok; commit 1: 5; snapshot: 2; begin 2: 3; get 2 a: value x; commit 2: 5; live: 3; clock: 5; locks:; rows: a 5=x; txn 2: error 4; commit 2: error 4; point 3: 6; begin 9: 4; begin 9: 5; snapshot: 6; commit 4: 6; commit 5: 7; clock: 7; commit 6: 5; clock: 7"},
		{"a snapshot at a taken time, and one at a time that is not", "begin 9: 1; commit 1: 1; snapshot: 2; snapshot: 3; commit 2: 1; commit 3: 1; tick 3: ok; snapshot: 4; commit 4: 4; clock: 4; begin 9: 5; point 5: 5"},
		{"between versions", "begin 9: 1; begin 2: 2; begin 9: 3; begin 9: 4; tick 5: ok; begin 9: 5; put 5 a z: ok; commit 5: 6; put 3 a y: ok; commit 2: 1; commit 3: 2; rows: a 2=y 6=z; get 1 a: value z; txn 1: write 7..9; put 4 a x: ok; commit 4: 3; rows: a 2=y 3=x 6=z; begin 9: 6; get 6 a: value z"},
	} {
		play(t, "P12.4: Commit: "+x.about, fresh(), x.script)
	}
}

// TestCommitAtMaxTime: the greatest times are committed, and then there are none.
func TestCommitAtMaxTime(t *testing.T) {
	m := New(store.New(), api.MaxTime-2)
	play(t, "P12.4", m, `begin 1000: 1; begin 1000: 2; begin 1000: 3; get 1 a: none; put 2 a x: ok; point 2: error 7; commit 1: 1099511627775; locks: 0 a..a 1..1099511627775; commit 2: 1099511627776; clock: 1099511627776;
		commit 3: error 7; begin 1: error 6; snapshot: 4; get 4 a: value x; rows: a 1099511627776=x; commit 4: 1099511627776; purge 1099511627776: 0; locks:; rows: a 1099511627776=x; purge 1099511627777: error 1`)
}

func TestAbort(t *testing.T) {
	play(t, "P12.4: Abort", fresh(), `abort 0: error 4; abort 1: error 4; abort -1: error 4; begin 9: 1; begin 9: 2; snapshot: 3; get 1 a: none; get 2 a: none; scan 1 a z 9: pairs; put 1 a x: ok; locks: 1 a..a 1..9, 2 a..a 1..9, 1 a..z 1..9;
		abort 1: ok; live: 2 3; locks: 2 a..a 1..9; rows:; clock: 0; txn 1: error 4; wrote 1:; version 1 a: 0=-; get 1 a: error 4; scan 1 a z 9: error 4; put 1 a x: error 4; delete 1 a: error 4; point 1: error 4; commit 1: error 4; abort 1: error 4;
		abort 3: ok; live: 2; get 3 a: error 4; commit 3: error 4; abort 3: error 4; get 2 a: none; commit 2: 1; abort 2: error 4; locks: 0 a..a 1..1, 0 a..a 1..1; begin 9: 4; point 4: 2; abort 4: ok; clock: 1; begin 9: 5; point 5: 2`)
}

func TestPurge(t *testing.T) {
	for _, x := range []struct{ about, script string }{
		{"above Least", "purge 0: 0; purge 1: error 1; tick 5: ok; purge 5: 0; purge 6: error 1; begin 9: 1; tick 3: ok; purge 6: error 1; purge 5: 0; snapshot: 2; commit 1: 6; purge 5: 0; purge 6: error 1; purge 8: error 1; commit 2: 5; purge 8: 0; purge 9: error 1; purge 18446744073709551615: error 1"},
		{"versions", `begin 9: 1; put 1 a x: ok; put 1 b y: ok; put 1 c z: ok; commit 1: 1; begin 9: 2; put 2 a w: ok; delete 2 b: ok; commit 2: 2; begin 9: 3; put 3 a v: ok; put 3 d u: ok; commit 3: 3;
			purge 0: 0; purge 1: 0; rows: a 1=x 2=w 3=v, b 1=y 2=gone, c 1=z, d 3=u; purge 2: 3; rows: a 2=w 3=v, c 1=z, d 3=u; purge 2: 0; purge 3: 1; rows: a 3=v, c 1=z, d 3=u; begin 9: 4; get 4 b: none; locks: 4 b..b 1..12; get 4 a: value v; scan 4 a z 9: pairs a=v c=z d=u`},
		{"locks of owner 0 and of no other", `begin 9: 1; begin 9: 2; begin 9: 3; begin 9: 4; get 1 a: none; get 2 b: none; get 3 c: none; commit 1: 1; commit 2: 2; commit 3: 3; abort 4: ok; tick 1: ok; begin 9: 5; get 5 d: none;
			locks: 0 a..a 1..1, 0 b..b 1..2, 0 c..c 1..3, 5 d..d 1..13; purge 0: 0; locks: 0 a..a 1..1, 0 b..b 1..2, 0 c..c 1..3, 5 d..d 1..13; purge 1: 0; locks: 0 b..b 2..2, 0 c..c 2..3, 5 d..d 1..13; purge 2: 0; locks: 0 c..c 3..3, 5 d..d 1..13;
			purge 4: 0; locks: 5 d..d 1..13; purge 5: error 1; commit 5: 5; locks: 0 d..d 1..5; purge 5: 0; locks:`},
		{"taken times stay taken above it", "begin 9: 1; begin 9: 2; begin 9: 3; begin 9: 4; begin 9: 5; put 1 a x: ok; commit 1: 1; commit 2: 2; commit 3: 3; get 4 a: value x; txn 4: write 2..9; purge 0: 0; point 4: 4; point 5: 4; abort 5: ok; purge 1: 0; point 4: 4; commit 4: 4; purge 4: 0; begin 9: 6; point 6: 5"},
		{"with a snapshot", "begin 9: 1; put 1 a x: ok; commit 1: 1; snapshot: 2; begin 9: 3; put 3 a y: ok; commit 3: 2; purge 2: error 1; purge 1: 0; get 2 a: value x; scan 2 a z 9: pairs a=x; commit 2: 1; purge 2: 1; rows: a 2=y; snapshot: 4; get 4 a: value y"},
	} {
		play(t, "P12.5: "+x.about, fresh(), x.script)
	}
}

// TestPurgeForgets: of what was committed up to the time nothing is kept but the values.
func TestPurgeForgets(t *testing.T) {
	m := fresh()
	for n := 1; n <= 300; n++ {
		play(t, "P12.5", m, fmt.Sprintf("begin 9: %d; get %d a: %s; put %d a v%d: ok; commit %d: %d", n, n, map[bool]string{true: "none", false: fmt.Sprintf("value v%d", n-1)}[n == 1], n, n, n, n))
	}
	play(t, "P12.5", m, "purge 300: 299; locks:; rows: a 300=v300")
	if len(m.taken) > 0 || len(m.live) > 0 {
		t.Errorf("P12.5: left are %d taken times, %d transactions", len(m.taken), len(m.live))
	}
}

// scribble overwrites a list, with its spare capacity.
func scribble[T any](l []T, x T) {
	l = l[:cap(l)]
	for i := range l {
		l[i] = x
	}
}

// TestMemory: lists that are returned are the caller's own (R5).
func TestMemory(t *testing.T) {
	m := over(t, several)
	play(t, "R5", m, "begin 9: 12; put 12 d v: ok; put 12 a u: ok; delete 12 e: ok; scan 12 a z 9: pairs a=u c=w d=v; get 12 b: none; snapshot: 13")
	want := show(m)
	for range 3 {
		scribble(m.Live(), -7)
		scribble(m.Wrote(12), "q")
		scribble(m.Locks.All(), lock.Lock{Owner: 5, From: "a", To: "z", Span: span.Span{Lo: 1, Hi: 99}})
		for _, n := range []int{12, 13} {
			x, _ := m.Scan(n, "a", "z", 2)
			y, _ := m.Scan(n, "a", "z", 50)
			saved := slices.Clone(y)
			scribble(x, Pair{Key: "q", Value: "q"})
			if !slices.Equal(y, saved) {
				t.Errorf("R5: one Scan's result is in another's memory: %s", pairs(y))
			}
			scribble(y, Pair{Key: "q", Value: "q"})
		}
		// Scans add locks: all else is to be as it was.
		m.Locks.Release(12)
		if got := show(m); strings.ReplaceAll(got, do(m, "locks"), "") != strings.ReplaceAll(want, "12 a..z 1..21, 12 b..b 3..21", "") {
			t.Fatalf("R5: %s, before: %s", got, want)
		}
	}
	play(t, "R5", m, "scan 12 a z 50: pairs a=u c=w d=v; wrote 12: a d e; live: 9 10 12 13; commit 12: 13; rows: a 1=x 4=z 13=u, b 1=y 2=gone, c 12=w, d 13=v, e 13=gone")
}
