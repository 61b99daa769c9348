package disk

import (
	"fmt"
	"math"
	"slices"
	"strings"
	"testing"

	"selion/api"
	"selion/power"
)

// endless is a power that does not go.
func endless() *power.Power { return power.New(-1) }

// roomy returns a disk that has room for all that the tests write, and its power.
func roomy() (*Disk, *power.Power) {
	p := endless()
	return New(p, 1<<20), p
}

// ok fails the test if a call that is to succeed did not.
func ok(t *testing.T, call string, e api.Errno) {
	t.Helper()
	if e != api.OK {
		t.Fatalf("P4.2: %s = %d, want 0", call, e)
	}
}

// refused holds a call's error against the one that it is to return.
func refused(t *testing.T, call string, got, want api.Errno) {
	t.Helper()
	if got != want {
		t.Errorf("P4.2: %s = %d, want %d", call, got, want)
	}
}

// lay makes a file of which the first bytes are kept and the others loose.
func lay(t *testing.T, d *Disk, name, kept, loose string) {
	t.Helper()
	ok(t, "Append", d.Append(name, []byte(kept)))
	ok(t, "Sync", d.Sync(name))
	ok(t, "Append", d.Append(name, []byte(loose)))
}

// shown tells all that a disk says of its files: each one's name, its bytes, and a bar behind the kept ones.
func shown(d *Disk) string {
	var b strings.Builder
	for _, name := range d.Names() {
		data, found := d.Read(name)
		kept := d.Kept(name)
		if !found || kept < 0 || kept > len(data) {
			return fmt.Sprintf("%q: Read says %v and %d bytes, Kept says %d", name, found, len(data), kept)
		}
		fmt.Fprintf(&b, "%s=%s|%s ", name, data[:kept], data[kept:])
	}
	return strings.TrimSuffix(b.String(), " ")
}

// look holds a disk's files, as shown tells them, and Used against what is wanted.
func look(t *testing.T, when string, d *Disk, want string) {
	t.Helper()
	if got := shown(d); got != want {
		t.Errorf("P4: %s: files are %q, want %q", when, got, want)
	}
	used := 0
	for _, name := range d.Names() {
		data, _ := d.Read(name)
		used += len(data)
	}
	if got := d.Used(); got != used {
		t.Errorf("P4.1: %s: Used() = %d, want %d", when, got, used)
	}
}

// always returns a choice that is n for every file.
func always(n int) func(string, int) int {
	return func(string, int) int { return n }
}

// TestExample is the chapter's example.
func TestExample(t *testing.T) {
	d, _ := roomy()
	ok(t, "Append", d.Append("a", []byte("12345")))
	d.Crash(always(3))
	look(t, "after the crash", d, "a=123|")
}

// TestNew: a new disk has no files, whatever its room, and nothing is known of any name.
func TestNew(t *testing.T) {
	for _, room := range []int{math.MinInt, -1, 0, 1, 1000, math.MaxInt} {
		p := power.New(0)
		d := New(p, room)
		if got := d.Names(); len(got) != 0 {
			t.Errorf("P4.1: New(_, %d): Names() = %q, want none", room, got)
		}
		if got := d.Used(); got != 0 {
			t.Errorf("P4.1: New(_, %d): Used() = %d, want 0", room, got)
		}
		for _, name := range []string{"", "a"} {
			if b, found := d.Read(name); found || len(b) != 0 {
				t.Errorf("P4.1: New(_, %d): Read(%q) = %q, %v, want nothing, false", room, name, b, found)
			}
			if got := d.Kept(name); got != 0 {
				t.Errorf("P4.1: New(_, %d): Kept(%q) = %d, want 0", room, name, got)
			}
		}
		if p.Used() != 0 {
			t.Errorf("P4.1: New(_, %d) and what tells of a disk took %d steps", room, p.Used())
		}
	}
}

// TestUse goes once through the calls.
func TestUse(t *testing.T) {
	d, _ := roomy()
	ok(t, "Append", d.Append("log", []byte("one")))
	look(t, "a new file", d, "log=|one")
	ok(t, "Append", d.Append("log", []byte("two")))
	look(t, "an Append behind another", d, "log=|onetwo")
	ok(t, "Sync", d.Sync("log"))
	look(t, "a Sync", d, "log=onetwo|")
	ok(t, "Append", d.Append("log", []byte("three")))
	look(t, "an Append behind a Sync", d, "log=onetwo|three")
	ok(t, "Append", d.Append("image", []byte("i")))
	look(t, "a second file", d, "image=|i log=onetwo|three")
	ok(t, "Move", d.Move("image", "other"))
	look(t, "a Move", d, "log=onetwo|three other=|i")
	ok(t, "Cut", d.Cut("log", 8))
	look(t, "a Cut", d, "log=onetwoth| other=|i")
	ok(t, "Append", d.Append("log", []byte("X")))
	look(t, "an Append behind a Cut", d, "log=onetwoth|X other=|i")
	ok(t, "Remove", d.Remove("log"))
	look(t, "a Remove", d, "other=|i")
	ok(t, "Append", d.Append("log", []byte("again")))
	look(t, "a file made again", d, "log=|again other=|i")
}

// permutations calls do with each order of l.
func permutations(l []string, do func([]string)) {
	if len(l) == 0 {
		do(nil)
		return
	}
	for i := range l {
		rest := slices.Concat(l[:i], l[i+1:])
		permutations(rest, func(tail []string) { do(append([]string{l[i]}, tail...)) })
	}
}

// TestNames makes files in every order. Names are ordered byte by byte, a name of no bytes first.
func TestNames(t *testing.T) {
	want := []string{"", "A", "a", "a\x00", "ab", "\xff"}
	permutations(want, func(order []string) {
		d, _ := roomy()
		for _, name := range order {
			ok(t, "Append", d.Append(name, []byte(name)))
		}
		if got := d.Names(); !slices.Equal(got, want) {
			t.Fatalf("P4.1: made in the order %q: Names() = %q, want %q", order, got, want)
		}
		for _, name := range want {
			if b, found := d.Read(name); !found || string(b) != name {
				t.Fatalf("P4.1: made in the order %q: Read(%q) = %q, %v", order, name, b, found)
			}
		}
	})
}

// TestNameOfNoBytes: it is a name as any other.
func TestNameOfNoBytes(t *testing.T) {
	d, p := roomy()
	refused(t, `Sync("")`, d.Sync(""), api.ErrNone)
	lay(t, d, "", "k", "lo")
	look(t, "Append and Sync", d, "=k|lo")
	ok(t, `Move("", "a")`, d.Move("", "a"))
	look(t, "Move away", d, "a=k|lo")
	ok(t, `Move("a", "")`, d.Move("a", ""))
	look(t, "Move back", d, "=k|lo")
	ok(t, `Cut("", 2)`, d.Cut("", 2))
	look(t, "Cut", d, "=kl|")
	ok(t, `Remove("")`, d.Remove(""))
	look(t, "Remove", d, "")
	if p.Used() != 7 {
		t.Errorf("P4.2: %d steps, want 7", p.Used())
	}
}

// TestAppendNothing: an Append of no bytes creates a file and leaves one as it is that is there.
func TestAppendNothing(t *testing.T) {
	for _, room := range []int{0, 5} {
		for _, b := range [][]byte{nil, {}} {
			p := endless()
			d := New(p, room)
			ok(t, "Append", d.Append("new", b))
			look(t, "no bytes, to no file", d, "new=|")
			if b, found := d.Read("new"); !found || len(b) != 0 {
				t.Errorf("P4.1: Read of a file without bytes = %q, %v, want nothing, true", b, found)
			}
			if p.Used() != 1 {
				t.Errorf("P4.2: %d steps, want 1", p.Used())
			}
		}
	}
	for _, b := range [][]byte{nil, {}} {
		p := endless()
		d := New(p, 5)
		lay(t, d, "a", "12", "345")
		ok(t, "Append", d.Append("a", b))
		look(t, "no bytes, on a full disk", d, "a=12|345")
		if p.Used() != 4 {
			t.Errorf("P4.2: %d steps, want 4", p.Used())
		}
	}
}

// TestRoom appends what just fits, and a byte more than that, to a file that is there and to a new one.
func TestRoom(t *testing.T) {
	for _, c := range []struct {
		room, first, second int
		want                api.Errno
	}{
		{math.MinInt, 0, 0, api.ErrDisk}, // with less than no room not even no bytes fit
		{-1, 0, 0, api.ErrDisk},
		{-1, 0, 1, api.ErrDisk},
		{0, 0, 0, api.OK},
		{0, 0, 1, api.ErrDisk},
		{1, 0, 1, api.OK},
		{1, 0, 2, api.ErrDisk},
		{1, 1, 0, api.OK},
		{1, 1, 1, api.ErrDisk},
		{10, 4, 6, api.OK},
		{10, 4, 7, api.ErrDisk},
		{10, 10, 0, api.OK},
		{10, 10, 1, api.ErrDisk},
		{10, 9, 1000, api.ErrDisk},
		{math.MaxInt, 10, 1000, api.OK},
	} {
		for _, name := range []string{"a", "b"} {
			p := endless()
			d := New(p, c.room)
			if c.room >= 0 {
				ok(t, "Append", d.Append("a", make([]byte, c.first)))
			}
			before, steps := shown(d), p.Used()
			got := d.Append(name, make([]byte, c.second))
			refused(t, fmt.Sprintf("room for %d, %d in a: Append(%q, %d bytes)", c.room, c.first, name, c.second), got, c.want)
			if got == api.OK {
				if d.Used() != c.first+c.second || p.Used() != steps+1 {
					t.Errorf("P4.2: room for %d: %d used after %d steps, want %d after %d", c.room, d.Used(), p.Used(), c.first+c.second, steps+1)
				}
			} else if shown(d) != before || p.Used() != steps {
				t.Errorf("P4.2: room for %d: a refused Append changed the disk or was a step", c.room)
			}
		}
	}
}

// TestRoomAgain: a full disk has room again for just as many bytes as a call has taken away.
func TestRoomAgain(t *testing.T) {
	for _, c := range []struct {
		name string
		do   func(d *Disk)
		free int
	}{
		{"nothing", func(d *Disk) {}, 0},
		{"Sync", func(d *Disk) { d.Sync("a") }, 0},
		{"Move to a new name", func(d *Disk) { d.Move("a", "c") }, 0},
		{"Move onto itself", func(d *Disk) { d.Move("a", "a") }, 0},
		{"Move over b", func(d *Disk) { d.Move("a", "b") }, 3},
		{"Move over a", func(d *Disk) { d.Move("b", "a") }, 7},
		{"Remove of a", func(d *Disk) { d.Remove("a") }, 7},
		{"Remove of b", func(d *Disk) { d.Remove("b") }, 3},
		{"Cut to nothing", func(d *Disk) { d.Cut("a", 0) }, 7},
		{"Cut of a byte", func(d *Disk) { d.Cut("a", 6) }, 1},
		{"Cut of none", func(d *Disk) { d.Cut("a", 7) }, 0},
		{"Crash that leaves nothing loose", func(d *Disk) { d.Crash(always(0)) }, 8},
		{"Crash that leaves a byte of each", func(d *Disk) { d.Crash(always(1)) }, 6},
		{"Crash that leaves all", func(d *Disk) { d.Crash(func(_ string, loose int) int { return loose }) }, 0},
	} {
		d := New(endless(), 10)
		lay(t, d, "a", "12", "34567") // 2 bytes are kept, and none of b
		ok(t, "Append", d.Append("b", []byte("xyz")))
		c.do(d)
		if got := d.Used(); got != 10-c.free {
			t.Errorf("P4.1: %s: Used() = %d, want %d", c.name, got, 10-c.free)
		}
		refused(t, c.name+": Append of a byte too many", d.Append("new", make([]byte, c.free+1)), api.ErrDisk)
		refused(t, c.name+": Append of what fits", d.Append("new", make([]byte, c.free)), api.OK)
		refused(t, c.name+": Append behind that", d.Append("new", make([]byte, 1)), api.ErrDisk)
	}
}

// TestErrors: a call that returns an error changes nothing and is no step, with power left and without.
func TestErrors(t *testing.T) {
	calls := []struct {
		name string
		do   func(d *Disk) api.Errno
		want api.Errno
	}{
		{"Append of a byte too many", func(d *Disk) api.Errno { return d.Append("a", make([]byte, 3)) }, api.ErrDisk},
		{"Append of too many to a new file", func(d *Disk) api.Errno { return d.Append("new", make([]byte, 100)) }, api.ErrDisk},
		{"Sync of no file", func(d *Disk) api.Errno { return d.Sync("c") }, api.ErrNone},
		{"Sync of a part of a name", func(d *Disk) api.Errno { return d.Sync("") }, api.ErrNone},
		{"Move of no file", func(d *Disk) api.Errno { return d.Move("c", "d") }, api.ErrNone},
		{"Move of no file over one", func(d *Disk) api.Errno { return d.Move("c", "a") }, api.ErrNone},
		{"Move of no file onto itself", func(d *Disk) api.Errno { return d.Move("c", "c") }, api.ErrNone},
		{"Remove of no file", func(d *Disk) api.Errno { return d.Remove("c") }, api.ErrNone},
		{"Remove of a longer name", func(d *Disk) api.Errno { return d.Remove("aa") }, api.ErrNone},
		{"Cut of no file", func(d *Disk) api.Errno { return d.Cut("c", 0) }, api.ErrNone},
		{"Cut of no file out of range", func(d *Disk) api.Errno { return d.Cut("c", -1) }, api.ErrNone},
		{"Cut below 0", func(d *Disk) api.Errno { return d.Cut("a", -1) }, api.ErrRange},
		{"Cut far below 0", func(d *Disk) api.Errno { return d.Cut("a", math.MinInt) }, api.ErrRange},
		{"Cut beyond the length", func(d *Disk) api.Errno { return d.Cut("a", 6) }, api.ErrRange},
		{"Cut far beyond the length", func(d *Disk) api.Errno { return d.Cut("a", math.MaxInt) }, api.ErrRange},
		{"Cut beyond a file of no bytes", func(d *Disk) api.Errno { return d.Cut("e", 1) }, api.ErrRange},
	}
	const files = "a=12|345 b=|xyz e=|"
	for _, c := range calls {
		p := endless()
		d := New(p, 10)
		lay(t, d, "a", "12", "345")
		ok(t, "Append", d.Append("b", []byte("xyz")))
		ok(t, "Append", d.Append("e", nil))
		for _, q := range []*power.Power{p, power.New(0)} {
			d.Power(q)
			steps := q.Used()
			for range 2 {
				refused(t, c.name, c.do(d), c.want)
				look(t, c.name, d, files)
			}
			if q.Used() != steps {
				t.Errorf("P4.2: %s took %d steps, want none", c.name, q.Used()-steps)
			}
		}
	}
}

// step is a call that succeeds on the disk of steppedDisk, and what the files are then.
type step struct {
	name string
	do   func(d *Disk) api.Errno
	want string
}

// steppedFiles are the files of steppedDisk.
const steppedFiles = "a=12|345 b=|xyz e=|"

// steppedDisk returns a disk with files of all sorts and the given power.
func steppedDisk(t *testing.T, p *power.Power) *Disk {
	d := New(endless(), 100)
	lay(t, d, "a", "12", "345")
	ok(t, "Append", d.Append("b", []byte("xyz")))
	ok(t, "Append", d.Append("e", nil))
	look(t, "laid", d, steppedFiles)
	d.Power(p)
	return d
}

// steps are calls that succeed on the disk of steppedDisk.
func steps() []step {
	return []step{
		{"Append to a file", func(d *Disk) api.Errno { return d.Append("a", []byte("6")) }, "a=12|3456 b=|xyz e=|"},
		{"Append to an empty file", func(d *Disk) api.Errno { return d.Append("e", []byte("6")) }, "a=12|345 b=|xyz e=|6"},
		{"Append to a new file", func(d *Disk) api.Errno { return d.Append("c", []byte("6")) }, "a=12|345 b=|xyz c=|6 e=|"},
		{"Append of nothing", func(d *Disk) api.Errno { return d.Append("a", nil) }, steppedFiles},
		{"Append of nothing to a new file", func(d *Disk) api.Errno { return d.Append("c", nil) }, "a=12|345 b=|xyz c=| e=|"},
		{"Sync", func(d *Disk) api.Errno { return d.Sync("a") }, "a=12345| b=|xyz e=|"},
		{"Sync of a file without kept bytes", func(d *Disk) api.Errno { return d.Sync("b") }, "a=12|345 b=xyz| e=|"},
		{"Sync of an empty file", func(d *Disk) api.Errno { return d.Sync("e") }, steppedFiles},
		{"Move to a new name", func(d *Disk) api.Errno { return d.Move("a", "f") }, "b=|xyz e=| f=12|345"},
		{"Move to a new name in front", func(d *Disk) api.Errno { return d.Move("b", "") }, "=|xyz a=12|345 e=|"},
		{"Move over another file", func(d *Disk) api.Errno { return d.Move("a", "b") }, "b=12|345 e=|"},
		{"Move over a file with kept bytes", func(d *Disk) api.Errno { return d.Move("b", "a") }, "a=|xyz e=|"},
		{"Move of an empty file over another", func(d *Disk) api.Errno { return d.Move("e", "a") }, "a=| b=|xyz"},
		{"Move onto itself", func(d *Disk) api.Errno { return d.Move("a", "a") }, steppedFiles},
		{"Remove", func(d *Disk) api.Errno { return d.Remove("a") }, "b=|xyz e=|"},
		{"Remove of an empty file", func(d *Disk) api.Errno { return d.Remove("e") }, "a=12|345 b=|xyz"},
		{"Cut to nothing", func(d *Disk) api.Errno { return d.Cut("a", 0) }, "a=| b=|xyz e=|"},
		{"Cut of kept bytes", func(d *Disk) api.Errno { return d.Cut("a", 1) }, "a=1| b=|xyz e=|"},
		{"Cut to the kept bytes", func(d *Disk) api.Errno { return d.Cut("a", 2) }, "a=12| b=|xyz e=|"},
		{"Cut of loose bytes", func(d *Disk) api.Errno { return d.Cut("a", 4) }, "a=1234| b=|xyz e=|"},
		{"Cut at the whole length", func(d *Disk) api.Errno { return d.Cut("a", 5) }, "a=12345| b=|xyz e=|"},
		{"Cut of an empty file", func(d *Disk) api.Errno { return d.Cut("e", 0) }, steppedFiles},
	}
}

// TestSteps: a call that succeeds is one step.
func TestSteps(t *testing.T) {
	for _, s := range steps() {
		p := endless()
		d := steppedDisk(t, p)
		ok(t, s.name, s.do(d))
		look(t, s.name, d, s.want)
		if p.Used() != 1 {
			t.Errorf("P4.2: %s took %d steps, want 1", s.name, p.Used())
		}
	}
}

// TestPowerGoes: a call begins with its step, so that one at which the power goes is not done, and can be done later.
func TestPowerGoes(t *testing.T) {
	for _, s := range steps() {
		gone := power.New(0)
		d := steppedDisk(t, gone)
		if power.Run(func() { s.do(d) }) {
			t.Errorf("P4.2: %s: the power did not go", s.name)
		}
		look(t, s.name+", interrupted", d, steppedFiles)
		d.Power(endless())
		ok(t, s.name, s.do(d))
		look(t, s.name+", done again", d, s.want)
	}
}

// TestEveryStep lets the power go at each step of a sequence of calls: those before it are done, and no other one.
func TestEveryStep(t *testing.T) {
	calls := []func(d *Disk) api.Errno{
		func(d *Disk) api.Errno { return d.Append("a", []byte("12")) },
		func(d *Disk) api.Errno { return d.Sync("a") },
		func(d *Disk) api.Errno { return d.Append("a", []byte("345")) },
		func(d *Disk) api.Errno { return d.Append("b", []byte("x")) },
		func(d *Disk) api.Errno { return d.Move("a", "c") },
		func(d *Disk) api.Errno { return d.Move("c", "b") },
		func(d *Disk) api.Errno { return d.Cut("b", 4) },
		func(d *Disk) api.Errno { return d.Remove("b") },
	}
	want := []string{"", "a=|12", "a=12|", "a=12|345", "a=12|345 b=|x", "b=|x c=12|345", "b=12|345", "b=1234|", ""}
	for limit := range len(calls) + 2 {
		p := power.New(limit)
		d := New(p, 100)
		whole := power.Run(func() {
			for _, call := range calls {
				d.Remove("none") // an error is no step
				ok(t, "a call", call(d))
			}
		})
		done := min(limit, len(calls))
		if whole != (limit >= len(calls)) || p.Used() != done {
			t.Errorf("P4.2: with power for %d steps: Run = %v after %d", limit, whole, p.Used())
		}
		look(t, fmt.Sprintf("with power for %d steps", limit), d, want[done])
	}
}

// TestNoSteps: what only tells, another power, and a crash take no step, also when the power is gone.
func TestNoSteps(t *testing.T) {
	p := power.New(0)
	d := steppedDisk(t, p)
	whole := power.Run(func() {
		look(t, "the power is gone", d, steppedFiles)
		d.Kept("none")
		d.Read("none")
		d.Power(p)
		d.Crash(always(1))
		look(t, "crashed", d, "a=123| b=x| e=|")
	})
	if !whole || p.Used() != 0 {
		t.Errorf("P4.1, P4.3: Run = %v after %d steps, want true after none", whole, p.Used())
	}
}

// TestPower: from the call on the new power's steps are done, and no more of the old one's.
func TestPower(t *testing.T) {
	first, second := power.New(1), power.New(2)
	d := New(first, 100)
	ok(t, "Append", d.Append("a", []byte("1")))
	d.Power(second)
	ok(t, "Append", d.Append("a", []byte("2")))
	ok(t, "Append", d.Append("a", []byte("3")))
	if power.Run(func() { d.Append("a", []byte("4")) }) {
		t.Error("P4.1: the second power did not go")
	}
	d.Power(first)
	if power.Run(func() { d.Append("a", []byte("5")) }) {
		t.Error("P4.1: the first power, set again, did not go")
	}
	if first.Used() != 1 || second.Used() != 2 {
		t.Errorf("P4.1: %d and %d steps, want 1 and 2", first.Used(), second.Used())
	}
	d.Power(endless())
	ok(t, "Append", d.Append("a", []byte("6")))
	look(t, "with an endless power", d, "a=|1236")
}

// TestPowerShared: two disks with one power share its steps, and nothing else.
func TestPowerShared(t *testing.T) {
	p := power.New(3)
	d, e := New(p, 10), New(p, 10)
	ok(t, "Append", d.Append("a", []byte("1234567890")))
	ok(t, "Append", e.Append("a", []byte("x")))
	ok(t, "Sync", d.Sync("a"))
	if power.Run(func() { e.Sync("a") }) {
		t.Error("P4.2: the power did not go at the fourth step")
	}
	e.Crash(always(0))
	look(t, "one disk", d, "a=1234567890|")
	look(t, "the other", e, "a=|")
}

// TestMove: kept and loose bytes go along, and the other file's are lost.
func TestMove(t *testing.T) {
	d, _ := roomy()
	lay(t, d, "a", "12", "345")
	lay(t, d, "b", "uvwxyz", "")
	ok(t, "Move", d.Move("a", "b"))
	look(t, "a over b", d, "b=12|345")
	refused(t, "Sync of the old name", d.Sync("a"), api.ErrNone)
	ok(t, "Append to the old name", d.Append("a", []byte("new")))
	look(t, "the old name again", d, "a=|new b=12|345")
	ok(t, "Append", d.Append("b", []byte("6")))
	look(t, "Append behind a Move", d, "a=|new b=12|3456")
	ok(t, "Move", d.Move("b", "b"))
	look(t, "b onto itself", d, "a=|new b=12|3456")
	d.Crash(always(2))
	look(t, "crashed", d, "a=ne| b=1234|")
}

// TestCutThenAppend: bytes that were cut off do not come back.
func TestCutThenAppend(t *testing.T) {
	d, _ := roomy()
	lay(t, d, "a", "1234", "567")
	ok(t, "Cut", d.Cut("a", 2))
	refused(t, "Cut at the old length", d.Cut("a", 4), api.ErrRange)
	ok(t, "Append", d.Append("a", []byte("x")))
	look(t, "cut and appended", d, "a=12|x")
	d.Crash(always(0))
	look(t, "crashed", d, "a=12|")
	ok(t, "Append", d.Append("a", []byte("yz")))
	look(t, "appended behind a crash", d, "a=12|yz")
}

// TestCrash: of 4 loose bytes so many are left, for what choose returns.
func TestCrash(t *testing.T) {
	for _, c := range []struct{ choice, left int }{
		{0, 0}, {1, 1}, {2, 2}, {3, 3}, {4, 4}, {5, 0}, {6, 1}, {9, 4}, {10, 0}, {1003, 3},
		{-1, 4}, {-2, 3}, {-3, 2}, {-4, 1}, {-5, 0}, {-6, 4}, {-1001, 4},
		{math.MaxInt, math.MaxInt % 5}, {math.MaxInt - 1, (math.MaxInt - 1) % 5},
		{math.MinInt, 5 + math.MinInt%5}, {math.MinInt + 1, 5 + (math.MinInt+1)%5},
	} {
		for _, kept := range []string{"", "kept"} {
			d, _ := roomy()
			lay(t, d, "a", kept, "1234")
			d.Crash(always(c.choice))
			look(t, fmt.Sprintf("crashed with %d", c.choice), d, "a="+kept+"1234"[:c.left]+"|")
			d.Crash(always(c.choice))
			look(t, fmt.Sprintf("crashed with %d twice", c.choice), d, "a="+kept+"1234"[:c.left]+"|")
		}
	}
}

// TestCrashNothingLoose: without loose bytes nothing is lost, whatever choose returns, and the file stays.
func TestCrashNothingLoose(t *testing.T) {
	for _, choice := range []int{math.MinInt, -1, 0, 1, 7, math.MaxInt} {
		d, _ := roomy()
		lay(t, d, "a", "12", "")
		ok(t, "Append", d.Append("e", nil))
		d.Crash(always(choice))
		look(t, fmt.Sprintf("crashed with %d", choice), d, "a=12| e=|")
	}
}

// asked is a question that Crash put to choose.
type asked struct {
	name  string
	loose int
}

// TestCrashAsks: choose is asked once for each file, in the order of the names, and told how many loose bytes it has; each file gets its own answer.
func TestCrashAsks(t *testing.T) {
	want := []asked{{"", 1}, {"A", 0}, {"a", 3}, {"ab", 2}, {"b", 0}}
	permutations([]string{"", "A", "a", "ab", "b"}, func(order []string) {
		d, _ := roomy()
		for _, name := range order {
			i := slices.IndexFunc(want, func(q asked) bool { return q.name == name })
			lay(t, d, name, "k", "123"[:want[i].loose])
		}
		ok(t, "Cut", d.Cut("b", 0))
		var got []asked
		d.Crash(func(name string, loose int) int {
			got = append(got, asked{name, loose})
			return len(got) // 1, 2, 3, 4, 5
		})
		if !slices.Equal(got, want) {
			t.Fatalf("P4.3: made in the order %q: choose was asked %v, want %v", order, got, want)
		}
		look(t, "crashed", d, "=k1| A=k| a=k123| ab=k1| b=|")
	})
	New(endless(), 0).Crash(func(string, int) int {
		t.Error("P4.3: choose was asked though there is no file")
		return 0
	})
}

// TestCrashLooks: within choose the disk may be looked at; files are processed one after another.
func TestCrashLooks(t *testing.T) {
	d, _ := roomy()
	lay(t, d, "a", "1", "234")
	lay(t, d, "b", "", "xyz")
	var seen []string
	d.Crash(func(name string, loose int) int {
		seen = append(seen, shown(d))
		return 1
	})
	if want := []string{"a=1|234 b=|xyz", "a=12| b=|xyz"}; !slices.Equal(seen, want) {
		t.Errorf("P4.3: choose saw %q, want %q", seen, want)
	}
	look(t, "crashed", d, "a=12| b=x|")
}

// TestCrashChanges: nothing is promised of a choose that changes the disk, except that Crash ends without a panic (P1).
func TestCrashChanges(t *testing.T) {
	for name, do := range map[string]func(d *Disk, name string){
		"Append": func(d *Disk, name string) { d.Append(name, []byte("more")) },
		"Sync":   func(d *Disk, name string) { d.Sync(name) },
		"Cut":    func(d *Disk, name string) { d.Cut(name, 0) },
		"Remove": func(d *Disk, name string) { d.Remove("a"); d.Remove("b") },
		"Move":   func(d *Disk, name string) { d.Move(name, "b") },
		"Crash":  func(d *Disk, name string) { d.Crash(always(0)) },
	} {
		for _, choice := range []int{-1, 0, 1, 3, 100} {
			d, _ := roomy()
			lay(t, d, "a", "1", "234")
			lay(t, d, "b", "uvw", "xyz")
			d.Crash(func(file string, loose int) int {
				do(d, file)
				return choice
			})
			for _, file := range d.Names() {
				if data, _ := d.Read(file); d.Kept(file) != len(data) {
					t.Errorf("P4.3: with a choose that calls %s and returns %d, %q has loose bytes left", name, choice, file)
				}
			}
		}
	}
}

// TestHandedIn (R5): what was handed in is neither modified nor kept, its spare capacity included.
func TestHandedIn(t *testing.T) {
	d, _ := roomy()
	b := []byte("12345678")
	ok(t, "Append", d.Append("a", b[:2:8]))
	ok(t, "Append", d.Append("b", b[2:4:8]))
	ok(t, "Append", d.Append("a", []byte("xy")))
	ok(t, "Append", d.Append("b", []byte("z")))
	ok(t, "Append", d.Append("a", b[4:6]))
	if string(b) != "12345678" {
		t.Errorf("R5: Append changed what was handed in to %q", b)
	}
	for i := range b {
		b[i] = '-'
	}
	look(t, "what was handed in is overwritten", d, "a=|12xy56 b=|34z")
}

// TestHandedOut (R5): what Read and Names returned is the caller's own, now and later.
func TestHandedOut(t *testing.T) {
	d, _ := roomy()
	lay(t, d, "a", "12", "345")
	lay(t, d, "b", "", "xyz")
	first, _ := d.Read("a")
	second, _ := d.Read("a")
	names := d.Names()
	ok(t, "Cut", d.Cut("a", 1))
	ok(t, "Append", d.Append("a", []byte("ABCD")))
	ok(t, "Append", d.Append("0", nil))
	if string(first) != "12345" || string(second) != "12345" || !slices.Equal(names, []string{"a", "b"}) {
		t.Errorf("R5: the disk changed its results to %q, %q, %q", first, second, names)
	}
	for _, b := range [][]byte{first, second} {
		for i := range b {
			b[i] = '-'
		}
		_ = append(b, "------"...)
		_ = append(b[:0], "------------"...)
	}
	names[0] = "-"
	_ = append(names, "-")
	look(t, "results are overwritten", d, "0=| a=1|ABCD b=|xyz")

	third, _ := d.Read("a")
	fourth, _ := d.Read("a")
	third[0] = '-'
	if string(fourth) != "1ABCD" {
		t.Errorf("R5: two results of Read share memory")
	}
}

// TestAppendOwnBytes appends what Read returned to the same file, and one file's bytes to another.
func TestAppendOwnBytes(t *testing.T) {
	d, _ := roomy()
	lay(t, d, "a", "12", "3")
	for range 3 {
		b, _ := d.Read("a")
		ok(t, "Append", d.Append("a", b))
	}
	b, _ := d.Read("a")
	ok(t, "Append", d.Append("b", b))
	ok(t, "Append", d.Append("a", []byte("x")))
	ok(t, "Append", d.Append("b", []byte("y")))
	all := strings.Repeat("123", 8)
	look(t, "appended", d, "a=12|"+all[2:]+"x b=|"+all+"y")
}

// TestAnyBytes: names and data may have bytes of any kind, and be long.
func TestAnyBytes(t *testing.T) {
	d, _ := roomy()
	every := make([]byte, 256)
	for i := range every {
		every[i] = byte(i)
	}
	long := strings.Repeat("n", 10000)
	for _, name := range []string{"\x00", "\xff\xfe", "..", "/a/b", " ", string(every), long} {
		ok(t, "Append", d.Append(name, every))
		if got, found := d.Read(name); !found || string(got) != string(every) {
			t.Errorf("P4.1: Read(%.20q) = %.20q, %v", name, got, found)
		}
		if d.Kept(name) != 0 {
			t.Errorf("P4.1: Kept(%.20q) = %d, want 0", name, d.Kept(name))
		}
	}
}

// modelByte is a byte of a file of the model.
type modelByte struct {
	b    byte
	kept bool
}

// modelFile is a file of the model.
type modelFile struct {
	name string
	data []modelByte
}

// model is a disk told in another way: a list of files, and each byte knows whether it is kept.
type model struct {
	room  int
	steps int
	files []modelFile
}

// at returns the index of a file, or -1.
func (m *model) at(name string) int {
	return slices.IndexFunc(m.files, func(f modelFile) bool { return f.name == name })
}

// drop removes a file, if there is one.
func (m *model) drop(name string) {
	m.files = slices.DeleteFunc(m.files, func(f modelFile) bool { return f.name == name })
}

func (m *model) append(name, b string) api.Errno {
	room := m.room
	for _, f := range m.files {
		room -= len(f.data)
	}
	if len(b) > room {
		return api.ErrDisk
	}
	m.steps++
	if m.at(name) < 0 {
		m.files = append(m.files, modelFile{name: name})
	}
	f := &m.files[m.at(name)]
	for i := range len(b) {
		f.data = append(f.data, modelByte{b: b[i]})
	}
	return api.OK
}

func (m *model) cut(name string, n int) api.Errno {
	i := m.at(name)
	if i < 0 {
		return api.ErrNone
	}
	if n < 0 || n > len(m.files[i].data) {
		return api.ErrRange
	}
	m.steps++
	m.files[i].data = m.files[i].data[:n]
	for k := range n {
		m.files[i].data[k].kept = true
	}
	return api.OK
}

func (m *model) sync(name string) api.Errno {
	i := m.at(name)
	if i < 0 {
		return api.ErrNone
	}
	return m.cut(name, len(m.files[i].data))
}

func (m *model) remove(name string) api.Errno {
	if m.at(name) < 0 {
		return api.ErrNone
	}
	m.steps++
	m.drop(name)
	return api.OK
}

func (m *model) move(from, to string) api.Errno {
	if m.at(from) < 0 {
		return api.ErrNone
	}
	m.steps++
	if from != to {
		m.drop(to)
		m.files[m.at(from)].name = to
	}
	return api.OK
}

func (m *model) crash(choice int) {
	for i, f := range m.files {
		var kept, loose []modelByte
		for _, b := range f.data {
			if b.kept {
				kept = append(kept, b)
			} else {
				loose = append(loose, modelByte{b.b, true})
			}
		}
		n := choice
		for n < 0 {
			n += len(loose) + 1
		}
		for n > len(loose) {
			n -= len(loose) + 1
		}
		m.files[i].data = append(kept, loose[:n]...)
	}
}

// shown tells the model's files as shown tells a disk's.
func (m *model) shown() string {
	var l []string
	for _, f := range m.files {
		var kept, loose []byte
		for _, b := range f.data {
			if b.kept {
				kept = append(kept, b.b)
			} else {
				loose = append(loose, b.b)
			}
		}
		l = append(l, fmt.Sprintf("%s=%s|%s", f.name, kept, loose))
	}
	slices.Sort(l)
	return strings.Join(l, " ")
}

// act is one call on a disk and on its model.
type act struct {
	name  string
	disk  func(d *Disk) api.Errno
	model func(m *model) api.Errno
}

// acts are calls on two files.
func acts() []act {
	var l []act
	for _, name := range []string{"a", "b"} {
		for _, b := range []string{"1", "234"} {
			l = append(l, act{"Append " + name + " " + b, func(d *Disk) api.Errno { return d.Append(name, []byte(b)) }, func(m *model) api.Errno { return m.append(name, b) }})
		}
		l = append(l,
			act{"Sync " + name, func(d *Disk) api.Errno { return d.Sync(name) }, func(m *model) api.Errno { return m.sync(name) }},
			act{"Remove " + name, func(d *Disk) api.Errno { return d.Remove(name) }, func(m *model) api.Errno { return m.remove(name) }},
			act{"Move " + name + " a", func(d *Disk) api.Errno { return d.Move(name, "a") }, func(m *model) api.Errno { return m.move(name, "a") }},
			act{"Cut " + name + " 2", func(d *Disk) api.Errno { return d.Cut(name, 2) }, func(m *model) api.Errno { return m.cut(name, 2) }},
		)
	}
	for _, choice := range []int{0, 2, -2} {
		l = append(l, act{fmt.Sprintf("Crash %d", choice), func(d *Disk) api.Errno { d.Crash(always(choice)); return api.OK }, func(m *model) api.Errno { m.crash(choice); return api.OK }})
	}
	return l
}

// TestModel does every sequence of five calls on a disk of little room and on the model, and holds all that both tell against each other.
func TestModel(t *testing.T) {
	const length = 5
	all := acts()
	order := make([]int, length)
	for {
		p := endless()
		d, m := New(p, 5), &model{room: 5}
		for _, i := range order {
			got, want := all[i].disk(d), all[i].model(m)
			if got != want {
				t.Fatalf("P4: calls %v: %s = %d, want %d", order, all[i].name, got, want)
			}
		}
		if got, want := shown(d), m.shown(); got != want || p.Used() != m.steps {
			t.Fatalf("P4: calls %v: %q after %d steps, want %q after %d", order, got, p.Used(), want, m.steps)
		}
		i := 0
		for i < length && order[i] == len(all)-1 {
			order[i] = 0
			i++
		}
		if i == length {
			return
		}
		order[i]++
	}
}

// TestRepeat (R6): the same calls have the same results, on one disk and on another one.
func TestRepeat(t *testing.T) {
	run := func() string {
		d := steppedDisk(t, endless())
		var b strings.Builder
		for _, s := range steps() {
			fmt.Fprintln(&b, s.do(d), shown(d), shown(d), d.Used(), d.Used())
		}
		d.Crash(func(name string, loose int) int { return len(name) + loose*3 })
		return b.String() + shown(d)
	}
	first := run()
	for range 20 {
		if got := run(); got != first {
			t.Fatalf("R6: the same calls gave %q and %q", got, first)
		}
	}
}
