package engine

import (
	"fmt"
	"slices"
	"strings"
	"testing"

	"selion/api"
	"selion/disk"
	"selion/power"
	"selion/store"
)

// lost is a way in which the power goes: after how many steps, and what is left of each file's loose bytes then.
type lost struct {
	limit int
	left  int
}

// What is left, if not just so many bytes. Without a crash the disk stays as it is.
const (
	uncrashed = -1
	half      = -2
	butOne    = -3
	whole     = -4
)

// keep returns how many of so many loose bytes are left.
func (l lost) keep(loose int) int {
	switch l.left {
	case half:
		return loose / 2
	case butOne:
		return loose - 1
	case whole:
		return loose
	}
	return l.left
}

// run does something on a disk with so much power, and lets the disk crash if the power went. It tells whether the power lasted, and whether there were fewer loose bytes than are to be left.
func run(d *disk.Disk, l lost, do func()) (lasted, over bool) {
	d.Power(power.New(l.limit))
	lasted = power.Run(do)
	if !lasted && l.left != uncrashed {
		most := 0
		d.Crash(func(name string, loose int) int {
			most = max(most, loose)
			return l.keep(loose)
		})
		over = l.left > most
	}
	d.Power(endless())
	return lasted, over
}

// each calls do with each way in which the power goes, at each step and with each number of bytes left, until do says that it lasted.
func each(do func(l lost) (lasted, over bool)) {
	for limit := 0; ; limit++ {
		for left := uncrashed; ; left++ {
			lasted, over := do(lost{limit, left})
			if lasted {
				return
			}
			if over {
				break
			}
		}
	}
}

// some is each with only some numbers of bytes left.
func some(do func(l lost) (lasted, over bool)) {
	for limit := 0; ; limit++ {
		for _, left := range []int{0, whole, half, butOne, uncrashed} {
			if lasted, _ := do(lost{limit, left}); lasted {
				return
			}
		}
	}
}

// life is a disk with the engine that is open on it, and what may be found when it is opened again.
type life struct {
	t    *testing.T
	when string
	b    *bench
	tell func(s *store.Store) string
	// may are the keys as they may be, wrote the greatest time at which one was committed that wrote.
	may   []string
	wrote uint64
	made  int
}

// fine fails the test if a call that is to succeed did not.
func (l *life) fine(call string, e api.Errno) {
	if e != api.OK {
		l.t.Fatalf("P15.3: %s: %s: error %d", l.when, call, e)
	}
}

// open opens the disk and holds the keys and the clock against what may be.
func (l *life) open() {
	g, e := Open(l.b.d)
	l.fine("Open", e)
	got := l.tell(g.Store)
	if !slices.Contains(l.may, got) {
		l.t.Fatalf("P15.3: %s: the keys are %q, want one of %q", l.when, got, l.may)
	}
	for _, c := range g.Store.All() {
		l.wrote = max(l.wrote, c[len(c)-1].At)
	}
	if g.Clock() < l.wrote {
		l.t.Fatalf("P15.3: %s: the clock is %d, and %d is a time of one that wrote", l.when, g.Clock(), l.wrote)
	}
	l.may, l.b.g = []string{got}, g
}

// begin begins a transaction, whose times are above those of all that wrote before the disk was opened.
func (l *life) begin() int {
	n, e := l.b.g.Begin(4)
	l.fine("Begin", e)
	return n
}

// put gives a key a new value, or in each third case takes it away.
func (l *life) put(n int, keys ...string) {
	for _, key := range keys {
		l.made++
		if l.made%3 == 0 {
			l.fine("Delete", l.b.g.Delete(n, key))
		} else {
			l.fine("Put", l.b.g.Put(n, key, fmt.Sprint("v", l.made)))
		}
	}
}

// commit commits a transaction: while it does, the keys may be as before, and as they are then.
func (l *life) commit(n int) {
	g, then := l.b.g, store.New()
	at, e := g.Point(n)
	l.fine("Point", e)
	for key, c := range g.Store.All() {
		for _, v := range c {
			then.Put(key, v)
		}
	}
	for _, key := range g.Wrote(n) {
		v := g.Version(n, key)
		v.At = at
		then.Put(key, v)
	}
	writes := len(g.Wrote(n)) > 0
	l.may = []string{l.tell(g.Store), l.tell(then)}
	_, e = g.Commit(n)
	l.fine("Commit", e)
	l.may = l.may[1:]
	if writes {
		l.wrote = max(l.wrote, at)
	}
	l.same("Commit")
}

// checkpoint makes a checkpoint, which leaves the keys as they are.
func (l *life) checkpoint() {
	l.fine("Checkpoint", l.b.g.Checkpoint())
	l.same("Checkpoint")
}

// same holds the engine's keys against what they are to be.
func (l *life) same(call string) {
	if got := l.tell(l.b.g.Store); got != l.may[0] {
		l.t.Fatalf("P15.2: %s: behind %s the keys are %q, want %q", l.when, call, got, l.may[0])
	}
}

// act is what is done with an engine.
type act struct {
	name string
	do   func(l *life)
}

// acts are those of which the tests make sequences.
func acts() []act {
	return []act{
		{"a Commit of one key", func(l *life) {
			n := l.begin()
			l.put(n, "a")
			l.commit(n)
		}},
		{"a Commit of many keys", func(l *life) {
			n := l.begin()
			l.put(n, "c", "a", "b", "d")
			l.commit(n)
		}},
		{"Commits at times that do not ascend", func(l *life) {
			n := l.begin()
			l.fine("Tick", l.b.g.Tick(5))
			m := l.begin()
			l.put(n, "a", "b")
			l.put(m, "b")
			l.commit(m)
			l.commit(n)
		}},
		{"a Checkpoint", (*life).checkpoint},
		{"a Checkpoint between Commits of transactions that are active together", func(l *life) {
			n := l.begin()
			l.fine("Tick", l.b.g.Tick(5))
			m := l.begin()
			l.put(n, "a")
			l.put(m, "a", "c")
			l.commit(m)
			l.checkpoint()
			l.commit(n)
		}},
		{"Commits without writes, and an Abort", func(l *life) {
			n, m := l.begin(), l.begin()
			l.put(m, "a")
			l.commit(n)
			s, e := l.b.g.Snapshot()
			l.fine("Snapshot", e)
			l.commit(s)
			l.fine("Abort", l.b.g.Abort(m))
		}},
	}
}

// purging are acts with a Purge. When the disk is opened again without a Checkpoint, the versions are there again that it has removed.
func purging() []act {
	return append(acts(), act{"a Purge", func(l *life) {
		_, e := l.b.g.Purge(l.b.g.Least())
		l.fine("Purge", e)
		l.same("Purge")
	}})
}

// sequences calls do with each list of n acts.
func sequences(n int, all []act, do func(l []act)) {
	if n == 0 {
		do(nil)
		return
	}
	sequences(n-1, all, func(l []act) {
		for _, a := range all {
			do(append(slices.Clone(l), a))
		}
	})
}

// start returns a life on a new disk, before it is opened.
func start(t *testing.T, tell func(s *store.Store) string) *life {
	return &life{t: t, b: &bench{d: disk.New(endless(), roomy)}, tell: tell, may: []string{""}}
}

// live opens the disk and does the acts, until they are done or the power goes.
func (l *life) live(list []act, loss lost) (lasted, over bool) {
	names := ""
	for _, a := range list {
		names += ", " + a.name
	}
	l.when += fmt.Sprintf("Open%s, with power for %d steps, then %d left; ", names, loss.limit, loss.left)
	return run(l.b.d, loss, func() {
		l.open()
		for _, a := range list {
			a.do(l)
		}
	})
}

// end opens the disk when all is over, also behind a crash, goes on with it, and opens it again.
func (l *life) end() {
	l.when += "and at the end"
	all := acts()
	for _, a := range []act{all[0], all[3], all[1]} {
		l.open()
		l.b.d.Crash(func(string, int) int { return 0 })
		l.open()
		a.do(l)
	}
	l.b.d.Crash(func(string, int) int { return 0 })
	l.open()
}

// TestPower (P15.3, P4): the power goes at each step of each act, with any number of loose bytes left.
func TestPower(t *testing.T) {
	for n := range 3 {
		sequences(n, acts(), func(list []act) {
			each(func(loss lost) (bool, bool) {
				l := start(t, rows)
				lasted, over := l.live(list, loss)
				l.end()
				return lasted, over
			})
		})
	}
}

// TestPowerPurge is TestPower for longer sequences, with purges, and of the keys' last values.
func TestPowerPurge(t *testing.T) {
	sequences(3, purging(), func(list []act) {
		some(func(loss lost) (bool, bool) {
			l := start(t, last)
			lasted, over := l.live(list, loss)
			l.end()
			return lasted, over
		})
	})
}

// TestPowerTwice: the power goes once more, at each step of the calls that follow.
func TestPowerTwice(t *testing.T) {
	all := acts()
	for _, list := range [][]act{all[1:2], all[2:3], all[3:4], {all[0], all[3]}, {all[2], all[3], all[0]}, all[4:5]} {
		for _, then := range [][]act{nil, all[:1], all[3:4], {all[0], all[3], all[1]}} {
			some(func(first lost) (lasted, over bool) {
				some(func(second lost) (bool, bool) {
					l := start(t, rows)
					lasted, over = l.live(list, first)
					wholeAgain, overAgain := l.live(then, second)
					l.end()
					return wholeAgain, overAgain
				})
				return lasted, over
			})
		}
	}
}

// TestPowerOften: the power goes within a few steps, again and again; what was committed stays.
func TestPowerOften(t *testing.T) {
	all := purging()
	for seed := range 150 {
		d := dice(seed + 300000)
		l := start(t, last)
		for range 30 {
			list := []act{all[d.below(len(all))], all[d.below(len(all))], all[d.below(len(all))]}
			l.when = fmt.Sprintf("sequence %d: ", seed)
			l.live(list, lost{d.below(14), d.below(80) - 4})
		}
		l.end()
	}
}

// TestCommitInterrupted: of a record that is being appended each number of bytes may be left. The transaction is there if all are, and else nothing of it.
func TestCommitInterrupted(t *testing.T) {
	record := logOf("2 a=x b=gone c=yy")
	for left := range len(record) + 1 {
		b := behind(t, "begin 9: 1; put 1 a old: ok; put 1 b old: ok; commit 1: 1; begin 9: 2; put 2 a x: ok; delete 2 b: ok; put 2 c yy: ok")
		lasted, _ := run(b.d, lost{1, left}, func() { b.g.Commit(2) })
		want := "a 1=old, b 1=old"
		if left == len(record) {
			want = "a 1=old 2=x, b 1=old 2=gone, c 2=yy"
		}
		if lasted {
			t.Fatal("P15.2: Commit took one step, but it appends and syncs")
		}
		b.play(t, fmt.Sprintf("P15.3: %d of a record's %d bytes left", left, len(record)), "open: ok; rows: "+want+"; live:; begin 9: 1; put 1 d z: ok")
	}
}

// TestCheckpointInterrupted: wherever the power of a Checkpoint goes, the image is the old one or the new one and the log has what the image has not; the clock is not below what it was in the image.
func TestCheckpointInterrupted(t *testing.T) {
	stages := map[string]bool{}
	each(func(loss lost) (lasted, over bool) {
		b := behind(t, "begin 9: 1; tick 2: ok; begin 9: 2; put 1 a x: ok; put 2 a y: ok; commit 2: 3; checkpoint: ok; commit 1: 1; begin 9: 3; put 3 b z: ok; commit 3: 4; tick 1: ok")
		lay(b.d, newName, "left behind")
		lasted, over = run(b.d, loss, func() { b.g.Checkpoint() })
		image, log := b.do("image 4 5 a 1=x 3=y, b 4=z"), b.do("log 1 a=x | 4 b=z")
		clock := 4
		switch {
		case image == "yes":
			// The new image has the log's records, whether the log has them still or not.
			clock = 5
			if log != "yes" && b.do("log") != "yes" {
				t.Fatalf("P15.3: power for %d steps, %d left: the log is %s", loss.limit, loss.left, log)
			}
		case b.do("image 3 3 a 3=y") != "yes" || log != "yes":
			t.Fatalf("P15.3: power for %d steps, %d left: the files are %s", loss.limit, loss.left, files(b.d))
		}
		stages[fmt.Sprint(image == "yes", log == "yes", strings.Contains(sizes(b.d), newName))] = true
		about := fmt.Sprintf("P15.3: power for %d steps, %d left", loss.limit, loss.left)
		b.play(t, about, fmt.Sprintf("open: ok; rows: a 1=x 3=y, b 4=z; clock: %d; begin 9: 1; txn 1: 0 %d..%d; delete 1 a: ok; commit 1: %d; open: ok; rows: a 1=x 3=y %d=gone, b 4=z", clock, clock+1, clock+9, clock+1, clock+1))
		b.play(t, about, fmt.Sprintf("checkpoint: ok; log: yes; image %d %d a 1=x 3=y %d=gone, b 4=z: yes; crash 0: ok; open: ok; rows: a 1=x 3=y %d=gone, b 4=z", clock+1, clock+1, clock+1, clock+1))
		return lasted, over
	})
	// The image is the old one, with an image-new and without; the new one with the log and without it.
	for _, stage := range []string{"false true true", "false true false", "true true false", "true false false"} {
		if !stages[stage] {
			t.Errorf("P15.2: the power never went where an image is new, its log there, and an image-new: %s (but %v)", stage, stages)
		}
	}
}

// TestCheckpointAfterInterrupted: a Checkpoint whose log was not cleared is followed by another one, without any Commit between them, and by one behind a Purge.
func TestCheckpointAfterInterrupted(t *testing.T) {
	for _, between := range []string{"", "purge 3: 2; ", "begin 9: 1; commit 1: 4; ", "begin 9: 1; put 1 b z: ok; abort 1: ok; "} {
		each(func(second lost) (lasted, over bool) {
			b := behind(t, "begin 9: 1; put 1 a x: ok; commit 1: 1; begin 9: 2; delete 2 a: ok; commit 2: 2; tick 1: ok")
			run(b.d, lost{3, 0}, func() { b.g.Checkpoint() })
			b.play(t, "P15.2", "image 2 3 a 1=x 2=gone: yes; log 1 a=x | 2 a=gone: yes; open: ok; clock: 3; rows: a 1=x 2=gone; "+between+"open: ok; clock: 3; rows: a 1=x 2=gone; "+between+"live:")
			want := rows(b.g.Store)
			clock := b.g.Clock()
			lasted, over = run(b.d, second, func() { b.g.Checkpoint() })
			old := b.do("image 2 3 a 1=x 2=gone") == "yes"
			if made := b.do(fmt.Sprintf("image 2 %d %s", clock, want)) == "yes"; !old && !made {
				t.Fatalf("P15.2: behind an interrupted Checkpoint %sand another one, power for %d steps, %d left: the files are %s", between, second.limit, second.left, files(b.d))
			}
			if old {
				want = "a 1=x 2=gone"
			}
			b.play(t, "P15.3: behind an interrupted Checkpoint "+between, "open: ok; rows: "+want)
			return lasted, over
		})
	}
}

// TestOpenInterrupted: an Open whose power goes has changed nothing, and what it would have found is found by the next one.
func TestOpenInterrupted(t *testing.T) {
	for _, x := range append(append(logs(), images()...), boths()...) {
		for _, tail := range append(tails(), "") {
			d := disk.New(endless(), roomy)
			write(d, x.files)
			d.Append(LogName, []byte(tail))
			before := files(d)
			lasted, _ := run(d, lost{0, uncrashed}, func() { Open(d) })
			if lasted != (tail == "") {
				t.Fatalf("P15.1: Open of %s with %.12q behind it: did it end without power? %v", x.about, tail, lasted)
			}
			if after := files(d); after != before {
				t.Fatalf("P15.3: Open of %s without power has changed %s into %s", x.about, before, after)
			}
			for _, left := range []int{0, 1, len(tail) / 2, len(tail)} {
				d.Crash(func(string, int) int { return left })
				wantOpen(t, on(t, d), laid{x.about + ", interrupted", nil, x.clock, x.rows})
				d.Append(LogName, []byte(tail))
				run(d, lost{0, uncrashed}, func() { Open(d) })
			}
		}
	}
}
