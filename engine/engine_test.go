package engine

import (
	"encoding/binary"
	"fmt"
	"hash/crc32"
	"math"
	"slices"
	"strconv"
	"strings"
	"testing"

	"selion/api"
	"selion/chain"
	"selion/disk"
	"selion/power"
	"selion/store"
	"selion/txn"
)

// roomy is more room than the tests need.
const roomy = 10000

// endless is a power that does not go.
func endless() *power.Power { return power.New(-1) }

// num returns a number's bytes by the words of chapter 5, which are those of Go's own varint.
func num(n uint64) string { return string(binary.AppendUvarint(nil, n)) }

// text returns a text's bytes.
func text(s string) string { return num(uint64(len(s))) + s }

// piece returns a piece's bytes by the words of chapter 6, with Go's own checksum.
func piece(data string) string {
	b := binary.LittleEndian.AppendUint32(nil, uint32(len(data)))
	b = binary.LittleEndian.AppendUint32(b, crc32.ChecksumIEEE([]byte(data)))
	return string(b) + data
}

// body returns a version's bytes by the words of chapter 13.
func body(v chain.Version) string {
	if v.Gone {
		return num(0)
	}
	return num(uint64(len(v.Value))+1) + v.Value
}

// recordOf returns a record's bytes. Its text is the time and, for each key, what it is given: 5 a=x b=gone c=-.
func recordOf(s string) string {
	w := strings.Fields(s)
	out := num(number(w[0])) + num(uint64(len(w)-1))
	for _, x := range w[1:] {
		key, value, _ := strings.Cut(x, "=")
		out += text(key) + body(versionOf(value))
	}
	return out
}

// logOf returns the bytes of a log's file: a piece for each of its records, with | between them.
func logOf(s string) string {
	out := ""
	for _, c := range list(s, "|") {
		out += piece(recordOf(c))
	}
	return out
}

// pictureOf returns an image's bytes by the words of chapter 14. Its text is that of rows: a 1=x 2=gone, b 2=-.
func pictureOf(clock uint64, rows string) string {
	keys := list(rows, ",")
	out := num(clock) + num(uint64(len(keys)))
	for _, row := range keys {
		w := strings.Fields(row)
		out += text(w[0]) + num(uint64(len(w)-1))
		for _, x := range w[1:] {
			at, value, _ := strings.Cut(x, "=")
			out += num(number(at)) + body(versionOf(value))
		}
	}
	return out
}

// imageOf returns the bytes of an image's file.
func imageOf(has, clock uint64, rows string) string {
	return piece(num(has)) + piece(pictureOf(clock, rows))
}

// list returns the parts of a text, none if there is nothing but spaces.
func list(s, between string) []string {
	if strings.TrimSpace(s) == "" {
		return nil
	}
	return strings.Split(s, between)
}

// number returns the number that a word is, 0 for any other word.
func number(word string) uint64 {
	n, _ := strconv.ParseUint(word, 10, 64)
	return n
}

// versionOf returns what a word says a key is given.
func versionOf(word string) chain.Version {
	if word == "gone" {
		return chain.Version{Gone: true}
	}
	return chain.Version{Value: strings.TrimPrefix(word, "-")}
}

// word gives a value as a word: - for an empty one.
func word(value string) string {
	if value == "" {
		return "-"
	}
	return value
}

// version gives a version as text.
func version(v chain.Version) string {
	switch {
	case v.Gone && v.Value != "":
		return fmt.Sprintf("%d=gone with %q", v.At, v.Value)
	case v.Gone:
		return fmt.Sprintf("%d=gone", v.At)
	}
	return fmt.Sprintf("%d=%s", v.At, word(v.Value))
}

// rows gives a store's keys with their versions as text.
func rows(s *store.Store) string {
	var out []string
	for key, c := range s.All() {
		for _, v := range c {
			key += " " + version(v)
		}
		out = append(out, key)
	}
	return strings.Join(out, ", ")
}

// bench is a disk, and the engine that was opened on it last.
type bench struct {
	d *disk.Disk
	g *Engine
}

// lay makes a file all of whose bytes are kept.
func lay(d *disk.Disk, name, data string) {
	d.Append(name, []byte(data))
	d.Sync(name)
}

// files gives a disk's files with all of their bytes, and how many of those are kept.
func files(d *disk.Disk) string {
	out := ""
	for _, name := range d.Names() {
		data, _ := d.Read(name)
		if name == "filler" {
			data = []byte(fmt.Sprint(len(data)))
		}
		out += fmt.Sprintf("%s: %x, %d kept; ", name, data, d.Kept(name))
	}
	return out
}

// sizes gives a disk's files with their sizes, and how many bytes are loose.
func sizes(d *disk.Disk) string {
	var out []string
	for _, name := range d.Names() {
		data, _ := d.Read(name)
		one := fmt.Sprintf("%s %d", name, len(data))
		if loose := len(data) - d.Kept(name); loose > 0 {
			one += fmt.Sprintf(", %d loose", loose)
		}
		out = append(out, one)
	}
	return strings.Join(out, ", ")
}

// holds tells whether a file has these bytes, all of which are kept, and gives those that it has if not.
func holds(d *disk.Disk, name, want string) string {
	data, found := d.Read(name)
	switch {
	case !found:
		return "none"
	case string(data) != want:
		return fmt.Sprintf("%x, not %x", data, want)
	case d.Kept(name) != len(data):
		return fmt.Sprintf("only %d of %d bytes are kept", d.Kept(name), len(data))
	}
	return "yes"
}

// fill makes a file that leaves so much room, in the place of one that it has made.
func fill(d *disk.Disk, left, room int) {
	d.Remove("filler")
	lay(d, "filler", strings.Repeat("f", room-d.Used()-left))
}

// answer gives a call's result as text: the error, if there is one, beside which every other result must be zero (R3).
func answer(e api.Errno, zero bool, good string) string {
	switch {
	case e == api.OK:
		return good
	case !zero:
		return fmt.Sprintf("error %d, and not zero: %s", e, good)
	}
	return fmt.Sprintf("error %d", e)
}

// open opens the disk, so that the engine is another one from now on, if there is no error.
func (b *bench) open() string {
	g, e := Open(b.d)
	if e == api.OK {
		b.g = g
	}
	return answer(e, g == nil, "ok")
}

// do makes the call that a command stands for and gives its results as text.
func (b *bench) do(command string) string {
	w := append(strings.Fields(command), "", "", "", "", "")
	n, u := int(number(w[1])), number(w[1])
	switch w[0] {
	case "open":
		return b.open()
	case "checkpoint":
		return answer(b.g.Checkpoint(), true, "ok")
	case "crash":
		b.d.Crash(func(string, int) int { return n })
		return "ok"
	case "fill":
		fill(b.d, n, roomy)
		return "ok"
	case "remove":
		return answer(b.d.Remove(w[1]), true, "ok")
	case "files":
		return sizes(b.d)
	case "log":
		return holds(b.d, LogName, logOf(strings.TrimPrefix(strings.TrimSpace(command), "log")))
	case "image":
		// The words are what the image has, the clock, and then the rows.
		_, rest, _ := strings.Cut(strings.TrimSpace(command)+"  ", " ")
		_, rest, _ = strings.Cut(rest, " ")
		_, rest, _ = strings.Cut(rest, " ")
		return holds(b.d, ImageName, imageOf(u, number(w[2]), rest))
	case "stats":
		s := b.g.Stats()
		return fmt.Sprint(s.Clock, s.Live, s.Keys, s.Versions, s.Log)
	case "look":
		v, found := b.g.Look(w[1], number(w[2]))
		if !found {
			return answer(api.ErrNone, v == chain.Version{}, version(v))
		}
		return version(v)
	}
	return call(b.g, w)
}

// face is what a manager does and an engine, too.
type face interface {
	Clock() uint64
	Live() []int
	Get(n int) (*txn.Txn, api.Errno)
	Tick(by uint64) api.Errno
	Safe() uint64
	Least() uint64
	Begin(width uint64) (int, api.Errno)
	Snapshot() (int, api.Errno)
	Read(n int, key string) (string, bool, api.Errno)
	Scan(n int, from, to string, many int) ([]txn.Pair, api.Errno)
	Put(n int, key, value string) api.Errno
	Delete(n int, key string) api.Errno
	Point(n int) (uint64, api.Errno)
	Wrote(n int) []string
	Version(n int, key string) chain.Version
	Commit(n int) (uint64, api.Errno)
	Abort(n int) api.Errno
	Purge(t uint64) (int, api.Errno)
}

// call makes a call that a manager has, too, and gives its results as text.
func call(m face, w []string) string {
	n, u := int(number(w[1])), number(w[1])
	switch w[0] {
	case "tick":
		return answer(m.Tick(u), true, "ok")
	case "begin":
		n, e := m.Begin(u)
		return answer(e, n == 0, fmt.Sprint(n))
	case "snapshot":
		n, e := m.Snapshot()
		return answer(e, n == 0, fmt.Sprint(n))
	case "get":
		value, has, e := m.Read(n, w[2])
		if e == api.OK && !has && value == "" {
			return "none"
		}
		return answer(e, !has && value == "", "value "+word(value))
	case "scan":
		l, e := m.Scan(n, w[2], w[3], int(number(w[4])))
		out := "pairs"
		for _, p := range l {
			out += " " + p.Key + "=" + word(p.Value)
		}
		return answer(e, len(l) == 0, out)
	case "put":
		return answer(m.Put(n, w[2], strings.TrimPrefix(w[3], "-")), true, "ok")
	case "delete":
		return answer(m.Delete(n, w[2]), true, "ok")
	case "commit":
		t, e := m.Commit(n)
		return answer(e, t == 0, fmt.Sprint(t))
	case "abort":
		return answer(m.Abort(n), true, "ok")
	case "purge":
		n, e := m.Purge(u)
		return answer(e, n == 0, fmt.Sprint(n))
	}
	return tell(m, w)
}

// tell is call for the calls that change nothing.
func tell(m face, w []string) string {
	n := int(number(w[1]))
	switch w[0] {
	case "clock":
		return fmt.Sprint(m.Clock())
	case "safe":
		return fmt.Sprint(m.Safe())
	case "least":
		return fmt.Sprint(m.Least())
	case "live":
		return strings.Trim(fmt.Sprint(m.Live()), "[]")
	case "txn":
		x, e := m.Get(n)
		if x == nil {
			return answer(e, true, "nothing")
		}
		return answer(e, false, fmt.Sprintf("%d %d..%d", x.Kind, x.Span.Lo, x.Span.Hi))
	case "wrote":
		return strings.Join(m.Wrote(n), " ")
	case "version":
		return version(m.Version(n, w[2]))
	case "point":
		t, e := m.Point(n)
		return answer(e, t == 0, fmt.Sprint(t))
	}
	// What stands in fields is told of either one.
	in, is := m.(*txn.Manager)
	if g, engine := m.(*Engine); engine {
		in, is = g.Manager, true
	}
	switch {
	case w[0] == "rows" && is:
		return rows(in.Store)
	case w[0] == "locks" && is:
		return fmt.Sprint(in.Locks.All())
	}
	return "no such command"
}

// show gives as text all that a manager or an engine shows of what chapter 12 describes.
func show(m face) string {
	l := []string{"clock", "safe", "least", "live", "locks", "rows"}
	for _, n := range m.Live() {
		for _, what := range []string{"txn", "wrote", "point"} {
			l = append(l, fmt.Sprint(what, " ", n))
		}
		for _, key := range m.Wrote(n) {
			l = append(l, fmt.Sprint("version ", n, " ", key))
		}
	}
	for i, command := range l {
		l[i] += ": " + call(m, append(strings.Fields(command), "", "", ""))
	}
	return strings.Join(l, "; ")
}

// show gives as text all that an engine shows, and all of its disk.
func (b *bench) show() string { return show(b.g) + "; " + b.do("stats") + "; " + files(b.d) }

// play makes the calls of a script, command: result; command: result, and holds each result against the script's.
func (b *bench) play(t *testing.T, about, script string) {
	t.Helper()
	for step := range strings.SplitSeq(script, ";") {
		command, want, _ := strings.Cut(strings.TrimSpace(step), ":")
		want = strings.TrimSpace(want)
		before := b.show()
		if got := b.do(command); got != want {
			t.Fatalf("%s: %s = %s, want %s (in: %s; before it: %s)", about, command, got, want, script, before)
		}
		// P7: a call that returns an error changes nothing, except ErrConflict.
		if after := b.show(); strings.HasPrefix(want, "error") && want != "error 7" && before != after {
			t.Fatalf("P7: %s: %s has changed %s into %s (in: %s)", about, command, before, after, script)
		}
	}
}

// on returns a bench with an engine on a disk.
func on(t *testing.T, d *disk.Disk) *bench {
	t.Helper()
	b := &bench{d: d}
	if got := b.open(); got != "ok" {
		t.Fatalf("P15.1: Open = %s, want ok, with %s", got, files(d))
	}
	return b
}

// fresh returns a bench with an engine on a new disk.
func fresh(t *testing.T) *bench {
	t.Helper()
	return on(t, disk.New(endless(), roomy))
}

// behind returns a bench whose engine has done what a script says.
func behind(t *testing.T, script string) *bench {
	t.Helper()
	b := fresh(t)
	b.play(t, "what was before", script)
	return b
}

// played is a case that is a script.
type played struct{ about, script string }

// playAll plays each case on a disk of its own.
func playAll(t *testing.T, about string, l []played) {
	t.Helper()
	for _, x := range l {
		fresh(t).play(t, about+": "+x.about, x.script)
	}
}

// TestExample is the chapter's example, and that of DOC.md.
func TestExample(t *testing.T) {
	b := fresh(t)
	if got := b.g.Stats(); got != (Stats{}) {
		t.Errorf("P15.2: Stats of a new engine are %v, want 0 0 0 0 0", got)
	}
	b.play(t, "DOC.md's example", "begin 9: 1; begin 9: 2; get 1 a: none; put 2 a x: ok; commit 2: error 7; put 1 b y: ok; commit 1: 1; begin 9: 3; get 3 b: value y")
}

func TestNames(t *testing.T) {
	if LogName != "log" || ImageName != "image" || newName != "image-new" {
		t.Errorf("P15: the files are %q, %q, %q, want log, image, image-new", LogName, ImageName, newName)
	}
}

func TestCommit(t *testing.T) {
	key, value := strings.Repeat("k", api.MaxKey), strings.Repeat("v", api.MaxValue)
	playAll(t, "P15.2: Commit", []played{
		{"of one key", "begin 9: 1; put 1 a x: ok; stats: 0 1 0 0 0; look a 1: error 4; files:; commit 1: 1; stats: 1 0 1 1 14; look a 0: error 4; look a 1: 1=x; look a 2: 1=x; log 1 a=x: yes; files: log 14; live:"},
		{"of many keys, in the order of their bytes", "begin 9: 1; put 1 b x: ok; put 1 a -: ok; put 1 ab yy: ok; delete 1 B: ok; put 1 \xff z: ok; commit 1: 1; log 1 B=gone a=- ab=yy b=x \xff=z: yes; rows: B 1=gone, a 1=-, ab 1=yy, b 1=x, \xff 1=z; stats: 1 0 5 5 30"},
		{"of a Delete", "begin 9: 1; delete 1 a: ok; commit 1: 1; log 1 a=gone: yes; rows: a 1=gone; stats: 1 0 1 1 13; begin 9: 2; put 2 a x: ok; commit 2: 2; begin 9: 3; delete 3 a: ok; commit 3: 3; log 1 a=gone | 2 a=x | 3 a=gone: yes; look a 2: 2=x; look a 3: 3=gone; stats: 3 0 1 3 40"},
		{"of what was written last", "begin 9: 1; put 1 a x: ok; delete 1 a: ok; delete 1 b: ok; put 1 b y: ok; put 1 c x: ok; put 1 c z: ok; commit 1: 1; log 1 a=gone b=y c=z: yes; rows: a 1=gone, b 1=y, c 1=z"},
		{"of an empty value", "begin 9: 1; put 1 a -: ok; commit 1: 1; log 1 a=-: yes; look a 1: 1=-; stats: 1 0 1 1 13"},
		{"of the longest key and value", "begin 9: 1; put 1 " + key + " " + value + ": ok; commit 1: 1; log 1 " + key + "=" + value + ": yes; look " + key + " 1: 1=" + value + "; stats: 1 0 1 1 245"},
		{"of nothing", "begin 9: 1; commit 1: 1; stats: 1 0 0 0 0; files:; begin 9: 2; get 2 a: none; scan 2 a z 9: pairs; commit 2: 2; stats: 2 0 0 0 0; files:; begin 9: 3; put 3 a x: ok; commit 3: 3; begin 9: 4; get 4 a: value x; commit 4: 4; log 3 a=x: yes; stats: 4 0 1 1 14"},
		{"of a snapshot", "snapshot: 1; stats: 0 1 0 0 0; commit 1: 0; stats: 0 0 0 0 0; files:; begin 9: 2; put 2 a x: ok; commit 2: 1; snapshot: 3; get 3 a: value x; put 3 a y: error 8; commit 3: 1; commit 3: error 4; log 1 a=x: yes; stats: 1 0 1 1 14"},
		{"of none", "commit 0: error 4; commit 1: error 4; commit 9: error 4; files:; begin 9: 1; put 1 a x: ok; commit 2: error 4; commit 1: 1; commit 1: error 4; log 1 a=x: yes; begin 9: 2; put 2 a y: ok; abort 2: ok; commit 2: error 4; log 1 a=x: yes"},
		{"without a time", "begin 2: 1; begin 2: 2; begin 2: 3; put 1 a x: ok; put 2 b y: ok; put 3 c z: ok; commit 1: 1; commit 3: 2; point 2: error 7; stats: 2 1 2 2 28; commit 2: error 7; stats: 2 0 2 2 28; log 1 a=x | 2 c=z: yes; commit 2: error 4; rows: a 1=x, c 2=z; look b 9: error 4"},
		{"against a lock", "begin 2: 1; begin 2: 2; get 1 a: none; put 2 a x: ok; put 2 b x: ok; commit 2: error 7; stats: 0 1 0 0 0; files:; put 1 a y: ok; commit 1: 1; log 1 a=y: yes; rows: a 1=y"},
		{"without a time and without writes", "begin 1: 1; begin 1: 2; commit 1: 1; commit 2: error 7; files:; stats: 1 0 0 0 0"},
		{"past locks and taken times", "begin 9: 1; begin 9: 2; begin 9: 3; put 1 a x: ok; commit 1: 1; get 2 b: none; put 3 c z: ok; commit 3: 2; put 2 d y: ok; commit 2: 3; log 1 a=x | 2 c=z | 3 d=y: yes"},
		{"at times that do not ascend", "begin 9: 1; tick 5: ok; begin 9: 2; put 2 a y: ok; commit 2: 6; put 1 a x: ok; put 1 b x: ok; commit 1: 1; log 6 a=y | 1 a=x b=x: yes; rows: a 1=x 6=y, b 1=x; clock: 6; look a 5: 1=x; stats: 6 0 2 3 32; open: ok; rows: a 1=x 6=y, b 1=x; stats: 6 0 2 3 32"},
		{"of one of several", "begin 9: 1; begin 9: 2; put 1 a x: ok; put 2 b y: ok; stats: 0 2 0 0 0; commit 2: 1; live: 1; log 1 b=y: yes; wrote 1: a; commit 1: 2; log 1 b=y | 2 a=x: yes"},
	})
}

// TestCommitTimes: the record has the transaction's time, also a great one.
func TestCommitTimes(t *testing.T) {
	for _, at := range []uint64{1, 127, 128, 129, 1 << 14, 1 << 32, api.MaxTime - 1, api.MaxTime} {
		b := fresh(t)
		b.play(t, "P15.2", fmt.Sprintf("tick %d: ok; begin 9: 1; put 1 a x: ok; delete 1 b: ok; commit 1: %d; log %d a=x b=gone: yes; open: ok; clock: %d; rows: a %d=x, b %d=gone", at-1, at, at, at, at, at))
	}
}

// TestCommitWithoutRoom: with ErrDisk nothing is changed. The transaction is committed when there is room, or aborted.
func TestCommitWithoutRoom(t *testing.T) {
	playAll(t, "P15.2: Commit without room", []played{
		{"the first record", "begin 9: 1; put 1 a x: ok; fill 0: ok; commit 1: error 9; fill 13: ok; commit 1: error 9; live: 1; wrote 1: a; point 1: 1; look a 9: error 4; stats: 0 1 0 0 0; fill 14: ok; commit 1: 1; log 1 a=x: yes; stats: 1 0 1 1 14"},
		{"another one", "begin 9: 1; put 1 a x: ok; commit 1: 1; begin 9: 2; get 2 a: value x; put 2 a y: ok; delete 2 b: ok; fill 15: ok; commit 2: error 9; log 1 a=x: yes; txn 2: 0 2..10; rows: a 1=x; clock: 1; stats: 1 1 1 1 14; remove filler: ok; commit 2: 2; log 1 a=x | 2 a=y b=gone: yes; rows: a 1=x 2=y, b 2=gone"},
		{"and then an Abort", "begin 9: 1; put 1 a x: ok; fill 5: ok; commit 1: error 9; abort 1: ok; live:; rows:; remove filler: ok; commit 1: error 4; files:; begin 9: 2; put 2 b y: ok; commit 2: 1; log 1 b=y: yes"},
		{"and then other writes", "begin 9: 1; put 1 a x: ok; put 1 b y: ok; fill 17: ok; commit 1: error 9; put 1 a -: ok; commit 1: 1; log 1 a=- b=y: yes; begin 9: 2; put 2 c z: ok; commit 2: error 9; put 2 d z: ok; commit 2: error 9; get 2 c: value z; fill 18: ok; commit 2: 2; log 1 a=- b=y | 2 c=z d=z: yes"},
		{"and then another transaction at that time", "begin 9: 1; begin 9: 2; put 1 a xx: ok; put 2 b y: ok; fill 14: ok; commit 1: error 9; commit 2: 1; point 1: 2; commit 1: error 9; fill 15: ok; commit 1: 2; log 1 b=y | 2 a=xx: yes"},
		{"of others there is no need", "fill 0: ok; begin 9: 1; commit 1: 1; snapshot: 2; commit 2: 1; begin 1: 3; begin 1: 4; put 4 a x: ok; commit 3: 2; commit 4: error 7; commit 5: error 4; files: filler 10000; stats: 2 0 0 0 0; checkpoint: error 9; open: ok; stats: 0 0 0 0 0"},
		{"a conflict comes before it", "begin 2: 1; begin 2: 2; get 1 a: none; put 2 a x: ok; fill 0: ok; commit 2: error 7; live: 1; put 1 a y: ok; commit 1: error 9; live: 1"},
		{"opened again", "begin 9: 1; put 1 a x: ok; commit 1: 1; begin 9: 2; put 2 a y: ok; fill 3: ok; commit 2: error 9; open: ok; rows: a 1=x; live:; stats: 1 0 1 1 14; fill 14: ok; begin 9: 1; put 1 b z: ok; commit 1: 2; log 1 a=x | 2 b=z: yes"},
	})
}

func TestCheckpoint(t *testing.T) {
	playAll(t, "P15.2: Checkpoint", []played{
		{"of an empty engine", "checkpoint: ok; image 0 0: yes; files: image 19; stats: 0 0 0 0 0; open: ok; stats: 0 0 0 0 0; rows:; begin 9: 1; txn 1: 0 1..9"},
		{"of an empty engine with a clock", "tick 300: ok; checkpoint: ok; image 0 300: yes; stats: 300 0 0 0 0; open: ok; stats: 300 0 0 0 0"},
		{"of keys", "begin 9: 1; put 1 a x: ok; delete 1 b: ok; put 1 c -: ok; commit 1: 1; begin 9: 2; put 2 a y: ok; commit 2: 2; tick 3: ok; rows: a 1=x 2=y, b 1=gone, c 1=-; stats: 5 0 3 4 34; checkpoint: ok; rows: a 1=x 2=y, b 1=gone, c 1=-; stats: 5 0 3 4 0; log: yes; image 2 5 a 1=x 2=y, b 1=gone, c 1=-: yes; files: image 38, log 0; open: ok; rows: a 1=x 2=y, b 1=gone, c 1=-; stats: 5 0 3 4 0"},
		{"with active transactions", "begin 9: 1; begin 9: 2; put 1 a x: ok; put 2 b y: ok; get 2 c: none; snapshot: 3; commit 1: 1; stats: 1 2 1 1 14; checkpoint: ok; stats: 1 2 1 1 0; image 1 1 a 1=x: yes; get 2 b: value y; txn 2: 0 1..9; get 3 a: none; commit 2: 2; log 2 b=y: yes; commit 3: 0; open: ok; rows: a 1=x, b 2=y; stats: 2 0 2 2 14"},
		{"twice in a row", "begin 9: 1; put 1 a x: ok; commit 1: 1; checkpoint: ok; image 1 1 a 1=x: yes; checkpoint: ok; image 0 1 a 1=x: yes; files: image 25, log 0; stats: 1 0 1 1 0; open: ok; rows: a 1=x; checkpoint: ok; image 0 1 a 1=x: yes; stats: 1 0 1 1 0"},
		{"with Commits behind it", "begin 9: 1; put 1 a x: ok; commit 1: 1; checkpoint: ok; begin 9: 2; put 2 a y: ok; commit 2: 2; log 2 a=y: yes; begin 9: 3; put 3 b z: ok; commit 3: 3; image 1 1 a 1=x: yes; log 2 a=y | 3 b=z: yes; rows: a 1=x 2=y, b 3=z; stats: 3 0 2 3 28; open: ok; rows: a 1=x 2=y, b 3=z; stats: 3 0 2 3 28; checkpoint: ok; image 3 3 a 1=x 2=y, b 3=z: yes; log: yes; open: ok; rows: a 1=x 2=y, b 3=z"},
		{"with a Commit at an earlier time behind it", "begin 9: 1; tick 5: ok; begin 9: 2; put 1 a x: ok; put 2 a y: ok; commit 2: 6; checkpoint: ok; image 6 6 a 6=y: yes; commit 1: 1; log 1 a=x: yes; rows: a 1=x 6=y; open: ok; rows: a 1=x 6=y; clock: 6; checkpoint: ok; image 1 6 a 1=x 6=y: yes; open: ok; rows: a 1=x 6=y; clock: 6"},
		{"has the last record's time, not the greatest one", "begin 9: 1; begin 9: 2; tick 5: ok; begin 9: 3; put 1 a x: ok; put 2 b y: ok; put 3 c z: ok; commit 1: 1; commit 3: 6; commit 2: 2; log 1 a=x | 6 c=z | 2 b=y: yes; checkpoint: ok; image 2 6 a 1=x, b 2=y, c 6=z: yes"},
		{"has no time of a transaction that wrote nothing", "begin 9: 1; put 1 a x: ok; commit 1: 1; begin 9: 2; commit 2: 2; checkpoint: ok; image 1 2 a 1=x: yes; begin 9: 3; commit 3: 3; snapshot: 4; commit 4: 3; checkpoint: ok; image 0 3 a 1=x: yes; open: ok; clock: 3"},
		{"of what another engine has written", "begin 9: 1; put 1 a x: ok; commit 1: 1; open: ok; checkpoint: ok; image 1 1 a 1=x: yes; log: yes; rows: a 1=x; open: ok; rows: a 1=x; stats: 1 0 1 1 0"},
		{"behind a Purge", "begin 9: 1; put 1 a x: ok; put 1 b y: ok; commit 1: 1; begin 9: 2; put 2 a z: ok; delete 2 b: ok; commit 2: 2; purge 2: 3; rows: a 2=z; stats: 2 0 1 1 35; checkpoint: ok; image 2 2 a 2=z: yes; stats: 2 0 1 1 0; open: ok; rows: a 2=z; stats: 2 0 1 1 0"},
	})
}

// TestCheckpointAgain: an image-new that was left behind is no part of what is made.
func TestCheckpointAgain(t *testing.T) {
	for _, left := range []string{"", "x", strings.Repeat("x", 1000), imageOf(9, 99, "z 98=old"), piece(num(3))} {
		for _, kept := range []bool{true, false} {
			d := disk.New(endless(), roomy)
			d.Append(newName, []byte(left))
			if kept {
				d.Sync(newName)
			}
			b := on(t, d)
			about := fmt.Sprintf("P15.2: with an image-new of %.20q, kept: %v", left, kept)
			b.play(t, about, "rows:; begin 9: 1; put 1 a x: ok; commit 1: 1; open: ok; rows: a 1=x; stats: 1 0 1 1 14; checkpoint: ok; files: image 25, log 0; image 1 1 a 1=x: yes; rows: a 1=x; stats: 1 0 1 1 0; crash 0: ok; open: ok; rows: a 1=x; checkpoint: ok; files: image 25, log 0")
		}
	}
}

// TestCheckpointWithoutRoom: the new image needs room beside the old one and the log. Otherwise all else is as before, and there is a Checkpoint when there is room.
func TestCheckpointWithoutRoom(t *testing.T) {
	playAll(t, "P15.2: Checkpoint without room", []played{
		{"the first image", "begin 9: 1; put 1 a x: ok; commit 1: 1; begin 9: 2; put 2 b y: ok; fill 24: ok; checkpoint: error 9; files: filler 9962, log 14; rows: a 1=x; live: 2; log 1 a=x: yes; stats: 1 1 1 1 14; fill 25: ok; checkpoint: ok; image 1 1 a 1=x: yes; log: yes; commit 2: 2; open: ok; rows: a 1=x, b 2=y"},
		{"another image", "begin 9: 1; put 1 a x: ok; commit 1: 1; checkpoint: ok; begin 9: 2; put 2 a y: ok; commit 2: 2; fill 27: ok; checkpoint: error 9; fill 0: ok; checkpoint: error 9; image 1 1 a 1=x: yes; log 2 a=y: yes; rows: a 1=x 2=y; open: ok; rows: a 1=x 2=y; fill 28: ok; checkpoint: ok; image 2 2 a 1=x 2=y: yes; log: yes"},
		{"of an empty engine", "fill 18: ok; checkpoint: error 9; stats: 0 0 0 0 0; files: filler 9982; fill 19: ok; checkpoint: ok; image 0 0: yes"},
		{"a Commit behind it", "begin 9: 1; put 1 a x: ok; commit 1: 1; fill 14: ok; checkpoint: error 9; begin 9: 2; put 2 b y: ok; commit 2: 2; log 1 a=x | 2 b=y: yes; checkpoint: error 9; open: ok; rows: a 1=x, b 2=y; stats: 2 0 2 2 28; fill 30: ok; checkpoint: error 9; fill 31: ok; checkpoint: ok; image 2 2 a 1=x, b 2=y: yes; files: filler 9941, image 31, log 0"},
	})
}

// TestCheckpointWithoutRoomAgain: what is left of an image-new that was interrupted takes no room from the next one; an image-new may exist beside ErrDisk, or not.
func TestCheckpointWithoutRoomAgain(t *testing.T) {
	for _, room := range []int{24, 25} {
		d := disk.New(endless(), 14+room)
		b := on(t, d)
		b.play(t, "P15.2", "begin 9: 1; put 1 a x: ok; commit 1: 1")
		lay(d, newName, strings.Repeat("n", room))
		want := map[int]api.Errno{24: api.ErrDisk, 25: api.OK}[room]
		if e := b.g.Checkpoint(); e != want {
			t.Fatalf("P15.2: Checkpoint with room for %d bytes, an image-new in all of it: error %d, want %d", room, e, want)
		}
		d.Remove(newName)
		b.play(t, "P15.2", map[int]string{24: "log 1 a=x: yes; image: none", 25: "log: yes; image 1 1 a 1=x: yes; files: image 25, log 0"}[room])
		b.play(t, "P15.2", "rows: a 1=x; open: ok; rows: a 1=x; clock: 1; live:")
	}
}

func TestStats(t *testing.T) {
	playAll(t, "P15.2: Stats", []played{
		{"the clock", "tick 5: ok; stats: 5 0 0 0 0; begin 9: 1; commit 1: 6; stats: 6 0 0 0 0; tick 1099511627770: ok; stats: 1099511627776 0 0 0 0"},
		{"active transactions", "begin 9: 1; stats: 0 1 0 0 0; snapshot: 2; begin 9: 3; stats: 0 3 0 0 0; abort 1: ok; stats: 0 2 0 0 0; commit 2: 0; stats: 0 1 0 0 0; put 3 a x: ok; stats: 0 1 0 0 0; commit 3: 1; stats: 1 0 1 1 14"},
		{"a transaction that a conflict aborts", "begin 1: 1; begin 1: 2; put 2 a x: ok; commit 2: 1; stats: 1 1 1 1 14; get 1 a: error 7; stats: 1 0 1 1 14"},
		{"deleted keys", "begin 9: 1; put 1 a x: ok; put 1 b y: ok; commit 1: 1; begin 9: 2; delete 2 a: ok; delete 2 c: ok; commit 2: 2; stats: 2 0 3 4 34"},
		{"many versions", "begin 9: 1; put 1 a x: ok; commit 1: 1; begin 9: 2; put 2 a y: ok; commit 2: 2; begin 9: 3; put 3 a z: ok; commit 3: 3; begin 9: 4; put 4 b z: ok; commit 4: 4; stats: 4 0 2 4 56"},
		{"behind a Purge", "begin 9: 1; put 1 a x: ok; put 1 b y: ok; commit 1: 1; begin 9: 2; put 2 a y: ok; delete 2 b: ok; commit 2: 2; stats: 2 0 2 4 35; purge 1: 0; stats: 2 0 2 4 35; purge 2: 3; stats: 2 0 1 1 35; open: ok; stats: 2 0 2 4 35; purge 2: 3; stats: 2 0 1 1 35; purge 3: error 1; stats: 2 0 1 1 35"},
	})
	b := fresh(t)
	for n := 1; n <= api.MaxLive; n++ {
		b.play(t, "P15.2: Stats", fmt.Sprintf("begin 9: %d; stats: 0 %d 0 0 0", n, n))
	}
	b.play(t, "P15.2: Stats", "begin 9: error 5; snapshot: error 5; stats: 0 16 0 0 0")
}

// TestLook holds Look at every time against the versions that there are.
func TestLook(t *testing.T) {
	b := behind(t, `begin 9: 1; tick 6: ok; begin 9: 2; put 2 a y: ok; put 2 b -: ok; delete 2 c: ok; commit 2: 7; put 1 a x: ok; commit 1: 1; begin 9: 3; delete 3 a: ok; put 3 d z: ok; commit 3: 8; tick 2: ok; begin 9: 4; put 4 a w: ok; put 4 e q: ok; commit 4: 11;
		begin 9: 5; put 5 f q: ok; rows: a 1=x 7=y 8=gone 11=w, b 7=-, c 7=gone, d 8=z, e 11=q`)
	for _, again := range []string{"clock: 11", "open: ok", "checkpoint: ok", "open: ok"} {
		b.play(t, "P15.1", again)
		for _, key := range []string{"", "A", "a", "aa", "b", "c", "d", "e", "f", strings.Repeat("k", 99)} {
			for _, at := range []uint64{0, 1, 2, 3, 4, 5, 6, 7, 8, 9, 10, 11, 12, 13, api.MaxTime, api.MaxTime + 1, math.MaxUint64} {
				want, is := chain.Version{}, false
				for k, c := range b.g.Store.All() {
					for _, v := range c {
						if k == key && v.At <= at {
							want, is = v, true
						}
					}
				}
				if got, found := b.g.Look(key, at); got != want || found != is {
					t.Errorf("P15.1: behind %s: Look(%.9q, %d) = %v, %v, want %v, %v", again, key, at, got, found, want, is)
				}
			}
		}
	}
}

// TestMethods: the manager's methods are the engine's own, its fields are to be inspected.
func TestMethods(t *testing.T) {
	playAll(t, "P15.1", []played{
		{"reads and scans", "begin 9: 1; put 1 a x: ok; put 1 b -: ok; get 1 a: value x; get 1 b: value -; get 1 c: none; scan 1 a z 9: pairs a=x b=-; scan 1 a z 1: pairs a=x; wrote 1: a b; version 1 a: 0=x; point 1: 1; txn 1: 0 1..9; commit 1: 1; snapshot: 2; scan 2 a z 9: pairs a=x b=-; txn 2: 1 1..1; locks: [{0 c c {1 1}} {0 a z {1 1}} {0 a z {1 1}}]; purge 1: 0; locks: []"},
		{"errors", "begin 0: error 1; begin 1001: error 1; get 1 a: error 4; scan 1 a z 9: error 4; put 1 a x: error 4; delete 1 a: error 4; point 1: error 4; abort 1: error 4; txn 1: error 4; purge 1: error 1; tick 1099511627777: error 6; begin 9: 1; put 1: error 2; get 1: error 2; delete 1: error 2; scan 1 b a 9: error 2; scan 1 a b 51: error 1; wrote 1:; wrote 2:; version 1 a: 0=-"},
		{"safe and least", "tick 5: ok; safe: 5; least: 5; begin 9: 1; tick 2: ok; safe: 5; snapshot: 2; commit 1: 6; safe: 7; least: 5; commit 2: 5; least: 7; live:"},
		{"on what was there", "begin 9: 1; put 1 a x: ok; commit 1: 1; open: ok; safe: 1; least: 1; live:; locks: []; begin 9: 1; get 1 a: value x; txn 1: 0 2..10; delete 1 a: ok; commit 1: 2; snapshot: 2; get 2 a: none; scan 2 a z 9: pairs"},
	})
	b := fresh(t)
	if b.g.Manager == nil || b.g.Store == nil || b.g.Store != b.g.Manager.Store {
		t.Errorf("P15.1: the engine's manager is %v, its store %v", b.g.Manager, b.g.Store)
	}
}

// TestSideBySide: engines of different disks have nothing to do with one another (R5).
func TestSideBySide(t *testing.T) {
	a, b := fresh(t), fresh(t)
	a.play(t, "R5", "begin 9: 1; put 1 a x: ok; commit 1: 1; checkpoint: ok; begin 9: 2; put 2 a y: ok; commit 2: 2; begin 9: 3; put 3 q q: ok")
	b.play(t, "R5", "stats: 0 0 0 0 0; files:; begin 9: 1; put 1 b z: ok; commit 1: 1; log 1 b=z: yes; image: none; wrote 3:")
	a.play(t, "R5", "stats: 2 1 1 2 14; rows: a 1=x 2=y; log 2 a=y: yes; image 1 1 a 1=x: yes; commit 3: 3; open: ok; rows: a 1=x 2=y, q 3=q")
	b.play(t, "R5", "checkpoint: ok; image 1 1 b 1=z: yes; open: ok; rows: b 1=z; stats: 1 0 1 1 0")
	a.play(t, "R5", "log 2 a=y | 3 q=q: yes; image 1 1 a 1=x: yes; stats: 3 0 2 3 28")
}

// TestOtherFiles: files that are not the engine's stay as they are.
func TestOtherFiles(t *testing.T) {
	d := disk.New(endless(), roomy)
	lay(d, "image-old", "kept")
	d.Append("a", []byte("loose"))
	on(t, d).play(t, "P15.2", "begin 9: 1; put 1 a x: ok; commit 1: 1; checkpoint: ok; checkpoint: ok; open: ok; files: a 5, 5 loose, image 25, image-old 4, log 0")
}

// TestLists: lists that are returned are the caller's own (R5).
func TestLists(t *testing.T) {
	b := behind(t, "begin 9: 1; put 1 a x: ok; put 1 b y: ok; commit 1: 1; begin 9: 2; put 2 a z: ok; put 2 c w: ok; begin 9: 3")
	before := b.show()
	for range 2 {
		live, wrote := b.g.Live(), b.g.Wrote(2)
		pairs, _ := b.g.Scan(2, "a", "z", 9)
		clear(live[:cap(live)])
		clear(wrote[:cap(wrote)])
		clear(pairs[:cap(pairs)])
	}
	b.g.Locks.Release(2)
	if after := b.show(); !strings.HasPrefix(after, strings.SplitN(before, "locks", 2)[0]) || !slices.Equal(b.g.Wrote(2), []string{"a", "c"}) {
		t.Errorf("R5: overwriting lists that were returned has changed %s into %s", before, after)
	}
	b.play(t, "R5", "commit 2: 2; log 1 a=x b=y | 2 a=z c=w: yes; open: ok; rows: a 1=x 2=z, b 1=y, c 2=w")
}
