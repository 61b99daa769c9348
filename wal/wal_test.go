package wal

import (
	"bytes"
	"encoding/binary"
	"fmt"
	"hash/crc32"
	"slices"
	"strings"
	"testing"

	"selion/api"
	"selion/disk"
	"selion/power"
)

// roomy is more room than the tests need.
const roomy = 1 << 20

// endless is a power that does not go.
func endless() *power.Power { return power.New(-1) }

// piece returns a piece's bytes by the words of chapter 6, with Go's own checksum.
func piece(data string) string {
	b := binary.LittleEndian.AppendUint32(nil, uint32(len(data)))
	b = binary.LittleEndian.AppendUint32(b, crc32.ChecksumIEEE([]byte(data)))
	return string(b) + data
}

// pieces returns the bytes of pieces, one after another.
func pieces(data []string) string {
	all := ""
	for _, d := range data {
		all += piece(d)
	}
	return all
}

// texts gives pieces as texts.
func texts(out [][]byte) []string {
	var l []string
	for _, b := range out {
		l = append(l, string(b))
	}
	return l
}

// many returns n bytes that do not repeat soon.
func many(n int) string {
	b := make([]byte, n)
	x := uint32(n) + 1
	for i := range b {
		x = x*1664525 + 1013904223
		b[i] = byte(x >> 24)
	}
	return string(b)
}

// fine fails the test if a call that is to succeed did not.
func fine(t *testing.T, call string, e api.Errno) {
	t.Helper()
	if e != api.OK {
		t.Fatalf("P7.1: %s = %d, want 0", call, e)
	}
}

// lay makes a file of which the first bytes are kept and the others loose.
func lay(d *disk.Disk, name, kept, loose string) {
	d.Append(name, []byte(kept))
	d.Sync(name)
	d.Append(name, []byte(loose))
}

// opened opens a log and holds its pieces against those that it is to have.
func opened(t *testing.T, when string, d *disk.Disk, name string, want ...string) *Log {
	t.Helper()
	l, out, e := Open(d, name)
	if e != api.OK || l == nil {
		t.Fatalf("P7.1: %s: Open(%q) = %v, error %d, want a log, 0", when, name, l, e)
	}
	if got := texts(out); !slices.Equal(got, want) {
		t.Fatalf("P7.1: %s: Open(%q) has the pieces %.60q, want %.60q", when, name, got, want)
	}
	return l
}

// look holds a log's file against the pieces that it is to have, all of which are to be kept, and Size against its bytes.
func look(t *testing.T, when string, d *disk.Disk, l *Log, name string, want ...string) {
	t.Helper()
	data, found := d.Read(name)
	if !found || string(data) != pieces(want) {
		t.Fatalf("P7.1: %s: file %q is % .60x, %v, want % .60x", when, name, data, found, pieces(want))
	}
	if got := d.Kept(name); got != len(data) {
		t.Fatalf("P7.1: %s: of file %q %d bytes are kept, want all %d", when, name, got, len(data))
	}
	if got := l.Size(); got != len(data) {
		t.Fatalf("P7.1: %s: Size() = %d, want %d", when, got, len(data))
	}
}

// none tells whether a log has no file, and holds Size against that.
func none(t *testing.T, when string, d *disk.Disk, l *Log, name string) {
	t.Helper()
	if data, found := d.Read(name); found {
		t.Fatalf("P7.1: %s: file %q is % x, want no file", when, name, data)
	}
	if got := l.Size(); got != 0 {
		t.Fatalf("P7.1: %s: Size() = %d without a file, want 0", when, got)
	}
}

// TestExample is the chapter's example.
func TestExample(t *testing.T) {
	l, _, _ := Open(disk.New(endless(), roomy), "log")
	fine(t, "Append", l.Append([]byte{7}))
	if got := l.Size(); got != 9 {
		t.Errorf("P7.1: after Append of 1 byte: Size() = %d, want 9", got)
	}
}

// TestUse goes once through the calls.
func TestUse(t *testing.T) {
	d := disk.New(endless(), roomy)
	l := opened(t, "a new log", d, "log")
	none(t, "a new log", d, l, "log")
	fine(t, "Append", l.Append([]byte("one")))
	look(t, "an Append", d, l, "log", "one")
	fine(t, "Append", l.Append([]byte("two")))
	look(t, "an Append behind another", d, l, "log", "one", "two")
	l = opened(t, "opened again", d, "log", "one", "two")
	look(t, "opened again", d, l, "log", "one", "two")
	fine(t, "Append", l.Append([]byte("three")))
	look(t, "an Append behind Open", d, l, "log", "one", "two", "three")
	fine(t, "Clear", l.Clear())
	look(t, "a Clear", d, l, "log")
	opened(t, "a Clear", d, "log")
	fine(t, "Append", l.Append([]byte("four")))
	look(t, "an Append behind a Clear", d, l, "log", "four")
	opened(t, "an Append behind a Clear", d, "log", "four")
}

// TestOpenWithoutFile: there are no pieces; Open makes no file, takes no step, and Clear has nothing to do, even without room or power.
func TestOpenWithoutFile(t *testing.T) {
	for _, name := range []string{"", "log", "\x00\xff"} {
		for _, room := range []int{-1, 0, roomy} {
			p := power.New(0)
			d := disk.New(p, room)
			l := opened(t, "without a file", d, name)
			none(t, "opened without a file", d, l, name)
			fine(t, "Clear without a file", l.Clear())
			none(t, "cleared without a file", d, l, name)
			if p.Used() != 0 {
				t.Errorf("P7.1: Open and Clear without a file took %d steps", p.Used())
			}
		}
	}
}

// bad are bytes that are no piece at their beginning.
func bad() map[string]string {
	one := piece("one")
	return map[string]string{
		"a byte":                          "\x00",
		"the bytes of a length":           "\x01\x00\x00\x00",
		"a head without its last byte":    piece("")[:7],
		"a head without its data":         one[:8],
		"a piece without its last byte":   one[:len(one)-1],
		"a wrong length, too small":       "\x02" + one[1:],
		"a wrong length, too great":       "\x04" + one[1:],
		"a wrong length, of all ones":     "\xff\xff\xff\xff" + one[4:],
		"a wrong sum":                     one[:4] + "\x00" + one[5:],
		"wrong data":                      one[:8] + "oNe",
		"no piece and good ones behind":   "x" + one + piece("two"),
		"a bad sum and good ones behind":  one[:8] + "oNe" + one + piece(""),
		"a head of no data, a bad sum":    "\x00\x00\x00\x00\x01\x00\x00\x00",
		"a piece from its second byte on": one[1:],
		"text":                            "this is not a log",
		"many bytes":                      many(1000),
	}
}

// good are lists of pieces, of which a log's file consists.
func good() [][]string {
	return [][]string{nil, {""}, {"", ""}, {"a"}, {"a", "", "bc"}, {"", "a"}, {"a", ""}, {"a", "a", "a"}, {piece("in"), "out"}, {many(300), "b", many(1000)}}
}

// TestOpen opens files of pieces, of pieces with bytes behind them that are none, and of no pieces at all; all their bytes are kept, some, or none.
func TestOpen(t *testing.T) {
	for _, data := range good() {
		tails := bad()
		tails["nothing"] = ""
		for what, tail := range tails {
			all := pieces(data) + tail
			for _, kept := range []int{0, 1, len(pieces(data)) / 2, len(pieces(data)) - 1, len(pieces(data)), len(pieces(data)) + 1, len(all) - 1, len(all)} {
				if kept < 0 || kept > len(all) {
					continue
				}
				when := fmt.Sprintf("pieces %.40q with %s behind them, %d of %d bytes kept", data, what, kept, len(all))
				p := endless()
				d := disk.New(p, len(all))
				lay(d, "log", all[:kept], all[kept:])
				before := p.Used()
				l := opened(t, when, d, "log", data...)
				look(t, when, d, l, "log", data...)
				if nothing := tail == "" && kept == len(all); nothing != (p.Used() == before) {
					t.Fatalf("P7.1: %s: Open took %d steps; nothing is to cut: %v", when, p.Used()-before, nothing)
				}
				d.Power(power.New(0))
				l = opened(t, when+", opened again", d, "log", data...)
				d.Crash(func(string, int) int { return 0 })
				look(t, when+", opened and crashed", d, l, "log", data...)
			}
		}
	}
}

// TestOpenThenAppend: what is appended after Open stands right behind the pieces, whatever was there.
func TestOpenThenAppend(t *testing.T) {
	for _, data := range good() {
		for what, tail := range bad() {
			for _, kept := range []bool{true, false} {
				when := fmt.Sprintf("pieces %.40q with %s behind them, kept: %v", data, what, kept)
				d := disk.New(endless(), roomy)
				if kept {
					lay(d, "log", pieces(data)+tail, "")
				} else {
					lay(d, "log", "", pieces(data)+tail)
				}
				l := opened(t, when, d, "log", data...)
				more := append(slices.Clone(data), "next", "")
				fine(t, when+": Append", l.Append([]byte("next")))
				fine(t, when+": Append", l.Append(nil))
				look(t, when, d, l, "log", more...)
				opened(t, when+", opened again", d, "log", more...)
			}
		}
	}
}

// TestOpenEmpty: a file of no bytes has no pieces; it stays, and Open is no step.
func TestOpenEmpty(t *testing.T) {
	d := disk.New(endless(), 0)
	fine(t, "Append", d.Append("log", nil))
	p := power.New(0)
	d.Power(p)
	l := opened(t, "an empty file", d, "log")
	look(t, "an empty file", d, l, "log")
	if p.Used() != 0 {
		t.Errorf("P7.1: Open of an empty file took %d steps", p.Used())
	}
}

// TestAppend appends pieces of every size, some often; each one is kept, and found again by Open.
func TestAppend(t *testing.T) {
	d := disk.New(endless(), roomy)
	l := opened(t, "a new log", d, "log")
	var want []string
	for _, n := range []int{0, 1, 2, 3, 8, 9, 0, 0, 1, 255, 256, 257, 1, 65535, 65536, 65537, 0} {
		data := many(n)
		fine(t, "Append", l.Append([]byte(data)))
		want = append(want, data)
		when := fmt.Sprintf("appended piece %d, of %d bytes", len(want), n)
		look(t, when, d, l, "log", want...)
		d.Crash(func(string, int) int { return 0 })
		opened(t, when, d, "log", want...)
	}
}

// TestAppendAllBytes appends each byte alone.
func TestAppendAllBytes(t *testing.T) {
	d := disk.New(endless(), roomy)
	l := opened(t, "a new log", d, "log")
	var want []string
	for i := range 256 {
		want = append(want, string([]byte{byte(i)}))
		fine(t, "Append", l.Append([]byte{byte(i)}))
	}
	look(t, "each byte appended", d, l, "log", want...)
	opened(t, "each byte appended", d, "log", want...)
}

// TestAppendNothing: a piece of no data is a piece, from nil and from an empty slice.
func TestAppendNothing(t *testing.T) {
	for _, b := range [][]byte{nil, {}} {
		d := disk.New(endless(), 16)
		l := opened(t, "a new log", d, "log")
		fine(t, "Append", l.Append(b))
		look(t, "no data appended", d, l, "log", "")
		fine(t, "Append", l.Append(b))
		look(t, "no data appended twice", d, l, "log", "", "")
		opened(t, "no data appended twice", d, "log", "", "")
	}
}

// TestRoom appends as far as there is room and beyond. A piece takes 8 bytes more than its data.
func TestRoom(t *testing.T) {
	for _, c := range []struct {
		room  int
		sizes []int
		fits  []bool
	}{
		{-1, []int{0, 1}, []bool{false, false}},
		{0, []int{0, 1}, []bool{false, false}},
		{7, []int{0, 1}, []bool{false, false}},
		{8, []int{1, 0, 0}, []bool{false, true, false}},
		{9, []int{2, 1, 0}, []bool{false, true, false}},
		{10, []int{3, 1, 1, 0}, []bool{false, true, false, false}},
		{17, []int{1, 1, 0, 0}, []bool{true, false, true, false}},
		{40, []int{10, 100, 14, 15, 6, 7, 5}, []bool{true, false, true, false, false, false, false}},
		{40, []int{10, 15, 14, 0}, []bool{true, false, true, false}},
		{1000, []int{993, 992, 0}, []bool{false, true, false}},
	} {
		p := endless()
		d := disk.New(p, c.room)
		l := opened(t, "a new log", d, "log")
		var want []string
		for i, n := range c.sizes {
			when := fmt.Sprintf("room for %d: Append %d, of %d bytes", c.room, i+1, n)
			steps, data := p.Used(), many(n)
			e := l.Append([]byte(data))
			if c.fits[i] {
				fine(t, when, e)
				want = append(want, data)
			} else if e != api.ErrDisk || p.Used() != steps {
				t.Fatalf("P7.1: %s = %d after %d steps, want %d after none", when, e, p.Used()-steps, api.ErrDisk)
			}
			if len(want) == 0 {
				none(t, when, d, l, "log")
			} else {
				look(t, when, d, l, "log", want...)
			}
		}
		opened(t, "filled", d, "log", want...)
	}
}

// TestRoomAgain: a full log has room again after a Clear, and a file beside it takes room away.
func TestRoomAgain(t *testing.T) {
	d := disk.New(endless(), 20)
	lay(d, "other", "12", "3")
	l := opened(t, "a new log", d, "log")
	for range 3 {
		if e := l.Append([]byte("0123456789")); e != api.ErrDisk {
			t.Fatalf("P7.1: Append of 18 bytes into 17 = %d, want %d", e, api.ErrDisk)
		}
		fine(t, "Append of 17 bytes into 17", l.Append([]byte("012345678")))
		if e := l.Append(nil); e != api.ErrDisk {
			t.Fatalf("P7.1: Append to a full disk = %d, want %d", e, api.ErrDisk)
		}
		look(t, "filled", d, l, "log", "012345678")
		fine(t, "Clear of a full disk", l.Clear())
		look(t, "cleared", d, l, "log")
	}
	if data, _ := d.Read("other"); string(data) != "123" || d.Kept("other") != 2 {
		t.Errorf("P7.1: the file beside the log is %q, %d kept, want 123, 2", data, d.Kept("other"))
	}
}

// TestOpenFull: Open needs no room to cut, and what it cut off is room again.
func TestOpenFull(t *testing.T) {
	for _, tail := range []int{1, 7, 8, 9} {
		d := disk.New(endless(), len(piece("one"))+tail)
		lay(d, "log", piece("one"), strings.Repeat("x", tail))
		when := fmt.Sprintf("a full disk, %d bytes to cut", tail)
		l := opened(t, when, d, "log", "one")
		look(t, when, d, l, "log", "one")
		want, pieces := api.ErrDisk, []string{"one"}
		if tail >= 8 {
			want, pieces = api.OK, append(pieces, "")
		}
		if e := l.Append(nil); e != want {
			t.Fatalf("P7.1: %s: Append of 8 bytes = %d, want %d", when, e, want)
		}
		look(t, when, d, l, "log", pieces...)
	}
}

// TestClear clears logs of all sizes, twice, and appends behind that.
func TestClear(t *testing.T) {
	for _, data := range good() {
		d := disk.New(endless(), roomy)
		lay(d, "log", pieces(data), "")
		l := opened(t, "laid", d, "log", data...)
		for range 2 {
			fine(t, "Clear", l.Clear())
			look(t, "cleared", d, l, "log")
			opened(t, "cleared", d, "log")
		}
		fine(t, "Append behind Clear", l.Append([]byte("new")))
		look(t, "appended behind Clear", d, l, "log", "new")
		opened(t, "appended behind Clear", d, "log", "new")
	}
}

// TestClearWithoutFile: it makes none, and an Append behind it does.
func TestClearWithoutFile(t *testing.T) {
	d := disk.New(endless(), roomy)
	l := opened(t, "a new log", d, "log")
	fine(t, "Clear", l.Clear())
	none(t, "cleared", d, l, "log")
	fine(t, "Append", l.Append([]byte("a")))
	look(t, "appended", d, l, "log", "a")
	fine(t, "Remove", d.Remove("log"))
	none(t, "removed", d, l, "log")
	fine(t, "Clear", l.Clear())
	none(t, "removed and cleared", d, l, "log")
	fine(t, "Append", l.Append([]byte("b")))
	look(t, "removed and appended", d, l, "log", "b")
	opened(t, "removed and appended", d, "log", "b")
}

// TestSizeOfLooseBytes: Size is the file's, with bytes that are not kept and such that are no piece.
func TestSizeOfLooseBytes(t *testing.T) {
	d := disk.New(endless(), roomy)
	l := opened(t, "a new log", d, "log")
	lay(d, "log", piece("a"), "xyz")
	if got := l.Size(); got != 12 {
		t.Errorf("P7.1: Size() = %d with 9 bytes kept and 3 loose, want 12", got)
	}
	fine(t, "Clear", l.Clear())
	look(t, "cleared", d, l, "log")
}

// TestTwoLogs: logs with other names on one disk have nothing to do with one another.
func TestTwoLogs(t *testing.T) {
	d := disk.New(endless(), roomy)
	names := []string{"", "a", "aa", "b"}
	logs := map[string]*Log{}
	want := map[string][]string{}
	for _, name := range names {
		logs[name] = opened(t, "a new log", d, name)
	}
	all := func(when string) {
		t.Helper()
		for _, name := range names {
			look(t, when, d, logs[name], name, want[name]...)
			opened(t, when, d, name, want[name]...)
		}
	}
	for i := range 3 {
		for _, name := range names {
			data := fmt.Sprintf("%d of %s", i, name)
			fine(t, "Append", logs[name].Append([]byte(data)))
			want[name] = append(want[name], data)
		}
		all("appended to each log")
	}
	for _, name := range names {
		fine(t, "Clear", logs[name].Clear())
		want[name] = nil
		all("cleared " + name)
	}
	for _, name := range names {
		lay(d, name, "no", "ne")
		logs[name] = opened(t, "no pieces", d, name)
		fine(t, "Append", logs[name].Append([]byte(name)))
		want[name] = []string{name}
	}
	all("cut and appended")
}

// TestTwoDisks: logs of one name on two disks have nothing to do with one another.
func TestTwoDisks(t *testing.T) {
	c, d := disk.New(endless(), roomy), disk.New(endless(), roomy)
	k, l := opened(t, "a new log", c, "log"), opened(t, "a new log", d, "log")
	fine(t, "Append", k.Append([]byte("on c")))
	none(t, "appended on the other disk", d, l, "log")
	fine(t, "Append", l.Append([]byte("on d")))
	look(t, "appended on both disks", c, k, "log", "on c")
	look(t, "appended on both disks", d, l, "log", "on d")
	fine(t, "Clear", k.Clear())
	look(t, "cleared on the other disk", d, l, "log", "on d")
}

// TestOpenTwice: a log that is opened twice is one log: both append behind what the other one did, and see its Clear.
func TestOpenTwice(t *testing.T) {
	d := disk.New(endless(), roomy)
	k := opened(t, "first", d, "log")
	l := opened(t, "second", d, "log")
	fine(t, "Append", k.Append([]byte("1")))
	fine(t, "Append", l.Append([]byte("2")))
	fine(t, "Append", k.Append([]byte("3")))
	look(t, "appended by both", d, k, "log", "1", "2", "3")
	look(t, "appended by both", d, l, "log", "1", "2", "3")
	m := opened(t, "third", d, "log", "1", "2", "3")
	fine(t, "Clear", l.Clear())
	look(t, "cleared by one", d, k, "log")
	look(t, "cleared by one", d, m, "log")
	fine(t, "Append", m.Append([]byte("4")))
	fine(t, "Append", k.Append([]byte("5")))
	look(t, "appended by both", d, l, "log", "4", "5")
	opened(t, "at the end", d, "log", "4", "5")
}

// TestHandedIn (R5): no call changes or keeps what was handed in, its spare capacity included.
func TestHandedIn(t *testing.T) {
	d := disk.New(endless(), 59)
	l := opened(t, "a new log", d, "log")
	b := []byte("0123456789")
	fine(t, "Append", l.Append(b[:2]))
	fine(t, "Append", l.Append(b[2:2]))
	fine(t, "Append", l.Append(b[2:5:10]))
	fine(t, "Append", l.Append(b[5:]))
	if e := l.Append(b); e != api.ErrDisk {
		t.Fatalf("P7.1: Append of 18 bytes into 17 = %d, want %d", e, api.ErrDisk)
	}
	opened(t, "appended", d, "log", "01", "", "234", "56789")
	fine(t, "Clear", l.Clear())
	fine(t, "Append", l.Append(b[:3]))
	if string(b) != "0123456789" {
		t.Errorf("R5: what was handed in is changed to %q", b)
	}
	for i := range b {
		b[i] = '-'
	}
	look(t, "what was handed in is overwritten", d, l, "log", "012")
}

// scribble overwrites a slice of bytes, its spare capacity included.
func scribble(b []byte) {
	b = b[:cap(b)]
	for i := range b {
		b[i] = '#'
	}
}

// TestHandedOut (R5): the pieces that Open answers are the caller's own, and no two share memory, now and later.
func TestHandedOut(t *testing.T) {
	data := []string{"one", "", "two", "three"}
	for _, tail := range []string{"", "tail"} {
		for i := range data {
			d := disk.New(endless(), roomy)
			lay(d, "log", pieces(data), tail)
			l, first, _ := Open(d, "log")
			_, second, _ := Open(d, "log")
			scribble(first[i])
			_ = append(first[:i], []byte("#"))
			for k := range data {
				if k != i && string(first[k]) != data[k] {
					t.Errorf("R5: piece %d is %q when piece %d is overwritten", k, first[k], i)
				}
			}
			if !slices.Equal(texts(second), data) {
				t.Errorf("R5: what was answered is overwritten, and another answer is %q", second)
			}
			look(t, "what was answered is overwritten", d, l, "log", data...)
			fine(t, "Clear", l.Clear())
			fine(t, "Append", l.Append([]byte("else, and longer than all of the others together, so that they would be overwritten")))
			if !slices.Equal(texts(second), data) {
				t.Errorf("R5: the log is changed, and what was answered is %q", second)
			}
		}
	}
}

// TestAppendOwnPieces appends what Open answered.
func TestAppendOwnPieces(t *testing.T) {
	d := disk.New(endless(), roomy)
	lay(d, "log", pieces([]string{"a", "bc"}), "x")
	l, out, _ := Open(d, "log")
	for _, b := range out {
		fine(t, "Append", l.Append(b))
	}
	look(t, "appended", d, l, "log", "a", "bc", "a", "bc")
}

// act is a call on a log: what it does, and the pieces that there are behind it.
type act struct {
	name string
	do   func(l *Log) api.Errno
	then func(before []string) []string
}

// appending is an Append of this data.
func appending(data string) act {
	return act{
		fmt.Sprintf("Append(%q)", data),
		func(l *Log) api.Errno { return l.Append([]byte(data)) },
		func(before []string) []string { return append(slices.Clone(before), data) },
	}
}

// acts are the calls of which the tests of P7.2 make sequences.
func acts() []act {
	clear := act{"Clear()", (*Log).Clear, func([]string) []string { return nil }}
	return []act{appending(""), appending("a"), appending("bc"), appending(piece("")), clear}
}

// sequences calls do with each list of up to n acts.
func sequences(n int, do func(l []act)) {
	var add func(l []act)
	add = func(l []act) {
		do(l)
		if len(l) == n {
			return
		}
		for _, a := range acts() {
			add(append(slices.Clone(l), a))
		}
	}
	add(nil)
}

// start is a file that is there before the log is opened, and its pieces.
type start struct {
	name        string
	file        bool
	kept, loose string
	pieces      []string
}

// starts are files of all sorts: none, without bytes, with bytes that are to be cut.
func starts() []start {
	two := pieces([]string{"p", ""})
	return []start{
		{"no file", false, "", "", nil},
		{"an empty file", true, "", "", nil},
		{"pieces", true, two, "", []string{"p", ""}},
		{"pieces and a tail", true, two, piece("a")[:8], []string{"p", ""}},
		{"pieces and a tail that is kept", true, two + "tail", "", []string{"p", ""}},
		{"a tail alone", true, "t", "ail", nil},
	}
}

// lost is a way in which the power goes: after how many steps, and how many loose bytes are left then. No loss of bytes is -1: the disk does not crash.
type lost struct{ limit, left int }

// run does something on a disk with so much power, and lets the disk crash if the power went. It tells whether the power lasted, and whether left is more than there was to lose.
func run(d *disk.Disk, l lost, do func()) (whole, over bool) {
	d.Power(power.New(l.limit))
	whole = power.Run(do)
	if !whole && l.left >= 0 {
		most := 0
		d.Crash(func(name string, loose int) int {
			most = loose
			return l.left
		})
		over = l.left > most
	}
	d.Power(endless())
	return whole, over
}

// each calls do with each way in which the power goes within a call, as long as do says that it went, and that there was as much to lose.
func each(do func(l lost) (whole, over bool)) {
	for limit := 0; ; limit++ {
		for left := -1; ; left++ {
			whole, over := do(lost{limit, left})
			if whole {
				return
			}
			if over {
				break
			}
		}
	}
}

// lives are the lists of pieces that a log may have at a time; there are two while a call is interrupted.
type lives [][]string

// has tells whether these pieces are among those that may be.
func (l lives) has(out []string) bool {
	return slices.ContainsFunc(l, func(one []string) bool { return slices.Equal(one, out) })
}

// play opens a log on a disk and does the acts. It returns which lists of pieces there may be behind what was done, the interrupted call included.
func play(t *testing.T, d *disk.Disk, from lives, list []act, loss lost) (may lives, whole, over bool) {
	may = from
	whole, over = run(d, loss, func() {
		l, out, e := Open(d, "log")
		if e != api.OK || !from.has(texts(out)) {
			t.Fatalf("P7.2: Open has the pieces %q, error %d, want one of %q", out, e, from)
		}
		now := texts(out)
		may = lives{now}
		for _, a := range list {
			then := a.then(now)
			may = lives{now, then}
			fine(t, a.name, a.do(l))
			now, may = then, lives{then}
		}
	})
	return may, whole, over
}

// whenever tells of a case: what was done, and where the power went.
func whenever(s start, list []act, losses ...lost) string {
	var b strings.Builder
	fmt.Fprintf(&b, "%s; Open", s.name)
	for _, a := range list {
		b.WriteString(", " + a.name)
	}
	for _, l := range losses {
		fmt.Fprintf(&b, "; power for %d steps, then %d loose bytes left", l.limit, l.left)
	}
	return b.String()
}

// survived opens a log after all that went wrong: its pieces are among those that may be, alone in the file and kept; what is appended next stands behind them.
func survived(t *testing.T, when string, d *disk.Disk, may lives) {
	t.Helper()
	l, out, e := Open(d, "log")
	got := texts(out)
	if e != api.OK || !may.has(got) {
		t.Fatalf("P7.2: %s: Open has the pieces %q, error %d, want one of %q", when, got, e, may)
	}
	if _, found := d.Read("log"); found {
		look(t, when, d, l, "log", got...)
	}
	next := append(got, "next", "")
	fine(t, when+": Append", l.Append([]byte("next")))
	fine(t, when+": Append", l.Append(nil))
	look(t, when, d, l, "log", next...)
	d.Crash(func(string, int) int { return 0 })
	opened(t, when+", appended and opened again", d, "log", next...)
}

// TestPower (P7.2, P4): the power goes at each step of each call, and whatever is left of loose bytes, it goes again at each step of the Open behind that.
func TestPower(t *testing.T) {
	for _, s := range starts() {
		sequences(3, func(list []act) {
			each(func(first lost) (whole, over bool) {
				each(func(second lost) (bool, bool) {
					d := disk.New(endless(), roomy)
					if s.file {
						lay(d, "log", s.kept, s.loose)
					}
					var may lives
					may, whole, over = play(t, d, lives{s.pieces}, list, first)
					again, wholeAgain, overAgain := play(t, d, may, nil, second)
					survived(t, whenever(s, list, first, second), d, again)
					return wholeAgain, overAgain
				})
				return whole, over
			})
		})
	}
}

// TestPowerOften: the power goes within one act, then within the Open and the act behind that, and so on, three times.
func TestPowerOften(t *testing.T) {
	all := acts()
	for _, s := range starts() {
		for i, a := range all {
			b := all[(i+1)%len(all)]
			each(func(first lost) (whole, over bool) {
				each(func(second lost) (wholeSecond, overSecond bool) {
					each(func(third lost) (bool, bool) {
						d := disk.New(endless(), roomy)
						if s.file {
							lay(d, "log", s.kept, s.loose)
						}
						var may lives
						may, whole, over = play(t, d, lives{s.pieces}, []act{a}, first)
						may, wholeSecond, overSecond = play(t, d, may, []act{b}, second)
						may, wholeThird, overThird := play(t, d, may, []act{a}, third)
						survived(t, whenever(s, []act{a, b, a}, first, second, third), d, may)
						return wholeThird, overThird
					})
					return wholeSecond, overSecond
				})
				return whole, over
			})
		}
	}
}

// TestInterrupted: of an Append that is interrupted each number of bytes may be left; the piece is there if all of it is, and else nothing of it.
func TestInterrupted(t *testing.T) {
	for _, n := range []int{0, 1, 8, 100} {
		data := many(n)
		for left := range n + 9 {
			d := disk.New(endless(), roomy)
			lay(d, "log", piece("first"), "")
			l := opened(t, "laid", d, "log", "first")
			d.Power(power.New(1))
			if power.Run(func() { l.Append([]byte(data)) }) {
				t.Fatal("P7.1: Append took one step, but it appends and syncs")
			}
			d.Crash(func(string, int) int { return left })
			d.Power(endless())
			if got := l.Size(); got != 13+left {
				t.Fatalf("P7.1: Size() = %d, want the file's %d bytes", got, 13+left)
			}
			want := []string{"first"}
			if left == n+8 {
				want = append(want, data)
			}
			l = opened(t, fmt.Sprintf("%d of %d bytes left", left, n+8), d, "log", want...)
			look(t, fmt.Sprintf("%d of %d bytes left", left, n+8), d, l, "log", want...)
		}
	}
}

// TestOpenInterrupted: an Open whose power goes has answered nothing and changed nothing.
func TestOpenInterrupted(t *testing.T) {
	for _, s := range starts() {
		d := disk.New(endless(), roomy)
		if s.file {
			lay(d, "log", s.kept, s.loose)
		}
		before, _ := d.Read("log")
		kept := d.Kept("log")
		d.Power(power.New(0))
		whole := power.Run(func() { Open(d, "log") })
		if after, _ := d.Read("log"); !bytes.Equal(before, after) || d.Kept("log") != kept {
			t.Errorf("P7.2: %s: an Open without power changed the file from % x, %d kept, to % x, %d kept", s.name, before, kept, after, d.Kept("log"))
		}
		if want := s.kept == pieces(s.pieces) && s.loose == ""; whole != want {
			t.Errorf("P7.1: %s: Open ended without power: %v, want %v", s.name, whole, want)
		}
	}
}

// TestClearInterrupted: a Clear truncates the file. Wherever its power goes, the file is there, with all of its bytes or with none.
func TestClearInterrupted(t *testing.T) {
	for _, data := range good() {
		for limit, whole := 0, false; !whole; limit++ {
			d := disk.New(endless(), roomy)
			lay(d, "log", pieces(data), "")
			l := opened(t, "laid", d, "log", data...)
			d.Power(power.New(limit))
			whole = power.Run(func() { fine(t, "Clear", l.Clear()) })
			d.Crash(func(string, int) int { return 0 })
			when := fmt.Sprintf("a Clear with power for %d steps", limit)
			if limit == 0 && whole {
				t.Fatalf("P7.1: %s ended, but it truncates a file", when)
			}
			if after, _ := d.Read("log"); whole || len(after) == 0 {
				look(t, when, d, l, "log")
			} else {
				look(t, when, d, l, "log", data...)
			}
		}
	}
}

// TestAgain (R6): the same calls have the same results, on one disk and on another one.
func TestAgain(t *testing.T) {
	all := func() string {
		d := disk.New(endless(), 100)
		var b strings.Builder
		for _, a := range slices.Concat(acts(), acts()) {
			l, out, e := Open(d, "log")
			fmt.Fprintln(&b, texts(out), e, a.do(l), l.Size(), l.Size())
		}
		return b.String()
	}
	first := all()
	for range 20 {
		if got := all(); got != first {
			t.Fatalf("R6: the same calls gave %q and %q", first, got)
		}
	}
}
