package engine

import (
	"encoding/binary"
	"fmt"
	"math"
	"strings"
	"testing"

	"selion/api"
	"selion/disk"
	"selion/power"
)

// laid is a disk's files, and what an engine that is opened on it is to have.
type laid struct {
	about string
	files map[string]string
	clock uint64
	rows  string
}

// of are a log and an image.
func of(log, image string) map[string]string {
	return map[string]string{LogName: log, ImageName: image}
}

// onlyLog is a log alone.
func onlyLog(s string) map[string]string { return map[string]string{LogName: logOf(s)} }

// onlyImage is an image alone.
func onlyImage(has, clock uint64, rows string) map[string]string {
	return map[string]string{ImageName: imageOf(has, clock, rows)}
}

// logs are logs without an image.
func logs() []laid {
	key, value := strings.Repeat("k", api.MaxKey), strings.Repeat("v", api.MaxValue)
	return []laid{
		{"a new disk", nil, 0, ""},
		{"an empty log", onlyLog(""), 0, ""},
		{"a log of one record", onlyLog("1 a=x"), 1, "a 1=x"},
		{"a log of one record at a later time", onlyLog("300 a=x b=gone c=-"), 300, "a 300=x, b 300=gone, c 300=-"},
		{"a log of several records", onlyLog("1 a=x b=y | 2 a=z | 4 b=gone c=-"), 4, "a 1=x 2=z, b 1=y 4=gone, c 4=-"},
		{"a log whose times do not ascend", onlyLog("6 a=x b=y | 1 a=z c=q | 7 c=gone | 3 a=w"), 7, "a 1=z 3=w 6=x, b 6=y, c 1=q 7=gone"},
		{"a log whose last time is the least", onlyLog("9 a=x | 5 a=y | 1 a=z"), 9, "a 1=z 5=y 9=x"},
		{"a log with a time twice", onlyLog("3 a=x b=y | 3 a=z c=q"), 3, "a 3=z, b 3=y, c 3=q"},
		{"a log with a time twice, not one behind the other", onlyLog("3 a=x | 4 a=y | 3 a=gone"), 4, "a 3=gone 4=y"},
		{"a log with a record without writes", onlyLog("5 | 2 a=x | 9"), 9, "a 2=x"},
		{"a log at the greatest time", onlyLog("1099511627776 a=x | 1099511627775 a=y"), api.MaxTime, "a 1099511627775=y 1099511627776=x"},
		{"a log of the longest key and value", onlyLog("1 " + key + "=" + value), 1, key + " 1=" + value},
	}
}

// images are images without a log, and with an empty one.
func images() []laid {
	var l []laid
	for _, x := range []laid{
		{"an image of nothing", onlyImage(0, 0, ""), 0, ""},
		{"an image of a clock alone", onlyImage(0, 300, ""), 300, ""},
		{"an image at the greatest time", onlyImage(0, api.MaxTime, "a 1099511627776=x"), api.MaxTime, "a 1099511627776=x"},
		{"an image of a key", onlyImage(0, 1, "a 1=x"), 1, "a 1=x"},
		{"an image of keys", onlyImage(0, 9, "a 1=x 5=gone, b 8=-, c 2=gone 9=z"), 9, "a 1=x 5=gone, b 8=-, c 2=gone 9=z"},
		{"an image whose clock is above all times", onlyImage(0, 9, "a 1=x"), 9, "a 1=x"},
		{"an image that has a record", onlyImage(5, 9, "a 1=x, b 5=y"), 9, "a 1=x, b 5=y"},
		{"an image that has a record with a time of two bytes", onlyImage(300, 300, "a 300=x"), 300, "a 300=x"},
		{"an image that has a record at the greatest time", onlyImage(api.MaxTime, api.MaxTime, ""), api.MaxTime, ""},
	} {
		l = append(l, x, laid{x.about + ", and an empty log", of("", x.files[ImageName]), x.clock, x.rows})
	}
	return l
}

// boths are images with logs. What an image has is told by values that its log's records do not have.
func boths() []laid {
	both := func(log string, has, clock uint64, rows string) map[string]string {
		return of(logOf(log), imageOf(has, clock, rows))
	}
	return []laid{
		{"a log all of which is new", both("10 a=x | 11 b=y", 9, 9, "a 9=i"), 11, "a 9=i 10=x, b 11=y"},
		{"a log all of which is new, for an image of an empty log", both("1 a=x | 2 b=y", 0, 0, ""), 2, "a 1=x, b 2=y"},
		{"a log all of which is new, at times below what the image has", both("3 a=x | 1 b=y", 9, 9, "a 9=i"), 9, "a 3=x 9=i, b 1=y"},
		{"a log all of which is new, for an image of an empty log with keys", both("3 a=x | 12 b=y", 0, 9, "a 9=i"), 12, "a 3=x 9=i, b 12=y"},
		{"a log of one record that the image has", both("5 a=l b=l", 5, 9, "a 5=i"), 9, "a 5=i"},
		{"a log all of whose records the image has", both("3 a=l | 5 a=l b=l", 5, 9, "a 3=i 9=j"), 9, "a 3=i 9=j"},
		{"a log all of whose records the image has, the last one at the least time", both("7 a=l | 8 b=l | 3 c=l", 3, 9, "a 7=i"), 9, "a 7=i"},
		{"a log all of whose records the image has purged", both("1 a=l | 2 a=gone", 2, 2, ""), 2, ""},
		{"a log of which only the last record is new", both("3 a=l | 5 b=l | 10 a=x c=y", 5, 9, "a 3=i"), 10, "a 3=i 10=x, c 10=y"},
		{"a log of which only the last records are new", both("3 a=l | 5 b=l | 10 a=x | 11 b=gone", 5, 9, "a 3=i"), 11, "a 3=i 10=x, b 11=gone"},
		{"a log whose new records are at earlier times", both("6 a=l | 8 b=l | 2 a=x | 7 b=y | 1 c=z", 8, 9, "a 6=i, b 8=j"), 9, "a 2=x 6=i, b 7=y 8=j, c 1=z"},
		{"a log whose records that the image has are at later times", both("6 a=l | 8 b=l | 2 a=l | 9 b=y", 2, 8, "a 6=i, b 8=j"), 9, "a 6=i, b 8=j 9=y"},
		{"a log with the image's clock, which is not what it has", both("2 a=l | 9 b=x | 3 c=y", 2, 9, "a 9=i"), 9, "a 9=i, b 9=x, c 3=y"},
		{"a log whose first record alone the image has", both("4 a=l | 2 b=x | 3 b=y | 5 b=z", 4, 4, "a 4=i"), 5, "a 4=i, b 2=x 3=y 5=z"},
		{"a new version in the place of one that the image has", both("4 a=x | 3 a=y", 9, 9, "a 4=i 9=j"), 9, "a 3=y 4=x 9=j"},
		{"a log at the greatest time", both("300 a=l | 1099511627776 a=x", 300, 300, "a 300=i"), api.MaxTime, "a 300=i 1099511627776=x"},
	}
}

// write makes the files of a disk, all of whose bytes are kept.
func write(d *disk.Disk, files map[string]string) {
	for name, data := range files {
		lay(d, name, data)
	}
}

// wantOpen holds what an engine shows right behind Open.
func wantOpen(t *testing.T, b *bench, x laid) {
	t.Helper()
	keys, versions := 0, 0
	for _, c := range b.g.Store.All() {
		keys++
		versions += len(c)
	}
	data, _ := b.d.Read(LogName)
	b.play(t, "P15.1: Open of "+x.about, fmt.Sprintf("rows: %s; clock: %d; stats: %d 0 %d %d %d; live:; locks: []; safe: %d; least: %d", x.rows, x.clock, x.clock, keys, versions, len(data), x.clock, x.clock))
}

// TestOpen opens disks of each kind, again and again, and with power that lasts and one that would not.
func TestOpen(t *testing.T) {
	for _, x := range append(append(logs(), images()...), boths()...) {
		for _, left := range []string{"none", "", "x", imageOf(1, 99, "a 99=new, q 98=new"), piece("")} {
			d := disk.New(endless(), roomy)
			write(d, x.files)
			if left != "none" {
				d.Append(newName, []byte(left))
			}
			before := files(d)
			for range 2 {
				wantOpen(t, on(t, d), x)
				if after := files(d); after != before {
					t.Fatalf("P15.1: Open of %s has changed %s into %s", x.about, before, after)
				}
			}
			d.Crash(func(string, int) int { return 0 })
			wantOpen(t, on(t, d), x)
		}
	}
}

// TestOpenThenUse: what is opened goes on with times above the clock, and is there again when it is opened once more.
func TestOpenThenUse(t *testing.T) {
	for _, x := range append(append(logs(), images()...), boths()...) {
		for _, checkpoint := range []string{"", "checkpoint: ok; "} {
			if x.clock == api.MaxTime {
				continue
			}
			d := disk.New(endless(), roomy)
			write(d, x.files)
			b := on(t, d)
			about := "P15.1: behind Open of " + x.about
			b.play(t, about, fmt.Sprintf("begin 9: 1; txn 1: 0 %d..%d; snapshot: 2; txn 2: 1 %d..%d; put 1 zz new: ok; %scommit 1: %d; rows: %s; clock: %d",
				x.clock+1, x.clock+9, x.clock, x.clock, checkpoint, x.clock+1, more(x.rows, fmt.Sprintf("zz %d=new", x.clock+1)), x.clock+1))
			wantOpen(t, on(t, d), laid{x.about + " once more", nil, x.clock + 1, more(x.rows, fmt.Sprintf("zz %d=new", x.clock+1))})
		}
	}
}

// more gives rows with another one behind them.
func more(rows, last string) string {
	if rows == "" {
		return last
	}
	return rows + ", " + last
}

// TestOpenAtMaxTime: there are no times above the clock.
func TestOpenAtMaxTime(t *testing.T) {
	for _, files := range []map[string]string{onlyLog("1099511627776 a=x"), onlyImage(0, api.MaxTime, "a 5=x")} {
		d := disk.New(endless(), roomy)
		write(d, files)
		on(t, d).play(t, "P15.1", "begin 9: error 6; snapshot: 1; get 1 a: value x; tick 1: error 6; tick 0: ok; clock: 1099511627776")
	}
}

// tails are bytes behind a log's pieces that are none.
func tails() []string {
	one := logOf("9 q=tail")
	return []string{"x", "\x00\x00\x00\x00", one[:7], one[:8], one[:len(one)-1], "\x00" + one, one[:len(one)-1] + "X" + one, strings.Repeat("\xff", 100), "\x01\x00\x00\x00\x00\x00\x00\x00z"}
}

// TestOpenTail: of a log with bytes behind its pieces the pieces are what there is, and the file is cut, as chapter 7 says. What is appended then stands behind the pieces.
func TestOpenTail(t *testing.T) {
	for _, x := range append(logs(), boths()...) {
		for _, tail := range tails() {
			for _, kept := range []int{0, 1, len(tail)} {
				d := disk.New(endless(), roomy)
				write(d, x.files)
				d.Append(LogName, []byte(tail[:kept]))
				d.Sync(LogName)
				d.Append(LogName, []byte(tail[kept:]))
				about := fmt.Sprintf("%s with %.12q behind it, %d bytes of that kept", x.about, tail, kept)
				b := on(t, d)
				if got := holds(d, LogName, x.files[LogName]); got != "yes" {
					t.Fatalf("P15.1: Open of %s: is the log cut to its pieces? %s", about, got)
				}
				wantOpen(t, b, laid{about, nil, x.clock, x.rows})
				if x.clock == api.MaxTime {
					continue
				}
				b.play(t, "P15.1: "+about, fmt.Sprintf("begin 9: 1; put 1 zz new: ok; commit 1: %d; crash 0: ok; open: ok; rows: %s", x.clock+1, more(x.rows, fmt.Sprintf("zz %d=new", x.clock+1))))
			}
		}
	}
}

// TestOpenLoose: the records that Open has found are kept from then on, however many of their bytes were loose.
func TestOpenLoose(t *testing.T) {
	for _, x := range append(logs(), boths()...) {
		log := x.files[LogName]
		for kept := range len(log) {
			d := disk.New(endless(), roomy)
			write(d, x.files)
			d.Remove(LogName)
			lay(d, LogName, log[:kept])
			d.Append(LogName, []byte(log[kept:]))
			about := fmt.Sprintf("%s, %d of the log's %d bytes kept", x.about, kept, len(log))
			wantOpen(t, on(t, d), laid{about, nil, x.clock, x.rows})
			d.Crash(func(string, int) int { return 0 })
			wantOpen(t, on(t, d), laid{about + ", and crashed", nil, x.clock, x.rows})
		}
	}
}

// TestOpenFull: Open needs no room, also for a cut, so that the disk has no error for it.
func TestOpenFull(t *testing.T) {
	for _, x := range append(append(logs(), images()...), boths()...) {
		for _, tail := range []string{"", "tail"} {
			room := len(tail)
			for _, data := range x.files {
				room += len(data)
			}
			d := disk.New(endless(), room)
			write(d, x.files)
			if tail != "" {
				d.Append(LogName, []byte(tail))
			}
			wantOpen(t, on(t, d), laid{x.about + " on a full disk", nil, x.clock, x.rows})
		}
	}
	if got := on(t, disk.New(endless(), -1)).do("stats"); got != "0 0 0 0 0" {
		t.Errorf("P15.1: without any room: stats = %s, want 0 0 0 0 0", got)
	}
}

// badImages are the bytes of an image's file that is not valid, by what is wrong.
func badImages() map[string]string {
	good := pictureOf(9, "a 5=x")
	pair := func(first, second string) string { return piece(first) + piece(second) }
	bad := map[string]string{
		"no bytes":                            "",
		"no piece":                            "x",
		"bytes of the length of a piece":      strings.Repeat("\xff", 30),
		"a number alone":                      piece(num(5)),
		"an image alone":                      piece(good),
		"three pieces":                        pair(num(5), good) + piece(""),
		"three pieces, the last one an image": pair(num(5), good) + piece(good),
		"three pieces, two numbers":           piece(num(5)) + pair(num(5), good),
		"bytes behind the pieces":             pair(num(5), good) + "x",
		"bytes before the pieces":             "x" + pair(num(5), good),
		"a byte 0 behind the pieces":          pair(num(5), good) + "\x00",
		"the second piece not complete":       pair(num(5), good)[:len(pair(num(5), good))-1],
		"the first piece with a wrong sum":    strings.Replace(pair(num(5), good), piece(num(5))[4:8], "\x01\x02\x03\x04", 1),
		"the second piece with a wrong sum":   pair(num(5), good)[:len(pair(num(5), good))-1] + "X",
		"the pieces the other way round":      pair(good, num(5)),
		"no wraps":                            num(5) + good,
		"a log's record":                      logOf("5 a=x"),
		"two of a log's records":              logOf("5 a=x | 6 b=y"),
	}
	for what, first := range map[string]string{
		"no bytes":                    "",
		"two numbers":                 "\x05\x05",
		"a number and a byte 0":       "\x05\x00",
		"a number that goes on":       "\x85",
		"a number that ends with 0":   "\x85\x00",
		"a 0 of two bytes":            "\x80\x00",
		"a number of 65 bits":         "\xff\xff\xff\xff\xff\xff\xff\xff\xff\x02",
		"a number of eleven bytes":    "\xff\xff\xff\xff\xff\xff\xff\xff\xff\xff\x00",
		"a number behind bytes":       "\x80\x80\x00\x05",
		"a number in eight bytes":     string(binary.LittleEndian.AppendUint64(nil, 5)),
		"a number's decimal digits":   "55",
		"a record":                    recordOf("5 a=x"),
		"a number inside of a piece":  piece(num(5)),
		"a number and its image, too": num(5) + good,
	} {
		bad["as its first piece "+what] = pair(first, good)
	}
	for what, second := range map[string]string{
		"no bytes":                     "",
		"a clock alone":                "\x09",
		"a byte behind the image":      good + "\x00",
		"an image without its end":     good[:len(good)-1],
		"a clock above MaxTime":        pictureOf(api.MaxTime+1, "a 5=x"),
		"the greatest number as clock": pictureOf(math.MaxUint64, ""),
		"a time above the clock":       pictureOf(4, "a 5=x"),
		"time 0":                       pictureOf(4, "a 0=x"),
		"times that do not ascend":     pictureOf(9, "a 5=x 5=y"),
		"keys that do not ascend":      pictureOf(9, "b 5=x, a 5=x"),
		"a key twice":                  pictureOf(9, "a 5=x, a 5=x"),
		"a key without versions":       pictureOf(9, "a"),
		"an empty key":                 "\x09\x01\x00\x01\x05\x02x",
		"a long key":                   pictureOf(9, strings.Repeat("k", api.MaxKey+1)+" 5=x"),
		"a long value":                 pictureOf(9, "a 5="+strings.Repeat("v", api.MaxValue+1)),
		"more keys than there are":     "\x09\x02\x01a\x01\x05\x02x",
		"fewer keys than there are":    "\x09\x00\x01a\x01\x05\x02x",
		"a record":                     recordOf("5 a=x"),
		"an image's file":              pair(num(5), good),
	} {
		bad["as its second piece "+what] = pair(num(5), second)
	}
	return bad
}

// badPieces are the data of a log's piece that is not a record, by what is wrong.
func badPieces() map[string]string {
	good := recordOf("5 a=x")
	return map[string]string{
		"no bytes":                   "",
		"a time alone":               "\x05",
		"time 0":                     recordOf("0 a=x"),
		"a time above MaxTime":       recordOf(fmt.Sprintf("%d a=x", uint64(api.MaxTime)+1)),
		"the greatest number":        recordOf(fmt.Sprintf("%d a=x", uint64(math.MaxUint64))),
		"a record without its end":   good[:len(good)-1],
		"a byte behind the record":   good + "\x00",
		"two records":                good + good,
		"keys that do not ascend":    recordOf("5 b=x a=x"),
		"a key twice":                recordOf("5 a=x a=x"),
		"an empty key":               "\x05\x01\x00\x02x",
		"a long key":                 recordOf("5 " + strings.Repeat("k", api.MaxKey+1) + "=x"),
		"a long value":               recordOf("5 a=" + strings.Repeat("v", api.MaxValue+1)),
		"more writes than there are": "\x05\x02\x01a\x02x",
		"a number that ends with 0":  "\x85\x00\x01\x01a\x02x",
		"a piece":                    piece(good),
		"text":                       "this is not a record",
	}
}

// wantBad opens a disk that is not valid: Open returns ErrData and no engine (R3), and has changed nothing (P7). It does not even need power.
func wantBad(t *testing.T, about string, d *disk.Disk) {
	t.Helper()
	before := files(d)
	p := power.New(0)
	d.Power(p)
	for range 2 {
		var g *Engine
		var e api.Errno
		if !power.Run(func() { g, e = Open(d) }) {
			t.Fatalf("P7: Open of a disk with %s takes a step", about)
		}
		if g != nil || e != api.ErrData {
			t.Fatalf("P15.1: Open of a disk with %s = %v, error %d, want nil, %d", about, g, e, api.ErrData)
		}
	}
	if after := files(d); after != before {
		t.Fatalf("P7: Open of a disk with %s has changed %s into %s", about, before, after)
	}
}

// TestOpenBadImage: with any log, also with one that would be cut, an image that is not valid is ErrData.
func TestOpenBadImage(t *testing.T) {
	for what, image := range badImages() {
		for _, log := range []string{"none", "", logOf("5 a=x"), logOf("4 b=y | 5 a=x | 9 c=z"), logOf("5 a=x") + "tail", piece("no record")} {
			for _, kept := range []bool{true, false} {
				d := disk.New(endless(), roomy)
				d.Append(ImageName, []byte(image))
				if log != "none" {
					d.Append(LogName, []byte(log))
				}
				if kept {
					d.Sync(ImageName)
				}
				wantBad(t, fmt.Sprintf("an image of %s, and a log of %.30q", what, log), d)
			}
		}
	}
}

// TestOpenBadLog: one piece that is no record is ErrData, wherever it is, also among those that the image has already, and also if the file would be cut behind it.
func TestOpenBadLog(t *testing.T) {
	for what, bad := range badPieces() {
		for _, image := range []string{"none", imageOf(0, 0, ""), imageOf(5, 9, "a 5=i"), imageOf(9, 9, "a 5=i")} {
			for _, before := range []string{"", "2 b=y", "4 b=y | 5 a=x"} {
				for _, behind := range []string{"", "5 a=x", "5 a=x | 9 c=z"} {
					for _, tail := range []string{"", "tail"} {
						d := disk.New(endless(), roomy)
						if image != "none" {
							lay(d, ImageName, image)
						}
						lay(d, LogName, logOf(before)+piece(bad)+logOf(behind))
						d.Append(LogName, []byte(tail))
						wantBad(t, fmt.Sprintf("%s as a piece of the log, between %q and %q, %q at the end", what, before, behind, tail), d)
					}
				}
			}
		}
	}
}

// TestOpenBadThenGood: the same disk is opened when what is wrong is gone.
func TestOpenBadThenGood(t *testing.T) {
	b := behind(t, "begin 9: 1; put 1 a x: ok; commit 1: 1; checkpoint: ok; begin 9: 2; put 2 b y: ok; commit 2: 2")
	lay(b.d, LogName, piece("bad"))
	b.play(t, "P15.1", "open: error 10; open: error 10; rows: a 1=x, b 2=y; remove log: ok; open: ok; rows: a 1=x; stats: 1 0 1 1 0")
	lay(b.d, ImageName, "bad")
	b.play(t, "P15.1", "open: error 10; remove image: ok; open: ok; stats: 0 0 0 0 0; checkpoint: ok; files: image 19")
}

// TestOpenEachByte: whatever a byte of the files is changed to, Open ends. It is ErrData for the image; of the log fewer records are found, here none that is new.
func TestOpenEachByte(t *testing.T) {
	image, log, want := imageOf(2, 9, "a 1=x 2=y, b 3=gone"), logOf("2 a=y | 10 b=z"), "a 1=x 2=y, b 3=gone"
	for i := range len(image) + len(log) {
		for _, flip := range []byte{1, 2, 0x80, 0xff} {
			all := []byte(image + log)
			all[i] ^= flip
			d := disk.New(endless(), roomy)
			write(d, of(string(all[len(image):]), string(all[:len(image)])))
			g, e := Open(d)
			if bad := i < len(image); bad != (e == api.ErrData) || bad != (g == nil) {
				t.Fatalf("P15.1: Open of a disk whose byte %d is changed = %v, error %d; it is one of the image: %v", i, g, e, bad)
			}
			if g != nil && (rows(g.Store) != want || g.Clock() != 9) {
				t.Fatalf("P15.1: with byte %d of the log changed, the keys are %s, the clock %d, want %s, 9", i-len(image), rows(g.Store), g.Clock(), want)
			}
		}
	}
}
