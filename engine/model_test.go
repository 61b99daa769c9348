package engine

import (
	"fmt"
	"slices"
	"strings"
	"testing"

	"selion/api"
	"selion/disk"
	"selion/store"
	"selion/txn"
)

// model is an engine by the chapter's words: a manager, and texts of what the disk's files are to have.
type model struct {
	m    *txn.Manager
	room int
	// log has the records, image what there is of an image's file.
	log   []string
	image *picture
}

// picture is what an image's file consists of.
type picture struct {
	has, clock uint64
	rows       string
}

func newModel(room int) *model { return &model{m: txn.New(store.New(), 0), room: room} }

// files returns the bytes of the log and of the image, and whether there is an image.
func (p *model) files() (log, image string, is bool) {
	log = logOf(strings.Join(p.log, "|"))
	if p.image == nil {
		return log, "", false
	}
	return log, imageOf(p.image.has, p.image.clock, p.image.rows), true
}

// fits tells whether there is room for so many bytes more.
func (p *model) fits(n int) bool {
	log, image, _ := p.files()
	return len(log)+len(image)+n <= p.room
}

// timeOf returns a record's time.
func timeOf(c string) uint64 { return number(strings.Fields(c)[0]) }

// open makes a manager of what the files have.
func (p *model) open() string {
	s, clock, list := store.New(), uint64(0), p.log
	if p.image != nil {
		clock = p.image.clock
		for _, row := range listOf(p.image.rows) {
			w := strings.Fields(row)
			for _, x := range w[1:] {
				at, value, _ := strings.Cut(x, "=")
				v := versionOf(value)
				v.At = number(at)
				s.Put(w[0], v)
			}
		}
		if i := slices.IndexFunc(list, func(c string) bool { return timeOf(c) == p.image.has }); i >= 0 {
			list = list[i+1:]
		}
	}
	for _, c := range list {
		for _, x := range strings.Fields(c)[1:] {
			key, value, _ := strings.Cut(x, "=")
			v := versionOf(value)
			v.At = timeOf(c)
			s.Put(key, v)
		}
		clock = max(clock, timeOf(c))
	}
	p.m = txn.New(s, clock)
	return "ok"
}

// listOf returns the rows of a text.
func listOf(rows string) []string { return list(rows, ",") }

// commit keeps what a transaction has written, and then it is the manager's.
func (p *model) commit(n int) string {
	at, e := p.m.Point(n)
	if keys := p.m.Wrote(n); e == api.OK && len(keys) > 0 {
		c := fmt.Sprint(at)
		for _, key := range keys {
			_, value, _ := strings.Cut(version(p.m.Version(n, key)), "=")
			c += " " + key + "=" + value
		}
		if !p.fits(len(piece(recordOf(c)))) {
			return "error 9"
		}
		p.log = append(p.log, c)
	}
	t, e := p.m.Commit(n)
	return answer(e, t == 0, fmt.Sprint(t))
}

// checkpoint makes an image of the store.
func (p *model) checkpoint() string {
	made := &picture{clock: p.m.Clock(), rows: rows(p.m.Store)}
	if len(p.log) > 0 {
		made.has = timeOf(p.log[len(p.log)-1])
	}
	if !p.fits(len(imageOf(made.has, made.clock, made.rows))) {
		return "error 9"
	}
	p.image, p.log = made, nil
	return "ok"
}

// do makes the call that a command stands for and gives its results as text.
func (p *model) do(command string) string {
	w := append(strings.Fields(command), "", "", "", "", "")
	switch w[0] {
	case "open":
		return p.open()
	case "checkpoint":
		return p.checkpoint()
	case "commit":
		return p.commit(int(number(w[1])))
	}
	return call(p.m, w)
}

// stats gives the numbers of Stats.
func (p *model) stats() string {
	keys, versions := 0, 0
	for _, row := range listOf(rows(p.m.Store)) {
		keys++
		versions += len(strings.Fields(row)) - 1
	}
	log, _, _ := p.files()
	return fmt.Sprint(p.m.Clock(), len(p.m.Live()), keys, versions, len(log))
}

// wantSame holds an engine and its disk against a model.
func wantSame(t *testing.T, made []string, b *bench, p *model) {
	t.Helper()
	if got, want := show(b.g), show(p.m); got != want {
		t.Fatalf("P15.1: behind %s: %s, want %s", strings.Join(made, "; "), got, want)
	}
	if got, want := b.do("stats"), p.stats(); got != want {
		t.Fatalf("P15.2: behind %s: Stats are %s, want %s", strings.Join(made, "; "), got, want)
	}
	log, image, is := p.files()
	if got := holds(b.d, LogName, log); got != "yes" && (got != "none" || log != "") {
		t.Fatalf("P15.2: behind %s: is the log right? %s", strings.Join(made, "; "), got)
	}
	if got := holds(b.d, ImageName, image); got != map[bool]string{true: "yes", false: "none"}[is] {
		t.Fatalf("P15.2: behind %s: is the image right? %s", strings.Join(made, "; "), got)
	}
	if _, found := b.d.Read(newName); found {
		t.Fatalf("P15.2: behind %s there is an image-new", strings.Join(made, "; "))
	}
}

// both makes a call of an engine and of a model, and holds one result against the other, and what is there then. It returns the result.
func both(t *testing.T, made []string, b *bench, p *model) string {
	t.Helper()
	command := made[len(made)-1]
	before := ""
	if len(b.d.Names()) > 0 {
		before = files(b.d)
	}
	got, want := b.do(command), p.do(command)
	if got != want {
		t.Fatalf("P15: %s = %s, want %s", strings.Join(made, "; "), got, want)
	}
	if strings.HasPrefix(got, "error") && files(b.d) != before {
		t.Fatalf("P7: %s has changed the disk from %s to %s", strings.Join(made, "; "), before, files(b.d))
	}
	wantSame(t, made, b, p)
	return got
}

// short are the calls of which TestSequences makes sequences. Three transactions are active before them.
func short() []string {
	return []string{"begin 2", "put 1 a y", "delete 2 b", "put 3 b -", "get 1 b", "get 2 a", "commit 1", "commit 2", "commit 3", "commit 4", "snapshot", "abort 2", "tick 2", "purge 1", "checkpoint", "open"}
}

// TestSequences holds every sequence of calls against the model, on a disk with room and on one with little.
func TestSequences(t *testing.T) {
	ahead := []string{"begin 3", "tick 1", "begin 2", "begin 9", "put 1 a x", "put 2 b z"}
	const long = 3
	for _, room := range []int{roomy, 40} {
		var add func(made []string)
		add = func(made []string) {
			b, p := &bench{d: disk.New(endless(), room)}, newModel(room)
			b.open()
			for _, command := range made[:len(made)-1] {
				b.do(command)
				p.do(command)
			}
			both(t, made, b, p)
			if len(made) < len(ahead)+long {
				for _, command := range short() {
					add(append(slices.Clone(made), command))
				}
			}
		}
		add(ahead)
	}
}

// dice is a source of numbers that are the same in every run.
type dice uint64

// below returns a number from 0 to n - 1.
func (d *dice) below(n int) int {
	*d = *d*6364136223846793005 + 1442695040888963407
	return int(uint64(*d) >> 33 % uint64(n))
}

// command returns a call that may come next. Most are of active transactions.
func (d *dice) command(live []int, step int) string {
	n := step % 7
	if len(live) > 0 && d.below(20) > 0 {
		n = live[d.below(len(live))]
	}
	key := []string{"a", "b", "c", "dd", "e"}[d.below(5)]
	switch d.below(20) {
	case 0, 1, 2, 3:
		return fmt.Sprint("begin ", d.below(6))
	case 4:
		return "snapshot"
	case 5, 6:
		return fmt.Sprintf("get %d %s", n, key)
	case 7:
		return fmt.Sprintf("scan %d %s d 3", n, key)
	case 8, 9, 10, 11:
		return fmt.Sprintf("put %d %s %s", n, key, []string{"-", "x", fmt.Sprintf("v%d", step), strings.Repeat("w", d.below(100)+1)}[d.below(4)])
	case 12:
		return fmt.Sprintf("delete %d %s", n, key)
	case 13, 14, 15:
		return fmt.Sprintf("commit %d", n)
	case 16:
		return fmt.Sprintf("abort %d", n)
	case 17:
		return fmt.Sprint("tick ", d.below(3))
	}
	return "more"
}

// next returns command's call, or one of those that only an engine has, or a Purge.
func (d *dice) next(g *Engine, step int) string {
	command := d.command(g.Live(), step)
	if command != "more" {
		return command
	}
	return []string{"checkpoint", "open", "checkpoint", fmt.Sprint("purge ", g.Least()), fmt.Sprint("purge ", g.Least()+1)}[d.below(5)]
}

// TestLong holds long sequences of calls against the model, on disks with more room and less.
func TestLong(t *testing.T) {
	full, images := map[string]int{}, 0
	for seed := range 100 {
		d := dice(seed + 1)
		room := []int{roomy, 120, 250, 600}[seed%4]
		b, p := &bench{d: disk.New(endless(), room)}, newModel(room)
		b.open()
		var made []string
		for step := range 200 {
			made = append(made, d.next(b.g, step))
			if both(t, made, b, p) == "error 9" {
				full[strings.Fields(made[step])[0]]++
			}
			if _, found := b.d.Read(ImageName); found {
				images++
			}
		}
	}
	if full["commit"] < 50 || full["checkpoint"] < 50 || images < 1000 {
		t.Errorf("P15.2: there was no room for %v, an image was there %d times: the sequences show little", full, images)
	}
}

// last gives the values of a store, with their times, as of the end of all times.
func last(s *store.Store) string {
	var out []string
	for key, c := range s.All() {
		if v := c[len(c)-1]; !v.Gone {
			out = append(out, key+" "+version(v))
		}
	}
	return strings.Join(out, ", ")
}

// TestPurgeAndCheckpoint: with Purge and Checkpoint, and without them, all other results are the same (P5), and so are the values when the disk is opened again.
func TestPurgeAndCheckpoint(t *testing.T) {
	for seed := range 150 {
		d := dice(seed + 7000)
		with, without := fresh(t), fresh(t)
		var made []string
		for step := range 150 {
			command := d.next(with.g, step)
			if command == "open" {
				continue
			}
			made = append(made, command)
			got := with.do(command)
			if strings.HasPrefix(command, "purge") || command == "checkpoint" {
				continue
			}
			if want := without.do(command); got != want {
				t.Fatalf("P5: %s = %s, without purges and checkpoints %s", strings.Join(made, "; "), got, want)
			}
		}
		for _, when := range []string{"before", "behind"} {
			if got, want := last(with.g.Store), last(without.g.Store); got != want {
				t.Fatalf("P5: %s; the values %s Open are %s, without purges and checkpoints %s", strings.Join(made, "; "), when, got, want)
			}
			with.open()
			without.open()
		}
	}
}

// TestSameTwice: the same calls have the same results, and the same files (R6).
func TestSameTwice(t *testing.T) {
	for seed := range 40 {
		var told []string
		for range 3 {
			d, b := dice(seed+90000), fresh(t)
			var all []string
			for step := range 120 {
				command := d.next(b.g, step)
				all = append(all, command+": "+b.do(command))
			}
			told = append(told, strings.Join(append(all, b.show()), "; "))
		}
		if told[0] != told[1] || told[0] != told[2] {
			t.Fatalf("R6: the same calls have other results:\n%s\n%s\n%s", told[0], told[1], told[2])
		}
	}
}
