package txn

import (
	"fmt"
	"maps"
	"slices"
	"strings"
	"testing"

	"selion/api"
	"selion/chain"
	"selion/lock"
	"selion/span"
	"selion/store"
)

// model is a manager by the chapter's words: times stand in lists, one by one.
type model struct {
	clock uint64
	begun int
	txns  map[int]*pupil
	held  []claim
	taken []uint64
	keys  map[string]map[uint64]chain.Version
}

// pupil is a transaction, with its times in ascending order, and with what it wrote.
type pupil struct {
	snap  bool
	times []uint64
	wrote map[string]chain.Version
}

// claim is a lock.
type claim struct {
	owner    int
	from, to string
	times    []uint64
}

func newModel() *model {
	return &model{txns: map[int]*pupil{}, keys: map[string]map[uint64]chain.Version{}}
}

// upTo returns the times from one to another one.
func upTo(from, to uint64) []uint64 {
	var l []uint64
	for at := from; at <= to; at++ {
		l = append(l, at)
	}
	return l
}

// only returns those of the times that are good.
func only(l []uint64, good func(at uint64) bool) []uint64 {
	var out []uint64
	for _, at := range l {
		if good(at) {
			out = append(out, at)
		}
	}
	return out
}

func (m *model) Clock() uint64 { return m.clock }
func (m *model) Live() []int   { return slices.Sorted(maps.Keys(m.txns)) }

func (m *model) Get(n int) (*Txn, api.Errno) {
	x := m.txns[n]
	if x == nil {
		return nil, api.ErrNone
	}
	t := Txn{Kind: Write, Span: span.Span{Lo: x.times[0], Hi: x.times[len(x.times)-1]}}
	if x.snap {
		t.Kind = Snap
	}
	return &t, api.OK
}

func (m *model) Tick(by uint64) api.Errno {
	m.clock += by
	return api.OK
}

func (m *model) Safe() uint64 {
	l := []uint64{m.clock}
	for _, x := range m.txns {
		if !x.snap {
			l = append(l, x.times[0]-1)
		}
	}
	return slices.Min(l)
}

func (m *model) Least() uint64 {
	l := []uint64{m.Safe()}
	for _, x := range m.txns {
		if x.snap {
			l = append(l, x.times[0])
		}
	}
	return slices.Min(l)
}

func (m *model) begin(snap bool, times []uint64) (int, api.Errno) {
	if len(m.txns) == api.MaxLive {
		return 0, api.ErrLive
	}
	m.begun++
	m.txns[m.begun] = &pupil{snap, times, map[string]chain.Version{}}
	return m.begun, api.OK
}

func (m *model) Begin(width uint64) (int, api.Errno) {
	if width == 0 || width > api.MaxWidth {
		return 0, api.ErrRange
	}
	return m.begin(false, upTo(m.clock+1, m.clock+width))
}

func (m *model) Snapshot() (int, api.Errno) { return m.begin(true, []uint64{m.Safe()}) }

// at returns a key's last version up to a time, one that is gone at 0 if there is none.
func (m *model) at(key string, hi uint64) chain.Version {
	v := chain.Version{Gone: true}
	for _, at := range upTo(1, hi) {
		if x, is := m.keys[key][at]; is {
			v = x
		}
	}
	return v
}

// see is what a Read and a Scan of a transaction that writes have in common: false is a conflict.
func (m *model) see(n int, at uint64, from, to string, first uint64) bool {
	x := m.txns[n]
	if x.snap {
		return true
	}
	hi := x.times[len(x.times)-1]
	x.times = only(x.times, func(t uint64) bool { return t > at })
	if len(x.times) == 0 {
		m.Abort(n)
		return false
	}
	m.held = append(m.held, claim{n, from, to, upTo(first, hi)})
	return true
}

func (m *model) Read(n int, key string) (string, bool, api.Errno) {
	x := m.txns[n]
	if x == nil {
		return "", false, api.ErrNone
	}
	if key == "" {
		return "", false, api.ErrKey
	}
	v, own := x.wrote[key]
	if !own {
		v = m.at(key, x.times[len(x.times)-1])
		if !m.see(n, v.At, key, key, v.At+1) {
			return "", false, api.ErrConflict
		}
	}
	return v.Value, !v.Gone, api.OK
}

func (m *model) Scan(n int, from, to string, many int) ([]Pair, api.Errno) {
	x := m.txns[n]
	switch {
	case x == nil:
		return nil, api.ErrNone
	case from == "" || to == "" || from > to:
		return nil, api.ErrKey
	case many < 1 || many > api.MaxScan:
		return nil, api.ErrRange
	}
	latest, hi := uint64(0), x.times[len(x.times)-1]
	view := map[string]chain.Version{}
	for key := range m.keys {
		if _, own := x.wrote[key]; !own && from <= key && key <= to {
			view[key] = m.at(key, hi)
			latest = max(latest, view[key].At)
		}
	}
	if !m.see(n, latest, from, to, 1) {
		return nil, api.ErrConflict
	}
	maps.Copy(view, x.wrote)
	var l []Pair
	for _, key := range slices.Sorted(maps.Keys(view)) {
		if v := view[key]; from <= key && key <= to && !v.Gone && len(l) < many {
			l = append(l, Pair{key, v.Value})
		}
	}
	return l, api.OK
}

func (m *model) write(n int, key string, v chain.Version) api.Errno {
	x := m.txns[n]
	switch {
	case x == nil:
		return api.ErrNone
	case x.snap:
		return api.ErrRead
	case key == "":
		return api.ErrKey
	}
	x.wrote[key] = v
	return api.OK
}

func (m *model) Put(n int, key, value string) api.Errno {
	return m.write(n, key, chain.Version{Value: value})
}

func (m *model) Delete(n int, key string) api.Errno {
	return m.write(n, key, chain.Version{Gone: true})
}

// locked tells whether another owner's lock on a key that a transaction has written contains a time.
func (m *model) locked(n int, at uint64) bool {
	for _, c := range m.held {
		for key := range m.txns[n].wrote {
			if c.owner != n && c.from <= key && key <= c.to && slices.Contains(c.times, at) {
				return true
			}
		}
	}
	return false
}

func (m *model) Point(n int) (uint64, api.Errno) {
	x := m.txns[n]
	if x == nil {
		return 0, api.ErrNone
	}
	if x.snap {
		return x.times[0], api.OK
	}
	free := only(x.times, func(at uint64) bool { return !slices.Contains(m.taken, at) && !m.locked(n, at) })
	if len(free) == 0 {
		return 0, api.ErrConflict
	}
	return free[0], api.OK
}

func (m *model) Wrote(n int) []string {
	if m.txns[n] == nil {
		return nil
	}
	return slices.Sorted(maps.Keys(m.txns[n].wrote))
}

func (m *model) Version(n int, key string) chain.Version {
	if m.txns[n] == nil {
		return chain.Version{}
	}
	return m.txns[n].wrote[key]
}

func (m *model) Commit(n int) (uint64, api.Errno) {
	at, e := m.Point(n)
	switch e {
	case api.ErrNone:
		return 0, e
	case api.ErrConflict:
		m.Abort(n)
		return 0, e
	}
	x := m.txns[n]
	delete(m.txns, n)
	if x.snap {
		return at, api.OK
	}
	for key, v := range x.wrote {
		v.At = at
		if m.keys[key] == nil {
			m.keys[key] = map[uint64]chain.Version{}
		}
		m.keys[key][at] = v
	}
	m.taken = append(m.taken, at)
	m.clock = max(m.clock, at)
	m.keep(n, func(t uint64) bool { return t <= at })
	return at, api.OK
}

// keep gives an owner's locks to owner 0, with the times that are good.
func (m *model) keep(owner int, good func(at uint64) bool) {
	var out []claim
	for _, c := range m.held {
		if c.owner == owner {
			c.owner, c.times = 0, only(c.times, good)
		}
		if len(c.times) > 0 {
			out = append(out, c)
		}
	}
	m.held = out
}

func (m *model) Abort(n int) api.Errno {
	if m.txns[n] == nil {
		return api.ErrNone
	}
	delete(m.txns, n)
	m.keep(n, func(uint64) bool { return false })
	return api.OK
}

func (m *model) Purge(t uint64) (int, api.Errno) {
	if t > m.Least() {
		return 0, api.ErrRange
	}
	m.keep(0, func(at uint64) bool { return at > t })
	m.taken = only(m.taken, func(at uint64) bool { return at > t })
	removed := 0
	for _, versions := range m.keys {
		var old []uint64
		for _, at := range slices.Sorted(maps.Keys(versions)) {
			if at <= t {
				old = append(old, at)
			}
		}
		if len(old) > 0 && !versions[old[len(old)-1]].Gone {
			old = old[:len(old)-1]
		}
		for _, at := range old {
			delete(versions, at)
			removed++
		}
	}
	maps.DeleteFunc(m.keys, func(_ string, versions map[uint64]chain.Version) bool { return len(versions) == 0 })
	return removed, api.OK
}

func (m *model) locks() []lock.Lock {
	var l []lock.Lock
	for _, c := range m.held {
		l = append(l, lock.Lock{Owner: c.owner, From: c.from, To: c.to, Span: span.Span{Lo: c.times[0], Hi: c.times[len(c.times)-1]}})
	}
	return l
}

func (m *model) rows() map[string]chain.Chain {
	rows := map[string]chain.Chain{}
	for key, versions := range m.keys {
		for _, at := range slices.Sorted(maps.Keys(versions)) {
			rows[key] = append(rows[key], versions[at])
		}
	}
	return rows
}

// both makes a call of a manager and of a model, and holds its results and all that they show then against each other.
func both(t *testing.T, m *Manager, like *model, made []string) {
	t.Helper()
	t.Helper()
	command := made[len(made)-1]
	if got, want := do(m, command), do(like, command); got != want {
		t.Fatalf("P12: %s = %s, want %s", strings.Join(made, "; "), got, want)
	}
	if got, want := show(m), show(like); got != want {
		t.Fatalf("P12: behind %s:\n%s, want\n%s", strings.Join(made, "; "), got, want)
	}
}

// starts are what sequences of calls begin with.
func starts() [][]string {
	return [][]string{
		{"begin 3", "begin 3"},
		{"begin 2", "begin 4", "snapshot", "put 1 a x", "get 2 b"},
		{"begin 3", "begin 3", "begin 4", "put 3 a y", "put 3 b y", "commit 3", "tick 1", "begin 2", "delete 1 a"},
	}
}

// TestSequences holds every sequence of four of many calls against the model, from several starts.
func TestSequences(t *testing.T) {
	calls := []string{
		"begin 2", "snapshot", "get 1 a", "get 2 a", "scan 1 a b 9", "put 1 a 1", "put 2 a 2", "delete 2 b",
		"commit 1", "commit 2", "commit 3", "abort 1", "tick 1", "purge 1",
	}
	for _, start := range starts() {
		for first := range calls {
			sequences(t, start, calls, []int{first}, 4)
		}
	}
}

// sequences goes on with each of the calls, until there are size of them.
func sequences(t *testing.T, start, calls []string, made []int, size int) {
	if len(made) < size {
		for next := range calls {
			sequences(t, start, calls, append(slices.Clone(made), next), size)
		}
		return
	}
	m, like := fresh(), newModel()
	all := slices.Clone(start)
	for _, command := range start {
		do(m, command)
		do(like, command)
	}
	for i, call := range made {
		all = append(all, calls[call])
		// What comes ahead of the last call has been held against the model by the sequences that differ in it alone.
		if i < size-1 && !slices.Equal(made[i+1:], make([]int, size-1-i)) {
			do(m, calls[call])
			do(like, calls[call])
			continue
		}
		both(t, m, like, all)
	}
}

// dice gives numbers that look like random ones, always the same.
type dice uint64

// below returns a number from 0 on, below n.
func (d *dice) below(n int) int {
	*d = *d*6364136223846793005 + 1442695040888963407
	return int(uint64(*d>>33) % uint64(n))
}

// key returns one of a few keys.
func (d *dice) key() string { return string("abcd"[d.below(4)]) }

// pick returns the number of an active transaction, or, now and then, another number.
func (d *dice) pick(live []int) int {
	if len(live) == 0 || d.below(40) == 0 {
		return d.below(30) - 2
	}
	return live[d.below(len(live))]
}

// command returns a command for a manager with these active transactions; step makes values differ.
func (d *dice) command(live []int, step int) string {
	n := d.pick(live)
	switch k := d.below(100); {
	case k < 12:
		return fmt.Sprint("begin ", d.below(9))
	case k < 16:
		return "snapshot"
	case k < 36:
		return fmt.Sprint("get ", n, " ", d.key())
	case k < 46:
		from, to := d.key(), d.key()
		if to < from && d.below(9) > 0 {
			from, to = to, from
		}
		return fmt.Sprint("scan ", n, " ", from, " ", to, " ", d.below(5))
	case k < 64:
		return fmt.Sprint("put ", n, " ", d.key(), " ", step)
	case k < 72:
		return fmt.Sprint("delete ", n, " ", d.key())
	case k < 86:
		return fmt.Sprint("commit ", n)
	case k < 89:
		return fmt.Sprint("abort ", n)
	case k < 93:
		return fmt.Sprint("tick ", d.below(3))
	}
	return "purge"
}

// purge makes a purge without a time one up to Least, or at another time.
func (d *dice) purge(m face, command string) string {
	if command != "purge" {
		return command
	}
	at := int(m.Least()) + d.below(3) - d.below(4)
	return fmt.Sprint(command, " ", max(at, 0))
}

// TestLongSequences holds long sequences of calls against the model.
func TestLongSequences(t *testing.T) {
	for seed := range 150 {
		d := dice(seed)
		m, like := fresh(), newModel()
		var made []string
		for step := range 150 {
			made = append(made, d.purge(like, d.command(like.Live(), step)))
			both(t, m, like, made)
		}
	}
}

// deed is a call of a transaction, with what it returned.
type deed struct{ command, reply string }

// story is a committed transaction: its time, its span, and its calls.
type story struct {
	number int
	snap   bool
	at     uint64
	span   span.Span
	deeds  []deed
}

// telling makes calls of a manager and takes note of the committed transactions, in the order of their commits.
type telling struct {
	m     *Manager
	deeds map[int][]deed
	done  []story
}

func (s *telling) do(command string) string {
	w := append(strings.Fields(command), "")
	n := 0
	fmt.Sscan(w[1], &n)
	x, _ := s.m.Get(n)
	reply := do(s.m, command)
	if strings.HasPrefix(reply, "error") {
		return reply
	}
	switch w[0] {
	case "get", "scan", "put", "delete":
		s.deeds[n] = append(s.deeds[n], deed{command, reply})
	case "commit":
		at := uint64(0)
		fmt.Sscan(reply, &at)
		s.done = append(s.done, story{n, x.Kind == Snap, at, x.Span, s.deeds[n]})
	}
	return reply
}

// plain executes a transaction's call on a plain map.
func plain(state map[string]string, command string) string {
	w := strings.Fields(command)
	switch w[0] {
	case "put":
		state[w[2]] = w[3]
		return "ok"
	case "delete":
		delete(state, w[2])
		return "ok"
	case "get":
		if value, has := state[w[2]]; has {
			return "value " + value
		}
		return "none"
	}
	many := 0
	fmt.Sscan(w[4], &many)
	out := "pairs"
	for _, key := range slices.Sorted(maps.Keys(state)) {
		if w[2] <= key && key <= w[3] && many > 0 {
			out += " " + key + "=" + state[key]
			many--
		}
	}
	return out
}

// serial holds the committed transactions' results against those on a plain map, in the order of their times (P3).
func (s *telling) serial(t *testing.T) {
	t.Helper()
	slices.SortStableFunc(s.done, func(a, b story) int {
		switch {
		case a.at != b.at:
			return int(a.at) - int(b.at)
		case a.snap != b.snap && a.snap:
			return 1
		case a.snap != b.snap:
			return -1
		}
		return 0
	})
	state := map[string]string{}
	last := uint64(0)
	for _, x := range s.done {
		if !x.snap && x.at == last || !x.span.Has(x.at) {
			t.Fatalf("P3: transaction %d with the span %v is committed at %d, behind one at %d", x.number, x.span, x.at, last)
		}
		if !x.snap {
			last = x.at
		}
		for _, y := range x.deeds {
			if got := plain(state, y.command); got != y.reply {
				t.Fatalf("P3: %s returned %s, at its time %d it is %s", y.command, y.reply, x.at, got)
			}
		}
	}
}

// TestSerial: whatever is called, the committed transactions are as if executed one after another in the order of their times.
func TestSerial(t *testing.T) {
	committed := 0
	for seed := range 600 {
		d := dice(seed + 1000)
		s := &telling{m: fresh(), deeds: map[int][]deed{}}
		for step := range 200 {
			s.do(d.purge(s.m, d.command(s.m.Live(), step)))
		}
		s.serial(t)
		committed += len(s.done)
	}
	if committed < 600*10 {
		t.Errorf("P3: only %d transactions were committed: the sequences show little", committed)
	}
}

// TestPurgeResults: what transactions return is the same with purges and without them (P12.5, P5).
func TestPurgeResults(t *testing.T) {
	removed := 0
	for seed := range 300 {
		d := dice(seed + 5000)
		with, without := fresh(), fresh()
		var made []string
		for step := range 200 {
			command := d.command(with.Live(), step)
			if command == "purge" {
				n, e := with.Purge(with.Least() - min(with.Least(), uint64(d.below(3))))
				if e != api.OK {
					t.Fatalf("P12.5: Purge: error %d behind %s", e, strings.Join(made, "; "))
				}
				removed += n
				made = append(made, "purge")
				continue
			}
			made = append(made, command)
			if got, want := do(with, command), do(without, command); got != want {
				t.Fatalf("P12.5: with purges %s = %s, without %s", strings.Join(made, "; "), got, want)
			}
			for _, n := range with.Live() {
				for _, command := range []string{"clock", "safe", "least", "live", fmt.Sprint("txn ", n), fmt.Sprint("point ", n), fmt.Sprint("wrote ", n)} {
					if got, want := do(with, command), do(without, command); got != want {
						t.Fatalf("P12.5: with purges %s; %s = %s, without %s", strings.Join(made, "; "), command, got, want)
					}
				}
			}
		}
	}
	if removed < 300 {
		t.Errorf("P12.5: only %d versions were removed: the sequences show little", removed)
	}
}

// calm returns a manager behind many calls, without active transactions.
func calm(d *dice) *Manager {
	m := fresh()
	for step := range 60 {
		do(m, d.purge(m, d.command(m.Live(), step)))
	}
	for _, n := range m.Live() {
		do(m, fmt.Sprint([]string{"abort ", "commit "}[d.below(2)], n))
	}
	return m
}

// TestAlone: a transaction that is the only active one is committed, whatever it does, and whatever was before (P6).
func TestAlone(t *testing.T) {
	for seed := range 600 {
		d := dice(seed + 9000)
		m := calm(&d)
		n, e := m.Begin(uint64(d.below(3) + 1))
		if e != api.OK {
			t.Fatalf("P6: Begin: error %d", e)
		}
		for step := range 30 {
			command := d.command([]int{n}, step)
			switch strings.Fields(command)[0] {
			case "begin", "snapshot", "commit", "abort":
				continue
			}
			if got := do(m, d.purge(m, command)); got == "error 7" {
				t.Fatalf("P6: %s of the only active transaction is a conflict", command)
			}
		}
		clock := m.Clock()
		if at, e := m.Commit(n); e != api.OK || at == 0 {
			t.Fatalf("P6: Commit of the only active transaction at clock %d: %d, error %d", clock, at, e)
		}
	}
}

// TestTwo: two transactions without a common key, whose spans have more than one time, are both committed (P6).
func TestTwo(t *testing.T) {
	for seed := range 600 {
		d := dice(seed + 20000)
		m := calm(&d)
		var n [2]int
		ended := [2]bool{}
		for i := range n {
			n[i], _ = m.Begin(uint64(d.below(3) + 2))
			if d.below(2) == 0 && i == 0 {
				m.Tick(uint64(d.below(3)))
			}
		}
		for step := range 30 {
			i := d.below(2)
			key := []string{"a", "c"}[i]
			if ended[i] {
				continue
			}
			what := []string{"get # a", "put # a x", "delete # a", "scan # a az 9", "commit #"}[d.below(4+step/20)]
			command := strings.NewReplacer("#", fmt.Sprint(n[i]), " a", " "+key).Replace(what)
			if got := do(m, command); strings.HasPrefix(got, "error") {
				t.Fatalf("P6: %s of one of two = %s", command, got)
			}
			ended[i] = what == "commit #"
		}
		for i := range n {
			if _, e := m.Commit(n[i]); !ended[i] && e != api.OK {
				t.Fatalf("P6: Commit of one of two: error %d", e)
			}
		}
	}
}

// TestSnapshotsCauseNothing: with snapshots and without them all others return the same, and no snapshot has a conflict (P6).
func TestSnapshotsCauseNothing(t *testing.T) {
	for seed := range 300 {
		d := dice(seed + 40000)
		with, without := fresh(), fresh()
		// The numbers of the others differ, as snapshots use up numbers.
		other := map[int]int{}
		var made []string
		for step := range 200 {
			command := d.command(with.Live(), step)
			w := strings.Fields(command)
			n := 0
			if len(w) > 1 {
				fmt.Sscan(w[1], &n)
			}
			made = append(made, command)
			x, _ := with.Get(n)
			switch {
			case w[0] == "purge":
			case w[0] == "snapshot":
				if len(with.Live()) < 8 {
					do(with, command)
				}
			case w[0] == "begin" && len(with.Live()) >= api.MaxLive:
			case w[0] == "begin":
				one, e := with.Begin(uint64(n))
				two, f := without.Begin(uint64(n))
				if e != f {
					t.Fatalf("P6: %s: error %d, without snapshots %d", strings.Join(made, "; "), e, f)
				}
				other[one] = two
			case w[0] == "tick":
				do(with, command)
				do(without, command)
			case x != nil && x.Kind == Snap:
				if got := do(with, command); got == "error 7" {
					t.Fatalf("P6: %s of a snapshot is a conflict", strings.Join(made, "; "))
				}
			case x != nil:
				got := do(with, command)
				w[1] = fmt.Sprint(other[n])
				if want := do(without, strings.Join(w, " ")); got != want {
					t.Fatalf("P6: %s = %s, without snapshots %s", strings.Join(made, "; "), got, want)
				}
			}
		}
		if with.Clock() != without.Clock() || rows(with.rows()) != rows(without.rows()) {
			t.Fatalf("P6: behind %s the keys differ", strings.Join(made, "; "))
		}
	}
}

// TestSameTwice: the same calls have the same results, in whatever order maps are scanned (R6).
func TestSameTwice(t *testing.T) {
	for seed := range 60 {
		var told []string
		for range 3 {
			d := dice(seed + 70000)
			m := New(store.New(), 0)
			var all []string
			for step := range 120 {
				command := d.purge(m, d.command(m.Live(), step))
				all = append(all, command+": "+do(m, command))
			}
			told = append(told, strings.Join(append(all, show(m)), "; "))
		}
		if told[0] != told[1] || told[0] != told[2] {
			t.Fatalf("R6: the same calls have other results:\n%s\n%s\n%s", told[0], told[1], told[2])
		}
	}
}
