package power

import (
	"errors"
	"math"
	"runtime"
	"slices"
	"testing"
)

// ticks does n steps.
func ticks(p *Power, n int) {
	for range n {
		p.Tick()
	}
}

// caught returns what do panicked with, or nil if it returned.
func caught(do func()) (v any) {
	defer func() { v = recover() }()
	do()
	return nil
}

// checkUsed holds how many steps p says that it did against how many it is to have done.
func checkUsed(t *testing.T, when string, p *Power, want int) {
	t.Helper()
	if got := p.Used(); got != want {
		t.Errorf("P3.1: %s: Used() = %d, want %d", when, got, want)
	}
}

// TestExample is the chapter's example.
func TestExample(t *testing.T) {
	p := New(1)
	whole := Run(func() {
		p.Tick()
		p.Tick()
	})
	if whole {
		t.Error("P3.1: Run = true, want false")
	}
	checkUsed(t, "after the Run", p, 1)
}

// TestLimits: as many steps as a power allows are done; at the next one it goes, and that one is not counted.
func TestLimits(t *testing.T) {
	for _, c := range []struct {
		limit, ticks int
		whole        bool
		used         int
	}{
		{0, 0, true, 0},
		{0, 1, false, 0},
		{0, 5, false, 0},
		{1, 0, true, 0},
		{1, 1, true, 1},
		{1, 2, false, 1},
		{1, 5, false, 1},
		{3, 2, true, 2},
		{3, 3, true, 3},
		{3, 4, false, 3},
		{1000, 1000, true, 1000},
		{1000, 1001, false, 1000},
		{math.MaxInt, 1000, true, 1000},
		{-1, 0, true, 0},
		{-1, 1, true, 1},
		{-1, 1000, true, 1000},
		{-7, 8, true, 8},
		{math.MinInt, 1000, true, 1000},
	} {
		p := New(c.limit)
		checkUsed(t, "new", p, 0)
		if whole := Run(func() { ticks(p, c.ticks) }); whole != c.whole {
			t.Errorf("P3.1: New(%d), %d steps: Run = %v, want %v", c.limit, c.ticks, whole, c.whole)
		}
		checkUsed(t, "after the Run", p, c.used)
	}
}

// TestUsed asks before each Tick, within the Run, when the power has gone, and again.
func TestUsed(t *testing.T) {
	const limit = 4
	p := New(limit)
	var seen []int
	whole := Run(func() {
		for range limit + 1 {
			seen = append(seen, p.Used())
			p.Tick()
		}
		t.Error("P3.1: the Tick at which the power goes returned")
	})
	if whole {
		t.Error("P3.1: Run = true, want false")
	}
	if want := []int{0, 1, 2, 3, 4}; !slices.Equal(seen, want) {
		t.Errorf("P3.1: Used() = %v, want %v", seen, want)
	}
	checkUsed(t, "when the power has gone", p, limit)
	checkUsed(t, "asked again", p, limit)
}

// TestUsedAcrossRuns: steps count on from Run to Run and outside of any, and so does the limit.
func TestUsedAcrossRuns(t *testing.T) {
	p := New(3)
	p.Tick()
	checkUsed(t, "outside of any Run", p, 1)
	for range 2 {
		if !Run(p.Tick) {
			t.Error("P3.1: Run = false within the limit")
		}
	}
	checkUsed(t, "at the limit", p, 3)
	if Run(p.Tick) {
		t.Error("P3.1: Run = true behind the limit")
	}
	checkUsed(t, "behind the limit", p, 3)
}

// TestRun: do is called once, before Run returns, and a Run without a step is whole, whatever happened before.
func TestRun(t *testing.T) {
	calls := 0
	if !Run(func() { calls++ }) || calls != 1 {
		t.Errorf("P3.1: do was called %d times", calls)
	}
	p := New(0)
	if Run(p.Tick) {
		t.Error("P3.1: Run = true, want false")
	}
	if !Run(func() { calls++ }) || calls != 2 {
		t.Errorf("P3.1: R6: a Run without a step, behind one that was not whole; %d calls", calls)
	}
}

// TestEnds: what stands behind the Tick at which the power goes is not done, however deep in calls it is; what was deferred is.
func TestEnds(t *testing.T) {
	p := New(1)
	var done []string
	step := func(name string) {
		p.Tick()
		done = append(done, name)
	}
	whole := Run(func() {
		defer func() { done = append(done, "deferred") }()
		func() {
			step("first")
			step("second")
			done = append(done, "behind")
		}()
		done = append(done, "further behind")
	})
	if whole {
		t.Error("P3.1: Run = true, want false")
	}
	if want := []string{"first", "deferred"}; !slices.Equal(done, want) {
		t.Errorf("P3.1: done: %v, want %v", done, want)
	}
}

// TestBehind: once the power has gone, it goes at every further step, in a later Run and in the same one.
func TestBehind(t *testing.T) {
	p := New(2)
	if Run(func() { ticks(p, 3) }) {
		t.Error("P3.1: Run = true, want false")
	}
	for range 3 {
		if Run(p.Tick) {
			t.Error("P3.1: a step of a later Run: true, want false")
		}
		checkUsed(t, "in a later Run", p, 2)
	}
	passed := 0
	whole := Run(func() {
		for range 3 {
			if Run(p.Tick) {
				t.Error("P3.1: a further step of the same Run: true, want false")
			}
			passed++
		}
		p.Tick()
		passed++
	})
	if whole || passed != 3 {
		t.Errorf("P3.1: Run = %v, and %d were passed, want false and 3", whole, passed)
	}
	checkUsed(t, "in the same Run", p, 2)
}

// TestDeferredTick: steps that are deferred, so that they come while the power goes already, end in the same Run.
func TestDeferredTick(t *testing.T) {
	p := New(0)
	outer := Run(func() {
		whole := Run(func() {
			defer p.Tick()
			defer p.Tick()
			p.Tick()
		})
		if whole {
			t.Error("P3.1: Run = true, want false")
		}
	})
	if !outer {
		t.Error("P3.1: what the inner Run ended has ended the outer one too")
	}
	checkUsed(t, "after the Run", p, 0)
}

// TestWithin: the innermost Run that surrounds the Tick ends, and what stands behind that Run goes on.
func TestWithin(t *testing.T) {
	p := New(2)
	var wholes []bool
	var done []string
	outer := Run(func() {
		middle := Run(func() {
			p.Tick()
			wholes = append(wholes, Run(func() {}), Run(p.Tick), Run(func() {
				p.Tick()
				done = append(done, "behind the Tick")
			}))
			done = append(done, "behind the innermost")
		})
		wholes = append(wholes, middle)
		done = append(done, "behind the middle")
	})
	wholes = append(wholes, outer)
	if want := []bool{true, true, false, true, true}; !slices.Equal(wholes, want) {
		t.Errorf("P3.1: Run = %v, want %v", wholes, want)
	}
	if want := []string{"behind the innermost", "behind the middle"}; !slices.Equal(done, want) {
		t.Errorf("P3.1: done: %v, want %v", done, want)
	}
	checkUsed(t, "after the Runs", p, 2)
}

// TestNotWithin: a Run that has ended does not surround what follows it, so that the outer one ends.
func TestNotWithin(t *testing.T) {
	p := New(1)
	var inner bool
	outer := Run(func() {
		inner = Run(p.Tick)
		p.Tick()
		t.Error("P3.1: the Tick at which the power goes returned")
	})
	if !inner || outer {
		t.Errorf("P3.1: Run = %v, within %v, want true, within false", inner, outer)
	}
}

// TestRunWhileGoing: a Run in a deferred call, while the power goes, is one of its own and does not stop the outer one's end.
func TestRunWhileGoing(t *testing.T) {
	p := New(0)
	var empty, ticking, behind bool
	outer := Run(func() {
		func() {
			defer func() {
				empty = Run(func() {})
				ticking = Run(p.Tick)
			}()
			p.Tick()
		}()
		behind = true
	})
	if outer || behind {
		t.Errorf("P3.1: Run = %v, want false; behind the Tick: %v, want false", outer, behind)
	}
	if !empty || ticking {
		t.Errorf("P3.1: the deferred Runs: %v and %v, want true and false", empty, ticking)
	}
}

// TestTwoPowers: each has a limit and steps of its own.
func TestTwoPowers(t *testing.T) {
	a, b, c := New(1), New(3), New(1)
	whole := Run(func() {
		b.Tick()
		a.Tick()
		b.Tick()
	})
	if !whole {
		t.Error("P3.1: Run = false within both limits")
	}
	if Run(a.Tick) {
		t.Error("P3.1: Run = true behind the limit of the first power")
	}
	checkUsed(t, "the first power, gone", a, 1)
	checkUsed(t, "the second power", b, 2)
	if !Run(b.Tick) || !Run(c.Tick) {
		t.Error("P3.1: one power went, and the others with it")
	}
	checkUsed(t, "the second power, at its limit", b, 3)
	checkUsed(t, "a power with the limit of the first", c, 1)
}

// TestTwoPowersWithin: Runs do not belong to powers: the innermost one ends, whichever power went.
func TestTwoPowersWithin(t *testing.T) {
	a, b := New(0), New(1)
	var inner bool
	outer := Run(func() {
		b.Tick()
		inner = Run(func() {
			a.Tick()
			b.Tick()
		})
		if Run(b.Tick) {
			t.Error("P3.1: Run = true behind the limit of the second power")
		}
	})
	if inner || !outer {
		t.Errorf("P3.1: Run = %v, within %v, want false, within true", inner, outer)
	}
	checkUsed(t, "the first power", a, 0)
	checkUsed(t, "the second power", b, 1)
}

// otherPanics are panics that have nothing to do with a power, with what they are to be recovered as (nil: a runtime error).
func otherPanics() map[string]struct {
	do   func()
	want any
} {
	err := errors.New("an error")
	number := 5
	type empty struct{}
	var none map[string]int
	zero := 0
	return map[string]struct {
		do   func()
		want any
	}{
		"a string":          {func() { panic("loss") }, "loss"},
		"an empty string":   {func() { panic("") }, ""},
		"a number":          {func() { panic(0) }, 0},
		"false":             {func() { panic(false) }, false},
		"an error":          {func() { panic(err) }, err},
		"a pointer":         {func() { panic(&number) }, &number},
		"an empty struct":   {func() { panic(struct{}{}) }, struct{}{}},
		"another type":      {func() { panic(empty{}) }, empty{}},
		"a pointer to loss": {func() { panic((*loss)(nil)) }, (*loss)(nil)},
		"nil":               {func() { panic(nil) }, nil},
		"a nil map":         {func() { none["a"] = 1 }, nil},
		"a division by 0":   {func() { zero = 1 / zero }, nil},
	}
}

// TestOtherPanics: Run passes them on as they are, and so does a Run around it, and the powers work on.
func TestOtherPanics(t *testing.T) {
	for what, c := range otherPanics() {
		for _, depth := range []int{1, 3} {
			p := New(2)
			do := func() {
				p.Tick()
				c.do()
			}
			for range depth {
				inner := do
				do = func() {
					Run(inner)
					t.Errorf("P3.1: %s: Run returned", what)
				}
			}
			v := caught(do)
			_, fault := v.(runtime.Error)
			if c.want == nil && !fault || c.want != nil && v != c.want {
				t.Errorf("P3.1: %s within %d Runs: %v is passed on, want %v", what, depth, v, c.want)
			}
			checkUsed(t, what, p, 1)
			if !Run(p.Tick) || Run(p.Tick) {
				t.Errorf("P3.1: %s: the power does not go at its limit afterwards", what)
			}
		}
	}
}

// TestOtherPanicBehind: a power that went, within an inner Run or before, does not make another panic one of its own.
func TestOtherPanicBehind(t *testing.T) {
	p := New(0)
	behind := func() {
		Run(func() {
			if Run(p.Tick) {
				t.Error("P3.1: Run = true, want false")
			}
			panic("another")
		})
	}
	for range 2 {
		if v := caught(behind); v != "another" {
			t.Errorf("P3.1: %v is passed on, want another", v)
		}
	}
	checkUsed(t, "after both", p, 0)
}

// TestOtherPanicCaught: what do itself recovers from is nothing to Run.
func TestOtherPanicCaught(t *testing.T) {
	p := New(1)
	whole := Run(func() {
		if v := caught(func() { panic("another") }); v != "another" {
			t.Errorf("recovered %v", v)
		}
		p.Tick()
	})
	if !whole {
		t.Error("P3.1: Run = false, want true")
	}
	checkUsed(t, "after the Run", p, 1)
}

// TestOutside: outside of any Run a step is done as within one, and Tick panics when the power goes.
func TestOutside(t *testing.T) {
	unlimited := New(-1)
	ticks(unlimited, 100)
	checkUsed(t, "without a limit", unlimited, 100)
	for _, limit := range []int{0, 1, 5} {
		p := New(limit)
		if v := caught(func() { ticks(p, limit) }); v != nil {
			t.Errorf("P3.1: New(%d): Tick panics within the limit: %v", limit, v)
		}
		for range 2 {
			if caught(p.Tick) == nil {
				t.Errorf("P3.1: New(%d): Tick does not panic behind the limit", limit)
			}
			checkUsed(t, "when the power has gone", p, limit)
		}
		if Run(p.Tick) || !Run(func() {}) {
			t.Errorf("P3.1: New(%d): a Run afterwards", limit)
		}
	}
}

// TestEveryLimit: the same work under every limit that it can reach is done up to that limit, the first time and again (R6).
func TestEveryLimit(t *testing.T) {
	const all = 12
	work := func(p *Power) (done int, whole bool) {
		whole = Run(func() {
			for range all / 3 {
				p.Tick()
				done++
				ticks(p, 1)
				done++
				func() {
					defer func() { done++ }()
					p.Tick()
				}()
			}
		})
		return done, whole
	}
	for limit := -1; limit <= all+1; limit++ {
		steps := limit
		if limit < 0 || limit > all {
			steps = all
		}
		// At every third step the deferred call counts, though the power goes.
		want := steps
		if steps < all && steps%3 == 2 {
			want++
		}
		for range 2 {
			p := New(limit)
			done, whole := work(p)
			if done != want || whole != (steps == all) {
				t.Errorf("P3.1: limit %d: %d done, whole %v; want %d, %v", limit, done, whole, want, steps == all)
			}
			checkUsed(t, "after the work", p, steps)
		}
	}
}

// TestGoexit: P1: a do that ends its goroutine, as a failing test does, is neither a panic nor a power that went.
func TestGoexit(t *testing.T) {
	ended := make(chan any)
	returned := false
	go func() {
		defer func() { ended <- recover() }()
		Run(runtime.Goexit)
		returned = true
	}()
	if v := <-ended; v != nil || returned {
		t.Errorf("P1: panic %v, returned %v", v, returned)
	}
}
