// Package span is layer 1: intervals of times: see shared/doc/01-span.md.
package span

// Span contains the times from Lo to Hi, both included; none if Lo is above Hi.
type Span struct {
	Lo uint64
	Hi uint64
}

// none is the one form in which results without times are given, so that results with the same times are equal.
func none() Span { return Span{Lo: 1, Hi: 0} }

// Empty reports whether s has no times.
func (s Span) Empty() bool { return s.Lo > s.Hi }

// Has reports whether s contains t.
func (s Span) Has(t uint64) bool { return s.Lo <= t && t <= s.Hi }

// Meet returns the times that both s and o contain.
func (s Span) Meet(o Span) Span {
	both := Span{Lo: max(s.Lo, o.Lo), Hi: min(s.Hi, o.Hi)}
	if both.Empty() {
		return none()
	}
	return both
}

// Above returns the times of s above t.
func (s Span) Above(t uint64) Span {
	// Without this, t + 1 would wrap round at the greatest time.
	if t >= s.Hi {
		return none()
	}
	return s.Meet(Span{Lo: t + 1, Hi: s.Hi})
}

// Below returns the times of s below t.
func (s Span) Below(t uint64) Span {
	// Without this, t - 1 would wrap round at time 0.
	if t <= s.Lo {
		return none()
	}
	return s.Meet(Span{Lo: s.Lo, Hi: t - 1})
}

// Less returns the times of s that are not in o: those below o, and those above o.
func (s Span) Less(o Span) (low, high Span) {
	// There is no below and above of an o without times, whatever its Lo and Hi; Meet gives an s without times its form.
	if o.Empty() {
		return s.Meet(s), none()
	}
	return s.Below(o.Lo), s.Above(o.Hi)
}
