package periods_test

import (
	"math/rand"
	"slices"
	"testing"

	"chattel/api"
	"chattel/periods"
)

// The tests' own telling of what the document asks for: days are counted one by one, and of each period it is written down whether it is locked.

const (
	most  = 1<<63 - 1
	least = -1 << 63
)

// wrongSizes, wrongDays and farPeriods may not be; some are right ones when they are cut to fewer bits.
var (
	wrongSizes = []int{0, -1, -30, -400, 401, 402, 500, 73049, 1 << 32, 1<<32 + 30, -1 << 32, 1<<8 + 400, most, least}
	wrongDays  = []int{-1, -2, -400, 73049, 73050, -73048, 1 << 17, 1 << 32, 1<<32 + 5, -1 << 32, most, least}
	farPeriods = []int{-1, -2, -400, 73049, 1 << 32, 1<<32 + 1, -1 << 32, 1 << 62, most / 2, most, least, least + 1}
)

// model is what periods have to be.
type model struct {
	// of is each day's period.
	of []int
	// from and to are each period's first and last day.
	from []int
	to   []int
	// locked tells of each period whether it is.
	locked []bool
}

// newModel counts days, as many to a period as size tells.
func newModel(size int) *model {
	m := &model{}
	for day := 0; day <= 73048; day++ {
		if len(m.to) == 0 || day == m.from[len(m.from)-1]+size {
			m.from, m.to, m.locked = append(m.from, day), append(m.to, day), append(m.locked, false)
		}
		m.of = append(m.of, len(m.to)-1)
		m.to[len(m.to)-1] = day
	}
	return m
}

// is tells whether there is such a period.
func (m *model) is(period int) bool { return period >= 0 && period < len(m.locked) }

// period is what Of has to answer.
func (m *model) period(day int) (int, api.Errno) {
	if day < 0 || day > 73048 {
		return 0, api.ErrDay
	}
	return m.of[day], api.OK
}

// span is what Span has to answer.
func (m *model) span(period int) (int, int, api.Errno) {
	if !m.is(period) {
		return 0, 0, api.ErrRange
	}
	return m.from[period], m.to[period], api.OK
}

// lock is what Lock has to answer.
func (m *model) lock(period, clock int) api.Errno {
	switch {
	case !m.is(period):
		return api.ErrRange
	case m.locked[period]:
		return api.ErrLocked
	case slices.Contains(m.locked[:period], false):
		return api.ErrState
	case m.to[period] >= clock:
		return api.ErrDay
	}
	m.locked[period] = true
	return api.OK
}

// isLocked is what Locked has to answer.
func (m *model) isLocked(period int) bool { return m.is(period) && m.locked[period] }

// earliest is what Earliest has to answer.
func (m *model) earliest() (int, api.Errno) {
	at := slices.Index(m.locked, false)
	if at < 0 {
		return 0, api.ErrFull
	}
	return at, api.OK
}

// book is what Book has to answer: from the day's period on the first one that is open, since, if that is locked, all ahead of it are.
func (m *model) book(day int) (int, api.Errno) {
	if day < 0 || day > 73048 {
		return 0, api.ErrDay
	}
	for period := m.of[day]; m.is(period); period++ {
		if !m.locked[period] {
			return period, api.OK
		}
	}
	return 0, api.ErrFull
}

// pair is periods, and what they have to be.
type pair struct {
	p *periods.Periods
	m *model
}

// newPair is periods of a size that may be.
func newPair(t *testing.T, size int) pair {
	t.Helper()
	p, e := periods.New(size)
	if p == nil || e != api.OK {
		t.Fatalf("New(%d): %v, %d", size, p, int(e))
	}
	return pair{p, newModel(size)}
}

// lockedPair is one of which the first periods are locked.
func lockedPair(t *testing.T, size, n int) pair {
	t.Helper()
	p := newPair(t, size)
	for period := range n {
		if e := p.lock(t, period, most); e != api.OK {
			t.Fatalf("size %d: Lock(%d): %d", size, period, int(e))
		}
	}
	return p
}

// copy is one of its own, the same.
func (p pair) copy() pair {
	// What days are in which period never changes, so it needs no copy.
	m := *p.m
	m.locked = slices.Clone(m.locked)
	return pair{p.p.Copy(), &m}
}

// checkOf holds Of. (It is asked so often that Helper would take most of the time, here and below.)
func (p pair) checkOf(t *testing.T, day int) {
	n, e := p.p.Of(day)
	if want, wantE := p.m.period(day); n != want || e != wantE {
		t.Errorf("Of(%d): %d, %d; want %d, %d", day, n, int(e), want, int(wantE))
	}
}

// checkPeriod holds Span and Locked.
func (p pair) checkPeriod(t *testing.T, period int) {
	from, to, e := p.p.Span(period)
	if wantFrom, wantTo, wantE := p.m.span(period); from != wantFrom || to != wantTo || e != wantE {
		t.Errorf("Span(%d): %d, %d, %d; want %d, %d, %d", period, from, to, int(e), wantFrom, wantTo, int(wantE))
	}
	if is := p.p.Locked(period); is != p.m.isLocked(period) {
		t.Errorf("Locked(%d): %v", period, is)
	}
}

// checkBook holds Book.
func (p pair) checkBook(t *testing.T, day int) {
	n, e := p.p.Book(day)
	if want, wantE := p.m.book(day); n != want || e != wantE {
		t.Errorf("Book(%d): %d, %d; want %d, %d", day, n, int(e), want, int(wantE))
	}
}

// checkEarliest holds Earliest.
func (p pair) checkEarliest(t *testing.T) {
	n, e := p.p.Earliest()
	if want, wantE := p.m.earliest(); n != want || e != wantE {
		t.Errorf("Earliest(): %d, %d; want %d, %d", n, int(e), want, int(wantE))
	}
}

// checkAll holds what All tells, gone through now.
func checkAll(t *testing.T, all func(func(int, bool) bool), want []bool) {
	t.Helper()
	n := 0
	for period, is := range all {
		if period != n || n >= len(want) || is != want[n] {
			t.Fatalf("All(): %d, %v as the one at %d of %d", period, is, n, len(want))
		}
		n++
	}
	if n != len(want) {
		t.Errorf("All(): %d of %d", n, len(want))
	}
}

// check holds all that is told without a change, of the days about the periods' edges.
func (p pair) check(t *testing.T) {
	t.Helper()
	if n := p.p.Last(); n != len(p.m.locked)-1 {
		t.Errorf("Last(): %d; want %d", n, len(p.m.locked)-1)
	}
	p.checkEarliest(t)
	checkAll(t, p.p.All(), p.m.locked)
	for period := -2; period < len(p.m.locked)+2; period++ {
		p.checkPeriod(t, period)
	}
	for _, period := range farPeriods {
		p.checkPeriod(t, period)
	}
	for _, edges := range [][]int{p.m.from, p.m.to, wrongDays} {
		for _, day := range edges {
			p.checkOf(t, day)
			p.checkBook(t, day)
		}
	}
}

// lock holds Lock; its error.
func (p pair) lock(t *testing.T, period, clock int) api.Errno {
	t.Helper()
	e := p.p.Lock(period, clock)
	want := p.m.lock(period, clock)
	if e != want {
		t.Errorf("Lock(%d, %d): %d; want %d", period, clock, int(e), int(want))
	}
	return want
}

// clocks are those about the edges of a period, and the greatest and least ones.
func (m *model) clocks(period int) []int {
	l := []int{least, -1, 0, 1, 73048, 73049, 73050, most}
	if m.is(period) {
		l = append(l, m.from[period], m.to[period]-1, m.to[period], m.to[period]+1)
	}
	return l
}

// one draws one of some.
func one[T any](r *rand.Rand, l ...T) T { return l[r.Intn(len(l))] }

// change tries to lock a drawn period, that may be locked most of the time.
func (p pair) change(t *testing.T, r *rand.Rand) {
	t.Helper()
	next, _ := p.m.earliest()
	period := next + one(r, 0, 0, 0, 0, 0, -1, 1, 2, -next, len(p.m.locked)-next, one(r, farPeriods...)-next)
	p.lock(t, period, one(r, p.m.clocks(period)...))
}
