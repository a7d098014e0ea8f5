package periods_test

import (
	"math/rand"
	"slices"
	"testing"

	"chattel/api"
	"chattel/periods"
)

// P13.1

func TestNewOfAllSizes(t *testing.T) {
	for size := -500; size <= 900; size++ {
		p, e := periods.New(size)
		if may := size >= 1 && size <= 400; may != (p != nil) || may != (e == api.OK) || !may && e != api.ErrRange {
			t.Errorf("New(%d): %v, %d", size, p, int(e))
		}
	}
	for _, size := range wrongSizes {
		if p, e := periods.New(size); p != nil || e != api.ErrRange {
			t.Errorf("New(%d): %v, %d", size, p, int(e))
		}
	}
	if periods.MostSize != 400 {
		t.Error(periods.MostSize)
	}
}

// TestAllSizes: of each size all days and periods, all of which are open.
func TestAllSizes(t *testing.T) {
	for size := 1; size <= 400; size++ {
		p := newPair(t, size)
		for day := -2; day <= 73050; day++ {
			p.checkOf(t, day)
		}
		p.check(t)
		if t.Failed() {
			t.Fatal("size", size)
		}
	}
}

// TestLastPeriods: the last one may be shorter, or not.
func TestLastPeriods(t *testing.T) {
	for _, x := range []struct{ size, last, from int }{
		{1, 73048, 73048},
		{2, 36524, 73048},
		{3, 24349, 73047},
		{11, 6640, 73040},
		{29, 2518, 73022},
		{30, 2434, 73020},
		{365, 200, 73000},
		{399, 183, 73017},
		{400, 182, 72800},
	} {
		p, _ := periods.New(x.size)
		if n := p.Last(); n != x.last {
			t.Errorf("size %d: Last(): %d; want %d", x.size, n, x.last)
		}
		if from, to, e := p.Span(x.last); from != x.from || to != 73048 || e != api.OK {
			t.Errorf("size %d: Span(%d): %d, %d, %d", x.size, x.last, from, to, int(e))
		}
		if from, to, e := p.Span(x.last + 1); from != 0 || to != 0 || e != api.ErrRange {
			t.Errorf("size %d: Span(%d): %d, %d, %d", x.size, x.last+1, from, to, int(e))
		}
	}
}

// TestLockingPartsNothing: days are in the same periods, whatever is locked.
func TestLockingPartsNothing(t *testing.T) {
	for _, size := range []int{30, 399, 400} {
		last := 73048 / size
		for _, n := range []int{1, last, last + 1} {
			p := lockedPair(t, size, n)
			for day := -2; day <= 73050; day++ {
				p.checkOf(t, day)
			}
			p.check(t)
		}
	}
}

func TestNilHasNoDays(t *testing.T) {
	var p *periods.Periods
	for _, n := range slices.Concat([]int{0, 1, 5, 73048}, wrongDays, farPeriods) {
		if period, e := p.Of(n); period != 0 || e != api.ErrNil {
			t.Errorf("Of(%d): %d, %d", n, period, int(e))
		}
		if from, to, e := p.Span(n); from != 0 || to != 0 || e != api.ErrNil {
			t.Errorf("Span(%d): %d, %d, %d", n, from, to, int(e))
		}
	}
	if n := p.Last(); n != 0 {
		t.Error(n)
	}
}

// P13.2

func TestTheExample(t *testing.T) {
	p, _ := periods.New(30)
	if n, e := p.Of(59); n != 1 || e != api.OK {
		t.Error(n, int(e))
	}
	if e := p.Lock(1, 100); e != api.ErrState {
		t.Error(int(e))
	}
	if e := p.Lock(0, 30); e != api.OK {
		t.Error(int(e))
	}
	if e := p.Lock(0, 40); e != api.ErrLocked {
		t.Error(int(e))
	}
	if n, e := p.Book(5); n != 1 || e != api.OK {
		t.Error(n, int(e))
	}
}

// TestLockOfAll locks all periods of some sizes, each as soon as it may be, and holds what is told on the way.
func TestLockOfAll(t *testing.T) {
	for _, size := range []int{100, 365, 399, 400} {
		p := newPair(t, size)
		for period, to := range p.m.to {
			if e := p.lock(t, period, to); e != api.ErrDay {
				t.Errorf("size %d: Lock(%d, %d): %d", size, period, to, int(e))
			}
			if e := p.lock(t, period, to+1); e != api.OK {
				t.Errorf("size %d: Lock(%d, %d): %d", size, period, to+1, int(e))
			}
			p.check(t)
		}
		if n, e := p.p.Earliest(); n != 0 || e != api.ErrFull {
			t.Error(size, n, int(e))
		}
		if t.Failed() {
			return
		}
	}
}

// TestLockOfAllSizes locks all periods of all sizes, each as soon as it may be.
func TestLockOfAllSizes(t *testing.T) {
	for size := 1; size <= 400; size++ {
		p, _ := periods.New(size)
		last := p.Last()
		for period := range last + 1 {
			to := min(size*period+size-1, 73048)
			if e := p.Lock(period, to); e != api.ErrDay {
				t.Fatalf("size %d: Lock(%d, %d): %d", size, period, to, int(e))
			}
			if n, e := p.Earliest(); n != period || e != api.OK || p.Locked(period) {
				t.Fatalf("size %d, ahead of %d: Earliest(): %d, %d", size, period, n, int(e))
			}
			if e := p.Lock(period, to+1); e != api.OK || !p.Locked(period) || p.Locked(period+1) {
				t.Fatalf("size %d: Lock(%d, %d): %d", size, period, to+1, int(e))
			}
		}
		if n, e := p.Earliest(); n != 0 || e != api.ErrFull {
			t.Fatalf("size %d: Earliest(): %d, %d", size, n, int(e))
		}
		if e := p.Lock(last+1, most); e != api.ErrRange {
			t.Fatalf("size %d: Lock(%d): %d", size, last+1, int(e))
		}
	}
}

// TestLockErrorsInOrder tries all periods, at the clocks about their edges, whatever is locked by then.
func TestLockErrorsInOrder(t *testing.T) {
	p := newPair(t, 400)
	for n := range len(p.m.locked) + 1 {
		for period := -2; period < len(p.m.locked)+2; period++ {
			for _, clock := range p.m.clocks(period) {
				c := p.p.Copy()
				m := &model{from: p.m.from, to: p.m.to, locked: slices.Clone(p.m.locked)}
				want := m.lock(period, clock)
				if e := c.Lock(period, clock); e != want {
					t.Errorf("%d locked: Lock(%d, %d): %d; want %d", n, period, clock, int(e), int(want))
				}
				if is := c.Locked(n); is != m.isLocked(n) {
					t.Errorf("%d locked, then Lock(%d, %d): Locked(%d): %v", n, period, clock, n, is)
				}
			}
		}
		for _, period := range farPeriods {
			for _, clock := range p.m.clocks(period) {
				p.lock(t, period, clock)
			}
		}
		p.lock(t, n, most)
	}
}

// TestLockWithAnErrorLocksNothing holds all that is told behind each error.
func TestLockWithAnErrorLocksNothing(t *testing.T) {
	for _, n := range []int{0, 1, 2, 50, 182, 183} {
		p := lockedPair(t, 400, n)
		for _, x := range [][2]int{{-1, most}, {183, most}, {least, 0}, {most, most}, {n - 1, most}, {0, 0}, {n + 1, most}, {182, 73048}, {n, least}, {n, min(400*n+399, 73048)}, {n, 0}} {
			if e := p.lock(t, x[0], x[1]); e == api.OK {
				t.Errorf("%d locked: Lock(%d, %d): no error", n, x[0], x[1])
			}
			p.check(t)
		}
	}
}

// TestClocksAreNoDays: a clock is any number.
func TestClocksAreNoDays(t *testing.T) {
	for _, clock := range []int{73049, 73050, 1 << 32, 1 << 62, most} {
		p := newPair(t, 400)
		for period := range p.m.to {
			if e := p.lock(t, period, clock); e != api.OK {
				t.Errorf("Lock(%d, %d): %d", period, clock, int(e))
			}
		}
		p.check(t)
	}
	p := newPair(t, 1)
	for _, clock := range []int{0, -1, -1 << 32, least} {
		if e := p.lock(t, 0, clock); e != api.ErrDay {
			t.Errorf("Lock(0, %d): %d", clock, int(e))
		}
	}
	if e := p.lock(t, 0, 1); e != api.OK {
		t.Error(int(e))
	}
}

func TestNilIsNotLocked(t *testing.T) {
	var p *periods.Periods
	for _, period := range slices.Concat([]int{0, 1, 2}, farPeriods) {
		for _, clock := range []int{least, -1, 0, 30, 73049, most} {
			if e := p.Lock(period, clock); e != api.ErrNil {
				t.Errorf("Lock(%d, %d): %d", period, clock, int(e))
			}
		}
		if p.Locked(period) {
			t.Errorf("Locked(%d)", period)
		}
	}
	if n, e := p.Earliest(); n != 0 || e != api.ErrNil {
		t.Error(n, int(e))
	}
}

// P13.3

// TestBookOfAllDays: of each day, whatever is locked.
func TestBookOfAllDays(t *testing.T) {
	for _, size := range []int{365, 400} {
		p := newPair(t, size)
		for n := range len(p.m.locked) + 1 {
			if n == 0 || n > 180 || n%30 == 0 {
				for day := -2; day <= 73050; day++ {
					p.checkBook(t, day)
				}
			}
			p.lock(t, n, most)
		}
	}
}

// TestBookWhenAllAreLocked: a day that may not be counts ahead of that.
func TestBookWhenAllAreLocked(t *testing.T) {
	p := lockedPair(t, 400, 183)
	for _, day := range []int{0, 1, 399, 400, 72800, 73048} {
		if n, e := p.p.Book(day); n != 0 || e != api.ErrFull {
			t.Errorf("Book(%d): %d, %d", day, n, int(e))
		}
	}
	for _, day := range wrongDays {
		if n, e := p.p.Book(day); n != 0 || e != api.ErrDay {
			t.Errorf("Book(%d): %d, %d", day, n, int(e))
		}
	}
}

// TestBookChangesNothing: nor does anything else that is asked.
func TestBookChangesNothing(t *testing.T) {
	p := lockedPair(t, 400, 5)
	for range 3 {
		p.check(t)
	}
}

func TestAllIsAsItWasAsked(t *testing.T) {
	p := lockedPair(t, 400, 2)
	all, want := p.p.All(), slices.Clone(p.m.locked)
	none := newPair(t, 400)
	open, wantOpen := none.p.All(), slices.Clone(none.m.locked)
	for period := 0; period < 183; period++ {
		p.lock(t, period, most)
		none.lock(t, period, most)
	}
	checkAll(t, all, want)
	checkAll(t, open, wantOpen)
	p.check(t)
}

// TestAllOverAgain: it may be left early, gone through again, and periods be locked on the way.
func TestAllOverAgain(t *testing.T) {
	p := lockedPair(t, 400, 20)
	all, want := p.p.All(), slices.Clone(p.m.locked)
	for _, n := range []int{0, 1, 19, 20, 21, 182, 183} {
		var l []bool
		for period, is := range all {
			if len(l) == n {
				break
			}
			if period != len(l) {
				t.Error(period, len(l))
			}
			l = append(l, is)
		}
		if !slices.Equal(l, want[:n]) {
			t.Errorf("the first %d: %v", n, l)
		}
	}
	var l []bool
	for period, is := range all {
		l = append(l, is)
		p.lock(t, period, most)
	}
	if !slices.Equal(l, want) {
		t.Errorf("%v; want %v", l, want)
	}
	checkAll(t, all, want)
	p.check(t)
}

func TestCopiesAreApart(t *testing.T) {
	for _, n := range []int{0, 1, 7, 181} {
		p := lockedPair(t, 400, n)
		c := p.copy()
		c.check(t)
		c.lock(t, n, most)
		p.check(t)
		c.check(t)
		p.lock(t, n, most)
		p.lock(t, n+1, most)
		p.check(t)
		c.check(t)
	}
}

// TestCopiesOfAllSizes: a copy parts days as the periods do.
func TestCopiesOfAllSizes(t *testing.T) {
	for size := 1; size <= 400; size++ {
		p := lockedPair(t, size, size%3)
		c := p.copy()
		if c.p == p.p {
			t.Fatal("it is not one of its own")
		}
		if size%20 < 2 {
			c.check(t)
		}
		if from, to, e := c.p.Span(1); from != size || to != 2*size-1 || e != api.OK {
			t.Errorf("size %d: Span(1): %d, %d, %d", size, from, to, int(e))
		}
	}
}

func TestNilTellsNothing(t *testing.T) {
	var p *periods.Periods
	for _, day := range slices.Concat([]int{0, 5, 73048}, wrongDays) {
		if n, e := p.Book(day); n != 0 || e != api.ErrNil {
			t.Errorf("Book(%d): %d, %d", day, n, int(e))
		}
	}
	all := p.All()
	if all == nil {
		t.Fatal("All is nil")
	}
	checkAll(t, all, nil)
	if c := p.Copy(); c != nil {
		t.Error(c)
	}
}

// P13.4

// TestEachDayIsInOnePeriod goes through all periods' spans, which stand one behind the other, and cover all days.
func TestEachDayIsInOnePeriod(t *testing.T) {
	for size := 1; size <= 400; size++ {
		p, _ := periods.New(size)
		day := 0
		for period := range p.All() {
			from, to, e := p.Span(period)
			if e != api.OK || from != day || to < from || to-from >= size {
				t.Fatalf("size %d: Span(%d): %d, %d, %d, behind the day %d", size, period, from, to, int(e), day-1)
			}
			for ; day <= to; day++ {
				if n, e := p.Of(day); n != period || e != api.OK {
					t.Fatalf("size %d: Of(%d): %d, %d", size, day, n, int(e))
				}
			}
		}
		if day != 73049 {
			t.Errorf("size %d: up to the day %d", size, day-1)
		}
	}
}

// TestDrawn tries to lock drawn periods, in some and their copies, and holds all of them after each.
func TestDrawn(t *testing.T) {
	r := rand.New(rand.NewSource(13))
	for range 100 {
		size := one(r, 400, 399, 365, 300+r.Intn(100))
		last := 73048 / size
		all := []pair{lockedPair(t, size, one(r, 0, 0, 1, r.Intn(last), last-8, last-1))}
		for range 60 {
			i := r.Intn(len(all))
			if len(all) < 4 && r.Intn(20) == 0 {
				all = append(all, all[i].copy())
			}
			all[i].change(t, r)
			for _, p := range all {
				p.check(t)
			}
		}
		if t.Failed() {
			return
		}
	}
}

// TestLockedStaysLocked: whatever is tried, a locked one is never open again, and all ahead of it are locked, and nothing is booked in it.
func TestLockedStaysLocked(t *testing.T) {
	r := rand.New(rand.NewSource(14))
	for range 20 {
		p := newPair(t, 400)
		was := make([]bool, 183)
		for range 600 {
			p.change(t, r)
			open := false
			for period, is := range p.p.All() {
				if was[period] && !is {
					t.Fatalf("%d is open again", period)
				}
				if open && is {
					t.Fatalf("%d is locked, one ahead of it is not", period)
				}
				open, was[period] = open || !is, is
			}
			day := r.Intn(73049)
			if n, e := p.p.Book(day); e == api.OK && (was[n] || n < day/400) {
				t.Fatalf("Book(%d): %d", day, n)
			}
		}
	}
}
