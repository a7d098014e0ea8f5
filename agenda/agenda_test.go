package agenda_test

import (
	"math/rand"
	"slices"
	"testing"

	"chattel/agenda"
	"chattel/api"
)

// P11.1

func TestNewIsWithoutItems(t *testing.T) {
	p := newPair()
	if p.a == nil {
		t.Fatal("nil")
	}
	p.check(t)
	for _, by := range []int{0, 5, 73048, most, least} {
		p.take(t, by)
	}
	for _, no := range []int{0, 1, -1, most, least} {
		p.drop(t, no)
		p.move(t, no, 5)
	}
	p.check(t)
	p.put(t, 5, 1)
	newPair().check(t)
}

func TestPutOfAllDays(t *testing.T) {
	a, put := agenda.New(), 0
	for day := -10; day <= 73060; day++ {
		wantNo, want := put, api.OK
		if day < 0 || day > 73048 {
			wantNo, want = 0, api.ErrDay
		} else {
			put++
		}
		if no, e := a.Put(day, -day); no != wantNo || e != want {
			t.Errorf("Put at the day %d: %d, %v; want %d, %v", day, no, int(e), wantNo, int(want))
		}
	}
	day := 0
	for x := range a.All() {
		if x != (agenda.Item{Day: day, No: day, Tag: -day}) {
			t.Errorf("the item of the day %d: %v", day, x)
		}
		day++
	}
	if day != 73049 || a.Len() != 73049 {
		t.Errorf("%d items, Len %d", day, a.Len())
	}
}

func TestPutOfWrongDays(t *testing.T) {
	p := newPair()
	for _, day := range wrongDays {
		p.put(t, day, 1)
	}
	p.check(t)
	p.put(t, 5, 1)
	for _, day := range wrongDays {
		p.put(t, day, 2)
		p.check(t)
	}
	// What was not put has no number.
	p.put(t, 4, 3)
	p.check(t)
}

func TestPutOfAllKindsOfTags(t *testing.T) {
	p := newPair()
	for _, tag := range []int{0, 1, -1, 7, 7, 73049, 1 << 32, most, least, 0} {
		p.put(t, 9, tag)
		p.check(t)
	}
	p.takeAll(t)
}

// TestNumbersGoOn: what was taken, dropped or moved counts as put.
func TestNumbersGoOn(t *testing.T) {
	p := some(t, 5, 3, 4)
	p.take(t, 9)
	p.put(t, 1, 1)
	p.drop(t, 3)
	p.put(t, 1, 2)
	p.move(t, 4, 9)
	p.put(t, 1, 3)
	p.check(t)
	p.takeAll(t)
	p.put(t, 0, 4)
	if x, is := p.a.Next(); x != (agenda.Item{Day: 0, No: 6, Tag: 4}) || !is {
		t.Error(x, is)
	}
}

func TestMoveAheadAndBehind(t *testing.T) {
	days := []int{5, 3, 5, 0, 73048, 3}
	for no := range days {
		for _, day := range []int{0, 1, 2, 3, 4, 5, 6, 73047, 73048} {
			p := some(t, days...)
			p.move(t, no, day)
			p.check(t)
			// To that day again: nothing is changed.
			p.move(t, no, day)
			p.check(t)
			p.takeAll(t)
		}
	}
}

func TestMoveOfWhatIsNotThere(t *testing.T) {
	p := some(t, 5, 3, 5, 0)
	p.take(t, 2)
	p.drop(t, 2)
	gone := []int{3, 2, 4, 5, -1, -2, 1 << 32, 1<<32 + 1, -1 << 32, most, least}
	for _, no := range gone {
		for _, day := range append([]int{0, 6, 73048}, wrongDays...) {
			if e := p.a.Move(no, day); e != api.ErrNone {
				t.Errorf("Move(%d, %d): %v", no, day, int(e))
			}
		}
		p.drop(t, no)
	}
	p.check(t)
	p.takeAll(t)
}

func TestMoveToWrongDays(t *testing.T) {
	p := some(t, 5, 3, 5)
	for no := range 3 {
		for _, day := range wrongDays {
			if e := p.a.Move(no, day); e != api.ErrDay {
				t.Errorf("Move(%d, %d): %v", no, day, int(e))
			}
		}
	}
	p.check(t)
	p.takeAll(t)
}

func TestMoveToAllDays(t *testing.T) {
	a := agenda.New()
	a.Put(7, 1)
	last := 7
	for day := -10; day <= 73060; day++ {
		want := api.OK
		if day < 0 || day > 73048 {
			want = api.ErrDay
		} else {
			last = day
		}
		if e := a.Move(0, day); e != want {
			t.Errorf("Move to the day %d: %v", day, int(e))
		}
		if x, is := a.Next(); x != (agenda.Item{Day: last, No: 0, Tag: 1}) || !is {
			t.Errorf("Next after Move to the day %d: %v, %v", day, x, is)
		}
	}
}

func TestDropOfEach(t *testing.T) {
	days := []int{5, 3, 5, 0, 73048, 3}
	for no := range days {
		p := some(t, days...)
		p.drop(t, no)
		p.check(t)
		p.drop(t, no)
		p.move(t, no, 6)
		p.check(t)
		p.takeAll(t)
	}
}

// TestDropOfWhatWasMoved: the item is as it is by then.
func TestDropOfWhatWasMoved(t *testing.T) {
	p := some(t, 5, 3)
	p.move(t, 0, 1)
	if x, e := p.a.Drop(0); x != (agenda.Item{Day: 1, No: 0, Tag: 0}) || e != api.OK {
		t.Error(x, int(e))
	}
	if x, e := p.a.Drop(1); x != (agenda.Item{Day: 3, No: 1, Tag: 10}) || e != api.OK {
		t.Error(x, int(e))
	}
	if n := p.a.Len(); n != 0 {
		t.Error(n)
	}
}

// TestAllOrders: whatever stands where in the heap, each may be dropped, or moved, and all come in order.
func TestAllOrders(t *testing.T) {
	for _, days := range orders([]int{1, 3, 3, 5, 7, 9}) {
		p := some(t, days...)
		p.check(t)
		for no := range days {
			dropped := p.copy()
			dropped.drop(t, no)
			dropped.takeAll(t)
			for _, day := range []int{0, 4, 10} {
				moved := p.copy()
				moved.move(t, no, day)
				moved.takeAll(t)
			}
		}
		p.takeAll(t)
	}
}

// TestDropAllInAllOrders drops all items, in all orders.
func TestDropAllInAllOrders(t *testing.T) {
	p := some(t, 4, 1, 4, 0, 9, 1)
	for _, numbers := range orders([]int{0, 1, 2, 3, 4, 5}) {
		c := p.copy()
		for _, no := range numbers {
			c.drop(t, no)
			c.check(t)
		}
	}
}

func TestNilIsNotTold(t *testing.T) {
	var a *agenda.Agenda
	for _, day := range append([]int{0, 5, 73048}, wrongDays...) {
		if no, e := a.Put(day, 1); no != 0 || e != api.ErrNil {
			t.Errorf("Put(%d, 1): %d, %v", day, no, int(e))
		}
		if e := a.Move(0, day); e != api.ErrNil {
			t.Errorf("Move(0, %d): %v", day, int(e))
		}
	}
	for _, no := range []int{0, 1, -1, most, least} {
		if x, e := a.Drop(no); x != (agenda.Item{}) || e != api.ErrNil {
			t.Errorf("Drop(%d): %v, %v", no, x, int(e))
		}
	}
}

// P11.2

func TestTheExample(t *testing.T) {
	a := agenda.New()
	for i, x := range []agenda.Item{{Day: 5, Tag: 1}, {Day: 3, Tag: 2}, {Day: 5, Tag: 3}} {
		if no, e := a.Put(x.Day, x.Tag); no != i || e != api.OK {
			t.Error(i, no, int(e))
		}
	}
	if x, is := a.Take(4); x != (agenda.Item{Day: 3, No: 1, Tag: 2}) || !is {
		t.Error(x, is)
	}
	if x, is := a.Take(4); x != (agenda.Item{}) || is {
		t.Error(x, is)
	}
	if x, is := a.Take(9); x != (agenda.Item{Day: 5, No: 0, Tag: 1}) || !is {
		t.Error(x, is)
	}
	if x, is := a.Next(); x != (agenda.Item{Day: 5, No: 2, Tag: 3}) || !is || a.Len() != 1 {
		t.Error(x, is, a.Len())
	}
}

func TestNextTakesNothing(t *testing.T) {
	p := some(t, 5, 3, 4)
	for range 3 {
		p.check(t)
	}
}

func TestTakeBy(t *testing.T) {
	for _, day := range []int{0, 1, 5, 73047, 73048} {
		for _, by := range []int{least, -1 << 32, -1, 0, 1, 4, 5, 6, 73046, 73047, 73048, 73049, 1 << 32, 1<<32 - 1, most} {
			p := some(t, day, day, 73048)
			for p.take(t, by) {
				p.check(t)
			}
			p.check(t)
		}
	}
}

// TestOneDayByNumbers: of one day they come by their numbers, not as they were put there, and not by tags.
func TestOneDayByNumbers(t *testing.T) {
	p := newPair()
	for i := range 40 {
		p.put(t, i%3, 100-i)
	}
	for i := range 40 {
		p.move(t, (i*17)%40, 8)
	}
	p.check(t)
	p.takeAll(t)
}

func TestAllIsAsItWasAsked(t *testing.T) {
	p := some(t, 5, 3, 5, 0)
	all, want := p.a.All(), p.m.all()
	p.take(t, 9)
	p.drop(t, 0)
	p.move(t, 1, 73048)
	p.put(t, 1, 1)
	if l := slices.Collect(all); !slices.Equal(l, want) {
		t.Errorf("%v; want %v", l, want)
	}
	p.check(t)
	none := agenda.New()
	nothing := none.All()
	none.Put(1, 1)
	if l := slices.Collect(nothing); len(l) != 0 {
		t.Error(l)
	}
}

// TestAllOverAgain: it may be left early, gone through again, and changed on the way.
func TestAllOverAgain(t *testing.T) {
	p := some(t, 5, 3, 5, 0)
	all, want := p.a.All(), p.m.all()
	for n := range len(want) + 1 {
		var l []agenda.Item
		for x := range all {
			if len(l) == n {
				break
			}
			l = append(l, x)
		}
		if !slices.Equal(l, want[:n]) {
			t.Errorf("the first %d: %v; want %v", n, l, want[:n])
		}
	}
	var l []agenda.Item
	for x := range all {
		l = append(l, x)
		p.drop(t, x.No)
		p.put(t, 1, 1)
	}
	if !slices.Equal(l, want) {
		t.Errorf("%v; want %v", l, want)
	}
	p.check(t)
}

func TestCopiesAreApart(t *testing.T) {
	changes := []func(pair){
		func(p pair) { p.put(t, 1, 1) },
		func(p pair) { p.take(t, 9) },
		func(p pair) { p.drop(t, 2) },
		func(p pair) { p.move(t, 1, 8) },
		func(p pair) { p.move(t, 4, 0) },
		func(p pair) { p.takeAll(t) },
		func(p pair) { p.takeAll(t); p.put(t, 6, 1); p.put(t, 5, 2) },
	}
	for _, here := range changes {
		for _, there := range changes {
			p := some(t, 5, 3, 5, 2, 7)
			c := p.copy()
			c.check(t)
			here(p)
			c.check(t)
			there(c)
			p.check(t)
			c.check(t)
			for _, x := range []pair{p, c} {
				x.put(t, 4, 7)
				x.drop(t, 4)
				x.takeAll(t)
			}
		}
	}
}

// TestCopyOfNone: numbers go on in it, too.
func TestCopyOfNone(t *testing.T) {
	p := newPair().copy()
	p.check(t)
	p.put(t, 5, 1)
	p.takeAll(t)
	c := p.copy()
	c.check(t)
	c.put(t, 5, 1)
	p.put(t, 6, 2)
	c.check(t)
	p.check(t)
}

func TestNilTellsNothing(t *testing.T) {
	var a *agenda.Agenda
	if x, is := a.Next(); x != (agenda.Item{}) || is {
		t.Error(x, is)
	}
	for _, by := range []int{least, -1, 0, 73048, most} {
		if x, is := a.Take(by); x != (agenda.Item{}) || is {
			t.Errorf("Take(%d): %v, %v", by, x, is)
		}
	}
	all := a.All()
	if all == nil {
		t.Fatal("All is nil")
	}
	for x := range all {
		t.Error(x)
	}
	if n := a.Len(); n != 0 {
		t.Error(n)
	}
	if c := a.Copy(); c != nil {
		t.Error(c)
	}
}

// P11.3

// TestDrawn does drawn things to agendas and their copies, and holds all of them after each.
func TestDrawn(t *testing.T) {
	r := rand.New(rand.NewSource(11))
	for range 150 {
		all := []pair{newPair()}
		for range 80 {
			i := r.Intn(len(all))
			if len(all) < 4 && r.Intn(20) == 0 {
				all = append(all, all[i].copy())
			}
			all[i].change(t, r)
			for _, p := range all {
				p.check(t)
			}
		}
		for _, p := range all {
			p.takeAll(t)
		}
		if t.Failed() {
			return
		}
	}
}

// TestTakenInOrder: as long as none is put, or moved, ahead of what was taken.
func TestTakenInOrder(t *testing.T) {
	r := rand.New(rand.NewSource(12))
	for range 200 {
		a := agenda.New()
		for range 60 {
			a.Put(r.Intn(30), r.Intn(3))
		}
		last := agenda.Item{Day: -1}
		for range 1000 {
			x, is := a.Take(40)
			if !is {
				break
			}
			if !ahead(last, x) {
				t.Fatalf("%v behind %v", x, last)
			}
			last = x
			// Behind what was taken, and no others.
			if r.Intn(3) == 0 {
				a.Put(last.Day+r.Intn(41-last.Day), 0)
			}
			a.Move(r.Intn(60), last.Day+1+r.Intn(41-last.Day))
			if x, is := a.Next(); is && !ahead(last, x) {
				t.Fatalf("%v is there behind %v", x, last)
			}
		}
	}
}

// ended are items that came out of an agenda, by Take or by Drop.
type ended struct {
	t    *testing.T
	from int
	nos  map[int]agenda.Item
}

// add is an item more, which has to be of a number that was told, once.
func (l ended) add(x agenda.Item) {
	if _, is := l.nos[x.No]; is || x.No < 0 || x.No >= l.from {
		l.t.Errorf("out came %v, of %d", x, l.from)
	}
	l.nos[x.No] = x
}

// TestNothingIsLost: each of many that were put comes out once, as it was put, at the day to which it was moved last.
func TestNothingIsLost(t *testing.T) {
	const n = 100000
	r := rand.New(rand.NewSource(13))
	a := agenda.New()
	want := make([]agenda.Item, n)
	for i := range want {
		want[i] = agenda.Item{Day: r.Intn(73049), No: i, Tag: r.Int()}
		if no, e := a.Put(want[i].Day, want[i].Tag); no != i || e != api.OK {
			t.Fatalf("Put: %d, %v; want %d", no, int(e), i)
		}
	}
	out := ended{t: t, from: n, nos: map[int]agenda.Item{}}
	for range n / 2 {
		no := r.Intn(n)
		_, gone := out.nos[no]
		if r.Intn(3) > 0 {
			day := r.Intn(73049)
			if e := a.Move(no, day); (e == api.OK) == gone || e != api.OK && e != api.ErrNone {
				t.Fatalf("Move(%d, %d): %v", no, day, int(e))
			} else if e == api.OK {
				want[no].Day = day
			}
			continue
		}
		x, e := a.Drop(no)
		if (e == api.OK) == gone || e != api.OK && e != api.ErrNone {
			t.Fatalf("Drop(%d): %v", no, int(e))
		} else if e == api.OK {
			out.add(x)
		}
	}
	if a.Len() != n-len(out.nos) {
		t.Errorf("Len: %d; want %d", a.Len(), n-len(out.nos))
	}
	last := agenda.Item{Day: -1}
	for x, is := a.Take(73048); is; x, is = a.Take(73048) {
		if !ahead(last, x) {
			t.Fatalf("%v behind %v", x, last)
		}
		last = x
		out.add(x)
	}
	for no, x := range want {
		if out.nos[no] != x {
			t.Errorf("the item %d: %v; want %v", no, out.nos[no], x)
		}
	}
	if no, e := a.Put(0, 0); no != n || e != api.OK || a.Len() != 1 {
		t.Errorf("Put: %d, %v, then Len %d; want %d", no, int(e), a.Len(), n)
	}
}
