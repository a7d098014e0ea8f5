package agenda_test

import (
	"math/rand"
	"slices"
	"testing"

	"chattel/agenda"
	"chattel/api"
)

// The tests' own telling of what the document asks for: a list in which items stand as they were put, that is looked through from its beginning.

const (
	most  = 1<<63 - 1
	least = -1 << 63
)

// wrongDays may not be; some are right ones when they are cut to fewer bits.
var wrongDays = []int{-1, -2, 73049, 73050, -73048, 1 << 17, 1 << 32, -1 << 32, 1<<32 + 5, most, least}

// model is what an agenda has to be.
type model struct {
	items []agenda.Item
	put   int
}

// dayError is the error of a day.
func dayError(day int) api.Errno {
	if day < 0 || day > 73048 {
		return api.ErrDay
	}
	return api.OK
}

// find is where the item of a number stands; -1: it is not in it.
func (m *model) find(no int) int {
	return slices.IndexFunc(m.items, func(x agenda.Item) bool { return x.No == no })
}

// insert is what Put has to answer.
func (m *model) insert(day, tag int) (int, api.Errno) {
	if e := dayError(day); e != api.OK {
		return 0, e
	}
	m.items = append(m.items, agenda.Item{Day: day, No: m.put, Tag: tag})
	m.put++
	return m.put - 1, api.OK
}

// ahead tells whether an item is ahead of another one.
func ahead(x, y agenda.Item) bool {
	if x.Day == y.Day {
		return x.No < y.No
	}
	return x.Day < y.Day
}

// next is what Next has to answer.
func (m *model) next() (agenda.Item, bool) {
	if len(m.items) == 0 {
		return agenda.Item{}, false
	}
	first := m.items[0]
	for _, x := range m.items[1:] {
		if ahead(x, first) {
			first = x
		}
	}
	return first, true
}

// take is what Take has to answer.
func (m *model) take(by int) (agenda.Item, bool) {
	x, is := m.next()
	if !is || x.Day > by {
		return agenda.Item{}, false
	}
	m.drop(x.No)
	return x, true
}

// drop is what Drop has to answer.
func (m *model) drop(no int) (agenda.Item, api.Errno) {
	at := m.find(no)
	if at < 0 {
		return agenda.Item{}, api.ErrNone
	}
	x := m.items[at]
	m.items = slices.Delete(m.items, at, at+1)
	return x, api.OK
}

// move is what Move has to answer.
func (m *model) move(no, day int) api.Errno {
	at := m.find(no)
	if at < 0 {
		return api.ErrNone
	}
	if e := dayError(day); e != api.OK {
		return e
	}
	m.items[at].Day = day
	return api.OK
}

// all is what All has to tell: each item is put behind those that are ahead of it.
func (m *model) all() []agenda.Item {
	var l []agenda.Item
	for _, x := range m.items {
		at := len(l)
		for at > 0 && ahead(x, l[at-1]) {
			at--
		}
		l = slices.Insert(l, at, x)
	}
	return l
}

// copy is a model of its own that is the same.
func (m *model) copy() *model {
	return &model{items: slices.Clone(m.items), put: m.put}
}

// pair is an agenda, and what it has to be.
type pair struct {
	a *agenda.Agenda
	m *model
}

// newPair is one without items.
func newPair() pair { return pair{agenda.New(), &model{}} }

// some is one in which items of the days were put, whose tags are ten times their numbers.
func some(t *testing.T, days ...int) pair {
	t.Helper()
	p := newPair()
	for i, day := range days {
		p.put(t, day, 10*i)
	}
	return p
}

// copy is a pair of its own that is the same.
func (p pair) copy() pair { return pair{p.a.Copy(), p.m.copy()} }

// check holds all that is told without a change.
func (p pair) check(t *testing.T) {
	t.Helper()
	want := p.m.all()
	if l := slices.Collect(p.a.All()); !slices.Equal(l, want) {
		t.Errorf("All(): %v; want %v", l, want)
	}
	if n := p.a.Len(); n != len(want) {
		t.Errorf("Len(): %d; want %d", n, len(want))
	}
	x, is := p.a.Next()
	if wantX, wantIs := p.m.next(); x != wantX || is != wantIs {
		t.Errorf("Next(): %v, %v; want %v, %v", x, is, wantX, wantIs)
	}
}

// put holds Put.
func (p pair) put(t *testing.T, day, tag int) {
	t.Helper()
	no, e := p.a.Put(day, tag)
	if wantNo, wantE := p.m.insert(day, tag); no != wantNo || e != wantE {
		t.Errorf("Put(%d, %d): %d, %v; want %d, %v", day, tag, no, int(e), wantNo, int(wantE))
	}
}

// take holds Take; whether something was taken.
func (p pair) take(t *testing.T, by int) bool {
	t.Helper()
	x, is := p.a.Take(by)
	wantX, wantIs := p.m.take(by)
	if x != wantX || is != wantIs {
		t.Errorf("Take(%d): %v, %v; want %v, %v", by, x, is, wantX, wantIs)
	}
	return wantIs
}

// drop holds Drop.
func (p pair) drop(t *testing.T, no int) {
	t.Helper()
	x, e := p.a.Drop(no)
	if wantX, wantE := p.m.drop(no); x != wantX || e != wantE {
		t.Errorf("Drop(%d): %v, %v; want %v, %v", no, x, int(e), wantX, int(wantE))
	}
}

// move holds Move.
func (p pair) move(t *testing.T, no, day int) {
	t.Helper()
	e := p.a.Move(no, day)
	if want := p.m.move(no, day); e != want {
		t.Errorf("Move(%d, %d): %v; want %v", no, day, int(e), int(want))
	}
}

// takeAll takes all items, one by one, and holds each; it ends also if the agenda doesn't.
func (p pair) takeAll(t *testing.T) {
	t.Helper()
	for p.take(t, api.MaxDay) {
	}
	p.check(t)
}

// aDay draws one out of few, so that some items are of one day, and some may not be.
func aDay(r *rand.Rand) int {
	days := []int{0, 1, 2, 3, 4, 5, 6, 7, 73046, 73047, 73048, -1, 73049, least, most}
	return days[r.Intn(len(days))]
}

// change does one drawn thing to an agenda and its model.
func (p pair) change(t *testing.T, r *rand.Rand) {
	t.Helper()
	// A number that was told, or is about to be, or never was.
	no := r.Intn(p.m.put+3) - 1
	switch r.Intn(6) {
	case 0, 1:
		p.put(t, aDay(r), r.Intn(9)-4)
	case 2:
		p.take(t, aDay(r))
	case 3:
		p.drop(t, no)
	default:
		p.move(t, no, aDay(r))
	}
}

// orders are all orders of some days.
func orders(days []int) [][]int {
	if len(days) == 0 {
		return [][]int{nil}
	}
	var l [][]int
	for i, day := range days {
		rest := slices.Delete(slices.Clone(days), i, i+1)
		for _, order := range orders(rest) {
			l = append(l, append([]int{day}, order...))
		}
	}
	return l
}
