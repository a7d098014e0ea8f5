package bitemp_test

import (
	"cmp"
	"encoding/binary"
	"math/big"
	"math/rand"
	"slices"
	"testing"

	"chattel/api"
	"chattel/bitemp"
	"chattel/facts"
)

// The tests' own telling of what the document asks for: a list of versions, that is looked through from its beginning.

const (
	most  = 1<<63 - 1
	least = -1 << 63
)

// wrongKeys, wrongDays and wrongPicks may not be; some are right ones when they are cut to fewer bits.
var (
	wrongKeys  = []int{-1, 64, 65, -64, 127, 255, 256, 1 << 32, -1 << 32, most, least}
	wrongDays  = []int{-1, 73049, 73050, -73048, 1 << 17, 1<<32 - 1, 1 << 32, 1<<32 + 5, -1 << 32, most, least}
	wrongPicks = []int{0, 3, -1, 4, 255, 256, 257, 1<<32 + 1, most, least}
)

// wrongValues are ratios that may not be.
var wrongValues = []api.Ratio{{}, {Num: 1}, {Num: least}, {Num: 2, Den: 4}, {Num: 0, Den: 2}, {Num: 1, Den: -2}, {Num: 0, Den: -1}, {Num: least, Den: 1}, {Num: 1, Den: least}, {Num: most, Den: most}}

// ratio is a whole number.
func ratio(n int) api.Ratio { return api.Ratio{Num: n, Den: 1} }

// fixing is a version of a fixing.
func fixing(seq, key, day int, value api.Ratio) bitemp.Version {
	return bitemp.Version{Seq: seq, Key: key, Day: day, Value: value}
}

// choice is a version of a choice.
func choice(seq, key, day, pick int) bitemp.Version {
	return bitemp.Version{Seq: seq, Choice: true, Key: key, Day: day, Pick: pick}
}

// valueError is what is wrong with a value.
func valueError(r api.Ratio) api.Errno {
	num, den := big.NewInt(int64(r.Num)), big.NewInt(int64(r.Den))
	one := new(big.Int).GCD(nil, nil, new(big.Int).Abs(num), new(big.Int).Abs(den))
	switch {
	case r.Den == 0:
		return api.ErrZero
	case r.Den < 0, r.Num == least, one.Cmp(big.NewInt(1)) != 0:
		return api.ErrForm
	}
	return api.OK
}

// factError is what is wrong with a fixing, or a choice.
func factError(x bitemp.Version) api.Errno {
	switch {
	case x.Key < 0 || x.Key > 63:
		return api.ErrRange
	case x.Choice && x.Pick != 1 && x.Pick != 2:
		return api.ErrRange
	case x.Day < 0 || x.Day > 73048:
		return api.ErrDay
	case !x.Choice:
		return valueError(x.Value)
	}
	return api.OK
}

// model is what a store has to be.
type model []bitemp.Version

// seq is what Seq has to answer.
func (m model) seq() int {
	if len(m) == 0 {
		return 0
	}
	return m[len(m)-1].Seq
}

// history is what History has to tell.
func (m model) history(choice bool, key, day int) []bitemp.Version {
	var l []bitemp.Version
	for _, x := range m {
		if x.Choice == choice && x.Key == key && x.Day == day {
			l = append(l, x)
		}
	}
	return l
}

// latest is what Latest has to answer.
func (m model) latest(choice bool, key, day, seq int) (bitemp.Version, bool) {
	found, is := bitemp.Version{}, false
	for _, x := range m.history(choice, key, day) {
		if x.Seq <= seq {
			found, is = x, true
		}
	}
	return found, is
}

// all is the latest versions as of a Seq, by kinds, fixings ahead of choices, keys and days.
func (m model) all(seq int) []bitemp.Version {
	var l []bitemp.Version
	for i, x := range m {
		over := slices.ContainsFunc(m[i+1:], func(y bitemp.Version) bool {
			return y.Choice == x.Choice && y.Key == x.Key && y.Day == x.Day && y.Seq <= seq
		})
		if x.Seq <= seq && !over {
			l = append(l, x)
		}
	}
	slices.SortFunc(l, func(a, b bitemp.Version) int {
		if a.Choice != b.Choice {
			return map[bool]int{false: -1, true: 1}[a.Choice]
		}
		return cmp.Or(cmp.Compare(a.Key, b.Key), cmp.Compare(a.Day, b.Day))
	})
	return l
}

// days is what Days has to tell.
func (m model) days(choice bool, key, from, to, seq int) []bitemp.Version {
	var l []bitemp.Version
	for _, x := range m.all(seq) {
		if x.Choice == choice && x.Key == key && x.Day >= from && x.Day <= to {
			l = append(l, x)
		}
	}
	return l
}

// put is what Fix, or Choose, has to answer.
func (m *model) put(x bitemp.Version) (bitemp.Version, bool, api.Errno) {
	if e := factError(x); e != api.OK {
		return bitemp.Version{}, false, e
	}
	if x.Seq < 1 || x.Seq < m.seq() {
		return bitemp.Version{}, false, api.ErrState
	}
	for _, y := range m.history(x.Choice, x.Key, x.Day) {
		if y.Seq == x.Seq {
			return bitemp.Version{}, false, api.ErrThere
		}
	}
	old, is := m.latest(x.Choice, x.Key, x.Day, most)
	*m = append(*m, x)
	return old, is, api.OK
}

// bytes are a version's, as far as its numbers fit.
func bytes(x bitemp.Version) []byte {
	b := binary.BigEndian.AppendUint64(nil, uint64(x.Seq))
	b = append(b, map[bool]byte{true: 1}[x.Choice], byte(x.Key))
	b = binary.BigEndian.AppendUint32(b, uint32(x.Day))
	b = binary.BigEndian.AppendUint64(b, uint64(x.Value.Num))
	b = binary.BigEndian.AppendUint64(b, uint64(x.Value.Den))
	return append(b, byte(x.Pick))
}

// encode is what Encode has to answer.
func (m model) encode() []byte {
	var b []byte
	for _, x := range m {
		b = append(b, bytes(x)...)
	}
	return b
}

// decode is what Decode has to answer.
func decode(b []byte) (model, api.Errno) {
	if len(b)%31 != 0 {
		return nil, api.ErrForm
	}
	var m model
	for ; len(b) > 0; b = b[31:] {
		num, den := binary.BigEndian.Uint64(b[14:]), binary.BigEndian.Uint64(b[22:])
		switch {
		case b[8] != 0 && b[8] != 1, b[8] == 0 && b[30] != 0, b[8] == 1 && num != 0, b[8] == 1 && den != 0:
			return nil, api.ErrForm
		}
		x := bitemp.Version{
			Seq:    int(binary.BigEndian.Uint64(b)),
			Choice: b[8] == 1,
			Key:    int(b[9]),
			Day:    int(binary.BigEndian.Uint32(b[10:])),
			Value:  api.Ratio{Num: int(num), Den: int(den)},
			Pick:   int(b[30]),
		}
		if _, _, e := m.put(x); e != api.OK {
			return nil, e
		}
	}
	return m, api.OK
}

// store is a store and what it has to be.
type store struct {
	s *bitemp.Store
	m model
}

// newStore is one without versions.
func newStore() *store { return &store{s: bitemp.New()} }

// of is one with versions, all of which may come.
func of(t *testing.T, l ...bitemp.Version) *store {
	t.Helper()
	p := newStore()
	for _, x := range l {
		if e := p.put(t, x); e != api.OK {
			t.Fatalf("%v: %d", x, int(e))
		}
	}
	return p
}

// copy is one of its own that is the same.
func (p *store) copy() *store { return &store{s: p.s.Copy(), m: slices.Clone(p.m)} }

// tell asks for a version by Fix, or Choose.
func tell(s *bitemp.Store, x bitemp.Version) (bitemp.Version, bool, api.Errno) {
	if x.Choice {
		return s.Choose(x.Seq, facts.Choice{Key: x.Key, Day: x.Day, Pick: x.Pick})
	}
	return s.Fix(x.Seq, facts.Fixing{Key: x.Key, Day: x.Day, Value: x.Value})
}

// put holds Fix, or Choose; its error.
func (p *store) put(t *testing.T, x bitemp.Version) api.Errno {
	t.Helper()
	old, is, e := tell(p.s, x)
	wantOld, wantIs, wantE := p.m.put(x)
	if old != wantOld || is != wantIs || e != wantE {
		t.Errorf("put %v: %v, %v, %d; want %v, %v, %d", x, old, is, int(e), wantOld, wantIs, int(wantE))
	}
	return e
}

// checkAll holds what is told of all versions.
func (p *store) checkAll(t *testing.T) {
	t.Helper()
	if l := slices.Collect(p.s.All()); !slices.Equal(l, p.m) {
		t.Errorf("All(): %v; want %v", l, p.m)
	}
	if n := p.s.Len(); n != len(p.m) {
		t.Errorf("Len(): %d; want %d", n, len(p.m))
	}
	if n := p.s.Seq(); n != p.m.seq() {
		t.Errorf("Seq(): %d; want %d", n, p.m.seq())
	}
	if b := p.s.Encode(); !slices.Equal(b, p.m.encode()) {
		t.Errorf("Encode(): %v; want %v", b, p.m.encode())
	}
}

// checkPlace holds what is told of a kind, key and day.
func (p *store) checkPlace(t *testing.T, choice bool, key, day, seq int) {
	t.Helper()
	want := p.m.history(choice, key, day)
	if l := slices.Collect(p.s.History(choice, key, day)); !slices.Equal(l, want) {
		t.Errorf("History(%v, %d, %d): %v; want %v", choice, key, day, l, want)
	}
	x, is := p.s.Latest(choice, key, day, seq)
	if wantX, wantIs := p.m.latest(choice, key, day, seq); x != wantX || is != wantIs {
		t.Errorf("Latest(%v, %d, %d, %d): %v, %v; want %v, %v", choice, key, day, seq, x, is, wantX, wantIs)
	}
}

// checkDays holds Days.
func (p *store) checkDays(t *testing.T, choice bool, key, from, to, seq int) {
	t.Helper()
	want := p.m.days(choice, key, from, to, seq)
	if l := slices.Collect(p.s.Days(choice, key, from, to, seq)); !slices.Equal(l, want) {
		t.Errorf("Days(%v, %d, %d, %d, %d): %v; want %v", choice, key, from, to, seq, l, want)
	}
}

// known is what facts tell, as versions without Seqs.
func known(f *facts.Facts) []bitemp.Version {
	var l []bitemp.Version
	for x := range f.Fixings() {
		l = append(l, fixing(0, x.Key, x.Day, x.Value))
	}
	for x := range f.Choices() {
		l = append(l, choice(0, x.Key, x.Day, x.Pick))
	}
	return l
}

// asOf is what AsOf has to tell, as versions without Seqs.
func (m model) asOf(seq int) []bitemp.Version {
	l := m.all(seq)
	for i := range l {
		l[i].Seq = 0
	}
	return l
}

// checkAsOf holds AsOf.
func (p *store) checkAsOf(t *testing.T, seq int) {
	t.Helper()
	f := p.s.AsOf(seq)
	if f == nil {
		t.Fatalf("AsOf(%d): nil", seq)
	}
	if l, want := known(f), p.m.asOf(seq); !slices.Equal(l, want) {
		t.Errorf("AsOf(%d): %v; want %v", seq, l, want)
	}
}

// seqs are those about each that a version has, and the edges.
func (m model) seqs() []int {
	l := []int{least, -1, 0, 1, most}
	for _, x := range m {
		// The greatest number is there already, and one more than it is none.
		l = append(l, x.Seq-1, x.Seq, max(x.Seq, x.Seq+1))
	}
	slices.Sort(l)
	return slices.Compact(l)
}

// check holds all that is told, as of all Seqs, of all places that have versions, and of some that have none.
func (p *store) check(t *testing.T) {
	t.Helper()
	p.checkAll(t)
	places := append(p.m.all(most), fixing(0, 40, 40, ratio(1)), fixing(0, -1, 0, ratio(1)), fixing(0, 0, 73049, ratio(1)))
	for _, seq := range p.m.seqs() {
		p.checkAsOf(t, seq)
		for _, x := range places {
			for _, choice := range []bool{false, true} {
				p.checkPlace(t, choice, x.Key, x.Day, seq)
				p.checkDays(t, choice, x.Key, least, most, seq)
				p.checkDays(t, choice, x.Key, x.Day, x.Day, seq)
				p.checkDays(t, choice, x.Key, x.Day, 73048, seq)
				p.checkDays(t, choice, x.Key, 0, x.Day, seq)
			}
		}
	}
}

// one draws one of some.
func one[T any](r *rand.Rand, l ...T) T { return l[r.Intn(len(l))] }

// draw draws a version that may come next, most of the time; at few places, so that many are known anew.
func (m model) draw(r *rand.Rand) bitemp.Version {
	seq := m.seq() + one(r, 0, 0, 1, 1, 2, 5)
	if r.Intn(8) == 0 {
		seq = r.Intn(m.seq() + 3)
	}
	key, day := one(r, 0, 1, 63), one(r, 0, 1, 2, 73048)
	if r.Intn(12) == 0 {
		key, day = one(r, wrongKeys...), one(r, 0, one(r, wrongDays...))
	}
	if r.Intn(2) == 0 {
		return choice(seq, key, day, one(r, 1, 2, 1, 2, 1, 2, one(r, wrongPicks...)))
	}
	return fixing(seq, key, day, one(r, ratio(r.Intn(9)-4), ratio(r.Intn(9)-4), api.Ratio{Num: 2*r.Intn(9) - 9, Den: 4}, ratio(most), ratio(-most), api.Ratio{Num: 1, Den: most}, one(r, wrongValues...)))
}
