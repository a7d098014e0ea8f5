package entry_test

import (
	"math/big"
	"math/rand"
	"slices"
	"testing"

	"chattel/api"
	"chattel/entry"
)

// The tests' own telling of what the document asks for: line by line, with sums of numbers that are as long as they have to be.

const (
	most  = 1<<63 - 1
	least = -1 << 63
)

// wrongContracts, wrongDays, wrongCurs and wrongParties may not be; some are right ones when they are cut to fewer bits.
var (
	wrongContracts = []int{-1, -2, 64, 65, -64, 1 << 8, 1 << 32, 1<<32 + 5, -1 << 32, most, least}
	wrongDays      = []int{-1, -2, 73049, 73050, -73048, 1 << 17, 1 << 32, 1<<32 + 5, -1 << 32, most, least}
	wrongCurs      = []int{-1, -2, 8, 9, 15, 16, 63, 1 << 8, 1 << 32, 1<<32 + 5, -1 << 32, most, least}
	wrongParties   = []int{-1, -2, 16, 17, 63, 1 << 8, 1 << 32, 1<<32 + 5, -1 << 32, most, least}
	below0         = []int{-1, -2, -1 << 31, -1 << 32, least + 1, least}
	amounts        = []int{1, -1, 2, -50, 70, 1 << 31, -1 << 32, 1<<62 + 1, most - 1, most, -most, least + 2}
)

// tagMayBe tells whether a tag may be.
func tagMayBe(t entry.Tag) bool {
	return t.Contract >= 0 && t.Contract <= 63 && t.Day >= 0 && t.Day <= 73048 && t.Cur >= 0 && t.Cur <= 7
}

// partyMayBe tells whether a party may be.
func partyMayBe(party int) bool { return party >= 0 && party <= 15 }

// inRange tells whether all numbers of an entry but for Amounts may be.
func inRange(e entry.Entry) bool {
	for _, l := range e.Lines {
		if !partyMayBe(l.Party) || l.Cur < 0 || l.Cur > 7 {
			return false
		}
	}
	return tagMayBe(e.Tag) && e.Seq >= 0 && e.Period >= 0 && e.Ref >= -1
}

// wantCheck is what Check has to answer.
func wantCheck(e entry.Entry) api.Errno {
	unlike, zero, over, sum := len(e.Lines) < 2 || len(e.Lines) > 8, false, false, new(big.Int)
	for _, l := range e.Lines {
		unlike = unlike || l.Cur != e.Tag.Cur
		zero = zero || l.Amount == 0
		over = over || l.Amount == least
		sum.Add(sum, big.NewInt(int64(l.Amount)))
	}
	switch {
	case !inRange(e):
		return api.ErrRange
	case unlike:
		return api.ErrArg
	case zero:
		return api.ErrZero
	case over:
		return api.ErrOver
	case sum.Sign() != 0:
		return api.ErrUneven
	}
	return api.OK
}

// wantFlow is what Flow has to answer.
func wantFlow(t entry.Tag, amount, holder, writer int) (entry.Entry, api.Errno) {
	switch {
	case !tagMayBe(t), !partyMayBe(holder), !partyMayBe(writer):
		return entry.Entry{}, api.ErrRange
	case holder == writer:
		return entry.Entry{}, api.ErrArg
	case amount == 0:
		return entry.Entry{}, api.ErrZero
	case amount == least:
		return entry.Entry{}, api.ErrOver
	}
	return of(t, 0, 0, -1, line(holder, t.Cur, amount), line(writer, t.Cur, -amount)), api.OK
}

// wantReverse is what Reverse has to answer.
func wantReverse(e entry.Entry, no int) (entry.Entry, api.Errno) {
	if wrong := wantCheck(e); wrong != api.OK {
		return entry.Entry{}, wrong
	}
	if e.Ref >= 0 {
		return entry.Entry{}, api.ErrState
	}
	if no < 0 {
		return entry.Entry{}, api.ErrRange
	}
	r := of(e.Tag, 0, 0, no)
	for _, l := range e.Lines {
		r.Lines = append(r.Lines, line(l.Party, l.Cur, -l.Amount))
	}
	return r, api.OK
}

// cut is a sum's lowest 64 bits.
func cut(sum *big.Int) int {
	low := new(big.Int).And(sum, new(big.Int).SetUint64(1<<64-1))
	return int(low.Uint64())
}

// sumOf is what all Amounts of a party's lines of entries that count come to.
func sumOf(party int, counts func(entry.Entry) bool, l ...entry.Entry) *big.Int {
	sum := new(big.Int)
	for _, e := range l {
		for _, x := range e.Lines {
			if counts(e) && x.Party == party {
				sum.Add(sum, big.NewInt(int64(x.Amount)))
			}
		}
	}
	return sum
}

// wantAmount is what Amount has to answer.
func wantAmount(e entry.Entry, party int) int {
	return cut(sumOf(party, func(entry.Entry) bool { return true }, e))
}

// tagIs tells whether an entry is of a tag.
func tagIs(e entry.Entry, t entry.Tag) bool {
	return e.Tag.Contract == t.Contract && e.Tag.Day == t.Day && e.Tag.Cur == t.Cur
}

// wantTotal is what Total has to answer.
func wantTotal(t entry.Tag, party int, l ...entry.Entry) (int, api.Errno) {
	sum := sumOf(party, func(e entry.Entry) bool { return tagIs(e, t) }, l...)
	if !sum.IsInt64() {
		return 0, api.ErrOver
	}
	return int(sum.Int64()), api.OK
}

// wantMirrors is what Mirrors has to answer: two Amounts that come to nought, cut to 64 bits, are one less than nought of the other.
func wantMirrors(a, b entry.Entry) bool {
	if !tagIs(a, b.Tag) || len(a.Lines) != len(b.Lines) {
		return false
	}
	for i, x := range a.Lines {
		y := b.Lines[i]
		if x.Party != y.Party || x.Cur != y.Cur || uint64(x.Amount)+uint64(y.Amount) != 0 {
			return false
		}
	}
	return true
}

// wantSame is what Same has to answer.
func wantSame(a, b entry.Entry) bool {
	return tagIs(a, b.Tag) && a.Seq == b.Seq && a.Period == b.Period && a.Ref == b.Ref && slices.Equal(a.Lines, b.Lines)
}

// line is a line.
func line(party, cur, amount int) entry.Line {
	return entry.Line{Party: party, Cur: cur, Amount: amount}
}

// of is an entry.
func of(t entry.Tag, seq, period, ref int, lines ...entry.Line) entry.Entry {
	return entry.Entry{Tag: t, Seq: seq, Period: period, Ref: ref, Lines: lines}
}

// copyOf is the same entry, with lines of its own.
func copyOf(e entry.Entry) entry.Entry {
	e.Lines = slices.Clone(e.Lines)
	return e
}

// guarded is the same entry, with lines behind the length of its lines; and whether all of these still are as they were.
func guarded(e entry.Entry) (entry.Entry, func() bool) {
	all := append(slices.Clone(e.Lines), line(7, 7, 7), line(8, 8, 8))
	before := slices.Clone(all)
	e.Lines = all[:len(e.Lines)]
	return e, func() bool { return slices.Equal(all, before) }
}

// same tells whether an entry that was answered is what it has to be: Same is what is tested, so it does not tell that.
func same(a, b entry.Entry) bool { return wantSame(a, b) }

// checkCheck holds Check; its error.
func checkCheck(t *testing.T, e entry.Entry) api.Errno {
	t.Helper()
	g, kept := guarded(e)
	want := wantCheck(e)
	if wrong := entry.Check(g); wrong != want {
		t.Errorf("Check(%v): %d; want %d", e, int(wrong), int(want))
	}
	if !kept() {
		t.Errorf("Check(%v) changed it", e)
	}
	return want
}

// checkFlow holds Flow; what it has to answer.
func checkFlow(t *testing.T, tag entry.Tag, amount, holder, writer int) (entry.Entry, api.Errno) {
	t.Helper()
	e, wrong := entry.Flow(tag, amount, holder, writer)
	want, wantWrong := wantFlow(tag, amount, holder, writer)
	if !same(e, want) || wrong != wantWrong {
		t.Errorf("Flow(%v, %d, %d, %d): %v, %d; want %v, %d", tag, amount, holder, writer, e, int(wrong), want, int(wantWrong))
	}
	return want, wantWrong
}

// checkReverse holds Reverse; what it has to answer.
func checkReverse(t *testing.T, e entry.Entry, no int) (entry.Entry, api.Errno) {
	t.Helper()
	g, kept := guarded(e)
	r, wrong := entry.Reverse(g, no)
	want, wantWrong := wantReverse(e, no)
	if !same(r, want) || wrong != wantWrong {
		t.Errorf("Reverse(%v, %d): %v, %d; want %v, %d", e, no, r, int(wrong), want, int(wantWrong))
	}
	for i := range r.Lines {
		r.Lines[i] = entry.Line{}
	}
	if !kept() {
		t.Errorf("Reverse(%v, %d) changed it, or answered what stands in it", e, no)
	}
	return want, wantWrong
}

// checkPair holds Mirrors and Same, both ways round.
func checkPair(t *testing.T, a, b entry.Entry) {
	t.Helper()
	for range 2 {
		ga, keptA := guarded(a)
		gb, keptB := guarded(b)
		if is := entry.Mirrors(ga, gb); is != wantMirrors(a, b) {
			t.Errorf("Mirrors(%v, %v): %v", a, b, is)
		}
		if is := entry.Same(ga, gb); is != wantSame(a, b) {
			t.Errorf("Same(%v, %v): %v", a, b, is)
		}
		if !keptA() || !keptB() {
			t.Errorf("%v or %v is changed", a, b)
		}
		a, b = b, a
	}
}

// checkAmount holds Amount.
func checkAmount(t *testing.T, e entry.Entry, party int) {
	t.Helper()
	g, kept := guarded(e)
	if n := g.Amount(party); n != wantAmount(e, party) {
		t.Errorf("%v: Amount(%d): %d; want %d", e, party, n, wantAmount(e, party))
	}
	if !kept() {
		t.Errorf("%v: Amount(%d) changed it", e, party)
	}
}

// checkTotal holds Total; its error.
func checkTotal(t *testing.T, tag entry.Tag, party int, l ...entry.Entry) api.Errno {
	t.Helper()
	var copies []entry.Entry
	for _, e := range l {
		copies = append(copies, copyOf(e))
	}
	n, wrong := entry.Total(tag, party, copies...)
	want, wantWrong := wantTotal(tag, party, l...)
	if n != want || wrong != wantWrong {
		t.Errorf("Total(%v, %d, %v): %d, %d; want %d, %d", tag, party, l, n, int(wrong), want, int(wantWrong))
	}
	if !slices.EqualFunc(copies, l, same) {
		t.Errorf("Total(%v, %d, %v) changed them: %v", tag, party, l, copies)
	}
	return wantWrong
}

// one draws one of some.
func one[T any](r *rand.Rand, l ...T) T { return l[r.Intn(len(l))] }

// drawTag draws a tag that may be, of few, or of all.
func drawTag(r *rand.Rand) entry.Tag {
	if r.Intn(2) == 0 {
		return entry.Tag{Contract: r.Intn(2), Day: r.Intn(2), Cur: r.Intn(2)}
	}
	return entry.Tag{Contract: r.Intn(64), Day: r.Intn(73049), Cur: r.Intn(8)}
}

// drawAmount draws a number of any size but 0 and the least one.
func drawAmount(r *rand.Rand) int {
	if n := int(r.Uint64()) >> r.Intn(64); n != 0 && n != least {
		return n
	}
	return one(r, amounts...)
}

// drawEntry draws an entry that may be, most of the time.
func drawEntry(r *rand.Rand) entry.Entry {
	e := of(drawTag(r), r.Intn(9), r.Intn(9), one(r, -1, -1, -1, 0, 5, most))
	sum := 0
	for range 1 + r.Intn(7) {
		n := drawAmount(r) >> 3
		if n == 0 {
			n = 1
		}
		sum += n
		e.Lines = append(e.Lines, line(r.Intn(16), e.Tag.Cur, n))
	}
	// Of some that come to 0 this is a line that may not be.
	e.Lines = append(e.Lines, line(r.Intn(16), e.Tag.Cur, -sum))
	r.Shuffle(len(e.Lines), func(i, j int) { e.Lines[i], e.Lines[j] = e.Lines[j], e.Lines[i] })
	return e
}

// spoil draws one number of an entry anew.
func spoil(r *rand.Rand, e entry.Entry) entry.Entry {
	e = copyOf(e)
	at := r.Intn(len(e.Lines))
	switch r.Intn(12) {
	case 0:
		e.Tag.Contract = one(r, wrongContracts...)
	case 1:
		e.Tag.Day = one(r, wrongDays...)
	case 2:
		e.Tag.Cur = one(r, append(wrongCurs, 0, 7)...)
	case 3:
		e.Seq = one(r, append(below0, 0, 3, most)...)
	case 4:
		e.Period = one(r, append(below0, 0, 3, most)...)
	case 5:
		e.Ref = one(r, append(below0, 0, 3, most)...)
	case 6:
		e.Lines[at].Party = one(r, append(wrongParties, 0, 15)...)
	case 7:
		e.Lines[at].Cur = one(r, append(wrongCurs, 0, 7)...)
	case 8:
		e.Lines[at].Amount = one(r, 0, least, least+1, most, e.Lines[at].Amount+1, -e.Lines[at].Amount)
	case 9:
		e.Lines = slices.Delete(e.Lines, at, at+1)
	case 10:
		e.Lines = slices.Insert(e.Lines, at, e.Lines[r.Intn(len(e.Lines))])
	case 11:
		e.Lines[at], e.Lines[0] = e.Lines[0], e.Lines[at]
	}
	return e
}
