package entry_test

import (
	"math/rand"
	"slices"
	"testing"

	"chattel/api"
	"chattel/entry"
)

var tag = entry.Tag{Contract: 3, Day: 9, Cur: 2}

// some is an entry of three lines that may be.
func some() entry.Entry {
	return of(tag, 4, 5, entry.None, line(1, 2, 50), line(4, 2, -20), line(0, 2, -30))
}

// lines are so many lines that come to nought.
func lines(n int) []entry.Line {
	var l []entry.Line
	for i := range n {
		l = append(l, line(i%16, tag.Cur, 1))
	}
	if n > 1 {
		l[n-1].Amount = 1 - n
	}
	return l
}

// want holds Check of an entry against an error that is known beforehand.
func want(t *testing.T, e entry.Entry, wrong api.Errno) {
	t.Helper()
	if is := checkCheck(t, e); is != wrong {
		t.Errorf("%v: %d; want %d", e, int(is), int(wrong))
	}
}

func TestConstants(t *testing.T) {
	if entry.None != -1 || entry.MostLines != 8 {
		t.Error(entry.None, entry.MostLines)
	}
}

// P14.1

func TestWhatMayBe(t *testing.T) {
	want(t, some(), api.OK)
	for _, contract := range []int{0, 1, 62, 63} {
		for _, day := range []int{0, 1, 255, 256, 65536, 73047, 73048} {
			for cur := range 8 {
				want(t, of(entry.Tag{Contract: contract, Day: day, Cur: cur}, 0, 0, -1, line(0, cur, 5), line(1, cur, -5)), api.OK)
			}
		}
	}
	for _, n := range []int{0, 1, 73049, 1 << 32, most - 1, most} {
		want(t, of(tag, n, 0, -1, lines(2)...), api.OK)
		want(t, of(tag, 0, n, -1, lines(2)...), api.OK)
		want(t, of(tag, 0, 0, n, lines(2)...), api.OK)
	}
	for a := range 16 {
		for b := range 16 {
			want(t, of(tag, 0, 0, -1, line(a, 2, -7), line(b, 2, 7)), api.OK)
		}
	}
	for _, n := range amounts {
		want(t, of(tag, 0, 0, -1, line(1, 2, n), line(1, 2, -n)), api.OK)
	}
	want(t, of(tag, 0, 0, -1, line(1, 2, least+1), line(2, 2, most)), api.OK)
}

func TestOutOfRange(t *testing.T) {
	for _, n := range wrongContracts {
		e := some()
		e.Tag.Contract = n
		want(t, e, api.ErrRange)
	}
	for _, n := range wrongDays {
		e := some()
		e.Tag.Day = n
		want(t, e, api.ErrRange)
	}
	for _, n := range wrongCurs {
		e := some()
		e.Tag.Cur = n
		want(t, e, api.ErrRange)
		for i := range e.Lines {
			e.Lines[i].Cur = n
		}
		want(t, e, api.ErrRange)
		for i := range e.Lines {
			e := some()
			e.Lines[i].Cur = n
			want(t, e, api.ErrRange)
		}
	}
	for _, n := range wrongParties {
		for i := range 3 {
			e := some()
			e.Lines[i].Party = n
			want(t, e, api.ErrRange)
		}
	}
	for _, n := range below0 {
		want(t, of(tag, n, 0, -1, lines(3)...), api.ErrRange)
		want(t, of(tag, 0, n, -1, lines(3)...), api.ErrRange)
		if n < -1 {
			want(t, of(tag, 0, 0, n, lines(3)...), api.ErrRange)
		}
	}
}

func TestHowManyLines(t *testing.T) {
	want(t, of(tag, 0, 0, -1), api.ErrArg)
	want(t, entry.Entry{Lines: []entry.Line{}}, api.ErrArg)
	want(t, of(tag, 0, 0, -1, line(1, 2, 5)), api.ErrArg)
	for n := range 20 {
		wrong := api.OK
		if n < 2 || n > 8 {
			wrong = api.ErrArg
		}
		want(t, of(tag, 0, 0, -1, lines(n)...), wrong)
	}
	for _, n := range []int{256, 258, 1000, 65538} {
		want(t, of(tag, 0, 0, -1, lines(n)...), api.ErrArg)
	}
	// A line that may not be, behind as many as there may be, is asked for ahead of how many there are.
	for _, n := range []int{1, 9, 1000} {
		l := lines(n)
		l[n-1].Party = 16
		want(t, of(tag, 0, 0, -1, l...), api.ErrRange)
	}
}

// TestLinesOfAnotherCurrency: at each place, with each currency.
func TestLinesOfAnotherCurrency(t *testing.T) {
	for n := 2; n <= 8; n++ {
		for at := range n {
			for cur := range 8 {
				wrong := api.ErrArg
				if cur == tag.Cur {
					wrong = api.OK
				}
				l := lines(n)
				l[at].Cur = cur
				want(t, of(tag, 0, 0, -1, l...), wrong)
			}
		}
	}
	want(t, of(entry.Tag{Contract: 3, Day: 9, Cur: 1}, 0, 0, -1, lines(2)...), api.ErrArg)
}

// TestAmountsThatMayNotBe: at each place.
func TestAmountsThatMayNotBe(t *testing.T) {
	for n := 2; n <= 8; n++ {
		for at := range n {
			for amount, wrong := range map[int]api.Errno{0: api.ErrZero, least: api.ErrOver, most: api.ErrUneven, 2: api.ErrUneven, -1 << 62: api.ErrUneven} {
				l := lines(n)
				l[at].Amount = amount
				want(t, of(tag, 0, 0, -1, l...), wrong)
			}
		}
	}
	want(t, of(tag, 0, 0, -1, line(1, 2, least), line(1, 2, least)), api.ErrOver)
	want(t, of(tag, 0, 0, -1, line(1, 2, 0), line(1, 2, 0)), api.ErrZero)
}

// TestUneven: only what all come to together counts, and it counts whole.
func TestUneven(t *testing.T) {
	for _, x := range []struct {
		amounts []int
		wrong   api.Errno
	}{
		{[]int{5, -5}, api.OK},
		{[]int{5, -4}, api.ErrUneven},
		{[]int{-5, -5}, api.ErrUneven},
		{[]int{most, -most}, api.OK},
		{[]int{most, least + 2}, api.ErrUneven},
		{[]int{most, most}, api.ErrUneven},
		{[]int{most, most, 2}, api.ErrUneven},
		{[]int{most, most, 1, 1}, api.ErrUneven},
		{[]int{-most, -most, -1, -1}, api.ErrUneven},
		{[]int{1 << 62, 1 << 62, 1 << 62, 1 << 62}, api.ErrUneven},
		{[]int{-1 << 62, -1 << 62, -1 << 62, -1 << 62}, api.ErrUneven},
		{[]int{most, most, most, most, 1, 1, 1, 1}, api.ErrUneven},
		{[]int{most, most, most, most, -most, -most, -most, -most}, api.OK},
		{[]int{-most, -most, -1, most, most, 1}, api.OK},
		{[]int{1, 1, 1, 1, 1, 1, 1, -7}, api.OK},
		{[]int{1, 1, 1, 1, 1, 1, 1, -8}, api.ErrUneven},
	} {
		var l []entry.Line
		for _, n := range x.amounts {
			l = append(l, line(1, 2, n))
		}
		want(t, of(tag, 0, 0, -1, l...), x.wrong)
		slices.Reverse(l)
		want(t, of(tag, 0, 0, -1, l...), x.wrong)
	}
}

// wrongs are changes of some, each to an error; what they change is never the same line's number.
var wrongs = []struct {
	change func(*entry.Entry)
	wrong  api.Errno
}{
	{func(e *entry.Entry) { e.Tag.Day = 73049 }, api.ErrRange},
	{func(e *entry.Entry) { e.Lines[7].Party = 16 }, api.ErrRange},
	{func(e *entry.Entry) { e.Ref = -2 }, api.ErrRange},
	{func(e *entry.Entry) { e.Lines[6].Cur = 3 }, api.ErrArg},
	{func(e *entry.Entry) { e.Lines = append(e.Lines, line(0, 2, 1), line(0, 2, -1)) }, api.ErrArg},
	{func(e *entry.Entry) { e.Lines[5].Amount = 0 }, api.ErrZero},
	{func(e *entry.Entry) { e.Lines[4].Amount = least }, api.ErrOver},
	{func(e *entry.Entry) { e.Lines[3].Amount = 9 }, api.ErrUneven},
}

// TestErrorsInOrder has all sets of what may be wrong: of an error that is named later the lines stand ahead.
func TestErrorsInOrder(t *testing.T) {
	for set := range 1 << len(wrongs) {
		e, wrong := of(tag, 0, 0, -1, lines(8)...), api.OK
		for i, x := range wrongs {
			if set>>i&1 == 1 {
				x.change(&e)
				if wrong == api.OK {
					wrong = x.wrong
				}
			}
		}
		want(t, e, wrong)
		checkReverse(t, e, -1)
		slices.Reverse(e.Lines)
		want(t, e, wrong)
	}
}

// P14.2

func TestTheExample(t *testing.T) {
	e, wrong := entry.Flow(entry.Tag{Contract: 1, Day: 5, Cur: 0}, 70, 2, 3)
	if wrong != api.OK || !same(e, of(entry.Tag{Contract: 1, Day: 5, Cur: 0}, 0, 0, -1, line(2, 0, 70), line(3, 0, -70))) {
		t.Error(e, int(wrong))
	}
	r, wrong := entry.Reverse(e, 0)
	if wrong != api.OK || !same(r, of(entry.Tag{Contract: 1, Day: 5, Cur: 0}, 0, 0, 0, line(2, 0, -70), line(3, 0, 70))) {
		t.Error(r, int(wrong))
	}
}

// TestFlows: all parties, with amounts that may be and that may not be.
func TestFlows(t *testing.T) {
	for holder := -2; holder <= 17; holder++ {
		for writer := -2; writer <= 17; writer++ {
			for _, amount := range append([]int{0, least}, amounts...) {
				checkFlow(t, tag, amount, holder, writer)
			}
		}
	}
}

// TestFlowErrorsInOrder: each one with all that are named later.
func TestFlowErrorsInOrder(t *testing.T) {
	tags := []entry.Tag{{}, tag, {Contract: 63, Day: 73048, Cur: 7}}
	for _, n := range wrongContracts {
		tags = append(tags, entry.Tag{Contract: n, Day: 9, Cur: 2})
	}
	for _, n := range wrongDays {
		tags = append(tags, entry.Tag{Contract: 3, Day: n, Cur: 2})
	}
	for _, n := range wrongCurs {
		tags = append(tags, entry.Tag{Contract: 3, Day: 9, Cur: n})
	}
	for i, x := range tags {
		for _, amount := range []int{0, 1, -1, most, least + 1, least} {
			for _, parties := range [][2]int{{0, 1}, {15, 0}, {4, 4}, {16, 0}, {0, 16}, {-1, -1}, {most, least}} {
				_, wrong := checkFlow(t, x, amount, parties[0], parties[1])
				if i > 2 && wrong != api.ErrRange {
					t.Errorf("%v: %d", x, int(wrong))
				}
			}
		}
	}
	for _, n := range wrongParties {
		for _, amount := range []int{0, 1, least} {
			for _, parties := range [][2]int{{n, 1}, {1, n}, {n, n}} {
				if _, wrong := checkFlow(t, tag, amount, parties[0], parties[1]); wrong != api.ErrRange {
					t.Errorf("%v: %d", parties, int(wrong))
				}
			}
		}
	}
}

func TestReverses(t *testing.T) {
	numbers := append([]int{0, 1, 63, 64, 1 << 32, most - 1, most}, below0...)
	for n := 2; n <= 8; n++ {
		for _, no := range numbers {
			checkReverse(t, of(tag, 0, 0, -1, lines(n)...), no)
			// Its own Seq and Period do not count, nor do they come with it.
			checkReverse(t, of(tag, 8, 9, -1, lines(n)...), no)
			checkReverse(t, of(tag, most, most, -1, lines(n)...), no)
		}
	}
	for _, amount := range amounts {
		checkReverse(t, of(tag, 0, 0, -1, line(1, 2, amount), line(1, 2, -amount)), 6)
	}
}

// TestReverseErrorsInOrder: Check's ahead of ErrState, and that ahead of the number's.
func TestReverseErrorsInOrder(t *testing.T) {
	for _, ref := range []int{0, 1, 1 << 32, most} {
		for _, no := range []int{0, 7, most, -1, least} {
			e := some()
			e.Ref = ref
			if _, wrong := checkReverse(t, e, no); wrong != api.ErrState {
				t.Error(ref, no, int(wrong))
			}
			e.Lines[0].Amount++
			if _, wrong := checkReverse(t, e, no); wrong != api.ErrUneven {
				t.Error(ref, no, int(wrong))
			}
		}
	}
	for _, no := range below0 {
		if _, wrong := checkReverse(t, some(), no); wrong != api.ErrRange {
			t.Error(no, int(wrong))
		}
		checkReverse(t, entry.Entry{}, no)
		checkReverse(t, of(tag, 0, 0, -1, lines(9)...), no)
	}
	checkReverse(t, entry.Entry{}, 0)
	checkReverse(t, of(tag, 0, 0, -1, line(1, 2, least), line(2, 2, least)), 0)
}

// P14.3

// changed are the same entry with one of its numbers changed, or a line more, or less, or in another order.
func changed(e entry.Entry) []entry.Entry {
	var l []entry.Entry
	put := func(change func(*entry.Entry)) {
		c := copyOf(e)
		change(&c)
		l = append(l, c)
	}
	for _, by := range []int{1, -1, 1 << 32, least} {
		put(func(e *entry.Entry) { e.Tag.Contract += by })
		put(func(e *entry.Entry) { e.Tag.Day += by })
		put(func(e *entry.Entry) { e.Tag.Cur += by })
		put(func(e *entry.Entry) { e.Seq += by })
		put(func(e *entry.Entry) { e.Period += by })
		put(func(e *entry.Entry) { e.Ref += by })
		for i := range e.Lines {
			put(func(e *entry.Entry) { e.Lines[i].Party += by })
			put(func(e *entry.Entry) { e.Lines[i].Cur += by })
			put(func(e *entry.Entry) { e.Lines[i].Amount += by })
		}
	}
	for i := range e.Lines {
		put(func(e *entry.Entry) { e.Lines = slices.Delete(e.Lines, i, i+1) })
		put(func(e *entry.Entry) { e.Lines = slices.Insert(e.Lines, i, e.Lines[i]) })
		put(func(e *entry.Entry) { e.Lines[i].Amount = -e.Lines[i].Amount })
	}
	put(func(e *entry.Entry) { slices.Reverse(e.Lines) })
	put(func(e *entry.Entry) { e.Lines = nil })
	put(func(*entry.Entry) {})
	return l
}

// mirrored is an entry whose lines are less than nought.
func mirrored(e entry.Entry) entry.Entry {
	e = copyOf(e)
	for i := range e.Lines {
		e.Lines[i].Amount = -e.Lines[i].Amount
	}
	return e
}

// odd are entries that may not be, but can be held against one another.
func odd() []entry.Entry {
	return []entry.Entry{
		{},
		{Lines: []entry.Line{}},
		of(tag, 0, 0, -1),
		of(entry.Tag{Contract: -1, Day: most, Cur: least}, -5, least, -9, line(-1, 99, 0), line(most, least, 3)),
		of(tag, 0, 0, -1, line(1, 2, least), line(1, 2, least)),
		of(tag, 0, 0, -1, line(1, 2, least), line(4, 2, 5)),
		of(tag, 0, 0, 7, line(1, 5, 0), line(1, 5, most), line(1, 2, most), line(4, 2, 1), line(1, 2, 3)),
		of(tag, 0, 0, -1, lines(100)...),
	}
}

func TestMirrors(t *testing.T) {
	for _, e := range append(odd(), some()) {
		m := mirrored(e)
		if !entry.Mirrors(e, m) || !entry.Mirrors(m, e) {
			t.Errorf("%v, %v do not mirror one another", e, m)
		}
		for _, x := range changed(m) {
			checkPair(t, e, x)
		}
	}
	if entry.Mirrors(some(), some()) {
		t.Error("an entry mirrors itself")
	}
	// Seqs, Periods and Refs do not count.
	m := mirrored(some())
	m.Seq, m.Period, m.Ref = 99, 98, 97
	if !entry.Mirrors(some(), m) {
		t.Error(m)
	}
	// The least number is less than nought its own, and of no other one.
	x := of(tag, 0, 0, -1, line(1, 2, least))
	if !entry.Mirrors(x, x) || entry.Mirrors(x, of(tag, 0, 0, -1, line(1, 2, most))) || entry.Mirrors(x, of(tag, 0, 0, -1, line(1, 2, 0))) {
		t.Error(x)
	}
	if !entry.Mirrors(entry.Entry{}, entry.Entry{Ref: 5, Lines: []entry.Line{}}) {
		t.Error("entries without lines do not mirror one another")
	}
}

func TestSame(t *testing.T) {
	for _, e := range append(odd(), some()) {
		if !entry.Same(e, copyOf(e)) || !entry.Same(e, e) {
			t.Errorf("%v is not the same", e)
		}
		for _, x := range changed(e) {
			checkPair(t, e, x)
		}
		for _, x := range odd() {
			checkPair(t, e, x)
		}
	}
	if !entry.Same(entry.Entry{}, entry.Entry{Lines: []entry.Line{}}) {
		t.Error("no lines are not the same as no lines")
	}
}

func TestAmount(t *testing.T) {
	for _, x := range []struct {
		e     entry.Entry
		party int
		want  int
	}{
		{some(), 1, 50},
		{some(), 4, -20},
		{some(), 0, -30},
		{some(), 2, 0},
		{some(), -1, 0},
		{entry.Entry{}, 0, 0},
		{of(tag, 0, 0, -1, line(1, 2, 5), line(4, 2, 7), line(1, 2, 6)), 1, 11},
		{of(tag, 0, 0, -1, line(1, 2, 5), line(1, 2, -5)), 1, 0},
		// Cut to 64 bits.
		{of(tag, 0, 0, -1, line(1, 2, most), line(1, 2, 1)), 1, least},
		{of(tag, 0, 0, -1, line(1, 2, most), line(1, 2, most)), 1, -2},
		{of(tag, 0, 0, -1, line(1, 2, least), line(1, 2, least)), 1, 0},
		{of(tag, 0, 0, -1, line(1, 2, least), line(1, 2, -1)), 1, most},
		{of(tag, 0, 0, -1, line(1, 2, most), line(1, 2, most), line(1, 2, -most)), 1, most},
		// Of lines of any currency, and of parties that there are not.
		{of(tag, 0, 0, -1, line(1, 2, 5), line(1, 3, 6), line(1, 99, 7)), 1, 18},
		{of(tag, 0, 0, -1, line(99, 2, 5), line(-1, 2, 6), line(least, 2, 7)), 99, 5},
		{of(tag, 0, 0, -1, line(99, 2, 5), line(-1, 2, 6), line(least, 2, 7)), -1, 6},
		{of(tag, 0, 0, -1, line(99, 2, 5), line(-1, 2, 6), line(least, 2, 7)), least, 7},
	} {
		if n := x.e.Amount(x.party); n != x.want {
			t.Errorf("%v: Amount(%d): %d; want %d", x.e, x.party, n, x.want)
		}
		checkAmount(t, x.e, x.party)
	}
	for _, e := range odd() {
		for _, party := range append([]int{0, 1, 4, 15}, wrongParties...) {
			checkAmount(t, e, party)
		}
	}
}

func TestTotal(t *testing.T) {
	e, _ := entry.Flow(tag, -50, 1, 4)
	r, _ := entry.Reverse(e, 6)
	big, _ := entry.Flow(tag, most, 1, 4)
	back, _ := entry.Reverse(big, 7)
	wrapped := of(tag, 0, 0, -1, line(1, 2, most), line(1, 2, most), line(1, 2, 2))
	lowest := of(tag, 0, 0, -1, line(1, 2, least), line(4, 2, 1))
	for _, x := range []struct {
		l     []entry.Entry
		party int
		want  int
		wrong api.Errno
	}{
		{nil, 1, 0, api.OK},
		{[]entry.Entry{{}}, 0, 0, api.OK},
		{[]entry.Entry{e}, 1, -50, api.OK},
		{[]entry.Entry{e}, 4, 50, api.OK},
		{[]entry.Entry{e}, 2, 0, api.OK},
		{[]entry.Entry{e, r}, 1, 0, api.OK},
		{[]entry.Entry{e, r, e}, 1, -50, api.OK},
		{[]entry.Entry{some(), e, some()}, 1, 50, api.OK},
		{[]entry.Entry{big}, 1, most, api.OK},
		{[]entry.Entry{big, big}, 1, 0, api.ErrOver},
		{[]entry.Entry{big, big}, 4, 0, api.ErrOver},
		{[]entry.Entry{big, big}, 2, 0, api.OK},
		{[]entry.Entry{big, r}, 1, 0, api.ErrOver},
		{[]entry.Entry{big, big, back}, 1, most, api.OK},
		{[]entry.Entry{big, big, back, back, back}, 1, -most, api.OK},
		{[]entry.Entry{big, big, big, back, back, e}, 1, most - 50, api.OK},
		// What an entry comes to is not cut ahead of the sum.
		{[]entry.Entry{wrapped}, 1, 0, api.ErrOver},
		{[]entry.Entry{wrapped, back}, 1, 0, api.ErrOver},
		{[]entry.Entry{wrapped, back, back}, 1, 2, api.OK},
		{[]entry.Entry{lowest}, 1, least, api.OK},
		{[]entry.Entry{lowest, lowest}, 1, 0, api.ErrOver},
		{[]entry.Entry{lowest, e}, 1, 0, api.ErrOver},
		{[]entry.Entry{lowest, big}, 1, -1, api.OK},
	} {
		if n, wrong := entry.Total(tag, x.party, x.l...); n != x.want || wrong != x.wrong {
			t.Errorf("Total(%d, %v): %d, %d; want %d, %d", x.party, x.l, n, int(wrong), x.want, int(x.wrong))
		}
		checkTotal(t, tag, x.party, x.l...)
		slices.Reverse(x.l)
		checkTotal(t, tag, x.party, x.l...)
	}
}

// TestTotalOfTags: only entries of that tag count, also of one that may not be; all that they have counts but for it.
func TestTotalOfTags(t *testing.T) {
	l := append(changed(some()), odd()...)
	for _, e := range l {
		for _, party := range []int{0, 1, 4, -1, 99, most} {
			checkTotal(t, e.Tag, party, l...)
		}
	}
	for _, x := range []entry.Tag{{Contract: 4, Day: 9, Cur: 2}, {Contract: 3, Day: 8, Cur: 2}, {Contract: 3, Day: 9, Cur: 1}, {Contract: 64}, {Day: -1}, {Cur: 8}} {
		if n, wrong := entry.Total(x, 1, some(), some()); n != 0 || wrong != api.OK {
			t.Errorf("Total(%v): %d, %d", x, n, int(wrong))
		}
		e := some()
		e.Tag = x
		if n, wrong := entry.Total(x, 1, some(), e, some(), e); n != 100 || wrong != api.OK {
			t.Errorf("Total(%v): %d, %d", x, n, int(wrong))
		}
	}
	// Lines count whatever their currency is.
	if n, wrong := entry.Total(tag, 1, of(tag, 0, 0, -1, line(1, 2, 5), line(1, 3, 6))); n != 11 || wrong != api.OK {
		t.Error(n, int(wrong))
	}
}

// TestTotalOfMany: sums of some are far greater than fits.
func TestTotalOfMany(t *testing.T) {
	big, _ := entry.Flow(tag, most, 1, 4)
	back, _ := entry.Reverse(big, 0)
	var l []entry.Entry
	for range 3000 {
		l = append(l, big)
	}
	if wrong := checkTotal(t, tag, 1, l...); wrong != api.ErrOver {
		t.Error(int(wrong))
	}
	for range 2999 {
		l = append(l, back)
	}
	if wrong := checkTotal(t, tag, 1, l...); wrong != api.OK {
		t.Error(int(wrong))
	}
}

// P14.4

// TestFlowsMayBe: so may their reverses; both mirror one another, and come to nought for each party.
func TestFlowsMayBe(t *testing.T) {
	r := rand.New(rand.NewSource(4))
	for range 20000 {
		x, amount, holder, writer := drawTag(r), drawAmount(r), r.Intn(16), r.Intn(16)
		if holder == writer {
			continue
		}
		e, wrong := entry.Flow(x, amount, holder, writer)
		if wrong != api.OK || entry.Check(e) != api.OK {
			t.Fatal(x, amount, holder, writer, e, int(wrong))
		}
		back, wrong := entry.Reverse(e, r.Intn(100))
		if wrong != api.OK || entry.Check(back) != api.OK || !entry.Mirrors(e, back) || !entry.Mirrors(back, e) {
			t.Fatal(e, back, int(wrong))
		}
		for party := range 16 {
			if n, wrong := entry.Total(x, party, e, back); n != 0 || wrong != api.OK {
				t.Fatal(e, back, party, n, int(wrong))
			}
			if n := e.Amount(party) + back.Amount(party); n != 0 {
				t.Fatal(e, back, party, n)
			}
		}
	}
}

// What holds of all calls.

// TestDrawn holds all calls of drawn entries, that may be, or are spoilt once or more.
func TestDrawn(t *testing.T) {
	r := rand.New(rand.NewSource(1))
	found := map[api.Errno]int{}
	for range 20000 {
		e := drawEntry(r)
		for range one(r, 0, 1, 1, 2, 3) {
			if len(e.Lines) > 0 {
				e = spoil(r, e)
			}
		}
		found[checkCheck(t, e)]++
		checkReverse(t, e, one(r, 0, 5, most, -1))
		checkAmount(t, e, r.Intn(16))
		checkPair(t, e, e)
		m := mirrored(e)
		checkPair(t, e, m)
		if len(m.Lines) > 0 {
			checkPair(t, e, spoil(r, m))
		}
		if t.Failed() {
			return
		}
	}
	for _, wrong := range []api.Errno{api.OK, api.ErrRange, api.ErrArg, api.ErrZero, api.ErrOver, api.ErrUneven} {
		if found[wrong] < 100 {
			t.Errorf("error %d: drawn %d times", int(wrong), found[wrong])
		}
	}
}

func TestDrawnTotals(t *testing.T) {
	r := rand.New(rand.NewSource(2))
	found := map[api.Errno]int{}
	for range 5000 {
		var l []entry.Entry
		x := entry.Tag{Contract: r.Intn(2), Day: r.Intn(2), Cur: r.Intn(2)}
		for range r.Intn(12) {
			e := drawEntry(r)
			e.Tag = entry.Tag{Contract: one(r, x.Contract, x.Contract, r.Intn(2)), Day: one(r, x.Day, x.Day, r.Intn(2)), Cur: one(r, x.Cur, x.Cur, r.Intn(2))}
			for i := range e.Lines {
				e.Lines[i].Party = r.Intn(3)
				e.Lines[i].Amount = one(r, drawAmount(r), drawAmount(r), most, least)
			}
			l = append(l, e)
		}
		found[checkTotal(t, x, r.Intn(3), l...)]++
		if t.Failed() {
			return
		}
	}
	if found[api.OK] < 100 || found[api.ErrOver] < 100 {
		t.Error(found)
	}
}

// TestAnswersAreTheCallers: what is changed in them is not changed in what is answered later.
func TestAnswersAreTheCallers(t *testing.T) {
	a, _ := entry.Flow(tag, 5, 1, 4)
	b, _ := entry.Flow(tag, 5, 1, 4)
	_ = append(a.Lines[:0], line(9, 9, 9), line(9, 9, 9))
	if !same(b, of(tag, 0, 0, -1, line(1, 2, 5), line(4, 2, -5))) {
		t.Error(b)
	}
	r, _ := entry.Reverse(b, 3)
	s, _ := entry.Reverse(b, 3)
	_ = append(r.Lines[:0], line(9, 9, 9), line(9, 9, 9))
	if !same(s, of(tag, 0, 0, 3, line(1, 2, -5), line(4, 2, 5))) || !same(b, of(tag, 0, 0, -1, line(1, 2, 5), line(4, 2, -5))) {
		t.Error(b, s)
	}
}
