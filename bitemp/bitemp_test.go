package bitemp_test

import (
	"math/rand"
	"slices"
	"testing"

	"chattel/api"
	"chattel/bitemp"
	"chattel/facts"
)

// some is a store with versions of both kinds, some known anew, some of one Seq.
func some(t *testing.T) *store {
	t.Helper()
	return of(t,
		fixing(2, 1, 5, ratio(3)), fixing(2, 1, 6, ratio(8)), choice(2, 1, 5, 1),
		fixing(4, 1, 5, ratio(-7)), choice(5, 1, 5, 2), fixing(5, 2, 5, api.Ratio{Num: -1, Den: 3}),
		choice(5, 2, 0, 2), fixing(9, 1, 5, ratio(3)), choice(9, 1, 5, 1), fixing(9, 1, 73048, ratio(0)))
}

// P12.1

func TestNewIsWithoutVersions(t *testing.T) {
	p := newStore()
	if p.s == nil {
		t.Fatal("nil")
	}
	p.check(t)
	p.put(t, fixing(1, 0, 5, ratio(3)))
	newStore().check(t)
}

func TestWhatMayBe(t *testing.T) {
	p := newStore()
	seq := 0
	for _, key := range []int{0, 1, 62, 63} {
		for _, day := range []int{0, 1, 255, 256, 65536, 73047, 73048} {
			for _, value := range []api.Ratio{ratio(0), {Num: -7, Den: 3}, ratio(most), {Num: -most, Den: most - 1}, {Num: 1, Den: most}} {
				seq++
				if e := p.put(t, fixing(seq, key, day, value)); e != api.OK {
					t.Errorf("Fix of %d, %d, %v: %d", key, day, value, int(e))
				}
			}
			for _, pick := range []int{1, 2, 2, 1} {
				seq++
				if e := p.put(t, choice(seq, key, day, pick)); e != api.OK {
					t.Errorf("Choose of %d, %d, %d: %d", key, day, pick, int(e))
				}
			}
			p.checkPlace(t, false, key, day, seq)
			p.checkPlace(t, true, key, day, seq)
		}
	}
	p.checkAll(t)
	p.checkAsOf(t, seq)
	p.checkAsOf(t, seq/2)
}

// TestTheSameAnew: also what was known already is a version, if it is told by another Seq.
func TestTheSameAnew(t *testing.T) {
	p := of(t, fixing(1, 0, 5, ratio(3)), fixing(2, 0, 5, ratio(3)), choice(2, 0, 5, 1), choice(7, 0, 5, 1))
	p.check(t)
	if n := p.s.Len(); n != 4 {
		t.Error(n)
	}
}

// TestOldOnes: what comes of a put is the latest version of that kind, key and day, whatever came between.
func TestOldOnes(t *testing.T) {
	p := some(t)
	for i, x := range []bitemp.Version{fixing(9, 1, 6, ratio(1)), choice(9, 2, 0, 1), fixing(9, 2, 0, ratio(1)), fixing(10, 1, 5, ratio(1)), choice(10, 1, 5, 2), fixing(10, 3, 5, ratio(1)), choice(10, 1, 6, 1), fixing(11, 1, 5, ratio(2))} {
		if e := p.put(t, x); e != api.OK {
			t.Errorf("%d: %d", i, int(e))
		}
	}
	old, is, e := p.s.Fix(12, facts.Fixing{Key: 1, Day: 5, Value: ratio(4)})
	if old != fixing(11, 1, 5, ratio(2)) || !is || e != api.OK {
		t.Error(old, is, int(e))
	}
	old, is, e = p.s.Choose(12, facts.Choice{Key: 1, Day: 5, Pick: 1})
	if old != choice(10, 1, 5, 2) || !is || e != api.OK {
		t.Error(old, is, int(e))
	}
}

func TestSeqsNeverFall(t *testing.T) {
	for seq := -3; seq <= 12; seq++ {
		for _, x := range []bitemp.Version{fixing(seq, 1, 5, ratio(1)), fixing(seq, 1, 7, ratio(1)), fixing(seq, 3, 5, ratio(1)), choice(seq, 1, 5, 1), choice(seq, 1, 6, 2)} {
			p := some(t)
			p.put(t, x)
			p.check(t)
			p = newStore()
			p.put(t, x)
			p.check(t)
		}
	}
}

func TestFirstSeqs(t *testing.T) {
	for _, seq := range []int{least, -1 << 32, -2, -1, 0} {
		p := newStore()
		if e := p.put(t, fixing(seq, 0, 5, ratio(3))); e != api.ErrState {
			t.Errorf("Fix by %d: %d", seq, int(e))
		}
		if e := p.put(t, choice(seq, 0, 5, 1)); e != api.ErrState {
			t.Errorf("Choose by %d: %d", seq, int(e))
		}
		p.check(t)
	}
	for _, seq := range []int{1, 2, 255, 256, 1 << 32, most - 1, most} {
		p := newStore()
		if e := p.put(t, fixing(seq, 0, 5, ratio(3))); e != api.OK {
			t.Errorf("Fix by %d: %d", seq, int(e))
		}
		if e := p.put(t, choice(seq, 0, 5, 1)); e != api.OK {
			t.Errorf("Choose by %d: %d", seq, int(e))
		}
		p.check(t)
	}
}

// TestThere: of one Seq there is one version of a kind, key and day, also if others came between, or it is told the same.
func TestThere(t *testing.T) {
	p := of(t, fixing(3, 1, 5, ratio(3)), fixing(3, 1, 6, ratio(3)), fixing(3, 2, 5, ratio(3)), choice(3, 1, 5, 1), choice(3, 2, 6, 1))
	for _, value := range []int{3, 4} {
		for _, x := range []bitemp.Version{fixing(3, 1, 5, ratio(value)), fixing(3, 1, 6, ratio(value)), fixing(3, 2, 5, ratio(value)), choice(3, 1, 5, value-2), choice(3, 2, 6, value-2)} {
			if e := p.put(t, x); e != api.ErrThere {
				t.Errorf("%v: %d", x, int(e))
			}
			p.check(t)
		}
	}
	for _, x := range []bitemp.Version{fixing(3, 2, 6, ratio(3)), choice(3, 1, 6, 2), choice(3, 2, 5, 2)} {
		if e := p.put(t, x); e != api.OK {
			t.Errorf("%v: %d", x, int(e))
		}
	}
	p.check(t)
}

// TestErrorsOfFacts: they are facts' own, and come ahead of those of Seqs.
func TestErrorsOfFacts(t *testing.T) {
	p := some(t)
	try := func(x bitemp.Version) {
		t.Helper()
		var want api.Errno
		if x.Choice {
			want = facts.New().Choose(facts.Choice{Key: x.Key, Day: x.Day, Pick: x.Pick})
		} else {
			want = facts.New().Fix(facts.Fixing{Key: x.Key, Day: x.Day, Value: x.Value})
		}
		if e := p.put(t, x); want == api.OK || e != want {
			t.Errorf("%v: %d; want %d", x, int(e), int(want))
		}
	}
	for _, seq := range []int{least, 0, 1, 8, 9, 10, most} {
		for _, key := range wrongKeys {
			try(fixing(seq, key, 5, ratio(1)))
			try(choice(seq, key, 5, 1))
			try(fixing(seq, key, -1, api.Ratio{}))
			try(choice(seq, key, -1, 3))
		}
		for _, day := range wrongDays {
			try(fixing(seq, 1, day, ratio(1)))
			try(choice(seq, 1, day, 1))
			try(fixing(seq, 1, day, api.Ratio{}))
			try(choice(seq, 1, day, 3))
		}
		for _, value := range wrongValues {
			try(fixing(seq, 1, 5, value))
			try(fixing(seq, 40, 40, value))
		}
		for _, pick := range wrongPicks {
			try(choice(seq, 1, 5, pick))
			try(choice(seq, 40, 40, pick))
		}
	}
	p.check(t)
}

// TestErrStateIsAheadOfErrThere: a Seq of long ago may not be, also where it is there.
func TestErrStateIsAheadOfErrThere(t *testing.T) {
	p := some(t)
	for _, x := range p.m[:7] {
		if e := p.put(t, x); e != api.ErrState {
			t.Errorf("%v: %d", x, int(e))
		}
	}
	p.check(t)
}

func TestNilIsNotTold(t *testing.T) {
	var s *bitemp.Store
	for _, x := range []bitemp.Version{fixing(1, 0, 5, ratio(3)), choice(1, 0, 5, 1), fixing(0, 0, 5, ratio(3)), choice(-1, 0, 5, 1), fixing(1, 64, 5, ratio(3)), choice(1, 0, 73049, 1), fixing(1, 0, 0, api.Ratio{}), choice(1, 0, 0, 3)} {
		if old, is, e := tell(s, x); old != (bitemp.Version{}) || is || e != api.ErrNil {
			t.Errorf("%v: %v, %v, %d", x, old, is, int(e))
		}
	}
}

// P12.2

func TestTheExample(t *testing.T) {
	p := of(t, fixing(1, 0, 5, ratio(3)), fixing(4, 0, 5, ratio(7)))
	if x, is := p.s.Latest(false, 0, 5, 3); x != fixing(1, 0, 5, ratio(3)) || !is {
		t.Error(x, is)
	}
	if x, is := p.s.Latest(false, 0, 5, 4); x != fixing(4, 0, 5, ratio(7)) || !is {
		t.Error(x, is)
	}
	p.check(t)
}

func TestAllIsTold(t *testing.T) {
	some(t).check(t)
}

// TestLongHistory: as of each Seq of many, at one place and beside others.
func TestLongHistory(t *testing.T) {
	p := newStore()
	for i := range 60 {
		p.put(t, fixing(3*i+1, 7, 9, ratio(i)))
		p.put(t, choice(3*i+2, 7, 9, 1+i%2))
		p.put(t, fixing(3*i+2, 7, 10+i%3, ratio(-i)))
	}
	p.check(t)
}

func TestOfWhatIsNotThere(t *testing.T) {
	p := some(t)
	for _, choice := range []bool{false, true} {
		for _, key := range append([]int{0, 1, 2, 63}, wrongKeys...) {
			for _, day := range append([]int{0, 4, 7, 73047}, wrongDays...) {
				p.checkPlace(t, choice, key, day, most)
			}
			p.checkDays(t, choice, key, least, most, most)
		}
	}
}

func TestDaysFromTo(t *testing.T) {
	p := of(t, fixing(1, 3, 0, ratio(1)), fixing(1, 3, 5, ratio(2)), fixing(1, 3, 6, ratio(3)), choice(1, 3, 5, 1), choice(1, 3, 4, 2), fixing(1, 4, 5, ratio(4)), fixing(1, 2, 6, ratio(4)), fixing(2, 3, 9, ratio(5)), fixing(2, 3, 5, ratio(6)), fixing(3, 3, 7, ratio(7)), fixing(3, 3, 73048, ratio(8)))
	ends := []int{least, -1 << 32, -1, 0, 1, 4, 5, 6, 7, 8, 9, 10, 73047, 73048, 73049, 1 << 32, most}
	for _, choice := range []bool{false, true} {
		for _, from := range ends {
			for _, to := range ends {
				for _, seq := range []int{least, 0, 1, 2, 3, most} {
					p.checkDays(t, choice, 3, from, to, seq)
				}
			}
		}
	}
}

// TestDaysRise: in whatever order they were told.
func TestDaysRise(t *testing.T) {
	p := newStore()
	for i := range 300 {
		p.put(t, fixing(1+i/100, 3, (i*7919)%73049, ratio(i)))
		p.put(t, choice(1+i/100, 3, (i*104729)%73049, 1+i%2))
	}
	for _, choice := range []bool{false, true} {
		for seq := range 5 {
			p.checkDays(t, choice, 3, 0, 73048, seq)
			p.checkDays(t, choice, 3, 20000, 50000, seq)
		}
	}
}

// TestAsItWasAsked: what is put later does not count for what was asked for.
func TestAsItWasAsked(t *testing.T) {
	// Once with as many versions ahead as there may be room for behind, however a list grows.
	for n := range 20 {
		p := newStore()
		for i := range n {
			p.put(t, fixing(i+1, 0, 5, ratio(i)))
		}
		all, history, days, f := p.s.All(), p.s.History(false, 0, 5), p.s.Days(false, 0, 0, 73048, most), p.s.AsOf(most)
		m := slices.Clone(p.m)
		c := p.copy()
		for i := range 20 {
			p.put(t, fixing(100+i, 0, 5, ratio(-i)))
			p.put(t, fixing(100+i, 0, i%5, ratio(-i)))
			c.put(t, fixing(200+i, 0, 5, ratio(-i)))
		}
		for range 2 {
			if l := slices.Collect(all); !slices.Equal(l, m) {
				t.Errorf("All: %v; want %v", l, m)
			}
			if l := slices.Collect(history); !slices.Equal(l, m) {
				t.Errorf("History: %v; want %v", l, m)
			}
			if l, want := slices.Collect(days), m.days(false, 0, 0, 73048, most); !slices.Equal(l, want) {
				t.Errorf("Days: %v; want %v", l, want)
			}
			if l, want := known(f), m.asOf(most); !slices.Equal(l, want) {
				t.Errorf("AsOf: %v; want %v", l, want)
			}
		}
		p.checkAll(t)
		c.checkAll(t)
	}
}

// TestIteratorsAreLeft: each may be left early, and gone through again.
func TestIteratorsAreLeft(t *testing.T) {
	p := some(t)
	for name, it := range map[string]func(func(bitemp.Version) bool){"All": p.s.All(), "History": p.s.History(false, 1, 5), "Days": p.s.Days(false, 1, 0, 73048, most)} {
		want := slices.Collect(it)
		if len(want) < 3 {
			t.Fatalf("%s: %v", name, want)
		}
		for n := range len(want) + 1 {
			var l []bitemp.Version
			for x := range it {
				if len(l) == n {
					break
				}
				l = append(l, x)
			}
			if !slices.Equal(l, want[:n]) {
				t.Errorf("%s, the first %d: %v; want %v", name, n, l, want[:n])
			}
		}
	}
}

// TestPutOnTheWay: what is put while versions come does not count.
func TestPutOnTheWay(t *testing.T) {
	p := some(t)
	want := slices.Clone(p.m)
	var l []bitemp.Version
	for x := range p.s.All() {
		l = append(l, x)
		p.put(t, fixing(p.m.seq()+1, 1, 5, ratio(1)))
	}
	if !slices.Equal(l, want) {
		t.Errorf("%v; want %v", l, want)
	}
	days := 0
	for x := range p.s.Days(false, 1, 0, 73048, most) {
		days++
		p.put(t, fixing(p.m.seq()+1, 1, x.Day+1-2*(x.Day/73048), ratio(1)))
	}
	if days != 3 {
		t.Error(days)
	}
	p.check(t)
}

// TestFactsAreTheCallers: what is told of facts that were answered does not count for the store, nor for other ones.
func TestFactsAreTheCallers(t *testing.T) {
	p := some(t)
	for _, seq := range []int{0, 2, 9, most} {
		f := p.s.AsOf(seq)
		f.Fix(facts.Fixing{Key: 1, Day: 5, Value: ratio(99)})
		f.Choose(facts.Choice{Key: 30, Day: 5, Pick: 2})
		p.checkAsOf(t, seq)
	}
	p.check(t)
}

// P12.3

func TestBytes(t *testing.T) {
	p := of(t, fixing(0x0102030405060708, 63, 0x10203, api.Ratio{Num: -2, Den: 0x1112131415161719}), choice(most, 9, 73048, 2))
	want := []byte{
		1, 2, 3, 4, 5, 6, 7, 8, 0, 63, 0, 1, 2, 3, 255, 255, 255, 255, 255, 255, 255, 254, 0x11, 0x12, 0x13, 0x14, 0x15, 0x16, 0x17, 0x19, 0,
		127, 255, 255, 255, 255, 255, 255, 255, 1, 9, 0, 1, 29, 88, 0, 0, 0, 0, 0, 0, 0, 0, 0, 0, 0, 0, 0, 0, 0, 0, 2,
	}
	if b := p.s.Encode(); !slices.Equal(b, want) {
		t.Errorf("%v; want %v", b, want)
	}
	checkDecode(t, want)
}

func TestBytesOfNone(t *testing.T) {
	if bitemp.Size != 31 {
		t.Error(bitemp.Size)
	}
	if b := bitemp.New().Encode(); len(b) != 0 {
		t.Error(b)
	}
	checkDecode(t, nil)
	checkDecode(t, []byte{})
}

// checkDecode holds Decode, and what it answers; its error.
func checkDecode(t *testing.T, b []byte) api.Errno {
	t.Helper()
	kept := slices.Clone(b)
	s, e := bitemp.Decode(b)
	m, want := decode(b)
	if e != want || (s != nil) != (want == api.OK) {
		t.Fatalf("Decode(%v): %v, %d; want %d", b, s, int(e), int(want))
	}
	if !slices.Equal(b, kept) {
		t.Errorf("Decode(%v): they are %v behind it", kept, b)
	}
	if e == api.OK {
		(&store{s: s, m: m}).checkAll(t)
	}
	return e
}

func TestDecodeOfAllLengths(t *testing.T) {
	b := some(t).s.Encode()
	for n := range len(b) + 1 {
		want := api.ErrForm
		if n%31 == 0 {
			want = api.OK
		}
		if e := checkDecode(t, b[:n:n]); e != want {
			t.Errorf("%d bytes: %d", n, int(e))
		}
	}
	for n := range 40 {
		checkDecode(t, make([]byte, n))
	}
}

// TestDecodeOfAllBytes: each byte of some versions is each that there is.
func TestDecodeOfAllBytes(t *testing.T) {
	b := of(t, fixing(258, 1, 257, api.Ratio{Num: -5, Den: 3}), choice(258, 2, 65536, 1), fixing(259, 1, 257, ratio(0)), choice(1<<20, 2, 5, 2)).s.Encode()
	count := map[api.Errno]int{}
	for i := range b {
		for x := range 256 {
			c := slices.Clone(b)
			c[i] = byte(x)
			count[checkDecode(t, c)]++
		}
	}
	for _, e := range []api.Errno{api.OK, api.ErrForm, api.ErrState, api.ErrRange, api.ErrDay, api.ErrZero} {
		if count[e] == 0 {
			t.Errorf("none is %d", int(e))
		}
	}
}

// TestDecodeOfWhatMayNotBe: of the first version that has an error it is the first one that is named.
func TestDecodeOfWhatMayNotBe(t *testing.T) {
	right := bytes(fixing(5, 1, 5, ratio(3)))
	with := func(x bitemp.Version, at int, to byte) []byte {
		b := bytes(x)
		if at >= 0 {
			b[at] = to
		}
		return b
	}
	wrong := []struct {
		b []byte
		e api.Errno
	}{
		{with(fixing(5, 1, 6, ratio(3)), 8, 2), api.ErrForm},
		{with(choice(5, 1, 6, 1), 8, 255), api.ErrForm},
		{with(fixing(5, 1, 6, ratio(3)), 30, 1), api.ErrForm},
		{with(choice(5, 1, 6, 1), 14, 128), api.ErrForm},
		{with(choice(5, 1, 6, 1), 21, 1), api.ErrForm},
		{with(choice(5, 1, 6, 1), 22, 128), api.ErrForm},
		{with(choice(5, 1, 6, 1), 29, 1), api.ErrForm},
		{with(fixing(4, 64, 73049, api.Ratio{}), 30, 3), api.ErrForm},
		{with(choice(4, 64, 73049, 3), 29, 1), api.ErrForm},
		{with(fixing(4, 64, 73049, api.Ratio{}), -1, 0), api.ErrRange},
		{with(choice(4, 255, 73049, 1), -1, 0), api.ErrRange},
		{with(choice(4, 1, 73049, 3), -1, 0), api.ErrRange},
		{with(choice(4, 1, 73049, 0), -1, 0), api.ErrRange},
		{with(fixing(4, 1, 73049, api.Ratio{}), -1, 0), api.ErrDay},
		{with(fixing(4, 1, 5, ratio(1)), 10, 255), api.ErrDay},
		{with(choice(4, 1, 1<<32-1, 2), -1, 0), api.ErrDay},
		{with(fixing(4, 1, 5, api.Ratio{}), -1, 0), api.ErrZero},
		{with(fixing(4, 1, 5, api.Ratio{Num: 2, Den: 4}), -1, 0), api.ErrForm},
		{with(fixing(4, 1, 5, api.Ratio{Num: 1, Den: -3}), -1, 0), api.ErrForm},
		{with(fixing(4, 1, 5, ratio(least)), -1, 0), api.ErrForm},
		{with(fixing(4, 1, 5, ratio(1)), -1, 0), api.ErrState},
		{with(choice(0, 1, 5, 1), -1, 0), api.ErrState},
		{with(fixing(-1, 1, 5, ratio(1)), -1, 0), api.ErrState},
		{with(fixing(least, 1, 6, ratio(1)), -1, 0), api.ErrState},
		{with(fixing(5, 1, 5, ratio(1)), -1, 0), api.ErrThere},
		{right, api.ErrThere},
	}
	for i, x := range wrong {
		for j, y := range wrong {
			if e := checkDecode(t, slices.Concat(right, x.b, y.b)); e != x.e {
				t.Errorf("%d, %d: %d; want %d", i, j, int(e), int(x.e))
			}
		}
		if e := checkDecode(t, slices.Concat(right, x.b, right[:30])); e != api.ErrForm {
			t.Errorf("%d, and bytes too few: %d", i, int(e))
		}
	}
	// Another place may have that Seq.
	if e := checkDecode(t, slices.Concat(right, bytes(choice(5, 1, 5, 1)), bytes(fixing(5, 1, 6, ratio(3))))); e != api.OK {
		t.Error(int(e))
	}
}

// TestBytesAreTheCallers: neither what is handed in nor what is answered is kept.
func TestBytesAreTheCallers(t *testing.T) {
	p := some(t)
	b := p.s.Encode()
	long := slices.Concat(b, []byte{1, 2, 3})
	s, e := bitemp.Decode(long[:len(b)])
	if e != api.OK || !slices.Equal(long, slices.Concat(b, []byte{1, 2, 3})) {
		t.Fatal(int(e), long)
	}
	c := &store{s: s, m: slices.Clone(p.m)}
	c.put(t, fixing(20, 1, 5, ratio(1)))
	if !slices.Equal(long[len(b):], []byte{1, 2, 3}) {
		t.Error(long)
	}
	clear(b)
	clear(long)
	p.check(t)
	c.check(t)
}

func TestCopiesAreApart(t *testing.T) {
	for n := range 20 {
		p := newStore()
		for i := range n {
			p.put(t, fixing(i+1, 0, 5, ratio(i)))
		}
		c := p.copy()
		d := c.copy()
		for i := range 5 {
			p.put(t, fixing(100+i, 0, 5, ratio(1)))
			c.put(t, fixing(200+i, 0, 5, ratio(2)))
			d.put(t, choice(300+i, 0, 5, 2))
			p.put(t, choice(300+i, 0, 6, 1))
			d.put(t, fixing(400+i, 0, 5, ratio(3)))
		}
		p.check(t)
		c.check(t)
		d.check(t)
	}
}

func TestNilTellsNothing(t *testing.T) {
	var s *bitemp.Store
	for _, choice := range []bool{false, true} {
		if x, is := s.Latest(choice, 0, 5, most); x != (bitemp.Version{}) || is {
			t.Error(x, is)
		}
		history, days := s.History(choice, 0, 5), s.Days(choice, 0, least, most, most)
		if history == nil || days == nil {
			t.Fatal("a nil function")
		}
		if l := slices.Concat(slices.Collect(history), slices.Collect(days)); len(l) != 0 {
			t.Error(l)
		}
	}
	all := s.All()
	if all == nil {
		t.Fatal("a nil function")
	}
	if l := slices.Collect(all); len(l) != 0 {
		t.Error(l)
	}
	for _, seq := range []int{least, 0, 1, most} {
		if f := s.AsOf(seq); f != nil {
			t.Error(f)
		}
	}
	if s.Len() != 0 || s.Seq() != 0 || s.Encode() != nil || s.Copy() != nil {
		t.Error(s.Len(), s.Seq(), s.Encode(), s.Copy())
	}
}

// P12.4

// TestDrawn draws versions for stores and their copies, and holds all that they tell, and told.
func TestDrawn(t *testing.T) {
	r := rand.New(rand.NewSource(12))
	for range 60 {
		all := []*store{newStore()}
		for range 40 {
			p := all[r.Intn(len(all))]
			if len(all) < 4 && r.Intn(12) == 0 {
				all = append(all, p.copy())
			}
			p.put(t, p.m.draw(r))
		}
		for _, p := range all {
			p.check(t)
			checkDecode(t, p.s.Encode())
		}
		if t.Failed() {
			return
		}
	}
}

// asked is what a store answered as of a Seq, once.
type asked struct {
	seq   int
	facts []bitemp.Version
	days  [][]bitemp.Version
}

// ask asks for all that was known as of a Seq.
func (p *store) ask(seq int) asked {
	a := asked{seq: seq, facts: known(p.s.AsOf(seq))}
	for _, key := range []int{0, 1, 63} {
		a.days = append(a.days, slices.Collect(p.s.Days(false, key, 0, 73048, seq)), slices.Collect(p.s.Days(true, key, 0, 73048, seq)))
	}
	return a
}

// TestWhatWasKnownNeverChanges: by whatever comes with a greater Seq.
func TestWhatWasKnownNeverChanges(t *testing.T) {
	r := rand.New(rand.NewSource(13))
	for range 30 {
		p := newStore()
		var before []asked
		for range 60 {
			x, then := p.m.draw(r), p.ask(p.m.seq())
			if e := p.put(t, x); e == api.OK && x.Seq > then.seq {
				before = append(before, then)
			}
		}
		for _, want := range before {
			got := p.ask(want.seq)
			if !slices.Equal(got.facts, want.facts) || !slices.EqualFunc(got.days, want.days, slices.Equal[[]bitemp.Version]) {
				t.Fatalf("as of %d: %v; it was %v", want.seq, got, want)
			}
		}
	}
}

// TestDecodedGoesOn: a store that is decoded is the one that was encoded, also in what may come next.
func TestDecodedGoesOn(t *testing.T) {
	r := rand.New(rand.NewSource(14))
	for range 60 {
		p := newStore()
		for range r.Intn(30) {
			p.put(t, p.m.draw(r))
		}
		s, e := bitemp.Decode(p.s.Encode())
		if e != api.OK {
			t.Fatal(int(e))
		}
		c := &store{s: s, m: slices.Clone(p.m)}
		c.check(t)
		for range 10 {
			c.put(t, c.m.draw(r))
		}
		c.check(t)
		p.checkAll(t)
	}
}

// TestSpoilt: bytes that are spoilt are decoded as they are, and encoded so again, or not at all.
func TestSpoilt(t *testing.T) {
	r := rand.New(rand.NewSource(15))
	for range 3000 {
		var m model
		for range 4 {
			m.put(m.draw(r))
		}
		b := m.encode()
		for range 1 + r.Intn(2) {
			if len(b) > 0 {
				b[r.Intn(len(b))] = one(r, 0, 1, 2, 255, byte(r.Intn(256)))
			}
		}
		if checkDecode(t, b) == api.OK {
			if s, _ := bitemp.Decode(b); !slices.Equal(s.Encode(), b) {
				t.Errorf("%v; want %v", s.Encode(), b)
			}
		}
	}
}

// TestMany: what is asked for of many versions is told at once.
func TestMany(t *testing.T) {
	const n = 100000
	s := bitemp.New()
	for i := range n {
		if _, is, e := s.Fix(i+1, facts.Fixing{Key: i % 2, Day: 5, Value: ratio(i)}); is != (i > 1) || e != api.OK {
			t.Fatal(i, is, int(e))
		}
	}
	for seq := 2; seq <= n; seq++ {
		for key := range 2 {
			// The version of the number i has the Seq i + 1, and the key i % 2.
			i := seq - 1 - (seq-1+key)%2
			if x, is := s.Latest(false, key, 5, seq); x != fixing(i+1, key, 5, ratio(i)) || !is {
				t.Fatal(seq, key, x, is)
			}
		}
	}
	d, e := bitemp.Decode(s.Encode())
	if e != api.OK || d.Len() != n || d.Seq() != n {
		t.Error(int(e), d.Len(), d.Seq())
	}
}
