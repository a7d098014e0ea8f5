package value_test

import (
	"maps"
	"math/rand"
	"slices"
	"testing"

	"chattel/api"
	"chattel/facts"
	"chattel/term"
	"chattel/value"
)

// is is a value that is known.
func is(n, d int) value.Value {
	return value.Value{Is: true, Ratio: api.Ratio{Num: n, Den: d}}
}

// unknown is one that is not.
var unknown = value.Value{}

// some are facts of few keys at the day 10: 3 is 2, 4 is -1/3, 5 is 2; 6 is known at other days alone.
func some() model {
	return model{
		{3, 10}: {Num: 2, Den: 1}, {4, 10}: {Num: -1, Den: 3}, {5, 10}: {Num: 2, Den: 1},
		{6, 9}: {Num: 1, Den: 1}, {6, 11}: {Num: 1, Den: 1}, {3, 9}: {Num: 77, Den: 1},
	}
}

// over is a number that does not fit.
func over() []api.Node { return join(op(api.Plus), nodes(num(most, 1), num(1, 1))) }

// P8.1

func TestExample(t *testing.T) {
	f := facts.New()
	f.Fix(facts.Fixing{Key: 3, Day: 10, Value: api.Ratio{Num: 2, Den: 1}})
	c := join(op(api.Plus), nodes(fix(3), num(1, 2)))
	if v, e := value.At(c, 0, 10, f); v != is(5, 2) || e != api.OK {
		t.Error(v, e)
	}
	if v, e := value.At(c, 0, 11, f); v != unknown || e != api.OK {
		t.Error(v, e)
	}
}

func TestEachOp(t *testing.T) {
	f := some().facts(t)
	for _, c := range []struct {
		t    []api.Node
		want value.Value
	}{
		{nodes(num(7, 3)), is(7, 3)},
		{nodes(num(0, 1)), is(0, 1)},
		{nodes(num(-most, 1)), is(-most, 1)},
		{nodes(num(1, most)), is(1, most)},
		{nodes(fix(3)), is(2, 1)},
		{nodes(fix(4)), is(-1, 3)},
		{nodes(fix(6)), unknown},
		{nodes(fix(0)), unknown},
		{nodes(fix(63)), unknown},
		{join(op(api.Neg), nodes(fix(4))), is(1, 3)},
		{join(op(api.Neg), nodes(num(0, 1))), is(0, 1)},
		{join(op(api.Neg), nodes(num(most, 1))), is(-most, 1)},
		{join(op(api.Neg), nodes(num(-most, 1))), is(most, 1)},
		{join(op(api.Neg), op(api.Neg), nodes(fix(3))), is(2, 1)},
		{join(op(api.Neg), nodes(fix(6))), unknown},
		{join(op(api.Plus), nodes(fix(3), fix(4))), is(5, 3)},
		{join(op(api.Minus), nodes(fix(3), fix(4))), is(7, 3)},
		{join(op(api.Minus), nodes(fix(4), fix(3))), is(-7, 3)},
		{join(op(api.Times), nodes(fix(3), fix(4))), is(-2, 3)},
		{join(op(api.Least), nodes(fix(3), fix(4))), is(-1, 3)},
		{join(op(api.Least), nodes(fix(4), fix(3))), is(-1, 3)},
		{join(op(api.Least), nodes(fix(3), fix(5))), is(2, 1)},
		{join(op(api.Most), nodes(fix(3), fix(4))), is(2, 1)},
		{join(op(api.Most), nodes(fix(4), fix(3))), is(2, 1)},
		{join(op(api.Most), nodes(fix(3), fix(5))), is(2, 1)},
		{join(op(api.Least), nodes(num(most, most-1), num(most-1, most-2))), is(most, most-1)},
		{join(op(api.Most), nodes(num(most, most-1), num(most-1, most-2))), is(most-1, most-2)},
		{join(op(api.Plus), nodes(num(most-1, 1), num(1, 1))), is(most, 1)},
		{join(op(api.Minus), nodes(num(1-most, 1), num(1, 1))), is(-most, 1)},
		{join(op(api.Times), nodes(num(most, 2), num(2, most))), is(1, 1)},
		// What is first, and what is second, at more than one height.
		{join(op(api.Minus), op(api.Minus), nodes(num(1, 1), num(2, 1), num(4, 1))), is(-5, 1)},
		{join(op(api.Minus), nodes(num(1, 1)), op(api.Minus), nodes(num(2, 1), num(4, 1))), is(3, 1)},
	} {
		if v, e := value.At(c.t, 0, 10, f); v != c.want || e != api.OK {
			t.Errorf("At(%v): %v, %v; want %v", c.t, v, e, c.want)
		}
	}
}

// TestOfTwoEdges: all ops of all two of the ratios about the bounds, told by numbers and by fixings.
func TestOfTwoEdges(t *testing.T) {
	for _, o := range ofTwo() {
		for _, a := range edges() {
			for _, b := range edges() {
				checkAt(t, join(op(o), nodes(num(a.Num, a.Den), num(b.Num, b.Den))), 0, 5, nil)
				checkAt(t, join(op(o), nodes(fix(0), fix(63))), 0, 5, model{{0, 5}: a, {63, 5}: b})
			}
		}
	}
}

// TestNotKnown: what hangs on a value that is not known is not known, also if that one would not count in numbers.
func TestNotKnown(t *testing.T) {
	f := some().facts(t)
	for _, o := range ofTwo() {
		for _, c := range [][]api.Node{
			join(op(o), nodes(fix(6), fix(3))),
			join(op(o), nodes(fix(3), fix(6))),
			join(op(o), nodes(fix(6), fix(6))),
			join(op(o), nodes(fix(6), num(0, 1))),
			join(op(o), nodes(num(0, 1), fix(6))),
			join(op(o), op(api.Neg), nodes(fix(6), num(most, 1))),
			join(op(o), nodes(num(-most, 1)), op(o), nodes(num(1, 1), fix(6))),
			join(op(o), op(o), nodes(fix(6), num(1, 1)), op(o), nodes(num(1, 1), num(1, 1))),
		} {
			if v, e := value.At(c, 0, 10, f); v != unknown || e != api.OK {
				t.Errorf("At(%v): %v, %v", c, v, e)
			}
		}
	}
}

// TestNoOtherFactsCount: choices, other keys and other days are no fixings of the key at the day.
func TestNoOtherFactsCount(t *testing.T) {
	f := facts.New()
	f.Choose(facts.Choice{Key: 3, Day: 10, Pick: 1})
	for _, at := range []place{{2, 10}, {4, 10}, {10, 3}, {3, 9}, {3, 11}, {3, 0}, {3, 73048}} {
		f.Fix(facts.Fixing{Key: at.key, Day: at.day, Value: api.Ratio{Num: 5, Den: 1}})
	}
	if v, e := value.At(nodes(fix(3)), 0, 10, f); v != unknown || e != api.OK {
		t.Error(v, e)
	}
}

func TestNilFacts(t *testing.T) {
	for _, f := range []*facts.Facts{nil, facts.New()} {
		if v, e := value.At(nodes(fix(3)), 0, 10, f); v != unknown || e != api.OK {
			t.Error(v, e)
		}
		if v, e := value.At(nodes(num(3, 2)), 0, 10, f); v != is(3, 2) || e != api.OK {
			t.Error(v, e)
		}
		if v, e := value.At(over(), 0, 10, f); v != unknown || e != api.ErrOver {
			t.Error(v, e)
		}
	}
}

// TestAnewFixing: a fixing that is told anew counts in place of the other one.
func TestAnewFixing(t *testing.T) {
	f := some().facts(t)
	c := join(op(api.Neg), nodes(fix(3)))
	for n := 3; n < 6; n++ {
		f.Fix(facts.Fixing{Key: 3, Day: 10, Value: api.Ratio{Num: n, Den: 1}})
		if v, e := value.At(c, 0, 10, f); v != is(-n, 1) || e != api.OK {
			t.Error(n, v, e)
		}
	}
}

// TestOver: what does not fit counts wherever it stands in the number, though what is beside it is not known, or would undo it.
func TestOver(t *testing.T) {
	f := some().facts(t)
	small := join(op(api.Times), nodes(num(1, most), num(1, 2)))
	for _, c := range [][]api.Node{
		over(),
		small,
		join(op(api.Minus), nodes(num(-most, 1), num(1, 1))),
		join(op(api.Times), nodes(num(most, 1), num(2, 1))),
		join(op(api.Plus), nodes(num(1, most), num(1, most-1))),
		join(op(api.Plus), nodes(num(most, 1), fix(3))),
		join(op(api.Neg), over()),
		join(op(api.Minus), over(), nodes(num(1, 1))),
		join(op(api.Times), over(), nodes(num(0, 1))),
		join(op(api.Times), nodes(num(0, 1)), small),
		join(op(api.Least), over(), nodes(num(0, 1))),
		join(op(api.Most), nodes(num(0, 1)), over()),
		join(op(api.Least), nodes(num(0, 1)), over()),
		join(op(api.Plus), nodes(fix(6)), over()),
		join(op(api.Plus), over(), nodes(fix(6))),
		join(op(api.Plus), op(api.Plus), nodes(fix(6), num(1, 1)), op(api.Neg), over()),
		join(op(api.Plus), op(api.Neg), op(api.Neg), over(), op(api.Plus), nodes(num(1, 1), fix(6))),
	} {
		if v, e := value.At(c, 0, 10, f); v != unknown || e != api.ErrOver {
			t.Errorf("At(%v): %v, %v", c, v, e)
		}
	}
}

// TestOverOfWhatIsNotKnown: what would not fit is no error, as long as it is not known.
func TestOverOfWhatIsNotKnown(t *testing.T) {
	c := join(op(api.Plus), op(api.Plus), nodes(fix(6), num(1, 1), num(most, 1)))
	f := some().facts(t)
	if v, e := value.At(c, 0, 10, f); v != unknown || e != api.OK {
		t.Error(v, e)
	}
	f.Fix(facts.Fixing{Key: 6, Day: 10, Value: api.Ratio{Num: 0, Den: 1}})
	if v, e := value.At(c, 0, 10, f); v != unknown || e != api.ErrOver {
		t.Error(v, e)
	}
	f.Fix(facts.Fixing{Key: 6, Day: 10, Value: api.Ratio{Num: -1, Den: 1}})
	if v, e := value.At(c, 0, 10, f); v != is(most, 1) || e != api.OK {
		t.Error(v, e)
	}
}

// TestOverElsewhere: what does not fit above a number, or beside it, does not count.
func TestOverElsewhere(t *testing.T) {
	c := join(op(api.Cond), over(), op(api.Neg), nodes(num(1, 2)), op(api.Scale), over(), op(api.Zero), op(api.Zero))
	for at, want := range map[int]value.Value{1: unknown, 2: is(most, 1), 3: is(1, 1), 4: is(-1, 2), 5: is(1, 2), 7: unknown, 8: is(most, 1), 9: is(1, 1)} {
		wantE := api.OK
		if !want.Is {
			wantE = api.ErrOver
		}
		if v, e := value.At(c, at, 10, nil); v != want || e != wantE {
			t.Errorf("at %d: %v, %v; want %v, %v", at, v, e, want, wantE)
		}
	}
}

// wrongTerms are terms that may not be, by their errors.
func wrongTerms() map[api.Errno][][]api.Node {
	return map[api.Errno][][]api.Node{
		api.ErrDeep: {
			slices.Repeat(nodes(num(1, 1)), 65),
			slices.Repeat(nodes(api.Node{}), 5000),
			join(slices.Repeat(op(api.Neg), 12), nodes(num(1, 1))),
			join(op(api.Scale), slices.Repeat(op(api.Neg), 11), nodes(num(1, 1)), op(api.Zero)),
			join(slices.Repeat(op(api.Give), 12), op(api.Zero)),
		},
		api.ErrForm: {
			nil, {}, nodes(num(1, 1), num(1, 1)), op(api.Plus), join(op(api.Plus), nodes(num(1, 1))),
			join(op(api.Neg), nodes(num(1, 1), num(1, 1))), op(0), op(-1), op(api.Ops), join(op(api.Plus), nodes(num(1, 1)), op(99)), op(most), op(least),
		},
		api.ErrRange: {
			op(api.Number), nodes(num(1, 0)), nodes(num(2, 2)), nodes(num(1, -1)), nodes(num(least, 1)), nodes(fix(64)), nodes(fix(-1)), nodes(fix(most)), nodes(fix(least)),
			nodes(api.Node{Op: api.Fixing, B: 1}), nodes(api.Node{Op: api.Fixing, Value: api.Ratio{Num: 1, Den: 1}}), join(nodes(api.Node{Op: api.Neg, A: 1}), nodes(num(1, 1))),
			join(op(api.Scale), nodes(num(1, 1)), nodes(api.Node{Op: api.One, A: 8})),
		},
		api.ErrSort: {
			join(op(api.Neg), op(api.Zero)), join(op(api.Plus), nodes(num(1, 1)), op(api.Zero)), join(op(api.Scale), op(api.Zero), nodes(num(1, 1))),
			join(op(api.And), nodes(num(1, 1)), op(api.Zero)),
		},
	}
}

// TestErrorsOfTerms: they count ahead of all others.
func TestErrorsOfTerms(t *testing.T) {
	for want, l := range wrongTerms() {
		for _, c := range l {
			for _, at := range []int{0, 1, -1, len(c) - 1, len(c), most, least} {
				for _, day := range []int{0, 10, -1, 73049} {
					if v, e := value.At(c, at, day, nil); v != unknown || e != want {
						t.Errorf("At(%v, %d, %d): %v, %v; want %v", c, at, day, v, e, want)
					}
				}
				if l, e := value.Needs(c, at); len(l) != 0 || e != want {
					t.Errorf("Needs(%v, %d): %v, %v; want %v", c, at, l, e, want)
				}
			}
		}
	}
}

func wrongDays() []int { return []int{-1, -2, 73049, 73050, 1 << 32, -1 << 32, most, least} }

// TestOrderOfErrors: of places, sorts, days, and what does not fit, the first one counts.
func TestOrderOfErrors(t *testing.T) {
	c := join(op(api.Scale), over(), nodes(api.Node{Op: api.One}))
	for _, day := range append([]int{0, 10, 73048}, wrongDays()...) {
		for _, at := range []int{-1, -2, len(c), len(c) + 1, 63, 64, 1 << 32, -1 << 32, most, least} {
			if v, e := value.At(c, at, day, nil); v != unknown || e != api.ErrRange {
				t.Errorf("at %d, day %d: %v, %v", at, day, v, e)
			}
		}
		for _, at := range []int{0, 4} {
			if v, e := value.At(c, at, day, nil); v != unknown || e != api.ErrSort {
				t.Errorf("at %d, day %d: %v, %v", at, day, v, e)
			}
		}
		want := api.ErrOver
		if slices.Contains(wrongDays(), day) {
			want = api.ErrDay
		}
		if v, e := value.At(c, 1, day, nil); v != unknown || e != want {
			t.Errorf("day %d: %v, %v; want %v", day, v, e, want)
		}
	}
}

// TestSorts: no op of a contract makes a number; all others do.
func TestSorts(t *testing.T) {
	for o, below := range counts {
		c := join(op(o), slices.Repeat(nodes(num(1, 1)), below[0]), slices.Repeat(op(api.Zero), below[1]))
		if o == api.Number {
			c = nodes(num(1, 1))
		}
		want := api.OK
		if o > api.Most {
			want = api.ErrSort
		}
		if v, e := value.At(c, 0, 0, nil); e != want || v.Is != (want == api.OK && o != api.Fixing) {
			t.Errorf("op %d: %v, %v; want %v", o, v, e, want)
		}
		if l, e := value.Needs(c, 0); e != want || (len(l) != 0) != (o == api.Fixing) {
			t.Errorf("op %d: %v, %v; want %v", o, l, e, want)
		}
	}
}

func TestDays(t *testing.T) {
	for _, day := range []int{0, 1, 73047, 73048} {
		for _, told := range []int{0, 1, 73047, 73048} {
			checkAt(t, nodes(fix(0)), 0, day, model{{0, told}: {Num: 3, Den: 2}})
		}
	}
	for _, day := range wrongDays() {
		for _, c := range [][]api.Node{nodes(fix(0)), nodes(num(1, 1)), over()} {
			if v, e := value.At(c, 0, day, some().facts(t)); v != unknown || e != api.ErrDay {
				t.Errorf("day %d: %v, %v", day, v, e)
			}
		}
	}
}

// TestGreatestTerms: ones that are as deep, or have as many nodes, as may be.
func TestGreatestTerms(t *testing.T) {
	deep := join(slices.Repeat(op(api.Neg), 11), nodes(num(3, 1)))
	if v, e := value.At(deep, 0, 0, nil); v != is(-3, 1) || e != api.OK {
		t.Error(v, e)
	}
	steps := nodes(fix(1))
	for range 11 {
		steps = join(op(api.Plus), steps, nodes(num(1, 1)))
	}
	checkAt(t, steps, 0, 1, model{{1, 1}: {Num: 1, Den: 2}})
	full := nodes(fix(1))
	for range 5 {
		full = join(op(api.Plus), full, full)
	}
	full = join(op(api.Neg), full)
	if len(full) != 64 {
		t.Fatal(len(full))
	}
	if v, e := value.At(full, 0, 7, model{{1, 7}: {Num: 1, Den: 3}}.facts(t)); v != is(-32, 3) || e != api.OK {
		t.Error(v, e)
	}
	if l, e := value.Needs(full, 63); !slices.Equal(l, []int{1}) || e != api.OK {
		t.Error(l, e)
	}
}

// TestDrawnTerms: at all places of them, and beside.
func TestDrawnTerms(t *testing.T) {
	r := rand.New(rand.NewSource(1))
	for range 3000 {
		c := drawTerm(r)
		if _, e := term.Of(c); e != api.OK {
			t.Fatal(c, e)
		}
		day := one(r, 0, 1, 10, 73047, 73048)
		m := drawModel(r, day, one(r, 2, 5, 9, 10))
		for at := -1; at <= len(c); at++ {
			checkAt(t, c, at, day, m)
			checkNeeds(t, c, at)
		}
	}
}

// P8.2

func TestNeeds(t *testing.T) {
	contract := join(op(api.Cond), op(api.Plus), nodes(fix(9), fix(2)), op(api.Times), op(api.Neg), nodes(fix(2), fix(0)),
		nodes(api.Node{Op: api.Or, A: 5}), op(api.Scale), nodes(fix(63)), op(api.Zero), op(api.Zero), nodes(api.Node{Op: api.Any, A: 6, B: 9}), op(api.Zero))
	for _, c := range []struct {
		t    []api.Node
		at   int
		want []int
		e    api.Errno
	}{
		{nodes(num(1, 1)), 0, nil, api.OK},
		{nodes(fix(0)), 0, []int{0}, api.OK},
		{nodes(fix(63)), 0, []int{63}, api.OK},
		{join(op(api.Plus), nodes(num(1, 1), num(1, 1))), 0, nil, api.OK},
		{over(), 0, nil, api.OK},
		{join(op(api.Least), nodes(fix(63), fix(0))), 0, []int{0, 63}, api.OK},
		{join(op(api.Most), nodes(fix(7), fix(7))), 0, []int{7}, api.OK},
		{join(op(api.Times), nodes(num(0, 1), fix(10))), 0, []int{10}, api.OK},
		{join(op(api.Plus), over(), nodes(fix(10))), 0, []int{10}, api.OK},
		{join(op(api.Minus), op(api.Minus), nodes(fix(30), fix(4), fix(11))), 0, []int{4, 11, 30}, api.OK},
		{join(op(api.Minus), op(api.Minus), nodes(fix(30), fix(4), fix(11))), 1, []int{4, 30}, api.OK},
		{contract, 1, []int{2, 9}, api.OK},
		{contract, 2, []int{9}, api.OK},
		{contract, 4, []int{0, 2}, api.OK},
		{contract, 5, []int{2}, api.OK},
		{contract, 10, []int{63}, api.OK},
		{contract, 0, nil, api.ErrSort},
		{contract, 8, nil, api.ErrSort},
		{contract, 9, nil, api.ErrSort},
		{contract, len(contract) - 1, nil, api.ErrSort},
		{contract, len(contract), nil, api.ErrRange},
		{contract, -1, nil, api.ErrRange},
		{contract, most, nil, api.ErrRange},
		{contract, least, nil, api.ErrRange},
	} {
		if l, e := value.Needs(c.t, c.at); !slices.Equal(l, c.want) || e != c.e {
			t.Errorf("Needs(%v, %d): %v, %v; want %v, %v", c.t, c.at, l, e, c.want, c.e)
		}
	}
}

func TestNeedsOfAllKeys(t *testing.T) {
	for key := range 64 {
		other := 63 - key
		checkNeeds(t, join(op(api.Plus), nodes(fix(key), fix(other))), 0)
		checkNeeds(t, join(op(api.Scale), nodes(fix(key)), op(api.Zero)), 1)
	}
	// Many keys, falling, each of them once, and twice.
	c := nodes()
	for _, key := range []int{63, 62, 50, 49, 33, 32, 31, 30, 9, 8, 7, 5, 3, 2, 1, 0} {
		c = append(c, fix(key))
	}
	want := []int{0, 1, 2, 3, 5, 7, 8, 9, 30, 31, 32, 33, 49, 50, 62, 63}
	for _, x := range [][]api.Node{tree(c), join(op(api.Neg), tree(c)), join(op(api.Plus), tree(c), tree(c))} {
		if l, e := value.Needs(x, 0); !slices.Equal(l, want) || e != api.OK {
			t.Error(l, e)
		}
	}
	// As many keys as one term has room for.
	c = nodes()
	for key := range 32 {
		c = append(c, fix(2*key))
	}
	checkNeeds(t, tree(c), 0)
}

// tree is the sum of numbers of one node, as flat as may be.
func tree(l []api.Node) []api.Node {
	if len(l) == 1 {
		return l
	}
	return join(op(api.Plus), tree(l[:len(l)/2]), tree(l[len(l)/2:]))
}

// P8.3

// TestNeedsAlone: a value hangs on the fixings of its Needs at its day alone, and is known, if all of these are.
func TestNeedsAlone(t *testing.T) {
	r := rand.New(rand.NewSource(2))
	for range 2000 {
		c, day := drawNumber(r, 4), one(r, 0, 1, 10, 73048)
		m := drawModel(r, day, one(r, 5, 9, 10))
		v, e := value.At(c, 0, day, m.facts(t))
		needs, _ := value.Needs(c, 0)
		needed, all := model{}, true
		for _, key := range needs {
			x, known := m[place{key, day}]
			all = all && known
			if known {
				needed[place{key, day}] = x
			}
		}
		if e == api.OK && v.Is != all {
			t.Errorf("At(%v, 0, %d) by %v: %v, though %v", c, day, m, v, all)
		}
		other := drawModel(r, day, 10)
		maps.DeleteFunc(other, func(at place, _ api.Ratio) bool { return at.day == day && slices.Contains(needs, at.key) })
		maps.Copy(other, needed)
		for _, same := range []model{needed, other} {
			if w, g := value.At(c, 0, day, same.facts(t)); w != v || g != e {
				t.Errorf("At(%v, 0, %d): %v, %v by %v; %v, %v by %v", c, day, v, e, m, w, g, same)
			}
		}
	}
}

// TestWhatIsKnownStays: when more fixings are told, none of its Needs and its day anew.
func TestWhatIsKnownStays(t *testing.T) {
	r := rand.New(rand.NewSource(3))
	for range 300 {
		c, day := drawNumber(r, 5), 1+r.Intn(73047)
		f := facts.New()
		before, told := unknown, map[place]int{}
		for range 60 {
			at := place{drawKey(r), day + one(r, -1, 0, 0, 1)}
			if told[at] > 0 {
				continue
			}
			told[at]++
			f.Fix(facts.Fixing{Key: at.key, Day: at.day, Value: drawRatio(r)})
			v, e := value.At(c, 0, day, f)
			if before.Is && (v != before || e != api.OK) {
				t.Errorf("At(%v): %v, %v; want %v", c, v, e, before)
			}
			before = v
		}
	}
}

// What is handed in, and what is answered.

func TestNothingIsWrittenInto(t *testing.T) {
	r := rand.New(rand.NewSource(4))
	for range 300 {
		c := drawTerm(r)
		mark := num(99, 1)
		whole := append(slices.Clone(c), mark, mark, mark)
		day := 10
		m := drawModel(r, day, 7)
		f := m.facts(t)
		before := slices.Collect(f.Fixings())
		for at := range c {
			v, e := value.At(whole[:len(c)], at, day, f)
			l, g := value.Needs(whole[:len(c)], at)
			wide := l[:cap(l)]
			for i := range wide {
				wide[i] = 77
			}
			if w, h := value.At(whole[:len(c)], at, day, f); w != v || h != e {
				t.Errorf("At(%v, %d): %v, %v, then %v, %v", c, at, v, e, w, h)
			}
			want, _ := wantNeeds(c, at)
			if again, h := value.Needs(whole[:len(c)], at); !slices.Equal(again, want) || h != g {
				t.Errorf("Needs(%v, %d): %v, %v; want %v", c, at, again, h, want)
			}
		}
		if !slices.Equal(whole, append(slices.Clone(c), mark, mark, mark)) || !slices.Equal(slices.Collect(f.Fixings()), before) {
			t.Errorf("%v was written into", c)
		}
	}
}
