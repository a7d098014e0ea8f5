package step_test

import (
	"cmp"
	"maps"
	"math/rand"
	"slices"
	"testing"

	"chattel/api"
	"chattel/denote"
	"chattel/facts"
	"chattel/step"
	"chattel/term"
)

// flow is money of a day and a currency.
func flow(day, cur, amount int) api.Flow { return api.Flow{Day: day, Cur: cur, Amount: amount} }

// asked is the fixing of a key at a day, that is waited for.
func asked(day, key int) denote.Wait { return denote.Wait{Key: key, Day: day} }

// unchosen is the choice of a key at a day, that is waited for.
func unchosen(day, key int) denote.Wait { return denote.Wait{Choice: true, Key: key, Day: day} }

// flows and waits are lists of them.
func flows(l ...api.Flow) []api.Flow       { return l }
func waits(l ...denote.Wait) []denote.Wait { return l }

// some are facts: the fixings of 1 are 2 at the day 5, 3 at 6, 7/2 at 7, that of 2 is -1/3 at 5; 3 is known at other days alone than 5;
// the key 1 chose 1 at 5, 2 at 6, 1 at 7; 2 chose 2 at 5, 1 at 7 and 8; 3 chose 1 at 4, and 2 from 5 to 9.
func some() model {
	m := newModel().fix(1, 5, 2, 1).fix(1, 6, 3, 1).fix(1, 7, 7, 2).fix(2, 5, -1, 3).fix(3, 4, 9, 1).fix(3, 6, 9, 1)
	m = m.choose(1, 5, 1).choose(1, 6, 2).choose(1, 7, 1).choose(2, 5, 2).choose(2, 7, 1).choose(2, 8, 1).choose(3, 4, 1)
	for day := 5; day <= 9; day++ {
		m = m.choose(3, day, 2)
	}
	return m
}

// newRunOf is a Run of what may be.
func newRunOf(t *testing.T, c []api.Node, from int) *step.Run {
	t.Helper()
	r, e := step.New(c, from)
	if r == nil || e != api.OK {
		t.Fatalf("New(%v, %d): %v, %v", c, from, r, e)
	}
	return r
}

// turn is what is known, how far a Run goes then, and what has to come of it.
type turn struct {
	by    model
	to    int
	flows []api.Flow
	waits []denote.Wait
	over  bool
}

// checkTurns holds a Run from 5, that goes in turns, against what has to come, and that against the model.
func checkTurns(t *testing.T, c []api.Node, l ...turn) {
	t.Helper()
	p := newPair(t, c, 5)
	for i, x := range l {
		got, e := p.goes(t, x.to, x.by)
		if !slices.Equal(got, x.flows) || e != api.OK {
			t.Errorf("%v, turn %d: Go(%d): %v, %v; want %v", c, i, x.to, got, e, x.flows)
		}
		if w := p.r.Waits(); !slices.Equal(w, x.waits) || p.r.Over() != x.over || p.r.Day() != x.to {
			t.Errorf("%v, turn %d: waits %v, over %v, day %d; want %v, %v, %d", c, i, w, p.r.Over(), p.r.Day(), x.waits, x.over, x.to)
		}
	}
}

// told is what is to come of a contract.
type told struct {
	t     []api.Node
	flows []api.Flow
	waits []denote.Wait
	over  bool
}

// checkTold holds Runs from 5 to 9, by some facts, at once and day by day, against what is told.
func checkTold(t *testing.T, l ...told) {
	t.Helper()
	for _, c := range l {
		checkTurns(t, c.t, turn{some(), 9, c.flows, c.waits, c.over}, turn{some(), 9, nil, c.waits, c.over})
		p := newPair(t, c.t, 5)
		var came []api.Flow
		for to := range 10 {
			l, e := p.goes(t, to, some())
			if e != api.OK || slices.ContainsFunc(l, func(x api.Flow) bool { return x.Day > to }) {
				t.Errorf("%v: Go(%d): %v, %v", c.t, to, l, e)
			}
			came = append(came, l...)
		}
		slices.SortFunc(came, flowOrder)
		if !slices.Equal(came, c.flows) || !slices.Equal(p.r.Waits(), c.waits) || p.r.Over() != c.over {
			t.Errorf("%v, day by day: %v, waits %v, over %v; want %v, %v, %v", c.t, came, p.r.Waits(), p.r.Over(), c.flows, c.waits, c.over)
		}
	}
}

// P10.1

func TestExample(t *testing.T) {
	r := newRunOf(t, scale(fix(1), unit(0)), 5)
	if l, e := r.Go(6, nil); len(l) != 0 || e != api.OK || r.Over() || !slices.Equal(r.Waits(), waits(asked(5, 1))) {
		t.Error(l, e, r.Over(), r.Waits())
	}
	f := facts.New()
	f.Fix(facts.Fixing{Key: 1, Day: 5, Value: api.Ratio{Num: 3, Den: 1}})
	if l, e := r.Go(7, f); !slices.Equal(l, flows(flow(5, 0, 3))) || e != api.OK || !r.Over() || len(r.Waits()) != 0 {
		t.Error(l, e, r.Over(), r.Waits())
	}
}

func TestNew(t *testing.T) {
	for _, c := range [][]api.Node{zero(), unit(0), scale(over(), unit(0)), scale(fix(1), unit(0)), or(1, unit(0), unit(1)), later(1, 9, unit(0)), when(0, unit(0))} {
		for _, from := range []int{0, 1, 5, 73047, 73048} {
			r := newRunOf(t, c, from)
			if r.Day() != -1 || r.Over() || len(r.Waits()) != 0 {
				t.Errorf("New(%v, %d): %d, %v, %v", c, from, r.Day(), r.Over(), r.Waits())
			}
		}
	}
}

// wrongTerms are terms that are no contracts, by their errors.
func wrongTerms() map[api.Errno][][]api.Node {
	return map[api.Errno][][]api.Node{
		api.ErrDeep: {
			slices.Repeat(zero(), 65), slices.Repeat([]api.Node{{}}, 5000), append(slices.Repeat(op(api.Give), 12), zero()...),
			scale(append(slices.Repeat(op(api.Neg), 11), num(1, 1)...), zero()),
		},
		api.ErrForm: {
			nil, {}, slices.Repeat(zero(), 2), give(nil), op(api.And, zero()), op(api.Scale, num(1, 1)), op(0), op(-1), op(api.Ops), op(most), op(least), give(op(99)),
		},
		api.ErrRange: {
			unit(-1), unit(8), unit(most), when(-1, zero()), when(73049, zero()), or(64, zero(), zero()), or(-1, zero(), zero()), later(64, 5, zero()), later(0, -1, zero()), later(0, 73049, zero()),
			scale(num(2, 2), unit(0)), scale(num(1, 0), unit(0)), scale(fix(64), unit(0)), with(api.Node{Op: api.Zero, A: 1}), with(api.Node{Op: api.Give, B: 1}, zero()), with(api.Node{Op: api.One, Value: api.Ratio{Num: 1, Den: 1}}),
		},
		api.ErrSort: {
			num(1, 1), fix(1), op(api.Plus, num(1, 1), fix(1)), over(), give(num(1, 1)), both(unit(0), fix(1)), scale(unit(0), unit(0)), scale(num(1, 1), num(1, 1)), cond(num(1, 1), zero(), zero(), zero()),
		},
	}
}

// TestErrorsOfNew: those of terms count ahead of those of days.
func TestErrorsOfNew(t *testing.T) {
	days := []int{-1, -2, 73049, 73050, 1 << 32, -1 << 32, most, least}
	for want, l := range wrongTerms() {
		for _, c := range l {
			if e := term.Check(c); e != want {
				t.Fatal(c, e, want)
			}
			for _, from := range append(days, 0, 5, 73048) {
				if r, e := step.New(c, from); r != nil || e != want {
					t.Errorf("New(%v, %d): %v, %v; want %v", c, from, r, e, want)
				}
			}
		}
	}
	for _, c := range [][]api.Node{zero(), unit(0), scale(over(), unit(0)), when(5, unit(0))} {
		for _, from := range days {
			if r, e := step.New(c, from); r != nil || e != api.ErrDay {
				t.Errorf("New(%v, %d): %v, %v", c, from, r, e)
			}
		}
	}
}

func TestOneGiveAnd(t *testing.T) {
	checkTold(t,
		told{zero(), nil, nil, true},
		told{give(zero()), nil, nil, true},
		told{both(zero(), zero()), nil, nil, true},
		told{unit(0), flows(flow(5, 0, 1)), nil, true},
		told{unit(7), flows(flow(5, 7, 1)), nil, true},
		told{give(unit(7)), flows(flow(5, 7, -1)), nil, true},
		told{give(give(unit(3))), flows(flow(5, 3, 1)), nil, true},
		told{give(give(give(unit(3)))), flows(flow(5, 3, -1)), nil, true},
		told{both(unit(2), unit(1)), flows(flow(5, 1, 1), flow(5, 2, 1)), nil, true},
		told{both(unit(1), unit(2)), flows(flow(5, 1, 1), flow(5, 2, 1)), nil, true},
		told{both(zero(), unit(2)), flows(flow(5, 2, 1)), nil, true},
		told{both(unit(2), zero()), flows(flow(5, 2, 1)), nil, true},
		told{give(both(unit(1), give(unit(2)))), flows(flow(5, 1, -1), flow(5, 2, 1)), nil, true},
		// Flows stay as they are: each on its own, also those that are the same, or come to nought.
		told{both(unit(1), unit(1)), flows(flow(5, 1, 1), flow(5, 1, 1)), nil, true},
		told{both(unit(1), give(unit(1))), flows(flow(5, 1, -1), flow(5, 1, 1)), nil, true},
	)
}

// TestRound: of the factor, once, to the nearest number, an even one of two; what is 0 then is no flow.
func TestRound(t *testing.T) {
	for _, c := range [][3]int{{0, 1, 0}, {1, 2, 0}, {-1, 2, 0}, {1, 3, 0}, {2, 3, 1}, {-2, 3, -1}, {3, 2, 2}, {-3, 2, -2}, {5, 2, 2}, {-5, 2, -2}, {7, 2, 4}, {1, most, 0}, {most, 1, most}, {-most, 1, -most}, {most, 2, 1 << 62}, {51, 100, 1}, {49, 100, 0}} {
		var want []api.Flow
		if c[2] != 0 {
			want = flows(flow(5, 4, c[2]))
		}
		checkTold(t, told{scale(num(c[0], c[1]), unit(4)), want, nil, true})
	}
	half := func(c []api.Node) []api.Node { return scale(num(1, 2), c) }
	checkTold(t,
		told{half(scale(num(3, 1), unit(0))), flows(flow(5, 0, 2)), nil, true},
		told{half(half(scale(num(5, 1), unit(0)))), flows(flow(5, 0, 1)), nil, true},
		told{both(half(unit(0)), half(unit(0))), nil, nil, true},
		told{give(half(scale(num(5, 1), unit(0)))), flows(flow(5, 0, -2)), nil, true},
		// A factor is held as it is, and not rounded.
		told{half(when(8, scale(num(3, 1), unit(0)))), flows(flow(8, 0, 2)), nil, true},
	)
}

func TestScale(t *testing.T) {
	checkTold(t,
		told{scale(fix(1), unit(0)), flows(flow(5, 0, 2)), nil, true},
		told{scale(fix(1), scale(fix(1), unit(0))), flows(flow(5, 0, 4)), nil, true},
		told{scale(num(9, 1), scale(fix(2), unit(0))), flows(flow(5, 0, -3)), nil, true},
		told{give(scale(fix(1), give(scale(num(3, 1), unit(6))))), flows(flow(5, 6, 6)), nil, true},
		told{scale(op(api.Minus, fix(1), num(5, 1)), unit(0)), flows(flow(5, 0, -3)), nil, true},
		told{scale(num(-4, 1), both(unit(1), scale(fix(1), unit(2)))), flows(flow(5, 1, -4), flow(5, 2, -8)), nil, true},
		told{scale(fix(3), unit(0)), nil, waits(asked(5, 3)), false},
		told{scale(fix(63), zero()), nil, waits(asked(5, 63)), false},
		// What is below what waits is not held yet, so nothing below it counts.
		told{scale(fix(3), scale(fix(4), or(9, unit(0), unit(1)))), nil, waits(asked(5, 3)), false},
		told{scale(fix(1), scale(fix(4), unit(0))), nil, waits(asked(5, 4)), false},
		told{scale(op(api.Plus, fix(9), op(api.Times, fix(1), fix(0))), unit(0)), nil, waits(asked(5, 0), asked(5, 9)), false},
		told{scale(op(api.Times, num(0, 1), op(api.Neg, fix(9))), unit(0)), nil, waits(asked(5, 9)), false},
		told{scale(num(0, 1), scale(fix(9), unit(0))), nil, waits(asked(5, 9)), false},
		told{both(scale(fix(9), unit(0)), scale(fix(1), unit(0))), flows(flow(5, 0, 2)), waits(asked(5, 9)), false},
	)
}

func TestWhen(t *testing.T) {
	checkTold(t,
		told{when(5, unit(0)), flows(flow(5, 0, 1)), nil, true},
		told{when(6, unit(0)), flows(flow(6, 0, 1)), nil, true},
		told{when(9, unit(0)), flows(flow(9, 0, 1)), nil, true},
		told{when(10, unit(0)), nil, nil, false},
		told{when(73048, unit(0)), nil, nil, false},
		told{when(4, unit(0)), nil, nil, true},
		told{when(0, unit(0)), nil, nil, true},
		told{when(7, when(7, unit(0))), flows(flow(7, 0, 1)), nil, true},
		told{when(7, when(8, unit(0))), flows(flow(8, 0, 1)), nil, true},
		told{when(8, when(7, unit(0))), nil, nil, true},
		told{when(10, when(7, unit(0))), nil, nil, false},
		told{give(when(6, scale(num(3, 1), unit(1)))), flows(flow(6, 1, -3)), nil, true},
		// What is below it is asked at its day, what is above it at the day of that.
		told{when(6, scale(fix(1), unit(0))), flows(flow(6, 0, 3)), nil, true},
		told{scale(fix(1), when(6, unit(0))), flows(flow(6, 0, 2)), nil, true},
		told{scale(fix(1), when(6, scale(fix(1), unit(0)))), flows(flow(6, 0, 6)), nil, true},
		told{when(8, scale(fix(1), unit(0))), nil, waits(asked(8, 1)), false},
		told{when(9, or(1, unit(0), unit(1))), nil, waits(unchosen(9, 1)), false},
		told{when(10, scale(fix(1), unit(0))), nil, nil, false},
	)
}

func TestCond(t *testing.T) {
	a, b := unit(0), unit(1)
	first, second := flows(flow(5, 0, 1)), flows(flow(5, 1, 1))
	checkTold(t,
		told{cond(num(1, 1), num(2, 1), a, b), first, nil, true},
		told{cond(num(2, 1), num(1, 1), a, b), second, nil, true},
		told{cond(num(2, 1), num(2, 1), a, b), second, nil, true},
		told{cond(num(most-2, most-1), num(most-1, most), a, b), first, nil, true},
		told{cond(num(most-1, most), num(most-2, most-1), a, b), second, nil, true},
		told{cond(fix(2), fix(1), a, b), first, nil, true},
		told{cond(fix(1), fix(2), a, b), second, nil, true},
		told{cond(fix(1), num(2, 1), a, b), second, nil, true},
		told{when(6, cond(num(2, 1), fix(1), a, b)), flows(flow(6, 0, 1)), nil, true},
		told{give(scale(num(3, 1), cond(fix(2), fix(1), a, b))), flows(flow(5, 0, -3)), nil, true},
		told{cond(fix(3), fix(1), a, b), nil, waits(asked(5, 3)), false},
		told{cond(fix(1), fix(3), a, b), nil, waits(asked(5, 3)), false},
		told{cond(fix(9), fix(3), a, b), nil, waits(asked(5, 3), asked(5, 9)), false},
		told{cond(fix(3), fix(3), a, a), nil, waits(asked(5, 3)), false},
		told{cond(op(api.Most, fix(1), fix(9)), op(api.Least, fix(8), fix(2)), a, b), nil, waits(asked(5, 8), asked(5, 9)), false},
		// What is not taken is not asked.
		told{cond(num(1, 1), num(2, 1), a, scale(fix(9), b)), first, nil, true},
		told{cond(num(2, 1), num(1, 1), scale(fix(9), a), b), second, nil, true},
		told{cond(num(2, 1), num(1, 1), a, scale(fix(9), b)), nil, waits(asked(5, 9)), false},
	)
}

func TestOr(t *testing.T) {
	a, b := unit(0), unit(1)
	checkTold(t,
		told{or(1, a, b), flows(flow(5, 0, 1)), nil, true},
		told{or(2, a, b), flows(flow(5, 1, 1)), nil, true},
		told{when(6, or(1, a, b)), flows(flow(6, 1, 1)), nil, true},
		told{when(7, or(2, a, b)), flows(flow(7, 0, 1)), nil, true},
		told{or(1, when(6, or(1, a, b)), b), flows(flow(6, 1, 1)), nil, true},
		told{give(scale(num(3, 1), or(2, a, b))), flows(flow(5, 1, -3)), nil, true},
		// A choice of another key, or day, is none.
		told{or(0, a, b), nil, waits(unchosen(5, 0)), false},
		told{or(63, a, b), nil, waits(unchosen(5, 63)), false},
		told{when(8, or(1, a, b)), nil, waits(unchosen(8, 1)), false},
		told{when(6, or(2, a, b)), nil, waits(unchosen(6, 2)), false},
		told{or(9, scale(fix(9), a), or(8, a, b)), nil, waits(unchosen(5, 9)), false},
		told{or(1, a, or(9, a, b)), flows(flow(5, 0, 1)), nil, true},
		told{or(2, a, or(9, a, b)), nil, waits(unchosen(5, 9)), false},
		told{or(2, scale(fix(9), a), b), flows(flow(5, 1, 1)), nil, true},
	)
}

func TestAny(t *testing.T) {
	checkTold(t,
		// The day itself, the last one, and the first one of some.
		told{later(1, 5, unit(0)), flows(flow(5, 0, 1)), nil, true},
		told{later(1, 73048, unit(0)), flows(flow(5, 0, 1)), nil, true},
		told{when(6, later(1, 9, unit(0))), flows(flow(7, 0, 1)), nil, true},
		told{when(6, later(1, 7, unit(0))), flows(flow(7, 0, 1)), nil, true},
		told{later(2, 9, unit(0)), flows(flow(7, 0, 1)), nil, true},
		told{later(2, 7, unit(0)), flows(flow(7, 0, 1)), nil, true},
		told{when(8, later(2, 9, unit(0))), flows(flow(8, 0, 1)), nil, true},
		// If the choice is not there, it is held on, also behind B; it is not waited for.
		told{when(6, later(1, 6, unit(0))), nil, nil, false},
		told{later(2, 6, unit(0)), nil, nil, false},
		told{when(9, later(2, 9, unit(0))), nil, nil, false},
		told{later(3, 5, unit(0)), nil, nil, false},
		told{later(3, 9, unit(0)), nil, nil, false},
		told{later(0, 73048, unit(0)), nil, nil, false},
		told{later(9, 9, scale(fix(9), or(9, zero(), zero()))), nil, nil, false},
		// If B is ahead of its day, it is done.
		told{later(1, 4, unit(0)), nil, nil, true},
		told{later(3, 4, unit(0)), nil, nil, true},
		told{later(1, 0, scale(fix(9), unit(0))), nil, nil, true},
		told{when(6, later(1, 5, unit(0))), nil, nil, true},
		told{when(8, later(2, 7, unit(0))), nil, nil, true},
		told{when(10, later(1, 5, unit(0))), nil, nil, false},
		// What is below it is acquired, and asked, at that day.
		told{when(6, later(1, 9, scale(fix(1), unit(0)))), flows(flow(7, 0, 4)), nil, true},
		told{scale(fix(1), later(2, 9, unit(0))), flows(flow(7, 0, 2)), nil, true},
		told{later(2, 9, scale(fix(2), unit(0))), nil, waits(asked(7, 2)), false},
		told{later(2, 9, or(3, unit(0), unit(1))), flows(flow(7, 1, 1)), nil, true},
		told{later(2, 9, when(8, unit(0))), flows(flow(8, 0, 1)), nil, true},
		told{later(2, 9, when(6, unit(0))), nil, nil, true},
		told{later(2, 9, later(1, 9, unit(0))), flows(flow(7, 0, 1)), nil, true},
		told{later(2, 9, later(1, 6, unit(0))), nil, nil, true},
		told{later(2, 9, later(3, 7, unit(0))), nil, nil, false},
		told{give(later(2, 9, scale(num(3, 1), unit(4)))), flows(flow(7, 4, -3)), nil, true},
	)
}

// TestHeldOn: what waits is done when it is known, however late; what was done is not done again.
func TestHeldOn(t *testing.T) {
	m := newModel()
	checkTurns(t, both(unit(7), scale(fix(1), scale(fix(2), unit(0)))),
		turn{m, 4, nil, nil, false},
		turn{m, 5, flows(flow(5, 7, 1)), waits(asked(5, 1)), false},
		turn{m, 5, nil, waits(asked(5, 1)), false},
		turn{m.fix(2, 5, 2, 1), 50, nil, waits(asked(5, 1)), false},
		turn{m.fix(1, 5, 3, 1), 50, nil, waits(asked(5, 2)), false},
		turn{m.fix(1, 6, 3, 1), 51, nil, waits(asked(5, 2)), false},
		turn{m.fix(2, 5, 4, 1), 73048, flows(flow(5, 0, 12)), nil, true},
		turn{m.fix(2, 5, 5, 1), 73048, nil, nil, true},
	)
	checkTurns(t, or(1, or(2, unit(0), unit(1)), cond(fix(1), fix(2), unit(2), unit(3))),
		turn{m, 9, nil, waits(unchosen(5, 1)), false},
		turn{m.choose(1, 5, 2), 9, nil, waits(asked(5, 1), asked(5, 2)), false},
		turn{m.choose(1, 5, 1).fix(1, 5, 1, 1), 9, nil, waits(asked(5, 2)), false},
		turn{m.fix(2, 5, 1, 1), 9, nil, waits(asked(5, 1)), false},
		turn{m.fix(2, 5, 1, 1).fix(1, 5, 1, 2), 9, flows(flow(5, 2, 1)), nil, true},
	)
}

// TestAnyHeldOn: a choice that is known late, at a day from its own to B, counts, also behind B, or ahead of the day up to which the Run went.
func TestAnyHeldOn(t *testing.T) {
	m, c := newModel(), later(1, 8, unit(0))
	none := m.choose(1, 4, 1).choose(1, 6, 2).choose(1, 9, 1).choose(2, 7, 1).fix(1, 7, 1, 1)
	for day := 5; day <= 8; day++ {
		for _, to := range []int{8, 9, 10, 73048} {
			checkTurns(t, c,
				turn{m, 8, nil, nil, false},
				turn{none, to, nil, nil, false},
				turn{m.choose(1, day, 1).choose(1, 8, 1), to, flows(flow(day, 0, 1)), nil, true},
				turn{m.choose(1, day, 1), to, nil, nil, true},
			)
		}
	}
	checkTurns(t, c,
		turn{m.choose(1, 7, 1), 6, nil, nil, false},
		turn{m.choose(1, 6, 1), 6, flows(flow(6, 0, 1)), nil, true},
		turn{m.choose(1, 5, 1), 9, nil, nil, true},
	)
	checkTurns(t, later(1, 8, later(2, 8, unit(3))),
		turn{m.choose(2, 5, 1).choose(2, 7, 1), 9, nil, nil, false},
		turn{m.choose(1, 6, 1), 9, nil, nil, false},
		turn{m.choose(2, 5, 1).choose(2, 9, 1), 9, nil, nil, false},
		turn{m.choose(2, 8, 1), 9, flows(flow(8, 3, 1)), nil, true},
	)
}

// TestBehindTheLastDay: nothing is done ahead of its day, also what comes to nothing; nothing is asked for, nor does not fit.
func TestBehindTheLastDay(t *testing.T) {
	for _, c := range [][]api.Node{zero(), unit(0), give(unit(1)), scale(fix(1), unit(0)), or(1, unit(0), unit(1)), or(9, unit(0), unit(1)), later(1, 9, unit(0)), later(1, 4, unit(0)), when(9, unit(0)), when(4, unit(0)), scale(over(), unit(0)), cond(over(), fix(9), unit(0), unit(0))} {
		for _, to := range []int{-1, 0, 4} {
			checkTurns(t, c, turn{some(), to, nil, nil, false})
		}
		p := newPair(t, when(8, c), 5)
		for to := -1; to < 8; to++ {
			if l, e := p.goes(t, to, some()); len(l) != 0 || e != api.OK || len(p.r.Waits()) != 0 || p.r.Over() {
				t.Errorf("%v at 8: Go(%d): %v, %v, waits %v, over %v", c, to, l, e, p.r.Waits(), p.r.Over())
			}
		}
	}
}

// TestFactsAnew: each Go goes by its facts alone.
func TestFactsAnew(t *testing.T) {
	m := newModel()
	checkTurns(t, both(scale(fix(1), when(7, scale(fix(1), unit(0)))), when(7, or(1, unit(1), unit(2)))),
		turn{m.fix(1, 5, 2, 1).fix(1, 7, 9, 1).choose(1, 7, 1), 6, nil, nil, false},
		turn{m.fix(1, 5, 5, 1), 6, nil, nil, false},
		turn{m.fix(1, 5, 7, 1), 7, nil, waits(asked(7, 1), unchosen(7, 1)), false},
		turn{m.fix(1, 7, 3, 1), 8, flows(flow(7, 0, 6)), waits(unchosen(7, 1)), false},
		turn{m.choose(1, 7, 2), 8, flows(flow(7, 2, 1)), nil, true},
	)
	// Facts that are told of behind Go do not count until the next one.
	r, f := newRunOf(t, scale(fix(1), unit(0)), 5), facts.New()
	r.Go(6, f)
	f.Fix(facts.Fixing{Key: 1, Day: 5, Value: api.Ratio{Num: 3, Den: 1}})
	if !slices.Equal(r.Waits(), waits(asked(5, 1))) || r.Over() {
		t.Error(r.Waits(), r.Over())
	}
	if l, e := r.Go(6, f); !slices.Equal(l, flows(flow(5, 0, 3))) || e != api.OK || len(r.Waits()) != 0 || !r.Over() {
		t.Error(l, e, r.Waits(), r.Over())
	}
}

func TestOrderOfFlows(t *testing.T) {
	x := func(day, cur, n int) []api.Node { return when(day, scale(num(n, 1), unit(cur))) }
	want := flows(flow(5, 0, -9), flow(5, 0, 1), flow(5, 0, 1), flow(5, 3, -1), flow(6, 0, 7), flow(6, 2, -most), flow(6, 2, most), flow(9, 0, 1))
	var l [][]api.Node
	for _, c := range want {
		l = append(l, x(c.Day, c.Cur, c.Amount))
	}
	r := rand.New(rand.NewSource(1))
	for range 50 {
		r.Shuffle(len(l), func(i, j int) { l[i], l[j] = l[j], l[i] })
		checkTold(t, told{all(l...), want, nil, true})
	}
}

// waysOver are contracts of which, by some facts, something does not fit at 5, or up to 9.
func waysOver() [][]api.Node {
	great, small := num(most, 1), num(1, most)
	return [][]api.Node{
		scale(over(), unit(0)),
		scale(over(), zero()),
		scale(op(api.Times, over(), num(0, 1)), unit(0)),
		scale(op(api.Plus, over(), fix(9)), unit(0)),
		scale(num(0, 1), scale(over(), unit(0))),
		scale(great, scale(num(2, 1), unit(0))),
		scale(great, scale(fix(1), unit(0))),
		scale(great, scale(num(2, 1), zero())),
		scale(great, scale(num(2, 1), scale(num(1, 2), unit(0)))),
		scale(great, scale(num(2, 1), when(10, unit(0)))),
		scale(great, scale(num(2, 1), when(4, unit(0)))),
		scale(great, when(6, scale(fix(1), unit(0)))),
		scale(num(1<<62, 1), scale(num(-2, 1), unit(0))),
		scale(small, scale(num(1, 2), unit(0))),
		give(scale(great, give(scale(num(2, 1), unit(0))))),
		cond(over(), num(1, 1), unit(0), unit(0)),
		cond(num(1, 1), over(), unit(0), unit(0)),
		cond(over(), fix(9), unit(0), unit(0)),
		cond(fix(9), over(), unit(0), unit(0)),
		both(unit(0), scale(over(), unit(0))),
		both(scale(over(), unit(0)), unit(0)),
		both(scale(fix(9), unit(0)), when(9, scale(over(), unit(0)))),
		or(1, scale(over(), unit(0)), unit(0)),
		or(2, unit(0), scale(over(), unit(0))),
		cond(num(1, 1), num(2, 1), scale(over(), unit(0)), unit(0)),
		cond(num(2, 1), num(1, 1), unit(0), scale(over(), unit(0))),
		later(2, 9, scale(over(), unit(0))),
	}
}

// TestOver: values that are asked for, and factors, that do not fit: then nothing is done.
func TestOver(t *testing.T) {
	for _, c := range waysOver() {
		for _, whole := range [][]api.Node{c, both(unit(3), c), both(c, unit(3)), both(or(9, unit(1), unit(1)), c), both(c, later(9, 9, unit(1))), all(when(4, zero()), c, when(9, unit(1)))} {
			p := newPair(t, whole, 5)
			for range 2 {
				if l, e := p.goes(t, 9, some()); len(l) != 0 || e != api.ErrOver || p.r.Day() != -1 || len(p.r.Waits()) != 0 || p.r.Over() {
					t.Errorf("%v: %v, %v, day %d, waits %v, over %v", whole, l, e, p.r.Day(), p.r.Waits(), p.r.Over())
				}
			}
		}
	}
}

// TestOverIsMended: what did not fit fits by other facts, and all that was not done then is done.
func TestOverIsMended(t *testing.T) {
	m := newModel()
	p := newPair(t, all(when(6, unit(1)), or(2, unit(2), unit(2)), when(7, scale(num(most, 1), scale(fix(1), unit(0)))), when(7, later(3, 9, unit(4)))), 5)
	check := func(to int, by model, want []api.Flow, wantE api.Errno, day int, w []denote.Wait, over bool) {
		t.Helper()
		if l, e := p.goes(t, to, by); !slices.Equal(l, want) || e != wantE || p.r.Day() != day || !slices.Equal(p.r.Waits(), w) || p.r.Over() != over {
			t.Errorf("Go(%d): %v, %v, day %d, waits %v, over %v", to, l, e, p.r.Day(), p.r.Waits(), p.r.Over())
		}
	}
	bad := m.fix(1, 7, 2, 1).choose(2, 5, 1).choose(3, 8, 1)
	check(5, m, nil, api.OK, 5, waits(unchosen(5, 2)), false)
	check(9, bad, nil, api.ErrOver, 5, waits(unchosen(5, 2)), false)
	check(4, bad, nil, api.ErrDay, 5, waits(unchosen(5, 2)), false)
	check(6, m, flows(flow(6, 1, 1)), api.OK, 6, waits(unchosen(5, 2)), false)
	check(9, bad, nil, api.ErrOver, 6, waits(unchosen(5, 2)), false)
	check(8, m.choose(3, 8, 1), flows(flow(8, 4, 1)), api.OK, 8, waits(unchosen(5, 2), asked(7, 1)), false)
	check(8, m.fix(1, 7, -1, 1).choose(2, 5, 1), flows(flow(5, 2, 1), flow(7, 0, -most)), api.OK, 8, nil, true)
}

// TestNotOver: what is not asked for, or fits after all, is no error.
func TestNotOver(t *testing.T) {
	great, wrong := num(most, 1), scale(over(), unit(0))
	checkTold(t,
		told{scale(great, unit(0)), flows(flow(5, 0, most)), nil, true},
		told{give(scale(great, unit(0))), flows(flow(5, 0, -most)), nil, true},
		told{both(scale(great, unit(0)), scale(great, unit(0))), flows(flow(5, 0, most), flow(5, 0, most)), nil, true},
		told{scale(great, scale(num(1, 7), scale(num(2, 1), unit(0)))), flows(flow(5, 0, most/7*2)), nil, true},
		told{scale(num(1, most), unit(0)), nil, nil, true},
		told{scale(great, cond(great, num(most-1, 1), unit(0), unit(1))), flows(flow(5, 1, most)), nil, true},
		told{scale(fix(9), wrong), nil, waits(asked(5, 9)), false},
		told{scale(great, scale(fix(9), scale(num(2, 1), unit(0)))), nil, waits(asked(5, 9)), false},
		told{when(10, wrong), nil, nil, false},
		told{when(4, wrong), nil, nil, true},
		told{later(3, 9, wrong), nil, nil, false},
		told{or(9, wrong, wrong), nil, waits(unchosen(5, 9)), false},
		told{or(1, unit(0), wrong), flows(flow(5, 0, 1)), nil, true},
		told{or(2, wrong, unit(0)), flows(flow(5, 0, 1)), nil, true},
		told{cond(num(1, 1), num(2, 1), unit(0), wrong), flows(flow(5, 0, 1)), nil, true},
		told{cond(num(2, 1), num(1, 1), wrong, unit(0)), flows(flow(5, 0, 1)), nil, true},
		told{cond(fix(9), num(1, 1), wrong, wrong), nil, waits(asked(5, 9)), false},
	)
}

// TestErrorsOfGo: days that may not be, ahead of what does not fit; nothing is changed.
func TestErrorsOfGo(t *testing.T) {
	f := some().facts(t)
	for _, day := range []int{-1, 0, 4, 5, 7, 73048} {
		for _, c := range append(waysOver(), unit(0), or(9, unit(0), unit(0))) {
			r := newRunOf(t, both(scale(fix(8), unit(1)), c), 5)
			if day >= 0 {
				r.Go(day, f)
			}
			twin := r.Copy()
			last, before := r.Day(), r.Waits()
			for _, to := range []int{last - 1, last - 2, last - 1000, 73049, 73050, 1 << 32, -1 << 32, most, least, least + 1} {
				for _, by := range []*facts.Facts{f, nil} {
					if l, e := r.Go(to, by); len(l) != 0 || e != api.ErrDay {
						t.Errorf("at %d: Go(%d): %v, %v", last, to, l, e)
					}
				}
			}
			if r.Day() != last || !slices.Equal(r.Waits(), before) || r.Over() {
				t.Errorf("at %d: %d, waits %v, over %v", last, r.Day(), r.Waits(), r.Over())
			}
			l, e := r.Go(73048, f)
			if want, wantE := twin.Go(73048, f); !slices.Equal(l, want) || e != wantE {
				t.Errorf("at %d: Go(73048): %v, %v; want %v, %v", last, l, e, want, wantE)
			}
		}
	}
}

// TestDayAgain: a Run may go on up to the day at which it is, also ahead of all days.
func TestDayAgain(t *testing.T) {
	p := newPair(t, both(unit(0), scale(fix(1), unit(1))), 0)
	for _, to := range []int{-1, -1, 0, 0, 1, 73047, 73047, 73048, 73048} {
		if _, e := p.goes(t, to, newModel()); e != api.OK || p.r.Day() != to {
			t.Errorf("Go(%d): %v, day %d", to, e, p.r.Day())
		}
		if _, e := p.goes(t, to-1, newModel()); e != api.ErrDay {
			t.Errorf("Go(%d) at %d: %v", to-1, to, e)
		}
	}
	if l, e := p.goes(t, 73048, newModel().fix(1, 0, 5, 1)); !slices.Equal(l, flows(flow(0, 1, 5))) || e != api.OK || !p.r.Over() {
		t.Error(l, e, p.r.Over())
	}
}

// TestDays: all edges of days that may be.
func TestDays(t *testing.T) {
	c := all(unit(0), scale(fix(0), unit(1)), or(0, unit(2), unit(3)), when(0, unit(4)), when(73048, unit(5)), later(0, 73048, unit(6)), later(0, 0, unit(7)), when(73047, scale(fix(0), unit(0))))
	edges := []int{-1, 0, 1, 2, 73046, 73047, 73048}
	for _, from := range edges[1:] {
		for i, to := range edges {
			for _, on := range edges[i:] {
				for _, day := range edges[1:] {
					p := newPair(t, c, from)
					p.goes(t, to, newModel())
					p.goes(t, on, newModel().fix(0, day, 3, 1).choose(0, day, 1))
					p.goes(t, 73048, newModel().fix(0, day, 3, 1).choose(0, day, 2))
				}
			}
		}
	}
}

// TestGreatestContracts: ones that are as deep, or have as many nodes, as may be.
func TestGreatestContracts(t *testing.T) {
	deep, turned := unit(0), zero()
	for range 11 {
		deep, turned = give(deep), scale(fix(1), turned)
	}
	checkTold(t, told{deep, flows(flow(5, 0, -1)), nil, true}, told{turned, nil, nil, true})
	wide := unit(3)
	for range 5 {
		wide = both(wide, wide)
	}
	wide = give(wide)
	if len(wide) != 64 {
		t.Fatal(len(wide))
	}
	checkTold(t, told{wide, slices.Repeat(flows(flow(5, 3, -1)), 32), nil, true})
	asks := scale(fix(9), unit(0))
	for range 3 {
		asks = both(when(7, asks), asks)
	}
	checkTold(t, told{asks, nil, waits(asked(5, 9), asked(7, 9)), false})
}

// TestDrawnRuns: contracts that go in turns, by facts that are told late, and anew, in copies too.
func TestDrawnRuns(t *testing.T) {
	r := rand.New(rand.NewSource(2))
	came, left, ended := 0, 0, 0
	for range 8000 {
		about := one(r, 0, 2, 100, 73036, 73048)
		l := []pair{newPair(t, drawFitting(r, about, 64), drawDay(r, about))}
		m := drawModel(r, about, one(r, 0, 2, 5, 9, 10))
		for range 1 + r.Intn(8) {
			p := one(r, l...)
			if r.Intn(3) == 0 {
				l = append(l, p.copy(t))
			}
			if r.Intn(2) == 0 {
				m = m.drawMore(r, about)
			}
			to := drawDay(r, about+4)
			if r.Intn(4) > 0 {
				to = max(to, p.r.Day())
			}
			flows, e := p.goes(t, to, m)
			came += len(flows)
			if e == api.ErrOver {
				left++
			}
		}
		for _, p := range l {
			p.checkState(t)
			if p.r.Over() {
				ended++
			}
		}
	}
	if came < 5000 || left < 100 || ended < 2000 {
		t.Error("too few flows, errors, or ends:", came, left, ended)
	}
}

// drawMore is a model that is told some facts more, or anew.
func (m model) drawMore(r *rand.Rand, about int) model {
	m = m.copy()
	for range r.Intn(30) {
		at := spot{drawKey(r), drawDay(r, about+r.Intn(6))}
		if r.Intn(2) == 0 {
			m.fixings[at] = drawRatio(r)
		} else {
			m.choices[at] = 1 + r.Intn(2)
		}
	}
	return m
}

// P10.2

func TestNilRun(t *testing.T) {
	var r *step.Run
	for _, to := range []int{-2, -1, 0, 73048, 73049, most, least} {
		for _, f := range []*facts.Facts{nil, facts.New(), some().facts(t)} {
			if l, e := r.Go(to, f); len(l) != 0 || e != api.ErrNil {
				t.Errorf("Go(%d): %v, %v", to, l, e)
			}
		}
	}
	if l := r.Waits(); len(l) != 0 || r.Day() != -1 || !r.Over() || r.Copy() != nil {
		t.Error(l, r.Day(), r.Over(), r.Copy())
	}
}

// TestNilFacts: they are as ones without any.
func TestNilFacts(t *testing.T) {
	r := rand.New(rand.NewSource(3))
	for range 1000 {
		c := drawFitting(r, 10, 64)
		got, want := newRunOf(t, c, 10), newRun(c, 10)
		for to := 9; to < 20; to += 2 {
			l, e := got.Go(to, nil)
			if w, wantE := want.goes(to, newModel()); !slices.Equal(l, w) || e != wantE || !slices.Equal(got.Waits(), want.waits) || got.Over() != (len(want.held) == 0) {
				t.Errorf("%v: Go(%d): %v, %v, waits %v; want %v, %v, %v", c, to, l, e, got.Waits(), w, wantE, want.waits)
			}
		}
	}
}

func TestOrderOfWaits(t *testing.T) {
	want := waits(asked(5, 8), asked(5, 63), unchosen(5, 0), unchosen(5, 4), asked(6, 0), asked(6, 8), unchosen(6, 0), unchosen(6, 8), unchosen(7, 0), asked(8, 0))
	var l [][]api.Node
	for _, w := range want {
		c := scale(fix(w.Key), zero())
		if w.Choice {
			c = or(w.Key, zero(), zero())
		}
		l = append(l, when(w.Day, c))
	}
	r := rand.New(rand.NewSource(4))
	for range 50 {
		r.Shuffle(len(l), func(i, j int) { l[i], l[j] = l[j], l[i] })
		// Some of them are asked for twice.
		checkTold(t, told{all(append(l, l[0], l[1])...), nil, want, false})
	}
}

// TestWaitsOfTheLastGo: not of one ahead of it, nor of one that was an error.
func TestWaitsOfTheLastGo(t *testing.T) {
	m := newModel()
	p := newPair(t, both(scale(op(api.Plus, fix(1), fix(2)), unit(0)), when(7, or(3, unit(0), scale(fix(4), scale(over(), zero()))))), 5)
	for _, x := range []struct {
		by   model
		to   int
		e    api.Errno
		want []denote.Wait
	}{
		{m, -1, api.OK, nil},
		{m, 4, api.OK, nil},
		{m, 73049, api.ErrDay, nil},
		{m, 5, api.OK, waits(asked(5, 1), asked(5, 2))},
		{m.fix(1, 5, 1, 1), 6, api.OK, waits(asked(5, 2))},
		{m.fix(2, 5, 1, 1), 6, api.OK, waits(asked(5, 1))},
		{m, 7, api.OK, waits(asked(5, 1), asked(5, 2), unchosen(7, 3))},
		{m.fix(1, 5, 1, 1).fix(2, 5, 1, 1).fix(4, 7, 1, 1).choose(3, 7, 2), 9, api.ErrOver, waits(asked(5, 1), asked(5, 2), unchosen(7, 3))},
		{m.fix(1, 5, 1, 1).fix(2, 5, 1, 1), 6, api.ErrDay, waits(asked(5, 1), asked(5, 2), unchosen(7, 3))},
		{m.choose(3, 7, 2), 7, api.OK, waits(asked(5, 1), asked(5, 2), asked(7, 4))},
		{m.fix(1, 5, 1, 1).fix(2, 5, 1, 1), 8, api.OK, waits(asked(7, 4))},
	} {
		if _, e := p.goes(t, x.to, x.by); e != x.e || !slices.Equal(p.r.Waits(), x.want) {
			t.Errorf("Go(%d): %v, waits %v; want %v, %v", x.to, e, p.r.Waits(), x.e, x.want)
		}
	}
}

// TestCopy: what one does does not count for the other one, nor for a copy of a copy.
func TestCopy(t *testing.T) {
	r := rand.New(rand.NewSource(5))
	for range 2000 {
		p := newPair(t, drawFitting(r, 10, 64), 10)
		if r.Intn(4) > 0 {
			p.goes(t, 10+r.Intn(5), drawModel(r, 10, one(r, 1, 5)))
		}
		other := p.copy(t)
		third := other.copy(t)
		p.goes(t, 15, drawModel(r, 10, 9))
		other.checkState(t)
		third.checkState(t)
		other.goes(t, 17, drawModel(r, 10, 9))
		p.checkState(t)
		third.goes(t, 17, drawModel(r, 10, 9))
		p.goes(t, 17, drawModel(r, 10, 9))
		other.checkState(t)
	}
}

// P10.3

// inOrder is the spots of a map, so that what is drawn of them hangs on nothing else.
func inOrder[T any](m map[spot]T) []spot {
	return slices.SortedFunc(maps.Keys(m), func(a, b spot) int {
		return cmp.Or(cmp.Compare(a.key, b.key), cmp.Compare(a.day, b.day))
	})
}

// tell puts what is not known in a model, of another one: all of it, but choices 1 of keys of an Any up to a day.
func (m model) tell(r *rand.Rand, c []api.Node, day, ofTen int, other model) {
	for _, at := range inOrder(other.fixings) {
		if _, is := m.fixings[at]; !is && r.Intn(10) < ofTen {
			m.fixings[at] = other.fixings[at]
		}
	}
	for _, at := range inOrder(other.choices) {
		any := slices.ContainsFunc(c, func(n api.Node) bool { return n.Op == api.Any && n.A == at.key })
		if _, is := m.choices[at]; !is && r.Intn(10) < ofTen && (other.choices[at] != 1 || !any || at.day > day) {
			m.choices[at] = other.choices[at]
		}
	}
}

// TestAsDenoted: as long as facts are told more only, all flows that came together are denote.Flows up to Day, and Waits are denote.Waits.
func TestAsDenoted(t *testing.T) {
	r := rand.New(rand.NewSource(6))
	came, left := 0, 0
	for range 4000 {
		c, from, m := drawFitting(r, 10, 64), drawDay(r, 8), newModel()
		x := newRunOf(t, c, from)
		var all []api.Flow
		for to := -1; to < 24; to = max(to, x.Day()) + r.Intn(4) {
			m.tell(r, c, x.Day(), one(r, 0, 1, 3, 10), drawModel(r, 10, 10))
			f := m.facts(t)
			got, e := x.Go(to, f)
			want, wantE := denote.Flows(c, from, to, f)
			if e != wantE {
				t.Fatalf("%v: Go(%d): %v; denoted %v", c, to, e, wantE)
			}
			if e != api.OK {
				left++
				break
			}
			all = append(all, got...)
			slices.SortFunc(all, flowOrder)
			wants, _ := denote.Waits(c, from, to, f)
			if !slices.Equal(all, want) || !slices.Equal(x.Waits(), wants) {
				t.Fatalf("%v from %d by %v, to %d: %v, waits %v; denoted %v, %v", c, from, m, to, all, x.Waits(), want, wants)
			}
		}
		came += len(all)
	}
	if came < 2000 || left < 20 {
		t.Error("too few flows, or errors:", came, left)
	}
}

// TestStops: by the same facts it does not count at which days it stopped between.
func TestStops(t *testing.T) {
	r := rand.New(rand.NewSource(7))
	for range 3000 {
		c, f := drawFitting(r, 10, 64), drawModel(r, 10, one(r, 2, 5, 9)).facts(t)
		straight := newRunOf(t, c, 10)
		want, wantE := straight.Go(20, f)
		x := newRunOf(t, c, 10)
		var all []api.Flow
		e := api.OK
		for to := -1; to <= 20 && e == api.OK; to++ {
			if to < 20 && r.Intn(3) == 0 {
				continue
			}
			var l []api.Flow
			l, e = x.Go(to, f)
			all = append(all, l...)
		}
		if e != wantE {
			t.Errorf("%v: %v; at once %v", c, e, wantE)
		}
		slices.SortFunc(all, flowOrder)
		if e == api.OK && (!slices.Equal(all, want) || !slices.Equal(x.Waits(), straight.Waits()) || x.Over() != straight.Over()) {
			t.Errorf("%v: %v, waits %v; at once %v, %v", c, all, x.Waits(), want, straight.Waits())
		}
	}
}

// What is handed in, and what is answered.

func TestNothingIsKeptOrShared(t *testing.T) {
	r := rand.New(rand.NewSource(8))
	for range 1000 {
		c, m := drawFitting(r, 10, 60), drawModel(r, 10, 4)
		whole := append(slices.Clone(c), slices.Repeat(unit(7), 4)...)
		before := slices.Clone(whole)
		p := pair{newRunOf(t, whole[:len(c)], 10), newRun(c, 10)}
		f := m.facts(t)
		fixings, choices := slices.Collect(f.Fixings()), slices.Collect(f.Choices())
		spent := p.r.Copy()
		spent.Go(15, f)
		if !slices.Equal(whole, before) || !slices.Equal(slices.Collect(f.Fixings()), fixings) || !slices.Equal(slices.Collect(f.Choices()), choices) {
			t.Errorf("%v was written into", c)
		}
		// What was handed in, and what was answered, is the caller's.
		clear(whole)
		for to := 10; to < 18; to++ {
			l, _ := p.goes(t, to, m)
			clear(l[:cap(l)])
			w := p.r.Waits()
			clear(w[:cap(w)])
			_ = append(w, denote.Wait{Key: 7})
			p.checkState(t)
			m = m.drawMore(r, 10)
		}
	}
}
