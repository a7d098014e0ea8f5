package denote_test

import (
	"maps"
	"math/rand"
	"slices"
	"testing"

	"chattel/api"
	"chattel/denote"
	"chattel/facts"
	"chattel/term"
)

// flow is money of a day and a currency.
func flow(day, cur, amount int) api.Flow { return api.Flow{Day: day, Cur: cur, Amount: amount} }

// asked is the fixing of a key at a day, that is waited for.
func asked(day, key int) denote.Wait { return denote.Wait{Key: key, Day: day} }

// unchosen is the choice of a key at a day, that is waited for.
func unchosen(day, key int) denote.Wait { return denote.Wait{Choice: true, Key: key, Day: day} }

// flows and waits are lists of them.
func flows(l ...api.Flow) []api.Flow       { return l }
func waits(l ...denote.Wait) []denote.Wait { return l }

// some are facts: the fixings of 1 are 2 at the day 5, 3 at 6, 7/2 at 7, that of 2 is -1/3 at 5; 3 is known at other days alone than 5;
// the key 1 chose 1 at 5, 2 at 6, 1 at 7; 2 chose 2 at 5, 1 at 7 and 8; 3 chose 1 at 4, and 2 from 5 to 9.
func some() model {
	m := newModel()
	for at, r := range map[place]api.Ratio{{1, 5}: {Num: 2, Den: 1}, {1, 6}: {Num: 3, Den: 1}, {1, 7}: {Num: 7, Den: 2}, {2, 5}: {Num: -1, Den: 3}, {3, 4}: {Num: 9, Den: 1}, {3, 6}: {Num: 9, Den: 1}} {
		m.fixings[at] = r
	}
	for at, pick := range map[place]int{{1, 5}: 1, {1, 6}: 2, {1, 7}: 1, {2, 5}: 2, {2, 7}: 1, {2, 8}: 1, {3, 4}: 1, {3, 5}: 2, {3, 6}: 2, {3, 7}: 2, {3, 8}: 2, {3, 9}: 2} {
		m.choices[at] = pick
	}
	return m
}

// told is what is to come of a contract.
type told struct {
	t     []api.Node
	flows []api.Flow
	waits []denote.Wait
}

// checkTold holds Flows and Waits, from 5 to 9, by some facts, against what is told, and that against the model.
func checkTold(t *testing.T, l ...told) {
	t.Helper()
	f := some().facts(t)
	for _, c := range l {
		if got, e := denote.Flows(c.t, 5, 9, f); !slices.Equal(got, c.flows) || e != api.OK {
			t.Errorf("Flows(%v): %v, %v; want %v", c.t, got, e, c.flows)
		}
		if got, e := denote.Waits(c.t, 5, 9, f); !slices.Equal(got, c.waits) || e != api.OK {
			t.Errorf("Waits(%v): %v, %v; want %v", c.t, got, e, c.waits)
		}
		check(t, c.t, 5, 9, some())
	}
}

// checkError holds Flows and Waits of wrong arguments.
func checkError(t *testing.T, c []api.Node, from, to int, f *facts.Facts, want api.Errno) {
	t.Helper()
	if l, e := denote.Flows(c, from, to, f); len(l) != 0 || e != want {
		t.Errorf("Flows(%v, %d, %d): %v, %v; want %v", c, from, to, l, e, want)
	}
	if l, e := denote.Waits(c, from, to, f); len(l) != 0 || e != want {
		t.Errorf("Waits(%v, %d, %d): %v, %v; want %v", c, from, to, l, e, want)
	}
}

// P9.1

func TestExample(t *testing.T) {
	c := both(unit(0), scale(fix(1), unit(1)))
	for _, f := range []*facts.Facts{nil, facts.New()} {
		if l, e := denote.Flows(c, 5, 9, f); !slices.Equal(l, flows(flow(5, 0, 1))) || e != api.OK {
			t.Error(l, e)
		}
		if l, e := denote.Waits(c, 5, 9, f); !slices.Equal(l, waits(asked(5, 1))) || e != api.OK {
			t.Error(l, e)
		}
	}
}

func TestOneGiveAnd(t *testing.T) {
	checkTold(t,
		told{zero(), nil, nil},
		told{give(zero()), nil, nil},
		told{both(zero(), zero()), nil, nil},
		told{unit(0), flows(flow(5, 0, 1)), nil},
		told{unit(7), flows(flow(5, 7, 1)), nil},
		told{give(unit(7)), flows(flow(5, 7, -1)), nil},
		told{give(give(unit(3))), flows(flow(5, 3, 1)), nil},
		told{give(give(give(unit(3)))), flows(flow(5, 3, -1)), nil},
		told{both(unit(2), unit(1)), flows(flow(5, 1, 1), flow(5, 2, 1)), nil},
		told{both(unit(1), unit(2)), flows(flow(5, 1, 1), flow(5, 2, 1)), nil},
		told{both(zero(), unit(2)), flows(flow(5, 2, 1)), nil},
		told{both(unit(2), zero()), flows(flow(5, 2, 1)), nil},
		told{give(both(unit(1), give(unit(2)))), flows(flow(5, 1, -1), flow(5, 2, 1)), nil},
		// Flows stay as they are: each on its own, also those that are the same, or come to nought.
		told{both(unit(1), unit(1)), flows(flow(5, 1, 1), flow(5, 1, 1)), nil},
		told{both(unit(1), give(unit(1))), flows(flow(5, 1, -1), flow(5, 1, 1)), nil},
		told{both(scale(num(5, 1), unit(1)), both(unit(1), scale(num(5, 1), unit(1)))), flows(flow(5, 1, 1), flow(5, 1, 5), flow(5, 1, 5)), nil},
	)
}

// TestRound: of the factor, once, to the nearest number, an even one of two; what is 0 then is no flow.
func TestRound(t *testing.T) {
	for _, c := range [][3]int{{0, 1, 0}, {1, 2, 0}, {-1, 2, 0}, {1, 3, 0}, {2, 3, 1}, {-2, 3, -1}, {3, 2, 2}, {-3, 2, -2}, {5, 2, 2}, {-5, 2, -2}, {7, 2, 4}, {1, most, 0}, {most, 1, most}, {-most, 1, -most}, {most, 2, 1 << 62}, {most, most - 1, 1}, {51, 100, 1}, {-51, 100, -1}, {49, 100, 0}} {
		var want []api.Flow
		if c[2] != 0 {
			want = flows(flow(5, 4, c[2]))
		}
		checkTold(t, told{scale(num(c[0], c[1]), unit(4)), want, nil})
	}
	half := func(c []api.Node) []api.Node { return scale(num(1, 2), c) }
	checkTold(t,
		told{scale(num(3, 1), half(unit(0))), flows(flow(5, 0, 2)), nil},
		told{half(scale(num(3, 1), unit(0))), flows(flow(5, 0, 2)), nil},
		told{half(half(scale(num(5, 1), unit(0)))), flows(flow(5, 0, 1)), nil},
		told{half(both(half(unit(0)), scale(num(2, 1), unit(0)))), flows(flow(5, 0, 1)), nil},
		told{both(half(unit(0)), half(unit(0))), nil, nil},
		told{give(half(scale(num(5, 1), unit(0)))), flows(flow(5, 0, -2)), nil},
	)
}

func TestScale(t *testing.T) {
	checkTold(t,
		told{scale(fix(1), unit(0)), flows(flow(5, 0, 2)), nil},
		told{scale(fix(1), scale(fix(1), unit(0))), flows(flow(5, 0, 4)), nil},
		told{scale(num(9, 1), scale(fix(2), unit(0))), flows(flow(5, 0, -3)), nil},
		told{give(scale(fix(1), give(scale(num(3, 1), unit(6))))), flows(flow(5, 6, 6)), nil},
		told{scale(num(-4, 1), both(unit(1), scale(fix(1), unit(2)))), flows(flow(5, 1, -4), flow(5, 2, -8)), nil},
		told{scale(op(api.Plus, fix(1), fix(1)), unit(0)), flows(flow(5, 0, 4)), nil},
		told{scale(op(api.Minus, fix(1), num(5, 1)), unit(0)), flows(flow(5, 0, -3)), nil},
		told{scale(num(0, 1), unit(0)), nil, nil},
		// What is not known at that day waits, and nothing below it counts.
		told{scale(fix(3), unit(0)), nil, waits(asked(5, 3))},
		told{scale(fix(63), zero()), nil, waits(asked(5, 63))},
		told{scale(fix(3), scale(fix(4), or(9, unit(0), unit(1)))), nil, waits(asked(5, 3))},
		told{scale(fix(1), scale(fix(4), unit(0))), nil, waits(asked(5, 4))},
		told{scale(op(api.Plus, fix(9), op(api.Times, fix(1), fix(0))), unit(0)), nil, waits(asked(5, 0), asked(5, 9))},
		told{scale(op(api.Times, num(0, 1), op(api.Neg, fix(9))), unit(0)), nil, waits(asked(5, 9))},
		// Nought times what waits still waits.
		told{scale(num(0, 1), scale(fix(9), unit(0))), nil, waits(asked(5, 9))},
		told{scale(num(0, 1), or(9, unit(0), unit(0))), nil, waits(unchosen(5, 9))},
		told{both(scale(fix(9), unit(0)), scale(fix(1), unit(0))), flows(flow(5, 0, 2)), waits(asked(5, 9))},
	)
}

func TestWhen(t *testing.T) {
	checkTold(t,
		told{when(5, unit(0)), flows(flow(5, 0, 1)), nil},
		told{when(6, unit(0)), flows(flow(6, 0, 1)), nil},
		told{when(9, unit(0)), flows(flow(9, 0, 1)), nil},
		told{when(10, unit(0)), nil, nil},
		told{when(73048, unit(0)), nil, nil},
		told{when(4, unit(0)), nil, nil},
		told{when(0, unit(0)), nil, nil},
		told{when(7, when(7, unit(0))), flows(flow(7, 0, 1)), nil},
		told{when(7, when(8, unit(0))), flows(flow(8, 0, 1)), nil},
		told{when(8, when(7, unit(0))), nil, nil},
		told{when(10, when(7, unit(0))), nil, nil},
		told{give(when(6, scale(num(3, 1), unit(1)))), flows(flow(6, 1, -3)), nil},
		told{scale(num(3, 1), when(6, unit(1))), flows(flow(6, 1, 3)), nil},
		told{both(when(7, unit(0)), unit(1)), flows(flow(5, 1, 1), flow(7, 0, 1)), nil},
		// What is below it is asked at its day, what is above it at the day of that.
		told{when(6, scale(fix(1), unit(0))), flows(flow(6, 0, 3)), nil},
		told{scale(fix(1), when(6, unit(0))), flows(flow(6, 0, 2)), nil},
		told{scale(fix(1), when(6, scale(fix(1), unit(0)))), flows(flow(6, 0, 6)), nil},
		told{when(8, scale(fix(1), unit(0))), nil, waits(asked(8, 1))},
		told{when(9, or(1, unit(0), unit(1))), nil, waits(unchosen(9, 1))},
		told{when(10, scale(fix(1), unit(0))), nil, nil},
		told{when(4, scale(fix(9), unit(0))), nil, nil},
	)
}

func TestCond(t *testing.T) {
	a, b := unit(0), unit(1)
	one, other := flows(flow(5, 0, 1)), flows(flow(5, 1, 1))
	checkTold(t,
		told{cond(num(1, 1), num(2, 1), a, b), one, nil},
		told{cond(num(2, 1), num(1, 1), a, b), other, nil},
		told{cond(num(2, 1), num(2, 1), a, b), other, nil},
		told{cond(num(1, 3), num(1, 2), a, b), one, nil},
		told{cond(num(-1, 3), num(-1, 2), a, b), other, nil},
		told{cond(num(most-2, most-1), num(most-1, most), a, b), one, nil},
		told{cond(num(most-1, most), num(most-2, most-1), a, b), other, nil},
		told{cond(fix(2), fix(1), a, b), one, nil},
		told{cond(fix(1), fix(2), a, b), other, nil},
		told{cond(fix(1), num(2, 1), a, b), other, nil},
		told{when(6, cond(num(2, 1), fix(1), a, b)), flows(flow(6, 0, 1)), nil},
		told{give(scale(num(3, 1), cond(fix(2), fix(1), a, b))), flows(flow(5, 0, -3)), nil},
		told{cond(fix(3), fix(1), a, b), nil, waits(asked(5, 3))},
		told{cond(fix(1), fix(3), a, b), nil, waits(asked(5, 3))},
		told{cond(fix(9), fix(3), a, b), nil, waits(asked(5, 3), asked(5, 9))},
		told{cond(fix(3), fix(3), a, a), nil, waits(asked(5, 3))},
		told{cond(op(api.Most, fix(1), fix(9)), op(api.Least, fix(8), fix(2)), a, b), nil, waits(asked(5, 8), asked(5, 9))},
		// What is not taken is not asked.
		told{cond(num(1, 1), num(2, 1), a, scale(fix(9), b)), one, nil},
		told{cond(num(2, 1), num(1, 1), scale(fix(9), a), b), other, nil},
		told{cond(num(2, 1), num(1, 1), a, scale(fix(9), b)), nil, waits(asked(5, 9))},
	)
}

func TestOr(t *testing.T) {
	a, b := unit(0), unit(1)
	checkTold(t,
		told{or(1, a, b), flows(flow(5, 0, 1)), nil},
		told{or(2, a, b), flows(flow(5, 1, 1)), nil},
		told{when(6, or(1, a, b)), flows(flow(6, 1, 1)), nil},
		told{when(7, or(2, a, b)), flows(flow(7, 0, 1)), nil},
		told{or(1, when(6, or(1, a, b)), b), flows(flow(6, 1, 1)), nil},
		told{give(scale(num(3, 1), or(2, a, b))), flows(flow(5, 1, -3)), nil},
		// A choice of another key, or day, is none.
		told{or(0, a, b), nil, waits(unchosen(5, 0))},
		told{or(63, a, b), nil, waits(unchosen(5, 63))},
		told{when(8, or(1, a, b)), nil, waits(unchosen(8, 1))},
		told{when(6, or(2, a, b)), nil, waits(unchosen(6, 2))},
		told{or(9, scale(fix(9), a), or(8, a, b)), nil, waits(unchosen(5, 9))},
		told{or(1, a, or(9, a, b)), flows(flow(5, 0, 1)), nil},
		told{or(2, a, or(9, a, b)), nil, waits(unchosen(5, 9))},
		told{or(2, scale(fix(9), a), b), flows(flow(5, 1, 1)), nil},
	)
}

func TestAny(t *testing.T) {
	checkTold(t,
		// The day itself, the last one, and the first one of some.
		told{later(1, 5, unit(0)), flows(flow(5, 0, 1)), nil},
		told{later(1, 73048, unit(0)), flows(flow(5, 0, 1)), nil},
		told{when(6, later(1, 9, unit(0))), flows(flow(7, 0, 1)), nil},
		told{when(6, later(1, 7, unit(0))), flows(flow(7, 0, 1)), nil},
		told{when(6, later(1, 6, unit(0))), nil, nil},
		told{later(2, 9, unit(0)), flows(flow(7, 0, 1)), nil},
		told{later(2, 6, unit(0)), nil, nil},
		told{when(8, later(2, 9, unit(0))), flows(flow(8, 0, 1)), nil},
		told{when(9, later(2, 9, unit(0))), nil, nil},
		// A choice ahead, one of 2, or of another key, is none; nor is it waited for.
		told{later(3, 9, unit(0)), nil, nil},
		told{later(0, 73048, unit(0)), nil, nil},
		told{later(1, 4, unit(0)), nil, nil},
		told{later(1, 0, scale(fix(9), unit(0))), nil, nil},
		told{later(9, 9, scale(fix(9), or(9, zero(), zero()))), nil, nil},
		// What is below it is acquired, and asked, at that day.
		told{when(6, later(1, 9, scale(fix(1), unit(0)))), flows(flow(7, 0, 4)), nil},
		told{scale(fix(1), later(2, 9, unit(0))), flows(flow(7, 0, 2)), nil},
		told{later(2, 9, scale(fix(2), unit(0))), nil, waits(asked(7, 2))},
		told{later(2, 9, or(3, unit(0), unit(1))), flows(flow(7, 1, 1)), nil},
		told{later(2, 9, when(8, unit(0))), flows(flow(8, 0, 1)), nil},
		told{later(2, 9, when(6, unit(0))), nil, nil},
		told{later(2, 9, later(1, 9, unit(0))), flows(flow(7, 0, 1)), nil},
		told{give(later(2, 9, scale(num(3, 1), unit(4)))), flows(flow(7, 4, -3)), nil},
	)
}

// TestLastDay: what is acquired behind it is nothing yet; choices behind it do not count.
func TestLastDay(t *testing.T) {
	c := all(unit(0), when(6, scale(fix(9), unit(1))), when(7, scale(fix(1), unit(2))), when(8, or(9, unit(3), unit(3))), later(2, 9, unit(4)), when(8, later(2, 9, unit(5))))
	f := some().facts(t)
	for to, want := range map[int]told{
		-1: {}, 0: {}, 4: {},
		5:     {flows: flows(flow(5, 0, 1))},
		6:     {flows: flows(flow(5, 0, 1)), waits: waits(asked(6, 9))},
		7:     {flows: flows(flow(5, 0, 1), flow(7, 2, 4), flow(7, 4, 1)), waits: waits(asked(6, 9))},
		8:     {flows: flows(flow(5, 0, 1), flow(7, 2, 4), flow(7, 4, 1), flow(8, 5, 1)), waits: waits(asked(6, 9), unchosen(8, 9))},
		73048: {flows: flows(flow(5, 0, 1), flow(7, 2, 4), flow(7, 4, 1), flow(8, 5, 1)), waits: waits(asked(6, 9), unchosen(8, 9))},
	} {
		if l, e := denote.Flows(c, 5, to, f); !slices.Equal(l, want.flows) || e != api.OK {
			t.Errorf("Flows to %d: %v, %v; want %v", to, l, e, want.flows)
		}
		if l, e := denote.Waits(c, 5, to, f); !slices.Equal(l, want.waits) || e != api.OK {
			t.Errorf("Waits to %d: %v, %v; want %v", to, l, e, want.waits)
		}
		check(t, c, 5, to, some())
	}
}

// TestChoicesUpToTheLastDay: of an Any, for all last days, B, and days that were chosen.
func TestChoicesUpToTheLastDay(t *testing.T) {
	for b := 3; b <= 9; b++ {
		for to := 3; to <= 9; to++ {
			for one := 3; one <= 9; one++ {
				for other := one; other <= 9; other++ {
					m := newModel()
					m.choices[place{6, other}], m.choices[place{6, one}] = 1, 1
					check(t, later(6, b, unit(0)), 5, to, m)
				}
			}
		}
	}
}

// TestAcquiredBehindTheLastDay: nothing comes of it, and nothing is asked for, nor does not fit.
func TestAcquiredBehindTheLastDay(t *testing.T) {
	for _, c := range [][]api.Node{unit(0), give(unit(1)), scale(fix(1), unit(0)), or(1, unit(0), unit(1)), later(1, 9, unit(0)), when(9, unit(0)), scale(over(), unit(0)), cond(over(), fix(9), unit(0), unit(0))} {
		for _, days := range [][2]int{{5, 4}, {5, -1}, {0, -1}, {73048, 73047}, {73048, -1}, {73048, 0}} {
			checkError(t, c, days[0], days[1], some().facts(t), api.OK)
		}
	}
}

func TestOrderOfFlows(t *testing.T) {
	x := func(day, cur, n int) []api.Node { return when(day, scale(num(n, 1), unit(cur))) }
	want := flows(flow(5, 0, -9), flow(5, 0, 1), flow(5, 0, 1), flow(5, 3, -1), flow(6, 0, 7), flow(6, 2, -most), flow(6, 2, most), flow(9, 0, 1))
	var l [][]api.Node
	for _, c := range want {
		l = append(l, x(c.Day, c.Cur, c.Amount))
	}
	r := rand.New(rand.NewSource(1))
	for range 50 {
		r.Shuffle(len(l), func(i, j int) { l[i], l[j] = l[j], l[i] })
		checkTold(t, told{all(l...), want, nil})
	}
}

func TestOrderOfWaits(t *testing.T) {
	want := waits(asked(5, 8), asked(5, 63), unchosen(5, 0), unchosen(5, 4), asked(6, 0), asked(6, 8), unchosen(6, 0), unchosen(6, 8), unchosen(7, 0), asked(8, 0))
	var l [][]api.Node
	for _, w := range want {
		c := scale(fix(w.Key), zero())
		if w.Choice {
			c = or(w.Key, zero(), zero())
		}
		l = append(l, when(w.Day, c))
	}
	r := rand.New(rand.NewSource(2))
	for range 50 {
		r.Shuffle(len(l), func(i, j int) { l[i], l[j] = l[j], l[i] })
		// Some of them are asked for twice.
		checkTold(t, told{all(append(l, l[0], l[1])...), nil, want})
	}
}

// over is a number that does not fit.
func over() []api.Node { return op(api.Plus, num(most, 1), num(1, 1)) }

// TestOver: values that are asked for, and factors, that do not fit.
func TestOver(t *testing.T) {
	f := some().facts(t)
	great, small := num(most, 1), num(1, most)
	for _, c := range [][]api.Node{
		scale(over(), unit(0)),
		scale(over(), zero()),
		scale(op(api.Times, over(), num(0, 1)), unit(0)),
		scale(op(api.Plus, over(), fix(9)), unit(0)),
		scale(num(0, 1), scale(over(), unit(0))),
		scale(great, scale(num(2, 1), unit(0))),
		scale(great, scale(fix(1), unit(0))),
		scale(great, scale(num(2, 1), zero())),
		scale(great, scale(num(-2, 1), scale(num(0, 1), unit(0)))),
		scale(great, scale(num(2, 1), scale(num(1, 2), unit(0)))),
		scale(great, scale(num(2, 1), when(10, unit(0)))),
		scale(great, scale(num(2, 1), when(4, unit(0)))),
		scale(great, when(6, scale(fix(1), unit(0)))),
		scale(num(1<<62, 1), scale(num(-2, 1), unit(0))),
		scale(small, scale(num(1, 2), unit(0))),
		scale(num(1, 1<<62), scale(num(1, 2), unit(0))),
		scale(great, give(scale(num(2, 1), unit(0)))),
		give(scale(great, scale(num(2, 1), unit(0)))),
		cond(over(), num(1, 1), unit(0), unit(0)),
		cond(num(1, 1), over(), unit(0), unit(0)),
		cond(over(), fix(9), unit(0), unit(0)),
		both(unit(0), scale(over(), unit(0))),
		both(scale(over(), unit(0)), unit(0)),
		both(scale(fix(9), unit(0)), when(9, scale(over(), unit(0)))),
		or(1, scale(over(), unit(0)), unit(0)),
		or(2, unit(0), scale(over(), unit(0))),
		cond(num(1, 1), num(2, 1), scale(over(), unit(0)), unit(0)),
		cond(num(2, 1), num(1, 1), unit(0), scale(over(), unit(0))),
		later(2, 9, scale(over(), unit(0))),
		give(give(scale(over(), unit(0)))),
	} {
		checkError(t, c, 5, 9, f, api.ErrOver)
		check(t, c, 5, 9, some())
	}
}

// TestNotOver: what is not asked for, or fits after all, is no error.
func TestNotOver(t *testing.T) {
	great, wrong := num(most, 1), scale(over(), unit(0))
	checkTold(t,
		told{scale(great, unit(0)), flows(flow(5, 0, most)), nil},
		told{give(scale(great, unit(0))), flows(flow(5, 0, -most)), nil},
		told{scale(great, scale(num(-1, 1), unit(0))), flows(flow(5, 0, -most)), nil},
		told{both(scale(great, unit(0)), scale(great, unit(0))), flows(flow(5, 0, most), flow(5, 0, most)), nil},
		told{scale(great, scale(num(1, 7), scale(num(2, 1), unit(0)))), flows(flow(5, 0, most/7*2)), nil},
		told{scale(great, scale(num(2, most), unit(0))), flows(flow(5, 0, 2)), nil},
		told{scale(num(1, most), unit(0)), nil, nil},
		told{scale(great, cond(great, num(most-1, 1), unit(0), unit(1))), flows(flow(5, 1, most)), nil},
		told{scale(fix(9), wrong), nil, waits(asked(5, 9))},
		told{scale(great, scale(fix(9), scale(num(2, 1), unit(0)))), nil, waits(asked(5, 9))},
		told{when(10, wrong), nil, nil},
		told{when(4, wrong), nil, nil},
		told{later(3, 9, wrong), nil, nil},
		told{or(9, wrong, wrong), nil, waits(unchosen(5, 9))},
		told{or(1, unit(0), wrong), flows(flow(5, 0, 1)), nil},
		told{or(2, wrong, unit(0)), flows(flow(5, 0, 1)), nil},
		told{cond(num(1, 1), num(2, 1), unit(0), wrong), flows(flow(5, 0, 1)), nil},
		told{cond(num(2, 1), num(1, 1), wrong, unit(0)), flows(flow(5, 0, 1)), nil},
		told{cond(fix(9), num(1, 1), wrong, wrong), nil, waits(asked(5, 9))},
	)
}

// wrongTerms are terms that are no contracts, by their errors.
func wrongTerms() map[api.Errno][][]api.Node {
	return map[api.Errno][][]api.Node{
		api.ErrDeep: {
			slices.Repeat(zero(), 65), slices.Repeat([]api.Node{{}}, 5000), append(slices.Repeat(op(api.Give), 12), zero()...),
			scale(append(slices.Repeat(op(api.Neg), 11), num(1, 1)...), zero()),
		},
		api.ErrForm: {
			nil, {}, slices.Repeat(zero(), 2), give(nil), op(api.And, zero()), op(api.Scale, num(1, 1)), op(0), op(-1), op(api.Ops), op(most), op(least), give(op(99)),
		},
		api.ErrRange: {
			unit(-1), unit(8), unit(most), when(-1, zero()), when(73049, zero()), or(64, zero(), zero()), or(-1, zero(), zero()), later(64, 5, zero()), later(0, -1, zero()), later(0, 73049, zero()),
			scale(num(2, 2), unit(0)), scale(num(1, 0), unit(0)), scale(fix(64), unit(0)), with(api.Node{Op: api.Zero, A: 1}), with(api.Node{Op: api.Give, B: 1}, zero()), with(api.Node{Op: api.One, Value: api.Ratio{Num: 1, Den: 1}}),
		},
		api.ErrSort: {
			num(1, 1), fix(1), op(api.Plus, num(1, 1), fix(1)), over(), give(num(1, 1)), both(unit(0), fix(1)), scale(unit(0), unit(0)), scale(num(1, 1), num(1, 1)), cond(num(1, 1), zero(), zero(), zero()),
		},
	}
}

// wrongDays are pairs of from and to, of which one may not be.
func wrongDays() [][2]int {
	var l [][2]int
	for _, day := range []int{-2, -3, 73049, 73050, 1 << 32, -1 << 32, most, least} {
		l = append(l, [2]int{day, 5}, [2]int{5, day}, [2]int{day, day}, [2]int{0, day}, [2]int{73048, day}, [2]int{day, -1}, [2]int{day, 73048})
	}
	return append(l, [2]int{-1, -1}, [2]int{-1, 0}, [2]int{-1, 73048})
}

// TestErrorsOfTerms: they count ahead of all others.
func TestErrorsOfTerms(t *testing.T) {
	for want, l := range wrongTerms() {
		for _, c := range l {
			if e := term.Check(c); e != want {
				t.Fatal(c, e, want)
			}
			for _, days := range append(wrongDays(), [2]int{5, 9}, [2]int{0, 73048}, [2]int{5, -1}) {
				checkError(t, c, days[0], days[1], nil, want)
			}
		}
	}
}

// TestErrorsOfDays: they count ahead of what does not fit.
func TestErrorsOfDays(t *testing.T) {
	for _, days := range wrongDays() {
		for _, c := range [][]api.Node{zero(), unit(0), scale(over(), unit(0)), or(9, unit(0), unit(0))} {
			checkError(t, c, days[0], days[1], some().facts(t), api.ErrDay)
			checkError(t, c, days[0], days[1], nil, api.ErrDay)
		}
	}
}

// TestDays: all edges of days that may be.
func TestDays(t *testing.T) {
	c := all(unit(0), scale(fix(0), unit(1)), or(0, unit(2), unit(3)), when(0, unit(4)), when(73048, unit(5)), later(0, 73048, unit(6)), later(0, 0, unit(7)), when(73047, scale(fix(0), unit(0))))
	edges := []int{0, 1, 2, 73046, 73047, 73048}
	for _, from := range edges {
		for _, to := range append(edges, -1) {
			for _, day := range edges {
				m := newModel()
				m.fixings[place{0, day}] = api.Ratio{Num: 3, Den: 1}
				m.choices[place{0, day}] = 1
				check(t, c, from, to, m)
			}
		}
	}
}

func TestNilFacts(t *testing.T) {
	r := rand.New(rand.NewSource(3))
	for range 500 {
		c := drawFitting(r, 10, 64)
		want, wantWaits, wantE := want(c, 10, 15, newModel())
		if l, e := denote.Flows(c, 10, 15, nil); !slices.Equal(l, want) || e != wantE {
			t.Errorf("Flows(%v): %v, %v; want %v, %v", c, l, e, want, wantE)
		}
		if l, e := denote.Waits(c, 10, 15, nil); !slices.Equal(l, wantWaits) || e != wantE {
			t.Errorf("Waits(%v): %v, %v; want %v, %v", c, l, e, wantWaits, wantE)
		}
	}
}

// TestAnew: what is told anew counts in place of the other one, at the next call.
func TestAnew(t *testing.T) {
	f := some().facts(t)
	c := both(scale(fix(1), unit(0)), or(1, unit(1), unit(2)))
	for n := 3; n < 9; n++ {
		f.Fix(facts.Fixing{Key: 1, Day: 5, Value: api.Ratio{Num: n, Den: 1}})
		f.Choose(facts.Choice{Key: 1, Day: 5, Pick: 1 + n%2})
		if l, e := denote.Flows(c, 5, 9, f); !slices.Equal(l, flows(flow(5, 0, n), flow(5, 1+n%2, 1))) || e != api.OK {
			t.Error(n, l, e)
		}
	}
}

// TestGreatestContracts: ones that are as deep, or have as many nodes, as may be.
func TestGreatestContracts(t *testing.T) {
	deep, turned := unit(0), zero()
	for range 11 {
		deep, turned = give(deep), scale(fix(1), turned)
	}
	checkTold(t, told{deep, flows(flow(5, 0, -1)), nil}, told{turned, nil, nil})
	wide := unit(3)
	for range 5 {
		wide = both(wide, wide)
	}
	wide = give(wide)
	if len(wide) != 64 {
		t.Fatal(len(wide))
	}
	checkTold(t, told{wide, slices.Repeat(flows(flow(5, 3, -1)), 32), nil})
	asks := scale(fix(9), unit(0))
	for range 3 {
		asks = both(when(7, asks), asks)
	}
	checkTold(t, told{asks, nil, waits(asked(5, 9), asked(7, 9))})
}

// TestDrawnContracts: by drawn facts, from and to drawn days.
func TestDrawnContracts(t *testing.T) {
	r := rand.New(rand.NewSource(4))
	for range 20000 {
		about := one(r, 0, 2, 100, 73040, 73048)
		from := drawDay(r, about)
		to := max(-1, drawDay(r, about+3)-r.Intn(2))
		check(t, drawFitting(r, about, 64), from, to, drawModel(r, about, one(r, 0, 2, 5, 9, 10)))
	}
}

// P9.2

func TestNet(t *testing.T) {
	for _, c := range []struct{ l, want []api.Flow }{
		{nil, nil},
		{flows(flow(5, 1, 3)), flows(flow(5, 1, 3))},
		{flows(flow(5, 1, -3)), flows(flow(5, 1, -3))},
		{flows(flow(5, 1, 0)), nil},
		{flows(flow(5, 1, 3), flow(5, 1, 4)), flows(flow(5, 1, 7))},
		{flows(flow(5, 1, 3), flow(5, 1, -3)), nil},
		{flows(flow(5, 1, 3), flow(5, 2, -3)), flows(flow(5, 1, 3), flow(5, 2, -3))},
		{flows(flow(5, 1, 3), flow(6, 1, -3)), flows(flow(5, 1, 3), flow(6, 1, -3))},
		{flows(flow(1, 5, 3), flow(5, 1, 3)), flows(flow(1, 5, 3), flow(5, 1, 3))},
		{flows(flow(5, 1, 3), flow(1, 5, 3)), flows(flow(1, 5, 3), flow(5, 1, 3))},
		{flows(flow(6, 0, 1), flow(5, 7, 2), flow(5, 0, 3), flow(6, 0, 4), flow(5, 7, -3)), flows(flow(5, 0, 3), flow(5, 7, -1), flow(6, 0, 5))},
		{flows(flow(73048, 7, most), flow(0, 0, least)), flows(flow(0, 0, least), flow(73048, 7, most))},
		{flows(flow(10, 0, 1), flow(9, 0, 1), flow(100, 0, 1)), flows(flow(9, 0, 1), flow(10, 0, 1), flow(100, 0, 1))},
	} {
		if l, e := denote.Net(c.l...); !slices.Equal(l, c.want) || e != api.OK {
			t.Errorf("Net(%v): %v, %v; want %v", c.l, l, e, c.want)
		}
		checkNet(t, c.l...)
	}
}

// TestNetOver: what all of a day and a currency come to counts, not what some do, nor what those of others do.
func TestNetOver(t *testing.T) {
	great, depth, one := flow(5, 1, most), flow(5, 1, least), flow(5, 1, 1)
	less := flow(5, 1, -1)
	for _, l := range [][]api.Flow{
		{great, one}, {one, great}, {depth, less}, {great, great}, {depth, depth},
		{flow(4, 0, 3), great, one}, {great, flow(6, 0, 3), one}, {great, one, flow(5, 2, 3)}, {great, one, flow(6, 1, -1)}, {great, one, flow(5, 0, -1)},
		{great, one, flow(7, 1, most), flow(7, 1, 1)}, {flow(5, 2, least), flow(5, 2, -1), one}, {great, great, great, depth, flow(5, 1, 3)},
	} {
		if net, e := denote.Net(l...); len(net) != 0 || e != api.ErrOver {
			t.Errorf("Net(%v): %v, %v", l, net, e)
		}
		checkNet(t, l...)
	}
	for _, c := range []struct{ l, want []api.Flow }{
		{flows(great, one, less), flows(great)},
		{flows(great, great, depth, depth), flows(flow(5, 1, -2))},
		{flows(great, one, depth), nil},
		{flows(depth, less, one), flows(depth)},
		{flows(depth, depth, great, great, one, one), nil},
		{flows(great, flow(6, 1, 1), flow(5, 0, 1)), flows(flow(5, 0, 1), great, flow(6, 1, 1))},
	} {
		for range 2 {
			if net, e := denote.Net(c.l...); !slices.Equal(net, c.want) || e != api.OK {
				t.Errorf("Net(%v): %v, %v; want %v", c.l, net, e, c.want)
			}
			slices.Reverse(c.l)
		}
	}
}

func TestDrawnNets(t *testing.T) {
	r := rand.New(rand.NewSource(5))
	for range 5000 {
		var l []api.Flow
		for range r.Intn(30) {
			n := r.Intn(7) - 3
			if r.Intn(8) == 0 {
				n = one(r, most, least, most-1, -most, 1<<62, -1<<62)
			}
			l = append(l, flow(one(r, 0, 1, 2, 9, 10, 73048), one(r, 0, 1, 7), n))
		}
		checkNet(t, l...)
		r.Shuffle(len(l), func(i, j int) { l[i], l[j] = l[j], l[i] })
		checkNet(t, l...)
	}
}

// TestNetOfMany: of as many days as there are, and many flows of one of them.
func TestNetOfMany(t *testing.T) {
	var l, want []api.Flow
	for day := 73048; day >= 0; day-- {
		l = append(l, flow(day, day%8, day-9), flow(3, 3, 2))
	}
	for day := range 73049 {
		x := flow(day, day%8, day-9)
		if day == 3 {
			x.Amount += 2 * 73049
		}
		if x.Amount != 0 {
			want = append(want, x)
		}
	}
	if net, e := denote.Net(l...); !slices.Equal(net, want) || e != api.OK {
		t.Error(len(net), e)
	}
}

// P9.3

// up is those of a list up to a day.
func up(l []api.Flow, to int) []api.Flow {
	return slices.DeleteFunc(slices.Clone(l), func(x api.Flow) bool { return x.Day > to })
}

// TestUpToADay: flows up to a day are those up to a later day that are no later.
func TestUpToADay(t *testing.T) {
	r := rand.New(rand.NewSource(6))
	for range 2000 {
		c, f := drawFitting(r, 10, 64), drawModel(r, 10, one(r, 2, 5, 9)).facts(t)
		last, e := denote.Flows(c, 10, 20, f)
		if e != api.OK {
			continue
		}
		for to := -1; to < 20; to++ {
			if l, e := denote.Flows(c, 10, to, f); !slices.Equal(l, up(last, to)) || e != api.OK {
				t.Errorf("Flows(%v, 10, %d): %v, %v; to 20: %v", c, to, l, e, last)
			}
		}
	}
}

// less is flows, the amounts less than nought, in order.
func less(l []api.Flow) []api.Flow {
	turned := slices.Clone(l)
	for i := range turned {
		turned[i].Amount = -turned[i].Amount
	}
	slices.SortFunc(turned, flowOrder)
	return turned
}

// TestGiven: a contract given once pays the amounts less than nought, given twice as it does; it waits for the same.
func TestGiven(t *testing.T) {
	r := rand.New(rand.NewSource(7))
	for range 3000 {
		c, f := drawFitting(r, 10, 62), drawModel(r, 10, one(r, 2, 5, 9)).facts(t)
		l, e := denote.Flows(c, 10, 15, f)
		w, _ := denote.Waits(c, 10, 15, f)
		for n, want := range map[int][]api.Flow{1: less(l), 2: l} {
			given := append(slices.Repeat(op(api.Give), n), c...)
			if got, g := denote.Flows(given, 10, 15, f); !slices.Equal(got, want) || g != e {
				t.Errorf("given %d times, %v: %v, %v; want %v, %v", n, c, got, g, want, e)
			}
			if got, g := denote.Waits(given, 10, 15, f); !slices.Equal(got, w) || g != e {
				t.Errorf("given %d times, %v waits: %v, %v; want %v, %v", n, c, got, g, w, e)
			}
		}
	}
}

// TestBoth: both of two contracts pay, and wait for, what each one does.
func TestBoth(t *testing.T) {
	r := rand.New(rand.NewSource(8))
	for range 3000 {
		c, d := drawFitting(r, 10, 31), drawFitting(r, 10, 31)
		f := drawModel(r, 10, one(r, 2, 5, 9)).facts(t)
		l, e := denote.Flows(c, 10, 15, f)
		k, g := denote.Flows(d, 10, 15, f)
		v, _ := denote.Waits(c, 10, 15, f)
		w, _ := denote.Waits(d, 10, 15, f)
		want, wants := append(l, k...), append(v, w...)
		if e != api.OK || g != api.OK {
			checkError(t, both(c, d), 10, 15, f, api.ErrOver)
			continue
		}
		slices.SortFunc(want, flowOrder)
		slices.SortFunc(wants, waitOrder)
		if got, e := denote.Flows(both(c, d), 10, 15, f); !slices.Equal(got, want) || e != api.OK {
			t.Errorf("both of %v and %v: %v, %v; want %v", c, d, got, e, want)
		}
		if got, e := denote.Waits(both(c, d), 10, 15, f); !slices.Equal(got, slices.Compact(wants)) || e != api.OK {
			t.Errorf("both of %v and %v wait: %v, %v; want %v", c, d, got, e, wants)
		}
	}
}

// tell puts what is not known in a model, of another one: fixings, and choices of keys that no Any of the contract has.
func (m model) tell(c []api.Node, other model) {
	for at, x := range other.fixings {
		if _, is := m.fixings[at]; !is {
			m.fixings[at] = x
		}
	}
	for at, pick := range other.choices {
		chosen := slices.ContainsFunc(c, func(n api.Node) bool { return n.Op == api.Any && n.A == at.key })
		if _, is := m.choices[at]; !is && !chosen {
			m.choices[at] = pick
		}
	}
}

// TestMoreFacts: if nothing is asked for, more fixings, and choices of Or, do not count.
func TestMoreFacts(t *testing.T) {
	r := rand.New(rand.NewSource(9))
	held := 0
	for range 5000 {
		c, m := drawFitting(r, 10, 64), drawModel(r, 10, one(r, 2, 5, 9))
		l, e := denote.Flows(c, 10, 15, m.facts(t))
		w, _ := denote.Waits(c, 10, 15, m.facts(t))
		if e != api.OK || len(w) != 0 {
			continue
		}
		held++
		more := model{maps.Clone(m.fixings), maps.Clone(m.choices)}
		more.tell(c, drawModel(r, 10, 10))
		if got, e := denote.Flows(c, 10, 15, more.facts(t)); !slices.Equal(got, l) || e != api.OK {
			t.Errorf("Flows(%v) by %v: %v, %v; by %v: %v", c, more, got, e, m, l)
		}
		if got, e := denote.Waits(c, 10, 15, more.facts(t)); len(got) != 0 || e != api.OK {
			t.Errorf("Waits(%v) by %v: %v, %v", c, more, got, e)
		}
	}
	if held < 1000 {
		t.Error("too few contracts that wait for nothing:", held)
	}
}

// TestWhatIsAskedFor: when it is told, it is not asked for any more, and what is told else stays as it is.
func TestWhatIsAskedFor(t *testing.T) {
	r := rand.New(rand.NewSource(10))
	for range 1000 {
		c, f := drawFitting(r, 10, 64), drawModel(r, 10, 3).facts(t)
		for range 100 {
			l, e := denote.Waits(c, 10, 15, f)
			if e != api.OK || len(l) == 0 {
				break
			}
			w := one(r, l...)
			if w.Choice {
				f.Choose(facts.Choice{Key: w.Key, Day: w.Day, Pick: 1 + r.Intn(2)})
			} else {
				f.Fix(facts.Fixing{Key: w.Key, Day: w.Day, Value: drawRatio(r)})
			}
			left, e := denote.Waits(c, 10, 15, f)
			if slices.Contains(left, w) || e != api.OK && e != api.ErrOver {
				t.Errorf("Waits(%v), %v told: %v, %v", c, w, left, e)
			}
		}
	}
}

// What is handed in, and what is answered.

func TestNothingIsWrittenInto(t *testing.T) {
	r := rand.New(rand.NewSource(11))
	for range 500 {
		c, f := drawFitting(r, 10, 60), drawModel(r, 10, 5).facts(t)
		whole := append(slices.Clone(c), slices.Repeat(unit(7), 4)...)
		before, fixings, choices := slices.Clone(whole), slices.Collect(f.Fixings()), slices.Collect(f.Choices())
		l, e := denote.Flows(whole[:len(c)], 10, 15, f)
		w, g := denote.Waits(whole[:len(c)], 10, 15, f)
		flowsBefore, waitsBefore := slices.Clone(l), slices.Clone(w)
		clear(l[:cap(l)])
		clear(w[:cap(w)])
		if again, h := denote.Flows(whole[:len(c)], 10, 15, f); !slices.Equal(again, flowsBefore) || h != e {
			t.Errorf("Flows(%v): %v, %v, then %v, %v", c, flowsBefore, e, again, h)
		}
		if again, h := denote.Waits(whole[:len(c)], 10, 15, f); !slices.Equal(again, waitsBefore) || h != g {
			t.Errorf("Waits(%v): %v, %v, then %v, %v", c, waitsBefore, g, again, h)
		}
		if !slices.Equal(whole, before) || !slices.Equal(slices.Collect(f.Fixings()), fixings) || !slices.Equal(slices.Collect(f.Choices()), choices) {
			t.Errorf("%v was written into", c)
		}
	}
}

func TestNetWritesNothing(t *testing.T) {
	l := flows(flow(9, 1, 5), flow(3, 1, 2), flow(9, 1, -5), flow(3, 0, 2), flow(8, 8, 8))
	before := slices.Clone(l)
	net, _ := denote.Net(l[:4]...)
	clear(net[:cap(net)])
	if !slices.Equal(l, before) {
		t.Error(l)
	}
	if one, _ := denote.Net(l[1]); len(one) == 1 {
		one[0].Amount = 77
	}
	if !slices.Equal(l, before) {
		t.Error(l)
	}
}
