package step_test

import (
	"cmp"
	"maps"
	"math/big"
	"math/rand"
	"slices"
	"testing"

	"chattel/api"
	"chattel/denote"
	"chattel/facts"
	"chattel/step"
)

// The tests' own telling of what the document asks for: contracts taken apart into trees, that are gone down over wide numbers, as far as may be done.

const (
	most  = 1<<63 - 1
	least = -1 << 63
)

// counts are how many numbers, and how many contracts behind them, stand below ops.
var counts = map[int][2]int{
	api.Number: {}, api.Fixing: {}, api.Neg: {1, 0},
	api.Plus: {2, 0}, api.Minus: {2, 0}, api.Times: {2, 0}, api.Least: {2, 0}, api.Most: {2, 0},
	api.Zero: {}, api.One: {}, api.Give: {0, 1}, api.And: {0, 2}, api.Scale: {1, 1}, api.When: {0, 1},
	api.Cond: {2, 2}, api.Or: {0, 2}, api.Any: {0, 1},
}

// spot is a key and a day.
type spot struct{ key, day int }

// model is what is known.
type model struct {
	fixings map[spot]api.Ratio
	choices map[spot]int
}

// newModel is one without anything.
func newModel() model { return model{map[spot]api.Ratio{}, map[spot]int{}} }

// copy is one of its own that is the same.
func (m model) copy() model { return model{maps.Clone(m.fixings), maps.Clone(m.choices)} }

// fix and choose tell one that has more.
func (m model) fix(key, day, num, den int) model {
	m = m.copy()
	m.fixings[spot{key, day}] = api.Ratio{Num: num, Den: den}
	return m
}
func (m model) choose(key, day, pick int) model {
	m = m.copy()
	m.choices[spot{key, day}] = pick
	return m
}

// facts are those of a model, told in no order.
func (m model) facts(t *testing.T) *facts.Facts {
	t.Helper()
	f := facts.New()
	for at, r := range m.fixings {
		if e := f.Fix(facts.Fixing{Key: at.key, Day: at.day, Value: r}); e != api.OK {
			t.Fatalf("Fix of %v, %v: %v", at, r, e)
		}
	}
	for at, pick := range m.choices {
		if e := f.Choose(facts.Choice{Key: at.key, Day: at.day, Pick: pick}); e != api.OK {
			t.Fatalf("Choose of %v, %v: %v", at, pick, e)
		}
	}
	return f
}

// tree is a node, and those below it.
type tree struct {
	api.Node
	numbers   []tree
	contracts []tree
}

// grow is the tree that begins a term, and what is behind it.
func grow(t []api.Node) (tree, []api.Node) {
	x := tree{Node: t[0]}
	t = t[1:]
	var next tree
	for range counts[x.Op][0] {
		next, t = grow(t)
		x.numbers = append(x.numbers, next)
	}
	for range counts[x.Op][1] {
		next, t = grow(t)
		x.contracts = append(x.contracts, next)
	}
	return x, t
}

// fits tells whether a wide number does.
func fits(x *big.Rat) bool {
	whole := big.NewInt(most)
	return x.Num().CmpAbs(whole) <= 0 && x.Denom().Cmp(whole) <= 0
}

// nearest is the whole number that is nearest to one, the even one of two.
func nearest(x *big.Rat) int {
	twice := new(big.Int).Lsh(x.Num(), 1)
	twice.Add(twice, x.Denom())
	under := new(big.Int).Lsh(x.Denom(), 1)
	up, left := new(big.Int).DivMod(twice, under, new(big.Int))
	if left.Sign() == 0 && up.Bit(0) == 1 {
		up.Sub(up, big.NewInt(1))
	}
	return int(up.Int64())
}

// piece is a tree that is held, as of a day, times a factor.
type piece struct {
	tree
	day    int
	factor *big.Rat
}

// run is what a Run has to be.
type run struct {
	day   int
	held  []piece
	waits []denote.Wait
}

// newRun is one of a contract that may be.
func newRun(c []api.Node, from int) *run {
	x, _ := grow(c)
	return &run{day: -1, held: []piece{{x, from, big.NewRat(1, 1)}}}
}

// doer is what pieces are done by, and what came of them.
type doer struct {
	model
	to    int
	flows []api.Flow
	waits []denote.Wait
	held  []piece
	over  bool
}

// number is what a number is at a day; nil, if that is not known, or does not fit.
func (x *doer) number(n tree, day int) *big.Rat {
	switch n.Op {
	case api.Number:
		return big.NewRat(int64(n.Value.Num), int64(n.Value.Den))
	case api.Fixing:
		if r, is := x.fixings[spot{n.A, day}]; is {
			return big.NewRat(int64(r.Num), int64(r.Den))
		}
		return nil
	}
	var l []*big.Rat
	for _, below := range n.numbers {
		l = append(l, x.number(below, day))
	}
	if slices.Contains(l, nil) {
		return nil
	}
	v := apply(n.Op, l)
	if !fits(v) {
		x.over = true
		return nil
	}
	return v
}

// apply is what an op makes of the numbers below it.
func apply(op int, x []*big.Rat) *big.Rat {
	switch op {
	case api.Neg:
		return new(big.Rat).Neg(x[0])
	case api.Plus:
		return new(big.Rat).Add(x[0], x[1])
	case api.Minus:
		return new(big.Rat).Sub(x[0], x[1])
	case api.Times:
		return new(big.Rat).Mul(x[0], x[1])
	}
	if c := x[1].Cmp(x[0]); op == api.Least && c < 0 || op == api.Most && c > 0 {
		return x[1]
	}
	return x[0]
}

// ask is what a piece's numbers are; none, if one is not known: then it waits.
func (x *doer) ask(p piece) []*big.Rat {
	var l []*big.Rat
	for _, n := range p.numbers {
		l = append(l, x.number(n, p.day))
	}
	if !slices.Contains(l, nil) {
		return l
	}
	for _, n := range p.numbers {
		x.await(p.day, n)
	}
	x.held = append(x.held, p)
	return nil
}

// await waits for all fixings of a number that are not known.
func (x *doer) await(day int, n tree) {
	if _, is := x.fixings[spot{n.A, day}]; n.Op == api.Fixing && !is {
		x.waits = append(x.waits, denote.Wait{Key: n.A, Day: day})
	}
	for _, below := range n.numbers {
		x.await(day, below)
	}
}

// do is what comes of a piece.
func (x *doer) do(p piece) {
	if !fits(p.factor) {
		x.over = true
		return
	}
	if p.day > x.to {
		x.held = append(x.held, p)
		return
	}
	next := func(i, day int) { x.do(piece{p.contracts[i], day, p.factor}) }
	switch p.Op {
	case api.One:
		if n := nearest(p.factor); n != 0 {
			x.flows = append(x.flows, api.Flow{Day: p.day, Cur: p.A, Amount: n})
		}
	case api.Give:
		x.do(piece{p.contracts[0], p.day, new(big.Rat).Neg(p.factor)})
	case api.And:
		next(0, p.day)
		next(1, p.day)
	case api.Scale:
		if l := x.ask(p); l != nil {
			x.do(piece{p.contracts[0], p.day, l[0].Mul(l[0], p.factor)})
		}
	case api.When:
		if p.A >= p.day {
			next(0, p.A)
		}
	case api.Cond:
		if l := x.ask(p); l != nil && l[0].Cmp(l[1]) < 0 {
			next(0, p.day)
		} else if l != nil {
			next(1, p.day)
		}
	case api.Or:
		if pick := x.choices[spot{p.A, p.day}]; pick != 0 {
			next(pick-1, p.day)
		} else {
			x.waits = append(x.waits, denote.Wait{Choice: true, Key: p.A, Day: p.day})
			x.held = append(x.held, p)
		}
	case api.Any:
		for d := p.day; d <= p.B && d <= x.to; d++ {
			if x.choices[spot{p.A, d}] == 1 {
				next(0, d)
				return
			}
		}
		if p.B >= p.day {
			x.held = append(x.held, p)
		}
	}
}

// goes is what Go has to answer.
func (r *run) goes(to int, m model) ([]api.Flow, api.Errno) {
	if to < r.day || to > 73048 {
		return nil, api.ErrDay
	}
	x := doer{model: m, to: to}
	for _, p := range r.held {
		x.do(p)
	}
	if x.over {
		return nil, api.ErrOver
	}
	set := map[denote.Wait]int{}
	for _, w := range x.waits {
		set[w]++
	}
	r.day, r.held, r.waits = to, x.held, slices.SortedFunc(maps.Keys(set), waitOrder)
	slices.SortFunc(x.flows, flowOrder)
	return x.flows, api.OK
}

// flowOrder is that of flows: by Day, then Cur, then Amount.
func flowOrder(a, b api.Flow) int {
	if a.Day != b.Day {
		return cmp.Compare(a.Day, b.Day)
	}
	if a.Cur != b.Cur {
		return cmp.Compare(a.Cur, b.Cur)
	}
	return cmp.Compare(a.Amount, b.Amount)
}

// waitOrder is that of waits: by Day, then Choice (false ahead), then Key.
func waitOrder(a, b denote.Wait) int {
	if a.Day != b.Day {
		return cmp.Compare(a.Day, b.Day)
	}
	if a.Choice != b.Choice {
		if b.Choice {
			return -1
		}
		return 1
	}
	return cmp.Compare(a.Key, b.Key)
}

// pair is a Run, and what it has to be.
type pair struct {
	r    *step.Run
	want *run
}

// newPair is one of a contract that may be.
func newPair(t *testing.T, c []api.Node, from int) pair {
	t.Helper()
	r, e := step.New(c, from)
	if r == nil || e != api.OK {
		t.Fatalf("New(%v, %d): %v, %v", c, from, r, e)
	}
	p := pair{r, newRun(c, from)}
	p.checkState(t)
	return p
}

// copy is one of its own that is the same.
func (p pair) copy(t *testing.T) pair {
	t.Helper()
	want := *p.want
	other := pair{p.r.Copy(), &want}
	if other.r == nil || other.r == p.r {
		t.Fatalf("Copy of %p: %p", p.r, other.r)
	}
	other.checkState(t)
	return other
}

// checkState holds what is told of a Run against the model.
func (p pair) checkState(t *testing.T) {
	t.Helper()
	if l := p.r.Waits(); !slices.Equal(l, p.want.waits) {
		t.Errorf("Waits: %v; want %v", l, p.want.waits)
	}
	if day := p.r.Day(); day != p.want.day {
		t.Errorf("Day: %d; want %d", day, p.want.day)
	}
	if over := p.r.Over(); over != (len(p.want.held) == 0) {
		t.Errorf("Over: %v; held %v", over, p.want.held)
	}
}

// goes holds Go against the model, and what is told behind it: the flows that both tell.
func (p pair) goes(t *testing.T, to int, m model) ([]api.Flow, api.Errno) {
	t.Helper()
	want, wantE := p.want.goes(to, m)
	got, e := p.r.Go(to, m.facts(t))
	if !slices.Equal(got, want) || e != wantE {
		t.Errorf("Go(%d) by %v: %v, %v; want %v, %v", to, m, got, e, want, wantE)
	}
	p.checkState(t)
	return got, e
}

// num is a number of a ratio.
func num(n, d int) []api.Node {
	return []api.Node{{Op: api.Number, Value: api.Ratio{Num: n, Den: d}}}
}

// fix is the fixing of a key.
func fix(key int) []api.Node { return []api.Node{{Op: api.Fixing, A: key}} }

// op is an op without fields, ahead of terms.
func op(o int, l ...[]api.Node) []api.Node { return with(api.Node{Op: o}, l...) }

// with is a node ahead of terms.
func with(n api.Node, l ...[]api.Node) []api.Node {
	return append([]api.Node{n}, slices.Concat(l...)...)
}

// unit is one of a currency.
func unit(cur int) []api.Node { return with(api.Node{Op: api.One, A: cur}) }

// zero is nothing.
func zero() []api.Node { return op(api.Zero) }

// give is a contract the other way round.
func give(c []api.Node) []api.Node { return op(api.Give, c) }

// both is two contracts.
func both(a, b []api.Node) []api.Node { return op(api.And, a, b) }

// all is as many contracts as there are, at least one, as flat as may be.
func all(l ...[]api.Node) []api.Node {
	if len(l) == 1 {
		return l[0]
	}
	return both(all(l[:len(l)/2]...), all(l[len(l)/2:]...))
}

// scale is a contract times a number.
func scale(n, c []api.Node) []api.Node { return op(api.Scale, n, c) }

// when is a contract at a day.
func when(day int, c []api.Node) []api.Node { return with(api.Node{Op: api.When, A: day}, c) }

// cond is one of two contracts, by two numbers.
func cond(a, b, c, d []api.Node) []api.Node { return op(api.Cond, a, b, c, d) }

// or is one of two contracts, by a choice.
func or(key int, c, d []api.Node) []api.Node { return with(api.Node{Op: api.Or, A: key}, c, d) }

// later is a contract at a day that is chosen, up to a last one.
func later(key, last int, c []api.Node) []api.Node {
	return with(api.Node{Op: api.Any, A: key, B: last}, c)
}

// over is a number that does not fit.
func over() []api.Node { return op(api.Plus, num(most, 1), num(1, 1)) }

// one is a drawn one of a list.
func one[T any](r *rand.Rand, l ...T) T { return l[r.Intn(len(l))] }

// drawRatio is one that may be: mostly a small one, so that products fit.
func drawRatio(r *rand.Rand) api.Ratio {
	if r.Intn(15) == 0 {
		return one(r, api.Ratio{Num: most, Den: 1}, api.Ratio{Num: -most, Den: 1}, api.Ratio{Num: 1, Den: most}, api.Ratio{Num: most, Den: 2}, api.Ratio{Num: 1 << 32, Den: 1}, api.Ratio{Num: -1, Den: 1 << 31})
	}
	x := big.NewRat(int64(r.Intn(21)-10), int64(1+r.Intn(4)))
	return api.Ratio{Num: int(x.Num().Int64()), Den: int(x.Denom().Int64())}
}

// drawKey is one of few keys, so that some come twice.
func drawKey(r *rand.Rand) int { return one(r, 0, 1, 62, 63) }

// drawDay is a day about another one, that may be.
func drawDay(r *rand.Rand, about int) int { return min(max(about+r.Intn(9)-4, 0), api.MaxDay) }

// drawNumber is a number of at most so many nodes above one another.
func drawNumber(r *rand.Rand, depth int) []api.Node {
	if depth == 1 || r.Intn(2) == 0 {
		if r.Intn(3) > 0 {
			return fix(drawKey(r))
		}
		return with(api.Node{Op: api.Number, Value: drawRatio(r)})
	}
	o := one(r, api.Neg, api.Plus, api.Minus, api.Times, api.Least, api.Most)
	t := op(o)
	for range counts[o][0] {
		t = append(t, drawNumber(r, depth-1)...)
	}
	return t
}

// drawContract is a contract of at most so many nodes above one another, whose days are about one.
func drawContract(r *rand.Rand, depth, about int) []api.Node {
	if depth == 1 || r.Intn(12) == 0 {
		return one(r, zero(), unit(r.Intn(8)), unit(r.Intn(2)), unit(0))
	}
	n := api.Node{Op: one(r, api.Scale, api.Cond, api.And, api.And, api.And, api.Give, api.When, api.When, api.Or, api.Any, api.Any)}
	switch n.Op {
	case api.When:
		n.A = drawDay(r, about+3)
	case api.Or:
		n.A = drawKey(r)
	case api.Any:
		n.A, n.B = drawKey(r), drawDay(r, about+5)
	}
	t := with(n)
	for range counts[n.Op][0] {
		t = append(t, drawNumber(r, min(depth-1, 3))...)
	}
	for range counts[n.Op][1] {
		t = append(t, drawContract(r, depth-1, about)...)
	}
	return t
}

// drawFitting is a contract of no more than so many nodes.
func drawFitting(r *rand.Rand, about, nodes int) []api.Node {
	for {
		if t := drawContract(r, 1+r.Intn(8), about); len(t) <= nodes {
			return t
		}
	}
}

// drawModel is facts about a day, of about so many of ten keys and days.
func drawModel(r *rand.Rand, about, ofTen int) model {
	m := newModel()
	for _, key := range []int{0, 1, 62, 63} {
		for day := max(about-4, 0); day <= min(about+10, api.MaxDay); day++ {
			if r.Intn(10) < ofTen {
				m.fixings[spot{key, day}] = drawRatio(r)
			}
			if r.Intn(20) < ofTen {
				m.choices[spot{key, day}] = 1 + r.Intn(2)
			}
		}
	}
	return m
}
