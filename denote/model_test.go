package denote_test

import (
	"cmp"
	"maps"
	"math/big"
	"math/rand"
	"slices"
	"testing"

	"chattel/api"
	"chattel/denote"
	"chattel/facts"
)

// The tests' own telling of what the document asks for: contracts taken apart into trees, that are gone down over wide numbers.

const (
	most  = 1<<63 - 1
	least = -1 << 63
)

// counts are how many numbers, and how many contracts behind them, stand below ops.
var counts = map[int][2]int{
	api.Number: {}, api.Fixing: {}, api.Neg: {1, 0},
	api.Plus: {2, 0}, api.Minus: {2, 0}, api.Times: {2, 0}, api.Least: {2, 0}, api.Most: {2, 0},
	api.Zero: {}, api.One: {}, api.Give: {0, 1}, api.And: {0, 2}, api.Scale: {1, 1}, api.When: {0, 1},
	api.Cond: {2, 2}, api.Or: {0, 2}, api.Any: {0, 1},
}

// place is a key and a day.
type place struct{ key, day int }

// model is what is known.
type model struct {
	fixings map[place]api.Ratio
	choices map[place]int
}

// newModel is one without anything.
func newModel() model { return model{map[place]api.Ratio{}, map[place]int{}} }

// facts are those of a model, told in no order.
func (m model) facts(t *testing.T) *facts.Facts {
	t.Helper()
	f := facts.New()
	for at, r := range m.fixings {
		if e := f.Fix(facts.Fixing{Key: at.key, Day: at.day, Value: r}); e != api.OK {
			t.Fatalf("Fix of %v, %v: %v", at, r, e)
		}
	}
	for at, pick := range m.choices {
		if e := f.Choose(facts.Choice{Key: at.key, Day: at.day, Pick: pick}); e != api.OK {
			t.Fatalf("Choose of %v, %v: %v", at, pick, e)
		}
	}
	return f
}

// tree is a node, and those below it.
type tree struct {
	api.Node
	numbers   []tree
	contracts []tree
}

// grow is the tree that begins a term, and what is behind it.
func grow(t []api.Node) (tree, []api.Node) {
	x := tree{Node: t[0]}
	t = t[1:]
	var next tree
	for range counts[x.Op][0] {
		next, t = grow(t)
		x.numbers = append(x.numbers, next)
	}
	for range counts[x.Op][1] {
		next, t = grow(t)
		x.contracts = append(x.contracts, next)
	}
	return x, t
}

// fits tells whether a wide number does.
func fits(x *big.Rat) bool {
	whole := big.NewInt(most)
	return x.Num().CmpAbs(whole) <= 0 && x.Denom().Cmp(whole) <= 0
}

// nearest is the whole number that is nearest to one, the even one of two.
func nearest(x *big.Rat) int {
	twice := new(big.Int).Lsh(x.Num(), 1)
	twice.Add(twice, x.Denom())
	under := new(big.Int).Lsh(x.Denom(), 1)
	up, left := new(big.Int).DivMod(twice, under, new(big.Int))
	if left.Sign() == 0 && up.Bit(0) == 1 {
		up.Sub(up, big.NewInt(1))
	}
	return int(up.Int64())
}

// teller is what a tree is told by, and what came of it.
type teller struct {
	model
	to    int
	flows []api.Flow
	waits []denote.Wait
	over  bool
}

// number is what a number is at a day; nil, if that is not known, or does not fit.
func (x *teller) number(n tree, day int) *big.Rat {
	switch n.Op {
	case api.Number:
		return big.NewRat(int64(n.Value.Num), int64(n.Value.Den))
	case api.Fixing:
		if r, is := x.fixings[place{n.A, day}]; is {
			return big.NewRat(int64(r.Num), int64(r.Den))
		}
		return nil
	}
	var l []*big.Rat
	for _, below := range n.numbers {
		l = append(l, x.number(below, day))
	}
	if slices.Contains(l, nil) {
		return nil
	}
	v := apply(n.Op, l)
	if !fits(v) {
		x.over = true
		return nil
	}
	return v
}

// apply is what an op makes of the numbers below it.
func apply(op int, x []*big.Rat) *big.Rat {
	switch op {
	case api.Neg:
		return new(big.Rat).Neg(x[0])
	case api.Plus:
		return new(big.Rat).Add(x[0], x[1])
	case api.Minus:
		return new(big.Rat).Sub(x[0], x[1])
	case api.Times:
		return new(big.Rat).Mul(x[0], x[1])
	}
	if c := x[1].Cmp(x[0]); op == api.Least && c < 0 || op == api.Most && c > 0 {
		return x[1]
	}
	return x[0]
}

// ask is what numbers are at a day; none, if one is not known: then it waits.
func (x *teller) ask(day int, numbers []tree) []*big.Rat {
	var l []*big.Rat
	for _, n := range numbers {
		l = append(l, x.number(n, day))
	}
	if !slices.Contains(l, nil) {
		return l
	}
	for _, n := range numbers {
		x.await(day, n)
	}
	return nil
}

// await waits for all fixings of a number that are not known.
func (x *teller) await(day int, n tree) {
	if _, is := x.fixings[place{n.A, day}]; n.Op == api.Fixing && !is {
		x.waits = append(x.waits, denote.Wait{Key: n.A, Day: day})
	}
	for _, below := range n.numbers {
		x.await(day, below)
	}
}

// tell is what comes of a contract that is acquired at a day, times a factor.
func (x *teller) tell(c tree, day int, factor *big.Rat) {
	if day > x.to {
		return
	}
	if !fits(factor) {
		x.over = true
		return
	}
	switch c.Op {
	case api.One:
		if n := nearest(factor); n != 0 {
			x.flows = append(x.flows, api.Flow{Day: day, Cur: c.A, Amount: n})
		}
	case api.Give:
		x.tell(c.contracts[0], day, new(big.Rat).Neg(factor))
	case api.And:
		x.tell(c.contracts[0], day, factor)
		x.tell(c.contracts[1], day, factor)
	case api.Scale:
		if l := x.ask(day, c.numbers); l != nil {
			x.tell(c.contracts[0], day, l[0].Mul(l[0], factor))
		}
	case api.When:
		if c.A >= day {
			x.tell(c.contracts[0], c.A, factor)
		}
	case api.Cond:
		if l := x.ask(day, c.numbers); l != nil && l[0].Cmp(l[1]) < 0 {
			x.tell(c.contracts[0], day, factor)
		} else if l != nil {
			x.tell(c.contracts[1], day, factor)
		}
	case api.Or:
		x.or(c, day, factor)
	case api.Any:
		for d := day; d <= c.B && d <= x.to; d++ {
			if x.choices[place{c.A, d}] == 1 {
				x.tell(c.contracts[0], d, factor)
				return
			}
		}
	}
}

// or is what comes of an Or.
func (x *teller) or(c tree, day int, factor *big.Rat) {
	if pick := x.choices[place{c.A, day}]; pick != 0 {
		x.tell(c.contracts[pick-1], day, factor)
		return
	}
	x.waits = append(x.waits, denote.Wait{Choice: true, Key: c.A, Day: day})
}

// want is what Flows and Waits have to answer of a contract that may be, from and to days that may be.
func want(t []api.Node, from, to int, m model) ([]api.Flow, []denote.Wait, api.Errno) {
	x := teller{model: m, to: to}
	c, _ := grow(t)
	x.tell(c, from, big.NewRat(1, 1))
	if x.over {
		return nil, nil, api.ErrOver
	}
	slices.SortFunc(x.flows, flowOrder)
	set := map[denote.Wait]int{}
	for _, w := range x.waits {
		set[w]++
	}
	return x.flows, slices.SortedFunc(maps.Keys(set), waitOrder), api.OK
}

// flowOrder is that of flows: by Day, then Cur, then Amount.
func flowOrder(a, b api.Flow) int {
	if a.Day != b.Day {
		return cmp.Compare(a.Day, b.Day)
	}
	if a.Cur != b.Cur {
		return cmp.Compare(a.Cur, b.Cur)
	}
	return cmp.Compare(a.Amount, b.Amount)
}

// waitOrder is that of waits: by Day, then Choice (false ahead), then Key.
func waitOrder(a, b denote.Wait) int {
	if a.Day != b.Day {
		return cmp.Compare(a.Day, b.Day)
	}
	if a.Choice != b.Choice {
		if b.Choice {
			return -1
		}
		return 1
	}
	return cmp.Compare(a.Key, b.Key)
}

// check holds Flows and Waits against the model.
func check(t *testing.T, c []api.Node, from, to int, m model) {
	t.Helper()
	flows, waits, wantE := want(c, from, to, m)
	f := m.facts(t)
	if l, e := denote.Flows(c, from, to, f); !slices.Equal(l, flows) || e != wantE {
		t.Errorf("Flows(%v, %d, %d) by %v: %v, %v; want %v, %v", c, from, to, m, l, e, flows, wantE)
	}
	if l, e := denote.Waits(c, from, to, f); !slices.Equal(l, waits) || e != wantE {
		t.Errorf("Waits(%v, %d, %d) by %v: %v, %v; want %v, %v", c, from, to, m, l, e, waits, wantE)
	}
}

// wantNet is what Net has to answer.
func wantNet(l []api.Flow) ([]api.Flow, api.Errno) {
	sums := map[[2]int]*big.Int{}
	for _, x := range l {
		at := [2]int{x.Day, x.Cur}
		if sums[at] == nil {
			sums[at] = new(big.Int)
		}
		sums[at].Add(sums[at], big.NewInt(int64(x.Amount)))
	}
	var net []api.Flow
	for at, sum := range sums {
		if !sum.IsInt64() {
			return nil, api.ErrOver
		}
		if sum.Sign() != 0 {
			net = append(net, api.Flow{Day: at[0], Cur: at[1], Amount: int(sum.Int64())})
		}
	}
	slices.SortFunc(net, flowOrder)
	return net, api.OK
}

// checkNet holds Net against the model.
func checkNet(t *testing.T, l ...api.Flow) {
	t.Helper()
	flows, wantE := wantNet(l)
	if net, e := denote.Net(l...); !slices.Equal(net, flows) || e != wantE {
		t.Errorf("Net(%v): %v, %v; want %v, %v", l, net, e, flows, wantE)
	}
}

// num is a number of a ratio.
func num(n, d int) []api.Node {
	return []api.Node{{Op: api.Number, Value: api.Ratio{Num: n, Den: d}}}
}

// fix is the fixing of a key.
func fix(key int) []api.Node { return []api.Node{{Op: api.Fixing, A: key}} }

// op is an op without fields, ahead of terms.
func op(o int, l ...[]api.Node) []api.Node { return with(api.Node{Op: o}, l...) }

// with is a node ahead of terms.
func with(n api.Node, l ...[]api.Node) []api.Node {
	return append([]api.Node{n}, slices.Concat(l...)...)
}

// unit is one of a currency.
func unit(cur int) []api.Node { return with(api.Node{Op: api.One, A: cur}) }

// zero is nothing.
func zero() []api.Node { return op(api.Zero) }

// give is a contract the other way round.
func give(c []api.Node) []api.Node { return op(api.Give, c) }

// both is two contracts.
func both(a, b []api.Node) []api.Node { return op(api.And, a, b) }

// all is as many contracts as there are, at least one, as flat as may be.
func all(l ...[]api.Node) []api.Node {
	if len(l) == 1 {
		return l[0]
	}
	return both(all(l[:len(l)/2]...), all(l[len(l)/2:]...))
}

// scale is a contract times a number.
func scale(n, c []api.Node) []api.Node { return op(api.Scale, n, c) }

// when is a contract at a day.
func when(day int, c []api.Node) []api.Node { return with(api.Node{Op: api.When, A: day}, c) }

// cond is one of two contracts, by two numbers.
func cond(a, b, c, d []api.Node) []api.Node { return op(api.Cond, a, b, c, d) }

// or is one of two contracts, by a choice.
func or(key int, c, d []api.Node) []api.Node { return with(api.Node{Op: api.Or, A: key}, c, d) }

// later is a contract at a day that is chosen, up to a last one.
func later(key, last int, c []api.Node) []api.Node {
	return with(api.Node{Op: api.Any, A: key, B: last}, c)
}

// one is a drawn one of a list.
func one[T any](r *rand.Rand, l ...T) T { return l[r.Intn(len(l))] }

// drawRatio is one that may be: mostly a small one, so that products fit.
func drawRatio(r *rand.Rand) api.Ratio {
	if r.Intn(20) == 0 {
		return one(r, api.Ratio{Num: most, Den: 1}, api.Ratio{Num: -most, Den: 1}, api.Ratio{Num: 1, Den: most}, api.Ratio{Num: most, Den: 2}, api.Ratio{Num: 1 << 32, Den: 1}, api.Ratio{Num: -1, Den: 1 << 31})
	}
	x := big.NewRat(int64(r.Intn(21)-10), int64(1+r.Intn(4)))
	return api.Ratio{Num: int(x.Num().Int64()), Den: int(x.Denom().Int64())}
}

// drawKey is one of few keys, so that some come twice.
func drawKey(r *rand.Rand) int { return one(r, 0, 1, 62, 63) }

// drawDay is a day about another one, that may be.
func drawDay(r *rand.Rand, about int) int { return min(max(about+r.Intn(9)-4, 0), api.MaxDay) }

// drawNumber is a number of at most so many nodes above one another.
func drawNumber(r *rand.Rand, depth int) []api.Node {
	if depth == 1 || r.Intn(2) == 0 {
		if r.Intn(2) == 0 {
			return fix(drawKey(r))
		}
		return with(api.Node{Op: api.Number, Value: drawRatio(r)})
	}
	o := one(r, api.Neg, api.Plus, api.Minus, api.Times, api.Least, api.Most)
	t := op(o)
	for range counts[o][0] {
		t = append(t, drawNumber(r, depth-1)...)
	}
	return t
}

// drawContract is a contract of at most so many nodes above one another, whose days are about one.
func drawContract(r *rand.Rand, depth, about int) []api.Node {
	if depth == 1 || r.Intn(12) == 0 {
		return one(r, zero(), unit(r.Intn(8)), unit(r.Intn(2)), unit(0))
	}
	n := api.Node{Op: one(r, api.Scale, api.Cond, api.Scale, api.And, api.And, api.And, api.Give, api.When, api.Or, api.Any)}
	switch n.Op {
	case api.When:
		n.A = drawDay(r, about+1)
	case api.Or:
		n.A = drawKey(r)
	case api.Any:
		n.A, n.B = drawKey(r), drawDay(r, about+2)
	}
	t := with(n)
	for range counts[n.Op][0] {
		t = append(t, drawNumber(r, min(depth-1, 3))...)
	}
	for range counts[n.Op][1] {
		t = append(t, drawContract(r, depth-1, about)...)
	}
	return t
}

// drawFitting is a contract of no more than so many nodes.
func drawFitting(r *rand.Rand, about, nodes int) []api.Node {
	for {
		if t := drawContract(r, 1+r.Intn(7), about); len(t) <= nodes {
			return t
		}
	}
}

// drawModel is facts about a day, of about so many of ten keys and days.
func drawModel(r *rand.Rand, about, ofTen int) model {
	m := newModel()
	for _, key := range []int{0, 1, 62, 63} {
		for day := max(about-4, 0); day <= min(about+8, api.MaxDay); day++ {
			if r.Intn(10) < ofTen {
				m.fixings[place{key, day}] = drawRatio(r)
			}
			if r.Intn(10) < ofTen {
				m.choices[place{key, day}] = 1 + r.Intn(2)
			}
		}
	}
	return m
}
