package value_test

import (
	"maps"
	"math/big"
	"math/rand"
	"slices"
	"testing"

	"chattel/api"
	"chattel/facts"
	"chattel/value"
)

// The tests' own telling of what the document asks for: terms gone down from their tops, over wide numbers.

const (
	most  = 1<<63 - 1
	least = -1 << 63
)

// counts are how many numbers, and how many contracts behind them, stand below ops.
var counts = map[int][2]int{
	api.Number: {}, api.Fixing: {}, api.Neg: {1, 0},
	api.Plus: {2, 0}, api.Minus: {2, 0}, api.Times: {2, 0}, api.Least: {2, 0}, api.Most: {2, 0},
	api.Zero: {}, api.One: {}, api.Give: {0, 1}, api.And: {0, 2}, api.Scale: {1, 1}, api.When: {0, 1},
	api.Cond: {2, 2}, api.Or: {0, 2}, api.Any: {0, 1},
}

// ofTwo are the ops of two numbers.
func ofTwo() []int { return []int{api.Plus, api.Minus, api.Times, api.Least, api.Most} }

// place is a key and a day.
type place struct{ key, day int }

// model is the fixings that are known.
type model map[place]api.Ratio

// facts are those of a model, told in no order.
func (m model) facts(t *testing.T) *facts.Facts {
	t.Helper()
	f := facts.New()
	for at, r := range m {
		if e := f.Fix(facts.Fixing{Key: at.key, Day: at.day, Value: r}); e != api.OK {
			t.Fatalf("Fix of %v, %v: %v", at, r, e)
		}
	}
	return f
}

// exact is a ratio as a wide number.
func exact(r api.Ratio) *big.Rat { return big.NewRat(int64(r.Num), int64(r.Den)) }

// fit is a wide number as a ratio, and whether it fits.
func fit(x *big.Rat) (api.Ratio, bool) {
	whole := big.NewInt(most)
	if x.Num().CmpAbs(whole) > 0 || x.Denom().CmpAbs(whole) > 0 {
		return api.Ratio{}, false
	}
	return api.Ratio{Num: int(x.Num().Int64()), Den: int(x.Denom().Int64())}, true
}

// apply is what an op makes of the numbers below it.
func apply(op int, x []*big.Rat) *big.Rat {
	switch op {
	case api.Neg:
		return new(big.Rat).Neg(x[0])
	case api.Plus:
		return new(big.Rat).Add(x[0], x[1])
	case api.Minus:
		return new(big.Rat).Sub(x[0], x[1])
	case api.Times:
		return new(big.Rat).Mul(x[0], x[1])
	}
	// The one of Least and Most: the first, unless the second is beyond it.
	if c := x[1].Cmp(x[0]); op == api.Least && c < 0 || op == api.Most && c > 0 {
		return x[1]
	}
	return x[0]
}

// worth is what a number is, nil, if that is not known or does not fit; whether all of it fits, and how many nodes it has.
func worth(t []api.Node, at, day int, m model) (*big.Rat, bool, int) {
	n := t[at]
	switch n.Op {
	case api.Number:
		return exact(n.Value), true, 1
	case api.Fixing:
		if r, is := m[place{n.A, day}]; is {
			return exact(r), true, 1
		}
		return nil, true, 1
	}
	known, fits, size := true, true, 1
	var below []*big.Rat
	for range counts[n.Op][0] {
		x, ok, nodes := worth(t, at+size, day, m)
		known, fits, size = known && x != nil, fits && ok, size+nodes
		below = append(below, x)
	}
	if !known {
		return nil, fits, size
	}
	x := apply(n.Op, below)
	if _, ok := fit(x); !ok {
		return nil, false, size
	}
	return x, fits, size
}

// wantAt is what At has to answer of a term that may be, at a day that may be.
func wantAt(t []api.Node, at, day int, m model) (value.Value, api.Errno) {
	if at < 0 || at >= len(t) {
		return value.Value{}, api.ErrRange
	}
	if t[at].Op > api.Most {
		return value.Value{}, api.ErrSort
	}
	x, fits, _ := worth(t, at, day, m)
	if !fits {
		return value.Value{}, api.ErrOver
	}
	if x == nil {
		return value.Value{}, api.OK
	}
	r, _ := fit(x)
	return value.Value{Is: true, Ratio: r}, api.OK
}

// wantNeeds is what Needs has to answer of a term that may be.
func wantNeeds(t []api.Node, at int) ([]int, api.Errno) {
	if at < 0 || at >= len(t) {
		return nil, api.ErrRange
	}
	if t[at].Op > api.Most {
		return nil, api.ErrSort
	}
	_, _, size := worth(t, at, 0, nil)
	set := map[int]int{}
	for _, n := range t[at : at+size] {
		if n.Op == api.Fixing {
			set[n.A]++
		}
	}
	return slices.Sorted(maps.Keys(set)), api.OK
}

// checkAt holds At against the model.
func checkAt(t *testing.T, c []api.Node, at, day int, m model) {
	t.Helper()
	want, wantE := wantAt(c, at, day, m)
	if v, e := value.At(c, at, day, m.facts(t)); v != want || e != wantE {
		t.Errorf("At(%v, %d, %d) by %v: %v, %v; want %v, %v", c, at, day, m, v, e, want, wantE)
	}
}

// checkNeeds holds Needs against the model.
func checkNeeds(t *testing.T, c []api.Node, at int) {
	t.Helper()
	want, wantE := wantNeeds(c, at)
	if l, e := value.Needs(c, at); !slices.Equal(l, want) || e != wantE {
		t.Errorf("Needs(%v, %d): %v, %v; want %v, %v", c, at, l, e, want, wantE)
	}
}

// num is a number of a ratio.
func num(n, d int) api.Node {
	return api.Node{Op: api.Number, Value: api.Ratio{Num: n, Den: d}}
}

// fix is the fixing of a key.
func fix(key int) api.Node { return api.Node{Op: api.Fixing, A: key} }

// op is a node of an op without fields.
func op(o int) []api.Node { return []api.Node{{Op: o}} }

// join is terms one behind the other.
func join(l ...[]api.Node) []api.Node { return slices.Concat(l...) }

// nodes is nodes as a term.
func nodes(l ...api.Node) []api.Node { return l }

// edges are ratios about the bounds of what may be.
func edges() []api.Ratio {
	return []api.Ratio{
		{Num: 0, Den: 1}, {Num: 1, Den: 1}, {Num: -1, Den: 1}, {Num: 1, Den: 2}, {Num: -1, Den: 2}, {Num: 2, Den: 3}, {Num: 7, Den: 1},
		{Num: most, Den: 1}, {Num: -most, Den: 1}, {Num: 1, Den: most}, {Num: -1, Den: most}, {Num: most - 1, Den: 1},
		{Num: most, Den: most - 1}, {Num: -most, Den: most - 1}, {Num: most - 1, Den: most}, {Num: most, Den: 2}, {Num: 1 << 32, Den: 1}, {Num: 1, Den: 1 << 31},
	}
}

// one is a drawn one of a list.
func one[T any](r *rand.Rand, l ...T) T { return l[r.Intn(len(l))] }

// drawRatio is one that may be: mostly a small one, so that sums and products fit.
func drawRatio(r *rand.Rand) api.Ratio {
	if r.Intn(20) == 0 {
		return one(r, edges()...)
	}
	x, _ := fit(big.NewRat(int64(r.Intn(21)-10), int64(1+r.Intn(4))))
	return x
}

// drawKey is one of few keys, so that some come twice.
func drawKey(r *rand.Rand) int { return one(r, 0, 1, 2, 31, 32, 62, 63) }

// drawNumber is a number of at most so many nodes above one another.
func drawNumber(r *rand.Rand, depth int) []api.Node {
	if depth == 1 || r.Intn(5) == 0 {
		if r.Intn(2) == 0 {
			return nodes(fix(drawKey(r)))
		}
		return nodes(api.Node{Op: api.Number, Value: drawRatio(r)})
	}
	o := one(r, append(ofTwo(), api.Neg)...)
	t := op(o)
	for range counts[o][0] {
		t = append(t, drawNumber(r, depth-1)...)
	}
	return t
}

// drawContract is a contract of at most so many nodes above one another, with numbers in it.
func drawContract(r *rand.Rand, depth int) []api.Node {
	if depth == 1 || r.Intn(6) == 0 {
		return one(r, op(api.Zero), nodes(api.Node{Op: api.One, A: r.Intn(8)}))
	}
	o := one(r, api.Scale, api.Cond, api.Scale, api.Cond, api.Give, api.And, api.When, api.Or, api.Any)
	t := op(o)
	for range counts[o][0] {
		t = append(t, drawNumber(r, min(depth-1, 3))...)
	}
	for range counts[o][1] {
		t = append(t, drawContract(r, depth-1)...)
	}
	return t
}

// drawTerm is a term that may be, of either sort.
func drawTerm(r *rand.Rand) []api.Node {
	for {
		t := drawNumber(r, 1+r.Intn(12))
		if r.Intn(3) == 0 {
			t = drawContract(r, 1+r.Intn(6))
		}
		if len(t) <= 64 {
			return t
		}
	}
}

// drawModel is fixings at a day, of about so many of ten keys, and others at the days beside it.
func drawModel(r *rand.Rand, day, ofTen int) model {
	m := model{}
	for _, key := range []int{0, 1, 2, 31, 32, 62, 63} {
		for _, d := range []int{day - 1, day, day + 1} {
			if d >= 0 && d <= 73048 && r.Intn(10) < ofTen {
				m[place{key, d}] = drawRatio(r)
			}
		}
	}
	return m
}
