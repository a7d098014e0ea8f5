package amount_test

import (
	"math/big"
	"math/rand"
	"slices"
	"testing"

	"chattel/amount"
	"chattel/api"
)

const (
	most  = 1<<63 - 1
	least = -1 << 63
)

// edges are numbers about which something begins or ends to fit.
func edges() []int {
	return []int{
		0, 1, -1, 2, -2, 3, -3, 5, -5, 7, 10, -10,
		1<<31 - 1, 1 << 31, 1<<31 + 1, -1 << 31,
		1<<32 - 1, 1 << 32, 1<<32 + 1, -1 << 32,
		3037000499, 3037000500, -3037000499, -3037000500,
		1<<62 - 1, 1 << 62, 1<<62 + 1, -1 << 62, -1<<62 - 1,
		most, most - 1, most - 2, least, least + 1, least + 2,
		274177, -274177, 67280421310721, -67280421310721,
	}
}

// source tells numbers of all sizes, the same ones in each run.
func source() func() int {
	r := rand.New(rand.NewSource(1))
	return func() int { return int(r.Uint64()) >> r.Intn(64) }
}

func wide(n int) *big.Int { return big.NewInt(int64(n)) }

// fit is what is to be answered for a number that may not fit.
func fit(n *big.Int) (int, api.Errno) {
	if !n.IsInt64() {
		return 0, api.ErrOver
	}
	return int(n.Int64()), api.OK
}

func wantSum(l ...int) (int, api.Errno) {
	sum := new(big.Int)
	for _, n := range l {
		sum.Add(sum, wide(n))
	}
	return fit(sum)
}

func wantMulDiv(a, b, c int) (int, api.Errno) {
	if c == 0 {
		return 0, api.ErrZero
	}
	product := new(big.Int).Mul(wide(a), wide(b))
	below, rest := new(big.Int).DivMod(product, wide(c), new(big.Int))
	twice := rest.Lsh(rest, 1)
	by := new(big.Int).Abs(wide(c))
	// DivMod's rest is never below 0: it tells how far the product is from below times c.
	away := twice.Cmp(by)
	if away > 0 || away == 0 && below.Bit(0) == 1 {
		if c > 0 {
			below.Add(below, big.NewInt(1))
		} else {
			below.Sub(below, big.NewInt(1))
		}
	}
	return fit(below)
}

// wantSplit gives what is left one by one to the greatest rest that has none yet.
func wantSplit(total int, weights []int) []int {
	sum := new(big.Int)
	for _, w := range weights {
		sum.Add(sum, wide(w))
	}
	all := new(big.Int).Abs(wide(total))
	left := new(big.Int).Set(all)
	parts := make([]*big.Int, len(weights))
	rests := make([]*big.Int, len(weights))
	for i, w := range weights {
		parts[i], rests[i] = new(big.Int).QuoRem(new(big.Int).Mul(all, wide(w)), sum, new(big.Int))
		left.Sub(left, parts[i])
	}
	for range left.Int64() {
		best := 0
		for i := range rests {
			if rests[i].Cmp(rests[best]) > 0 {
				best = i
			}
		}
		parts[best].Add(parts[best], big.NewInt(1))
		rests[best] = big.NewInt(-1)
	}
	out := make([]int, len(parts))
	for i, p := range parts {
		out[i] = int(p.Int64())
		if total < 0 {
			out[i] = -out[i]
		}
	}
	return out
}

// P1.1

func checkTwo(t *testing.T, a, b int) {
	t.Helper()
	want, wantE := wantSum(a, b)
	if n, e := amount.Add(a, b); n != want || e != wantE {
		t.Errorf("Add(%d, %d): %d, %v; want %d, %v", a, b, n, e, want, wantE)
	}
	want, wantE = fit(new(big.Int).Mul(wide(a), wide(b)))
	if n, e := amount.Mul(a, b); n != want || e != wantE {
		t.Errorf("Mul(%d, %d): %d, %v; want %d, %v", a, b, n, e, want, wantE)
	}
}

func TestAddAndMulAgreeWithWideNumbers(t *testing.T) {
	for _, a := range edges() {
		for _, b := range edges() {
			checkTwo(t, a, b)
		}
	}
	next := source()
	for range 50000 {
		checkTwo(t, next(), next())
	}
}

func TestAddJustFits(t *testing.T) {
	for _, c := range []struct {
		a, b, want int
		e          api.Errno
	}{
		{3, 4, 7, api.OK},
		{-3, 3, 0, api.OK},
		{most - 1, 1, most, api.OK},
		{most, 1, 0, api.ErrOver},
		{least + 1, -1, least, api.OK},
		{least, -1, 0, api.ErrOver},
		{most, least, -1, api.OK},
		{most, most, 0, api.ErrOver},
		{least, least, 0, api.ErrOver},
	} {
		if n, e := amount.Add(c.a, c.b); n != c.want || e != c.e {
			t.Errorf("Add(%d, %d): %d, %v; want %d, %v", c.a, c.b, n, e, c.want, c.e)
		}
	}
}

func TestMulJustFits(t *testing.T) {
	for _, c := range []struct {
		a, b, want int
		e          api.Errno
	}{
		{-3, 4, -12, api.OK},
		{-3, -4, 12, api.OK},
		{0, least, 0, api.OK},
		{least, 1, least, api.OK},
		{least, -1, 0, api.ErrOver},
		{most, -1, -most, api.OK},
		{1 << 32, 1 << 31, 0, api.ErrOver},
		{-1 << 32, 1 << 31, least, api.OK},
		{1 << 32, -1 << 31, least, api.OK},
		{-1 << 32, -1 << 31, 0, api.ErrOver},
		{1 << 32, 1 << 32, 0, api.ErrOver},
		{7, 1317624576693539401, most, api.OK},
		{3037000500, 3037000500, 0, api.ErrOver},
	} {
		if n, e := amount.Mul(c.a, c.b); n != c.want || e != c.e {
			t.Errorf("Mul(%d, %d): %d, %v; want %d, %v", c.a, c.b, n, e, c.want, c.e)
		}
	}
}

func TestNeg(t *testing.T) {
	for _, a := range edges() {
		want, wantE := fit(new(big.Int).Neg(wide(a)))
		if n, e := amount.Neg(a); n != want || e != wantE {
			t.Errorf("Neg(%d): %d, %v; want %d, %v", a, n, e, want, wantE)
		}
	}
	if n, e := amount.Neg(least); n != 0 || e != api.ErrOver {
		t.Errorf("Neg(least): %d, %v", n, e)
	}
}

func TestSumOfAllCounts(t *testing.T) {
	for _, c := range []struct {
		l    []int
		want int
		e    api.Errno
	}{
		{nil, 0, api.OK},
		{[]int{5}, 5, api.OK},
		{[]int{least}, least, api.OK},
		{[]int{most, most, least, least}, -2, api.OK},
		{[]int{least, least, least, most, most, most, 3}, 0, api.OK},
		{[]int{most, 1, -1}, most, api.OK},
		{[]int{least, -1, 1}, least, api.OK},
		{[]int{most, 1}, 0, api.ErrOver},
		{[]int{least, -1}, 0, api.ErrOver},
		{[]int{least, least}, 0, api.ErrOver},
		{[]int{most, most, 2}, 0, api.ErrOver},
		{[]int{least, least, least, least}, 0, api.ErrOver},
	} {
		if n, e := amount.Sum(c.l...); n != c.want || e != c.e {
			t.Errorf("Sum(%d): %d, %v; want %d, %v", c.l, n, e, c.want, c.e)
		}
	}
	next := source()
	for range 20000 {
		l := make([]int, next()&15)
		for i := range l {
			l[i] = next()
		}
		want, wantE := wantSum(l...)
		if n, e := amount.Sum(l...); n != want || e != wantE {
			t.Errorf("Sum(%d): %d, %v; want %d, %v", l, n, e, want, wantE)
		}
	}
}

func TestSumOfMany(t *testing.T) {
	l := make([]int, 1<<17)
	for i := range l {
		l[i] = most
	}
	if n, e := amount.Sum(l...); n != 0 || e != api.ErrOver {
		t.Errorf("of most: %d, %v", n, e)
	}
	for i := range l[:1<<16] {
		l[i] = least
	}
	if n, e := amount.Sum(l...); n != -1<<16 || e != api.OK {
		t.Errorf("of least and most: %d, %v", n, e)
	}
}

// P1.2

func TestMulDivRoundsHalvesToEven(t *testing.T) {
	for _, c := range []struct{ a, b, c, want int }{
		{1, 1, 2, 0}, {3, 1, 2, 2}, {5, 1, 2, 2}, {7, 1, 2, 4},
		{-1, 1, 2, 0}, {-3, 1, 2, -2}, {5, -1, 2, -2}, {7, 1, -2, -4}, {-7, -1, -2, -4}, {-5, -1, 2, 2},
		{10, 1, 4, 2}, {9, 1, 4, 2}, {11, 1, 4, 3}, {14, 1, 4, 4}, {-11, 1, 4, -3},
		{1, 1, 3, 0}, {2, 1, 3, 1}, {-2, 1, 3, -1}, {3, 5, 10, 2},
		{1 << 62, 1, least, 0}, {3 << 61, 1, least, -1}, {1<<62 + 1, 1, least, -1}, {most, 1, least, -1},
		{0, most, 1, 0}, {0, 0, least, 0}, {1 << 62, 3, 4, 3 << 60},
	} {
		if n, e := amount.MulDiv(c.a, c.b, c.c); n != c.want || e != api.OK {
			t.Errorf("MulDiv(%d, %d, %d): %d, %v; want %d", c.a, c.b, c.c, n, e, c.want)
		}
	}
}

func TestMulDivJustFits(t *testing.T) {
	for _, c := range []struct {
		what       string
		a, b, c, n int
		e          api.Errno
	}{
		{"most", most, most, most, most, api.OK},
		{"least", least, least, least, least, api.OK},
		{"least through 1", least, 1, 1, least, api.OK},
		{"least through -1", least, 1, -1, 0, api.ErrOver},
		{"2^63 less a half is rounded to 2^63", 1<<32 - 1, 1<<32 + 1, 2, 0, api.ErrOver},
		{"- 2^63 and a half is rounded to - 2^63", 1<<32 - 1, -(1<<32 + 1), 2, least, api.OK},
		{"- 2^63 less a half is rounded to - 2^63", -274177, 67280421310721, 2, least, api.OK},
		{"2^63 and a half", 274177, 67280421310721, 2, 0, api.ErrOver},
		{"2^64 less a ninth", 3<<32 - 1, 3<<32 + 1, 9, 0, api.ErrOver},
		{"minus 2^64 less a ninth", 3<<32 - 1, -(3<<32 + 1), 9, 0, api.ErrOver},
		{"2^64", 1 << 32, 1 << 32, 1, 0, api.ErrOver},
		{"twice most", most, 2, 1, 0, api.ErrOver},
		{"least times least", least, least, 1, 0, api.ErrOver},
	} {
		if n, e := amount.MulDiv(c.a, c.b, c.c); n != c.n || e != c.e {
			t.Errorf("%s: %d, %v; want %d, %v", c.what, n, e, c.n, c.e)
		}
	}
}

func TestMulDivThroughNought(t *testing.T) {
	for _, a := range edges() {
		for _, b := range edges() {
			if n, e := amount.MulDiv(a, b, 0); n != 0 || e != api.ErrZero {
				t.Errorf("MulDiv(%d, %d, 0): %d, %v", a, b, n, e)
			}
		}
	}
}

func TestMulDivAgreesWithWideNumbers(t *testing.T) {
	check := func(a, b, c int) {
		want, wantE := wantMulDiv(a, b, c)
		if n, e := amount.MulDiv(a, b, c); n != want || e != wantE {
			t.Errorf("MulDiv(%d, %d, %d): %d, %v; want %d, %v", a, b, c, n, e, want, wantE)
		}
	}
	for _, a := range edges() {
		for _, b := range edges() {
			for _, c := range edges() {
				check(a, b, c)
			}
		}
	}
	next := source()
	for range 50000 {
		check(next(), next(), next())
	}
}

// P1.3

func TestSplitParts(t *testing.T) {
	for _, c := range []struct {
		total         int
		weights, want []int
	}{
		{10, []int{1, 1, 1}, []int{4, 3, 3}},
		{11, []int{1, 1, 1}, []int{4, 4, 3}},
		{-10, []int{1, 1, 1}, []int{-4, -3, -3}},
		{-11, []int{1, 1, 1}, []int{-4, -4, -3}},
		{10, []int{3, 0, 4}, []int{4, 0, 6}},
		{5, []int{1, 2, 3}, []int{1, 2, 2}},
		{-5, []int{1, 2, 3}, []int{-1, -2, -2}},
		{7, []int{1, 2, 3}, []int{1, 2, 4}},
		{1, []int{1, 2, 2, 1}, []int{0, 1, 0, 0}},
		{1, []int{0, 0, 1, 0}, []int{0, 0, 1, 0}},
		{2, []int{0, 1, 0, 1, 1}, []int{0, 1, 0, 1, 0}},
		{0, []int{5, 5}, []int{0, 0}},
		{7, []int{9}, []int{7}},
		{most, []int{most}, []int{most}},
		{-most, []int{most}, []int{-most}},
		{most, []int{1, 1}, []int{1 << 62, 1<<62 - 1}},
		{most, []int{most - 1, 1}, []int{most - 1, 1}},
		{most - 1, []int{most - 1, 1}, []int{most - 2, 1}},
		{1, []int{1, most - 1}, []int{0, 1}},
	} {
		if l, e := amount.Split(c.total, c.weights...); !slices.Equal(l, c.want) || e != api.OK {
			t.Errorf("Split(%d, %d): %d, %v; want %d", c.total, c.weights, l, e, c.want)
		}
	}
}

func weightsOf(n, weight int) []int {
	l := make([]int, n)
	for i := range l {
		l[i] = weight
	}
	return l
}

func TestSplitErrorsInTheirOrder(t *testing.T) {
	for _, c := range []struct {
		what    string
		total   int
		weights []int
		e       api.Errno
	}{
		{"no weights", 1, nil, api.ErrArg},
		{"no weights, least", least, []int{}, api.ErrArg},
		{"64 weights", 1, weightsOf(64, 1), api.OK},
		{"65 weights", 1, weightsOf(65, 1), api.ErrArg},
		{"65 weights below 0", least, weightsOf(65, -1), api.ErrArg},
		{"65 weights of 0", 1, weightsOf(65, 0), api.ErrArg},
		{"65 great weights", 1, weightsOf(65, most), api.ErrArg},
		{"a weight below 0", 1, []int{1, -1}, api.ErrRange},
		{"a weight of least", 1, []int{least}, api.ErrRange},
		{"the last of 64 below 0", 1, append(weightsOf(63, 1), -1), api.ErrRange},
		{"a weight below 0, a sum that does not fit", 1, []int{most, most, -1}, api.ErrRange},
		{"a weight below 0, least", least, []int{-1, 2}, api.ErrRange},
		{"a weight below 0, a sum of 0", 1, []int{-1, 1}, api.ErrRange},
		{"a sum that just fits", 1, []int{most - 1, 1}, api.OK},
		{"a sum that just does not fit", 1, []int{most, 1}, api.ErrOver},
		{"64 great weights", 0, weightsOf(64, most), api.ErrOver},
		{"least", least, []int{1}, api.ErrOver},
		{"least, a sum of 0", least, []int{0}, api.ErrOver},
		{"a sum of 0", 1, []int{0, 0}, api.ErrZero},
		{"nothing, a sum of 0", 0, []int{0}, api.ErrZero},
	} {
		l, e := amount.Split(c.total, c.weights...)
		if e != c.e {
			t.Errorf("%s: %v; want %v", c.what, e, c.e)
		}
		if e != api.OK && len(l) != 0 {
			t.Errorf("%s: parts %d beside an error", c.what, l)
		}
	}
}

// splits tells totals and weights that may be split, many with rests that are the same.
func splits(tell func(total int, weights []int)) {
	next := source()
	for range 20000 {
		weights := make([]int, next()&63+1)
		narrow := next() & 63
		for i := range weights {
			weights[i] = next() & most >> 6 >> narrow
		}
		weights[next()&63%len(weights)] |= 1
		total := next()
		if total != least {
			tell(total, weights)
		}
	}
}

func TestSplitAgreesWithWideNumbers(t *testing.T) {
	splits(func(total int, weights []int) {
		want := wantSplit(total, weights)
		if l, e := amount.Split(total, weights...); !slices.Equal(l, want) || e != api.OK {
			t.Errorf("Split(%d, %d): %d, %v; want %d", total, weights, l, e, want)
		}
	})
}

// What is handed in is left as it is, behind its length too, and each answer is the caller's own (R2).
func TestNothingHandedInIsWritten(t *testing.T) {
	room := []int{3, 1, 2, 77, 78}
	parts, _ := amount.Split(10, room[:3]...)
	amount.Sum(room[:3]...)
	if !slices.Equal(room, []int{3, 1, 2, 77, 78}) {
		t.Errorf("written into: %d", room)
	}
	again, _ := amount.Split(10, room[:3]...)
	again[0] = 99
	if parts[0] != 5 || room[0] != 3 {
		t.Errorf("shared: %d, %d", parts, room)
	}
}

// P1.4

func TestAddAndMulDoNotHangOnTheOrder(t *testing.T) {
	for _, a := range edges() {
		for _, b := range edges() {
			n, e := amount.Add(a, b)
			m, f := amount.Add(b, a)
			if n != m || e != f {
				t.Errorf("Add of %d and %d: %d, %v; %d, %v", a, b, n, e, m, f)
			}
			n, e = amount.Mul(a, b)
			m, f = amount.Mul(b, a)
			if n != m || e != f {
				t.Errorf("Mul of %d and %d: %d, %v; %d, %v", a, b, n, e, m, f)
			}
		}
	}
}

// orders tells all orders of l.
func orders(l []int, from int, tell func([]int)) {
	if from == len(l) {
		tell(l)
		return
	}
	for i := from; i < len(l); i++ {
		l[from], l[i] = l[i], l[from]
		orders(l, from+1, tell)
		l[from], l[i] = l[i], l[from]
	}
}

func TestSumHangsOnNoOrder(t *testing.T) {
	for _, l := range [][]int{
		{most, most, least, least, 2},
		{most, most, most, least, least},
		{least, least, least, most, most, -1},
		{most, 1, -1, 1, -1},
		{1, 2, 3, 4},
	} {
		want, wantE := amount.Sum(l...)
		orders(slices.Clone(l), 0, func(o []int) {
			if n, e := amount.Sum(o...); n != want || e != wantE {
				t.Errorf("Sum(%d): %d, %v; Sum(%d): %d, %v", o, n, e, l, want, wantE)
			}
		})
	}
}

func TestPartsComeToTheTotal(t *testing.T) {
	splits(func(total int, weights []int) {
		parts, e := amount.Split(total, weights...)
		if e != api.OK || len(parts) != len(weights) {
			t.Fatalf("Split(%d, %d): %d, %v", total, weights, parts, e)
		}
		if n, e := amount.Sum(parts...); n != total || e != api.OK {
			t.Errorf("parts %d of %d come to %d, %v", parts, total, n, e)
		}
		for i, p := range parts {
			if p != 0 && (p < 0) != (total < 0) {
				t.Errorf("part %d of %d has another sign", p, total)
			}
			if weights[i] == 0 && p != 0 {
				t.Errorf("part %d of the weight 0", p)
			}
		}
	})
}
