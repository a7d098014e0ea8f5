package ratio_test

import (
	"math/big"
	"math/rand"
	"strings"
	"testing"

	"chattel/api"
	"chattel/ratio"
)

const (
	most  = 1<<63 - 1
	least = -1 << 63
)

var none = api.Ratio{}

func of(num, den int) api.Ratio { return api.Ratio{Num: num, Den: den} }

// edges are numbers about which something begins or ends to fit, or has great divisors.
func edges() []int {
	return []int{
		0, 1, -1, 2, -2, 3, -3, 6, -10, 15,
		1<<31 - 1, 1 << 31, -1 << 31, 1 << 32, -1 << 32, 1<<32 + 1,
		3037000499, -3037000500, 1 << 62, -1 << 62, 1<<62 - 1,
		most, most - 1, -most, -most + 1, most / 7, least, least + 2,
	}
}

// ratios are ones that may be, made of edges.
func ratios() []api.Ratio {
	var l []api.Ratio
	seen := map[api.Ratio]int{}
	for _, num := range edges() {
		for _, den := range edges() {
			r, e := wantOf(num, den)
			if seen[r]++; e == api.OK && seen[r] == 1 {
				l = append(l, r)
			}
		}
	}
	return l
}

// wrongs are ratios that may not be, with the error of each.
func wrongs() map[api.Ratio]api.Errno {
	return map[api.Ratio]api.Errno{
		of(0, 0):         api.ErrZero,
		of(1, 0):         api.ErrZero,
		of(-3, 0):        api.ErrZero,
		of(least, 0):     api.ErrZero,
		of(0, 2):         api.ErrForm,
		of(0, most):      api.ErrForm,
		of(0, -1):        api.ErrForm,
		of(0, least):     api.ErrForm,
		of(2, 4):         api.ErrForm,
		of(-6, 9):        api.ErrForm,
		of(most, most):   api.ErrForm,
		of(-most, most):  api.ErrForm,
		of(1, -2):        api.ErrForm,
		of(1, -1):        api.ErrForm,
		of(1, least):     api.ErrForm,
		of(least, 1):     api.ErrForm,
		of(least, 3):     api.ErrForm,
		of(least, most):  api.ErrForm,
		of(least, least): api.ErrForm,
	}
}

// source tells ratios of all sizes that may be, the same ones in each run.
func source() func() api.Ratio {
	r := rand.New(rand.NewSource(1))
	number := func() int { return int(r.Uint64()) >> r.Intn(64) }
	return func() api.Ratio {
		for {
			if x, e := wantOf(number(), number()); e == api.OK {
				return x
			}
		}
	}
}

// small are all ratios of small parts.
func small() []api.Ratio {
	var l []api.Ratio
	for num := -6; num <= 6; num++ {
		for den := 1; den <= 6; den++ {
			if r := of(num, den); wantCheck(r) == api.OK {
				l = append(l, r)
			}
		}
	}
	return l
}

// many are ratios of all kinds.
func many() []api.Ratio {
	l := append(ratios(), small()...)
	next := source()
	for range 20000 {
		l = append(l, next())
	}
	return l
}

// pairs tells small ratios with small ones, those of edges with each other, and any two.
func pairs(tell func(a, b api.Ratio)) {
	for _, a := range small() {
		for _, b := range small() {
			tell(a, b)
		}
	}
	l := ratios()
	next := source()
	for i, a := range l {
		tell(a, a)
		tell(a, of(-a.Num, a.Den))
		for j := i % 3; j < len(l); j += 3 {
			tell(a, l[j])
		}
		tell(a, next())
	}
	for range 20000 {
		tell(next(), next())
	}
}

func wide(n int) *big.Int { return big.NewInt(int64(n)) }

func exact(r api.Ratio) *big.Rat { return new(big.Rat).SetFrac(wide(r.Num), wide(r.Den)) }

// fit is what is to be answered for a ratio that may not fit.
func fit(r *big.Rat) (api.Ratio, api.Errno) {
	top := wide(most)
	if r.Denom().Cmp(top) > 0 || new(big.Int).Abs(r.Num()).Cmp(top) > 0 {
		return none, api.ErrOver
	}
	return of(int(r.Num().Int64()), int(r.Denom().Int64())), api.OK
}

func wantOf(num, den int) (api.Ratio, api.Errno) {
	if den == 0 {
		return none, api.ErrZero
	}
	return fit(exact(of(num, den)))
}

func wantCheck(r api.Ratio) api.Errno {
	if r.Den == 0 {
		return api.ErrZero
	}
	if w, e := wantOf(r.Num, r.Den); e != api.OK || w != r {
		return api.ErrForm
	}
	return api.OK
}

// wantRound looks at the numbers about a ratio: twice it is odd and whole, or one is nearer.
func wantRound(r api.Ratio) int {
	below, rest := new(big.Int).DivMod(wide(r.Num), wide(r.Den), new(big.Int))
	half := new(big.Int).Lsh(rest, 1).Cmp(wide(r.Den))
	if half > 0 || half == 0 && below.Bit(0) == 1 {
		below.Add(below, big.NewInt(1))
	}
	return int(below.Int64())
}

// operations are the calls of two ratios that answer one, each with what it has to tell.
func operations() []operation {
	return []operation{
		{"Add", ratio.Add, (*big.Rat).Add},
		{"Sub", ratio.Sub, (*big.Rat).Sub},
		{"Mul", ratio.Mul, (*big.Rat).Mul},
		{"Div", ratio.Div, (*big.Rat).Quo},
	}
}

type operation struct {
	name string
	call func(a, b api.Ratio) (api.Ratio, api.Errno)
	tell func(z, x, y *big.Rat) *big.Rat
}

func (o operation) want(a, b api.Ratio) (api.Ratio, api.Errno) {
	if o.name == "Div" && b.Num == 0 {
		return none, api.ErrZero
	}
	return fit(o.tell(new(big.Rat), exact(a), exact(b)))
}

func (o operation) check(t *testing.T, a, b api.Ratio) {
	t.Helper()
	want, wantE := o.want(a, b)
	if r, e := o.call(a, b); r != want || e != wantE {
		t.Errorf("%s(%d, %d): %d, %v; want %d, %v", o.name, a, b, r, e, want, wantE)
	}
}

// P2.1

func TestOf(t *testing.T) {
	for _, c := range []struct {
		num, den int
		want     api.Ratio
		e        api.Errno
	}{
		{6, -4, of(-3, 2), api.OK},
		{-6, -4, of(3, 2), api.OK},
		{0, -7, of(0, 1), api.OK},
		{0, least, of(0, 1), api.OK},
		{5, 5, of(1, 1), api.OK},
		{1, 0, none, api.ErrZero},
		{0, 0, none, api.ErrZero},
		{least, 0, none, api.ErrZero},
		{most, 1, of(most, 1), api.OK},
		{most, -1, of(-most, 1), api.OK},
		{1, -most, of(-1, most), api.OK},
		{least, 1, none, api.ErrOver},
		{least, -1, none, api.ErrOver},
		{least, 3, none, api.ErrOver},
		{least, 2, of(-1<<62, 1), api.OK},
		{least, -2, of(1<<62, 1), api.OK},
		{least, 6, of(-1<<62, 3), api.OK},
		{1, least, none, api.ErrOver},
		{-3, least, none, api.ErrOver},
		{2, least, of(-1, 1<<62), api.OK},
		{least, least, of(1, 1), api.OK},
		{most, least, none, api.ErrOver},
		{least, most, none, api.ErrOver},
	} {
		if r, e := ratio.Of(c.num, c.den); r != c.want || e != c.e {
			t.Errorf("Of(%d, %d): %d, %v; want %d, %v", c.num, c.den, r, e, c.want, c.e)
		}
	}
}

func TestOfAndCheckAgreeWithWideNumbers(t *testing.T) {
	check := func(num, den int) {
		want, wantE := wantOf(num, den)
		if r, e := ratio.Of(num, den); r != want || e != wantE {
			t.Errorf("Of(%d, %d): %d, %v; want %d, %v", num, den, r, e, want, wantE)
		}
		if e := ratio.Check(of(num, den)); e != wantCheck(of(num, den)) {
			t.Errorf("Check(%d/%d): %v", num, den, e)
		}
	}
	for _, num := range edges() {
		for _, den := range edges() {
			check(num, den)
		}
	}
	for num := -40; num <= 40; num++ {
		for den := -40; den <= 40; den++ {
			check(num, den)
		}
	}
	r := rand.New(rand.NewSource(2))
	for range 20000 {
		check(int(r.Uint64())>>r.Intn(64), int(r.Uint64())>>r.Intn(64))
	}
}

func TestCheck(t *testing.T) {
	for _, r := range []api.Ratio{
		of(0, 1), of(1, 1), of(-1, 1), of(1, 2), of(-5, 6),
		of(most, 1), of(-most, 1), of(1, most), of(-most, most-1), of(most-1, most),
	} {
		if e := ratio.Check(r); e != api.OK {
			t.Errorf("Check(%d): %v", r, e)
		}
	}
	for r, want := range wrongs() {
		if e := ratio.Check(r); e != want {
			t.Errorf("Check(%d): %v; want %v", r, e, want)
		}
	}
}

func TestOneWrongRatio(t *testing.T) {
	for w, want := range wrongs() {
		if r, e := ratio.Neg(w); r != none || e != want {
			t.Errorf("Neg(%d): %d, %v; want %v", w, r, e, want)
		}
		if n, e := ratio.Round(w); n != 0 || e != want {
			t.Errorf("Round(%d): %d, %v; want %v", w, n, e, want)
		}
		if s, e := ratio.Print(w); s != "" || e != want {
			t.Errorf("Print(%d): %q, %v; want %v", w, s, e, want)
		}
	}
}

func checkWrongPair(t *testing.T, a, b api.Ratio, want api.Errno) {
	t.Helper()
	for _, o := range operations() {
		if r, e := o.call(a, b); r != none || e != want {
			t.Errorf("%s(%d, %d): %d, %v; want %v", o.name, a, b, r, e, want)
		}
	}
	if n, e := ratio.Compare(a, b); n != 0 || e != want {
		t.Errorf("Compare(%d, %d): %d, %v; want %v", a, b, n, e, want)
	}
}

// A ratio that may not be counts ahead of a division by 0 and of what does not fit.
func TestTheFirstWrongRatioCounts(t *testing.T) {
	for w, want := range wrongs() {
		for _, r := range []api.Ratio{of(0, 1), of(1, 2), of(most, 1), of(1, most), of(-most, 1)} {
			checkWrongPair(t, w, r, want)
			checkWrongPair(t, r, w, want)
		}
		for v := range wrongs() {
			checkWrongPair(t, w, v, want)
		}
	}
}

// P2.2

func TestNeg(t *testing.T) {
	for _, a := range append(ratios(), of(0, 1), of(most, 1), of(-most, 1), of(3, 2)) {
		if r, e := ratio.Neg(a); r != of(-a.Num, a.Den) || e != api.OK {
			t.Errorf("Neg(%d): %d, %v", a, r, e)
		}
	}
}

func TestSums(t *testing.T) {
	for _, c := range []struct {
		a, b, sum, difference api.Ratio
		e, f                  api.Errno
	}{
		{of(1, 2), of(1, 3), of(5, 6), of(1, 6), api.OK, api.OK},
		{of(1, 6), of(1, 10), of(4, 15), of(1, 15), api.OK, api.OK},
		{of(-1, 2), of(1, 2), of(0, 1), of(-1, 1), api.OK, api.OK},
		{of(0, 1), of(0, 1), of(0, 1), of(0, 1), api.OK, api.OK},
		{of(0, 1), of(1, most), of(1, most), of(-1, most), api.OK, api.OK},
		{of(most, 1), of(1, 1), none, of(most-1, 1), api.ErrOver, api.OK},
		{of(-most, 1), of(1, 1), of(-most+1, 1), none, api.OK, api.ErrOver},
		{of(most-1, 1), of(1, 1), of(most, 1), of(most-2, 1), api.OK, api.OK},
		{of(most, 1), of(most, 1), none, of(0, 1), api.ErrOver, api.OK},
		{of(most, 2), of(most, 2), of(most, 1), of(0, 1), api.OK, api.OK},
		{of(most, 2), of(most-2, 2), of(most-1, 1), of(1, 1), api.OK, api.OK},
		{of(1, most), of(most-1, most), of(1, 1), of(-most+2, most), api.OK, api.OK},
		{of(1, most), of(1, most-1), none, none, api.ErrOver, api.ErrOver},
		{of(1, 1<<62), of(1, 1<<62), of(1, 1<<61), of(0, 1), api.OK, api.OK},
		{of(1, 1<<62), of(1, 3<<61), none, none, api.ErrOver, api.ErrOver},
		{of(1, 3<<61), of(1, 3<<60), of(1, 1<<61), of(-1, 3<<61), api.OK, api.OK},
		{of(most, most-1), of(-1, most-1), of(1, 1), of(1<<62, 1<<62-1), api.OK, api.OK},
		{of(most, 3037000500), of(-most, 3037000499), of(-most, 9223372033963249500), none, api.OK, api.ErrOver},
	} {
		if r, e := ratio.Add(c.a, c.b); r != c.sum || e != c.e {
			t.Errorf("Add(%d, %d): %d, %v; want %d, %v", c.a, c.b, r, e, c.sum, c.e)
		}
		if r, e := ratio.Sub(c.a, c.b); r != c.difference || e != c.f {
			t.Errorf("Sub(%d, %d): %d, %v; want %d, %v", c.a, c.b, r, e, c.difference, c.f)
		}
	}
}

func TestProducts(t *testing.T) {
	for _, c := range []struct {
		a, b, product, quotient api.Ratio
		e, f                    api.Errno
	}{
		{of(1, 2), of(1, 3), of(1, 6), of(3, 2), api.OK, api.OK},
		{of(-2, 3), of(3, 2), of(-1, 1), of(-4, 9), api.OK, api.OK},
		{of(2, 3), of(-3, 2), of(-1, 1), of(-4, 9), api.OK, api.OK},
		{of(-2, 3), of(-3, 2), of(1, 1), of(4, 9), api.OK, api.OK},
		{of(0, 1), of(-7, 3), of(0, 1), of(0, 1), api.OK, api.OK},
		{of(0, 1), of(1, most), of(0, 1), of(0, 1), api.OK, api.OK},
		{of(3, 1), of(0, 1), of(0, 1), none, api.OK, api.ErrZero},
		{of(0, 1), of(0, 1), of(0, 1), none, api.OK, api.ErrZero},
		{of(most, 1), of(1, most), of(1, 1), none, api.OK, api.ErrOver},
		{of(most, most-1), of(most-1, most), of(1, 1), none, api.OK, api.ErrOver},
		{of(most, 2), of(most, 2), none, of(1, 1), api.ErrOver, api.OK},
		{of(1, most), of(1, most), none, of(1, 1), api.ErrOver, api.OK},
		{of(1, most), of(-1, most), none, of(-1, 1), api.ErrOver, api.OK},
		{of(1, 1), of(-most, 1), of(-most, 1), of(-1, most), api.OK, api.OK},
		{of(-1<<32, 1), of(1<<31, 1), none, of(-2, 1), api.ErrOver, api.OK},
		{of(1<<32, 1), of(-1<<30, 1), of(-1<<62, 1), of(-4, 1), api.OK, api.OK},
		{of(1<<32, 1), of(-1, 1<<31), of(-2, 1), none, api.OK, api.ErrOver},
		{of(1, 1<<32), of(1<<31, 1), of(1, 2), none, api.OK, api.ErrOver},
		{of(7, 1), of(most/7, 1), of(most, 1), of(1, most/49), api.OK, api.OK},
	} {
		if r, e := ratio.Mul(c.a, c.b); r != c.product || e != c.e {
			t.Errorf("Mul(%d, %d): %d, %v; want %d, %v", c.a, c.b, r, e, c.product, c.e)
		}
		if r, e := ratio.Div(c.a, c.b); r != c.quotient || e != c.f {
			t.Errorf("Div(%d, %d): %d, %v; want %d, %v", c.a, c.b, r, e, c.quotient, c.f)
		}
	}
}

func checkCompare(t *testing.T, a, b api.Ratio) {
	t.Helper()
	if n, e := ratio.Compare(a, b); n != exact(a).Cmp(exact(b)) || e != api.OK {
		t.Errorf("Compare(%d, %d): %d, %v", a, b, n, e)
	}
}

func TestTwoRatiosAgreeWithWideNumbers(t *testing.T) {
	pairs(func(a, b api.Ratio) {
		for _, o := range operations() {
			o.check(t, a, b)
		}
		checkCompare(t, a, b)
	})
}

// Dens that share a great divisor, and sums that cancel most of it.
func TestSumsThatCancel(t *testing.T) {
	next := source()
	for range 5000 {
		whole, a := next(), next()
		b, e := fit(new(big.Rat).Sub(exact(whole), exact(a)))
		if e != api.OK {
			continue
		}
		if r, e := ratio.Add(a, b); r != whole || e != api.OK {
			t.Errorf("Add(%d, %d): %d, %v; want %d", a, b, r, e, whole)
		}
	}
	for shared := most - 1000; shared < most; shared++ {
		for num := 1; num < 5; num++ {
			operations()[0].check(t, reduced(num, shared), reduced(shared-num, shared))
			operations()[1].check(t, reduced(num, shared), reduced(num-shared, shared))
		}
	}
}

func reduced(num, den int) api.Ratio {
	r, _ := wantOf(num, den)
	return r
}

func TestCompare(t *testing.T) {
	for _, c := range []struct {
		a, b api.Ratio
		want int
	}{
		{of(1, 2), of(1, 3), 1},
		{of(-1, 2), of(-1, 3), -1},
		{of(-1, 2), of(1, 3), -1},
		{of(2, 3), of(2, 3), 0},
		{of(0, 1), of(0, 1), 0},
		{of(0, 1), of(-1, most), 1},
		{of(0, 1), of(1, most), -1},
		{of(most, most-1), of(most-1, most-2), -1},
		{of(-most, most-1), of(1-most, most-2), 1},
		{of(most, 1), of(-most, 1), 1},
		{of(-most, 1), of(most, 1), -1},
		{of(most, 1), of(1, most), 1},
		{of(most, 2), of(most-2, 2), 1},
		{of(1, most), of(1, most-1), -1},
	} {
		if n, e := ratio.Compare(c.a, c.b); n != c.want || e != api.OK {
			t.Errorf("Compare(%d, %d): %d, %v; want %d", c.a, c.b, n, e, c.want)
		}
	}
}

// P2.3

func TestRound(t *testing.T) {
	for _, c := range []struct {
		a    api.Ratio
		want int
	}{
		{of(0, 1), 0}, {of(4, 1), 4}, {of(-4, 1), -4},
		{of(1, 2), 0}, {of(3, 2), 2}, {of(5, 2), 2}, {of(7, 2), 4},
		{of(-1, 2), 0}, {of(-3, 2), -2}, {of(-5, 2), -2}, {of(-7, 2), -4},
		{of(1, 3), 0}, {of(2, 3), 1}, {of(-1, 3), 0}, {of(-2, 3), -1},
		{of(most, 1), most}, {of(-most, 1), -most},
		{of(most, 2), 1 << 62}, {of(-most, 2), -1 << 62}, {of(most-2, 2), 1<<62 - 2},
		{of(1, most), 0}, {of(most-1, most), 1}, {of(1<<62-1, most), 0}, {of(1<<62, most), 1},
		{of(-1<<62, most), -1}, {of(1-1<<62, most), 0},
	} {
		if n, e := ratio.Round(c.a); n != c.want || e != api.OK {
			t.Errorf("Round(%d): %d, %v; want %d", c.a, n, e, c.want)
		}
	}
}

func TestRoundAgreesWithWideNumbers(t *testing.T) {
	for _, a := range many() {
		if n, e := ratio.Round(a); n != wantRound(a) || e != api.OK {
			t.Errorf("Round(%d): %d, %v; want %d", a, n, e, wantRound(a))
		}
	}
}

func TestPrintAndParse(t *testing.T) {
	for _, c := range []struct {
		a    api.Ratio
		want string
	}{
		{of(0, 1), "0"}, {of(7, 1), "7"}, {of(-7, 1), "-7"}, {of(10, 1), "10"},
		{of(1, 2), "1/2"}, {of(-3, 2), "-3/2"}, {of(-1, 100), "-1/100"},
		{of(most, 1), "9223372036854775807"},
		{of(-most, 1), "-9223372036854775807"},
		{of(1, most), "1/9223372036854775807"},
		{of(-most, most-1), "-9223372036854775807/9223372036854775806"},
	} {
		if s, e := ratio.Print(c.a); s != c.want || e != api.OK {
			t.Errorf("Print(%d): %q, %v; want %q", c.a, s, e, c.want)
		}
		if r, e := ratio.Parse(c.want); r != c.a || e != api.OK {
			t.Errorf("Parse(%q): %d, %v; want %d", c.want, r, e, c.a)
		}
	}
}

func TestParseOfWhatIsNoRatio(t *testing.T) {
	for _, s := range []string{
		"", "-", "/", "1/", "/2", "-/2", "--1", "1-", "- 1", "//", "1//2", "1/2/", "1/2/3",
		"+1", "1/+2", "01", "-01", "00", "1/02", "-0", "0/1", "-0/1", "1/1", "-5/1", "0/2", "1/0", "0/0",
		"2/4", "-6/9", "1/-2", "-1/-2", "3/3", " 1", "1 ", "1 /2", "1/ 2", "1\n", "\x001", "1\x00",
		"1_000", "0x1", "1e3", "1.0", "1,5", "a", "1/b", "\uff11", "\u0661", "\u22121", "\xff", "1/\xff",
		"9223372036854775808", "-9223372036854775808", "-9223372036854775809", "1/9223372036854775808",
		"-9223372036854775808/3", "18446744073709551617", "1/18446744073709551617",
		"340282366920938463463374607431768211457", strings.Repeat("1", 5000), "1/" + strings.Repeat("3", 5000),
		strings.Repeat("0", 5000) + "1", strings.Repeat("-", 5000), strings.Repeat("/", 5000),
	} {
		if r, e := ratio.Parse(s); r != none || e != api.ErrForm {
			t.Errorf("Parse(%q): %d, %v", s, r, e)
		}
	}
}

// texts tells all texts of up to n of the letters.
func texts(letters string, n int, tell func(string)) {
	level := []string{""}
	for range n {
		var next []string
		for _, s := range level {
			tell(s)
			for i := range len(letters) {
				next = append(next, s+letters[i:i+1])
			}
		}
		level = next
	}
	for _, s := range level {
		tell(s)
	}
}

// Of all short texts just those are parsed that Print tells of a ratio.
func TestParseOfAllShortTexts(t *testing.T) {
	printed := map[string]api.Ratio{}
	for num := -999; num <= 9999; num++ {
		for den := 1; den <= 999; den++ {
			r := of(num, den)
			if ratio.Check(r) != api.OK {
				continue
			}
			if s, _ := ratio.Print(r); len(s) <= 5 {
				printed[s] = r
			}
		}
	}
	for num := -9999; num <= 99999; num++ {
		s, _ := ratio.Print(of(num, 1))
		printed[s] = of(num, 1)
	}
	texts("-/+0124 x", 5, func(s string) {
		want, is := printed[s]
		wantE := api.OK
		if !is {
			wantE = api.ErrForm
		}
		if r, e := ratio.Parse(s); r != want || e != wantE {
			t.Errorf("Parse(%q): %d, %v; want %d, %v", s, r, e, want, wantE)
		}
	})
}

// P2.4

func same(t *testing.T, what string, a, b api.Ratio, e, f api.Errno) {
	t.Helper()
	if a != b || e != f {
		t.Errorf("%s: %d, %v; %d, %v", what, a, e, b, f)
	}
}

func TestSumsAndProductsDoNotHangOnTheOrder(t *testing.T) {
	pairs(func(a, b api.Ratio) {
		r, e := ratio.Add(a, b)
		s, f := ratio.Add(b, a)
		same(t, "Add", r, s, e, f)
		r, e = ratio.Mul(a, b)
		s, f = ratio.Mul(b, a)
		same(t, "Mul", r, s, e, f)
	})
}

func TestUndone(t *testing.T) {
	pairs(func(a, b api.Ratio) {
		if s, e := ratio.Add(a, b); e == api.OK {
			r, f := ratio.Sub(s, b)
			same(t, "Sub of Add", r, a, f, api.OK)
		}
		if p, e := ratio.Mul(a, b); e == api.OK && b.Num != 0 {
			r, f := ratio.Div(p, b)
			same(t, "Div of Mul", r, a, f, api.OK)
		}
	})
}

func mustBe(t *testing.T, call func(a, b api.Ratio) (api.Ratio, api.Errno), a, b api.Ratio) api.Ratio {
	t.Helper()
	r, e := call(a, b)
	if e != api.OK {
		t.Fatalf("of %d and %d: %v", a, b, e)
	}
	return r
}

func TestProductOfASum(t *testing.T) {
	l := small()
	for _, a := range l {
		for _, b := range l {
			for _, c := range l {
				whole := mustBe(t, ratio.Mul, a, mustBe(t, ratio.Add, b, c))
				parts := mustBe(t, ratio.Add, mustBe(t, ratio.Mul, a, b), mustBe(t, ratio.Mul, a, c))
				same(t, "product of a sum", whole, parts, api.OK, api.OK)
				left := mustBe(t, ratio.Add, mustBe(t, ratio.Add, a, b), c)
				right := mustBe(t, ratio.Add, a, mustBe(t, ratio.Add, b, c))
				same(t, "sum of three", left, right, api.OK, api.OK)
				left = mustBe(t, ratio.Mul, mustBe(t, ratio.Mul, a, b), c)
				right = mustBe(t, ratio.Mul, a, mustBe(t, ratio.Mul, b, c))
				same(t, "product of three", left, right, api.OK, api.OK)
			}
		}
	}
}

func TestParseOfPrint(t *testing.T) {
	for _, a := range many() {
		s, e := ratio.Print(a)
		r, f := ratio.Parse(s)
		if r != a || e != api.OK || f != api.OK {
			t.Errorf("%d: %q, %v; %d, %v", a, s, e, r, f)
		}
	}
}

func FuzzPrintOfParse(f *testing.F) {
	for _, s := range []string{"0", "-3/2", "1/1", "+1", "9223372036854775807/2", "-9223372036854775808", "2/4", ""} {
		f.Add(s)
	}
	f.Fuzz(func(t *testing.T, s string) {
		r, e := ratio.Parse(s)
		if e != api.OK {
			if e != api.ErrForm || r != none {
				t.Errorf("Parse(%q): %d, %v", s, r, e)
			}
			return
		}
		if ratio.Check(r) != api.OK {
			t.Errorf("Parse(%q): %d, that may not be", s, r)
		}
		if told, e := ratio.Print(r); told != s || e != api.OK {
			t.Errorf("Print of Parse(%q): %q, %v", s, told, e)
		}
	})
}
