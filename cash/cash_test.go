package cash_test

import (
	"math/big"
	"math/rand"
	"regexp"
	"slices"
	"strconv"
	"strings"
	"testing"

	"chattel/api"
	"chattel/cash"
)

const (
	most  = 1<<63 - 1
	least = -1 << 63
)

type sums = [api.Currencies]int

// names are the currencies', from 0 on.
func names() []string {
	return []string{"EUR", "USD", "GBP", "JPY", "CHF", "SEK", "KWD", "XAU"}
}

// digits are how many the currencies have behind the point, from 0 on.
func digits() []int {
	return []int{2, 2, 2, 0, 2, 2, 3, 6}
}

// none are numbers of no currency.
func none() []int {
	return []int{-1, 8, 9, -8, 255, 256, 1 << 32, -1 << 32, most, least}
}

// edges are numbers about which something begins or ends to fit, or to have another digit.
func edges() []int {
	l := []int{0, most, most - 1, most - 7, least, least + 1, least + 8, 1 << 31, 1 << 32, -1 << 62}
	for p := 1; p < most/10; p *= 10 {
		l = append(l, p-1, p, p+1, 5*p, -p+1, -p, -p-1, -7*p)
	}
	return l
}

// source tells numbers of all sizes, the same ones in each run.
func source() func() int {
	r := rand.New(rand.NewSource(1))
	return func() int { return int(r.Uint64()) >> r.Intn(64) }
}

// amounts are of all kinds.
func amounts() []int {
	l := edges()
	next := source()
	for range 3000 {
		l = append(l, next())
	}
	return l
}

// wantPrint divides through what a whole piece has of the least ones.
func wantPrint(cur, n int) string {
	piece := new(big.Int).Exp(big.NewInt(10), big.NewInt(int64(digits()[cur])), nil)
	size := new(big.Int).Abs(big.NewInt(int64(n)))
	whole, rest := new(big.Int).QuoRem(size, piece, new(big.Int))
	text := whole.String()
	if digits()[cur] > 0 {
		// The 1 ahead of the rest keeps its noughts.
		text += "." + rest.Add(rest, piece).String()[1:]
	}
	if n < 0 {
		text = "-" + text
	}
	return names()[cur] + " " + text
}

// parser tells what Parse has to answer, by the form of texts of each currency.
type parser []*regexp.Regexp

func newParser() parser {
	var p parser
	for cur, name := range names() {
		form := `^` + name + ` (-?)(0|[1-9][0-9]*)`
		if digits()[cur] > 0 {
			form += `\.([0-9]{` + strconv.Itoa(digits()[cur]) + `})`
		} else {
			form += `()`
		}
		p = append(p, regexp.MustCompile(form+`$`))
	}
	return p
}

func (p parser) want(s string) (int, int, api.Errno) {
	for cur, form := range p {
		m := form.FindStringSubmatch(s)
		if m == nil {
			continue
		}
		n, _ := new(big.Int).SetString(m[2]+m[3], 10)
		if m[1] == "-" && n.Sign() == 0 {
			return 0, 0, api.ErrForm
		}
		if m[1] == "-" {
			n.Neg(n)
		}
		if !n.IsInt64() {
			return 0, 0, api.ErrOver
		}
		return cur, int(n.Int64()), api.OK
	}
	return 0, 0, api.ErrForm
}

func (p parser) check(t *testing.T, s string) {
	t.Helper()
	wantCur, wantN, wantE := p.want(s)
	if cur, n, e := cash.Parse(s); cur != wantCur || n != wantN || e != wantE {
		t.Errorf("Parse(%q): %d, %d, %v; want %d, %d, %v", s, cur, n, e, wantCur, wantN, wantE)
	}
}

// P3.1

func TestNamesAndDigits(t *testing.T) {
	if len(names()) != api.Currencies || len(digits()) != api.Currencies {
		t.Fatal("not of all currencies")
	}
	for cur, name := range names() {
		if s, e := cash.Name(cur); s != name || e != api.OK {
			t.Errorf("Name(%d): %q, %v; want %q", cur, s, e, name)
		}
		if n, e := cash.Digits(cur); n != digits()[cur] || e != api.OK {
			t.Errorf("Digits(%d): %d, %v; want %d", cur, n, e, digits()[cur])
		}
		if n, e := cash.Of(name); n != cur || e != api.OK {
			t.Errorf("Of(%q): %d, %v; want %d", name, n, e, cur)
		}
	}
}

func TestNoCurrency(t *testing.T) {
	for _, cur := range none() {
		if s, e := cash.Name(cur); s != "" || e != api.ErrRange {
			t.Errorf("Name(%d): %q, %v", cur, s, e)
		}
		if n, e := cash.Digits(cur); n != 0 || e != api.ErrRange {
			t.Errorf("Digits(%d): %d, %v", cur, n, e)
		}
	}
}

func TestNoName(t *testing.T) {
	for _, s := range []string{
		"", " ", "E", "EU", "EURO", "ZZZ", "eur", "Eur", "EUR ", " EUR", "EUR\x00", "EUR\n", "EURUSD",
		"UER", "0", "3", "XAG", "ЕUR", "\xffUR", "EUR 1.00",
	} {
		if n, e := cash.Of(s); n != 0 || e != api.ErrNone {
			t.Errorf("Of(%q): %d, %v", s, n, e)
		}
	}
}

// P3.2

func TestPrint(t *testing.T) {
	for _, c := range []struct {
		cur, n int
		want   string
	}{
		{0, -1205, "EUR -12.05"},
		{3, 7, "JPY 7"},
		{6, 1, "KWD 0.001"},
		{1, 0, "USD 0.00"},
		{3, 0, "JPY 0"},
		{6, 0, "KWD 0.000"},
		{7, 0, "XAU 0.000000"},
		{0, 9, "EUR 0.09"},
		{0, 99, "EUR 0.99"},
		{0, 100, "EUR 1.00"},
		{0, -1, "EUR -0.01"},
		{0, -100, "EUR -1.00"},
		{4, 100000, "CHF 1000.00"},
		{7, 999999, "XAU 0.999999"},
		{7, 1000000, "XAU 1.000000"},
		{7, -1000001, "XAU -1.000001"},
		{3, most, "JPY 9223372036854775807"},
		{3, least, "JPY -9223372036854775808"},
		{2, most, "GBP 92233720368547758.07"},
		{5, least, "SEK -92233720368547758.08"},
		{6, least, "KWD -9223372036854775.808"},
		{7, least, "XAU -9223372036854.775808"},
	} {
		if s, e := cash.Print(c.cur, c.n); s != c.want || e != api.OK {
			t.Errorf("Print(%d, %d): %q, %v; want %q", c.cur, c.n, s, e, c.want)
		}
	}
}

func TestPrintAgreesWithWideNumbers(t *testing.T) {
	for cur := range api.Currencies {
		for _, n := range amounts() {
			if s, e := cash.Print(cur, n); s != wantPrint(cur, n) || e != api.OK {
				t.Errorf("Print(%d, %d): %q, %v; want %q", cur, n, s, e, wantPrint(cur, n))
			}
		}
	}
}

func TestPrintOfNoCurrency(t *testing.T) {
	for _, cur := range none() {
		for _, n := range []int{0, 1, -1205, most, least} {
			if s, e := cash.Print(cur, n); s != "" || e != api.ErrRange {
				t.Errorf("Print(%d, %d): %q, %v", cur, n, s, e)
			}
		}
	}
}

func TestParse(t *testing.T) {
	for _, c := range []struct {
		s      string
		cur, n int
	}{
		{"KWD 0.001", 6, 1},
		{"EUR -12.05", 0, -1205},
		{"JPY 7", 3, 7},
		{"JPY -7", 3, -7},
		{"JPY 0", 3, 0},
		{"JPY 10", 3, 10},
		{"USD 0.00", 1, 0},
		{"USD -0.01", 1, -1},
		{"CHF 10.00", 4, 1000},
		{"XAU 0.000010", 7, 10},
		{"GBP 92233720368547758.07", 2, most},
		{"SEK -92233720368547758.08", 5, least},
		{"JPY 9223372036854775807", 3, most},
		{"JPY -9223372036854775808", 3, least},
		{"XAU -9223372036854.775808", 7, least},
	} {
		if cur, n, e := cash.Parse(c.s); cur != c.cur || n != c.n || e != api.OK {
			t.Errorf("Parse(%q): %d, %d, %v; want %d, %d", c.s, cur, n, e, c.cur, c.n)
		}
	}
}

func TestParseOfWrongTexts(t *testing.T) {
	great := strings.Repeat("9", 100)
	for _, c := range []struct {
		e api.Errno
		l []string
	}{
		{api.ErrForm, []string{
			"", " ", "EUR", "EUR ", "EUR -", "EUR .", "EUR -.", "EUR -.00", "EUR .00", "EUR 1", "EUR 1.",
			"EUR 1.0", "EUR 1.000", "EUR 01.00", "EUR 00.00", "EUR -01.00", "EUR 1.00 ", "EUR  1.00",
			" EUR 1.00", "EUR1.00", "EUR\t1.00", "EUR +1.00", "EUR --1.00", "EUR 1.-1", "EUR 1.+1", "EUR - 1.00",
			"EUR 1,00", "EUR 1.0.0", "EUR 1..00", "EUR 1_0.00", "EUR 1.0_", "EUR 1e2.00", "EUR 0x1.00",
			"EUR ١.00", "EUR 1.٠", "EUR \xff.00", "EUR 1.00\x00", "EUR 1.00\n", "EUR NaN", "1.00 EUR", "1.00",
			"eur 1.00", "ZZZ 1.00", "ZZZ 1", " 1.00", "-1.00",
			"JPY 1.", "JPY 1.0", "JPY 01", "JPY 00", "JPY -", "JPY +1", "JPY", "JPY ", "JPY .",
			"KWD 1.00", "KWD 1.0000", "XAU 1.00000", "XAU 1.0000000",
		}},
		// A sign ahead of nothing but noughts.
		{api.ErrForm, []string{"EUR -0.00", "JPY -0", "KWD -0.000", "XAU -0.000000"}},
		// Of too great an amount, but for the form.
		{api.ErrForm, []string{
			"EUR " + great, "EUR " + great + ".9", "EUR " + great + ".9x", "EUR 0" + great + ".99", "JPY +" + great,
			"JPY " + great + ".", "JPY " + great + "x", "ZZZ " + great + ".99", "EUR --" + great + ".99",
			"JPY -0" + great,
		}},
		{api.ErrOver, []string{
			"GBP 92233720368547758.08", "GBP -92233720368547758.09", "JPY 9223372036854775808",
			"JPY -9223372036854775809", "XAU 9223372036854.775808", "KWD -9223372036854775.809",
			"JPY 18446744073709551616", "JPY 18446744073709551617", "JPY -18446744073709551616",
			"EUR 184467440737095516.16", "EUR " + great + ".99", "JPY -" + great, "USD 1" + strings.Repeat("0", 100) + ".00",
		}},
	} {
		for _, s := range c.l {
			if cur, n, e := cash.Parse(s); cur != 0 || n != 0 || e != c.e {
				t.Errorf("Parse(%q): %d, %d, %v; want %v", s, cur, n, e, c.e)
			}
		}
	}
}

// eachText tells all texts of at most so many of the letters.
func eachText(letters string, most int, tell func(s string)) {
	var longer func(s string)
	longer = func(s string) {
		tell(s)
		if len(s) == most {
			return
		}
		for i := range len(letters) {
			longer(s + letters[i:i+1])
		}
	}
	longer("")
}

func TestParseOfAllShortTexts(t *testing.T) {
	p := newParser()
	eachText("-+ .019x", 5, func(s string) {
		p.check(t, s)
		for _, name := range []string{"EUR", "JPY", "KWD", "ZZZ"} {
			p.check(t, name+" "+s)
		}
	})
	eachText("-.01", 9, func(s string) { p.check(t, "XAU "+s) })
	eachText("EURJPY", 4, func(s string) {
		p.check(t, s+" 1")
		p.check(t, s+" 1.00")
	})
}

// TestParseOfSpoiltTexts leaves out, doubles and puts in letters of texts that may be.
func TestParseOfSpoiltTexts(t *testing.T) {
	p := newParser()
	for cur := range api.Currencies {
		for _, n := range edges() {
			s := wantPrint(cur, n)
			for i := range len(s) {
				p.check(t, s[:i])
				p.check(t, s[i:])
				p.check(t, s[:i]+s[i+1:])
				p.check(t, s[:i]+s[i:i+1]+s[i:])
				for _, put := range []string{"0", "9", "-", ".", " ", "\x80"} {
					p.check(t, s[:i]+put+s[i:])
					p.check(t, s[:i]+put+s[i+1:])
				}
			}
		}
	}
}

// P3.3

func wantTotals(l []api.Flow) (sums, api.Errno) {
	var wide [api.Currencies]big.Int
	for _, f := range l {
		if f.Cur < 0 || f.Cur >= api.Currencies {
			return sums{}, api.ErrRange
		}
		wide[f.Cur].Add(&wide[f.Cur], big.NewInt(int64(f.Amount)))
	}
	var out sums
	for cur := range wide {
		if !wide[cur].IsInt64() {
			return sums{}, api.ErrOver
		}
		out[cur] = int(wide[cur].Int64())
	}
	return out, api.OK
}

func checkTotals(t *testing.T, l []api.Flow) {
	t.Helper()
	want, wantE := wantTotals(l)
	if out, e := cash.Totals(l...); out != want || e != wantE {
		t.Errorf("Totals(%v): %v, %v; want %v, %v", l, out, e, want, wantE)
	}
}

// flows are a few, of all sizes, that may be too great together.
func flows(r *rand.Rand) []api.Flow {
	var l []api.Flow
	deep := r.Intn(64)
	for range r.Intn(12) {
		l = append(l, api.Flow{
			Day:    r.Intn(api.MaxDay),
			Cur:    r.Intn(api.Currencies),
			Amount: int(r.Uint64()) >> deep,
		})
	}
	return l
}

func TestTotals(t *testing.T) {
	for _, c := range []struct {
		l    []api.Flow
		want sums
		e    api.Errno
	}{
		{nil, sums{}, api.OK},
		{[]api.Flow{{Cur: 0, Amount: 5}}, sums{5}, api.OK},
		{[]api.Flow{{Cur: 7, Amount: -5}}, sums{7: -5}, api.OK},
		{[]api.Flow{{Cur: 1, Amount: 5}, {Cur: 2, Amount: 3}, {Cur: 1, Amount: -7}}, sums{1: -2, 2: 3}, api.OK},
		{[]api.Flow{{Day: 3, Cur: 4, Amount: 1}, {Day: 9, Cur: 4, Amount: 1}}, sums{4: 2}, api.OK},
		// Its day is not asked for.
		{[]api.Flow{{Day: -1, Cur: 3, Amount: 1}, {Day: most, Cur: 3, Amount: 1}}, sums{3: 2}, api.OK},
		{[]api.Flow{{Cur: 5, Amount: most}, {Cur: 6, Amount: least}}, sums{5: most, 6: least}, api.OK},
		// Sums of some do not count.
		{[]api.Flow{{Amount: most}, {Amount: 1}, {Amount: -1}}, sums{most}, api.OK},
		{[]api.Flow{{Amount: least}, {Amount: least}, {Amount: most}, {Amount: 1}}, sums{least}, api.OK},
		{[]api.Flow{{Amount: most}, {Amount: most}, {Amount: least}, {Amount: least}}, sums{-2}, api.OK},
		{[]api.Flow{{Amount: most}, {Amount: 1}}, sums{}, api.ErrOver},
		{[]api.Flow{{Cur: 7, Amount: least}, {Cur: 7, Amount: -1}}, sums{}, api.ErrOver},
		{[]api.Flow{{Cur: 0, Amount: 4}, {Cur: 3, Amount: most}, {Cur: 3, Amount: most}}, sums{}, api.ErrOver},
		{[]api.Flow{{Cur: 8}}, sums{}, api.ErrRange},
		{[]api.Flow{{Cur: -1}}, sums{}, api.ErrRange},
		{[]api.Flow{{Cur: 0, Amount: 4}, {Cur: 8, Amount: 1}}, sums{}, api.ErrRange},
		// A currency that is none is told ahead of a sum that does not fit.
		{[]api.Flow{{Amount: most}, {Amount: 1}, {Cur: 8}}, sums{}, api.ErrRange},
		{[]api.Flow{{Cur: -1}, {Amount: least}, {Amount: -1}}, sums{}, api.ErrRange},
	} {
		if out, e := cash.Totals(c.l...); out != c.want || e != c.e {
			t.Errorf("Totals(%v): %v, %v; want %v, %v", c.l, out, e, c.want, c.e)
		}
	}
}

func TestTotalsOfNoCurrency(t *testing.T) {
	for _, cur := range none() {
		for at := range 4 {
			l := []api.Flow{{Amount: most}, {Amount: most}, {Cur: 7, Amount: 1}}
			l = slices.Insert(l, at, api.Flow{Cur: cur})
			if out, e := cash.Totals(l...); out != (sums{}) || e != api.ErrRange {
				t.Errorf("Totals(%v): %v, %v", l, out, e)
			}
		}
	}
}

func TestTotalsAgreeWithWideNumbers(t *testing.T) {
	r := rand.New(rand.NewSource(1))
	for range 20000 {
		l := flows(r)
		checkTotals(t, l)
		for i := range l {
			l[i].Cur %= 2
		}
		checkTotals(t, l)
	}
}

func TestTotalsLeaveWhatIsHandedIn(t *testing.T) {
	all := []api.Flow{{Day: 2, Cur: 1, Amount: 5}, {Day: 1, Cur: 0, Amount: -7}, {Day: 9, Cur: 7, Amount: 9}}
	kept := slices.Clone(all)
	if _, e := cash.Totals(all[:2]...); e != api.OK {
		t.Error(e)
	}
	if !slices.Equal(all, kept) {
		t.Error(all)
	}
}

// P3.4

func TestParseUndoesPrint(t *testing.T) {
	for cur := range api.Currencies {
		for _, n := range amounts() {
			s, e := cash.Print(cur, n)
			c, m, f := cash.Parse(s)
			if e != api.OK || f != api.OK || c != cur || m != n {
				t.Errorf("Print(%d, %d): %q, %v; Parse of it: %d, %d, %v", cur, n, s, e, c, m, f)
			}
		}
	}
}

func TestPrintUndoesParse(t *testing.T) {
	read := 0
	check := func(s string) {
		cur, n, e := cash.Parse(s)
		if e != api.OK {
			return
		}
		read++
		if u, f := cash.Print(cur, n); u != s || f != api.OK {
			t.Errorf("Parse(%q): %d, %d; Print of it: %q, %v", s, cur, n, u, f)
		}
	}
	for _, name := range names() {
		eachText("-+ .019", 6, func(s string) { check(name + " " + s) })
	}
	if read < 1000 {
		t.Errorf("only %d texts were read", read)
	}
}

func TestTotalsInAnyOrder(t *testing.T) {
	r := rand.New(rand.NewSource(2))
	for range 5000 {
		l := flows(r)
		out, e := cash.Totals(l...)
		r.Shuffle(len(l), func(i, j int) { l[i], l[j] = l[j], l[i] })
		if again, f := cash.Totals(l...); again != out || f != e {
			t.Errorf("Totals(%v): %v, %v; in another order %v, %v", l, again, f, out, e)
		}
	}
}

func TestTotalsOfTwoLists(t *testing.T) {
	r := rand.New(rand.NewSource(3))
	for range 5000 {
		a, b := flows(r), flows(r)
		for i := range a {
			a[i].Amount >>= 5
		}
		for i := range b {
			b[i].Amount >>= 5
		}
		first, e := cash.Totals(a...)
		second, f := cash.Totals(b...)
		both, g := cash.Totals(append(a, b...)...)
		for cur := range first {
			first[cur] += second[cur]
		}
		if both != first || e != api.OK || f != api.OK || g != api.OK {
			t.Errorf("Totals of %v and %v: %v, want %v (%v, %v, %v)", a, b, both, first, e, f, g)
		}
	}
}
