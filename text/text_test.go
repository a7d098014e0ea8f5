package text_test

import (
	"math/rand"
	"slices"
	"strconv"
	"strings"
	"testing"

	"chattel/api"
	"chattel/term"
	"chattel/text"
)

// P6.1

func TestPrintOfTheExample(t *testing.T) {
	l := []api.Node{{Op: api.Scale}, {Op: api.Number, Value: api.Ratio{Num: 3, Den: 2}}, {Op: api.When, A: 30}, {Op: api.One}}
	if s, e := text.Print(l); s != "scale(3/2, when 2000-01-31(one EUR))" || e != api.OK {
		t.Errorf("%q, %v", s, e)
	}
}

func TestPrintOfEachOp(t *testing.T) {
	two := api.Node{Op: api.Number, Value: api.Ratio{Num: -2, Den: 1}}
	fix := api.Node{Op: api.Fixing, A: 63}
	zero := api.Node{Op: api.Zero}
	euro := api.Node{Op: api.One}
	scaled := func(l ...api.Node) []api.Node { return append(append([]api.Node{{Op: api.Scale}}, l...), zero) }
	for _, c := range []struct {
		l    []api.Node
		want string
	}{
		{scaled(two), "scale(-2, zero)"},
		{scaled(api.Node{Op: api.Number, Value: api.Ratio{Num: 0, Den: 1}}), "scale(0, zero)"},
		{scaled(api.Node{Op: api.Number, Value: api.Ratio{Num: -most, Den: most - 1}}), "scale(-9223372036854775807/9223372036854775806, zero)"},
		{scaled(fix), "scale(fix 63, zero)"},
		{scaled(api.Node{Op: api.Fixing}), "scale(fix 0, zero)"},
		{scaled(api.Node{Op: api.Neg}, two), "scale(neg(-2), zero)"},
		{scaled(api.Node{Op: api.Plus}, two, fix), "scale(plus(-2, fix 63), zero)"},
		{scaled(api.Node{Op: api.Minus}, two, fix), "scale(minus(-2, fix 63), zero)"},
		{scaled(api.Node{Op: api.Times}, two, fix), "scale(times(-2, fix 63), zero)"},
		{scaled(api.Node{Op: api.Least}, two, fix), "scale(least(-2, fix 63), zero)"},
		{scaled(api.Node{Op: api.Most}, two, fix), "scale(most(-2, fix 63), zero)"},
		{[]api.Node{zero}, "zero"},
		{[]api.Node{euro}, "one EUR"},
		{[]api.Node{{Op: api.One, A: 7}}, "one XAU"},
		{[]api.Node{{Op: api.Give}, euro}, "give(one EUR)"},
		{[]api.Node{{Op: api.And}, euro, zero}, "and(one EUR, zero)"},
		{[]api.Node{{Op: api.When}, euro}, "when 2000-01-01(one EUR)"},
		{[]api.Node{{Op: api.When, A: 73048}, zero}, "when 2199-12-31(zero)"},
		{[]api.Node{{Op: api.Cond}, two, fix, euro, zero}, "cond(-2, fix 63, one EUR, zero)"},
		{[]api.Node{{Op: api.Or}, euro, zero}, "or 0(one EUR, zero)"},
		{[]api.Node{{Op: api.Or, A: 63}, zero, euro}, "or 63(zero, one EUR)"},
		{[]api.Node{{Op: api.Any, A: 10, B: 59}, euro}, "any 10 2000-02-29(one EUR)"},
		{[]api.Node{{Op: api.Any, A: 63, B: 73048}, zero}, "any 63 2199-12-31(zero)"},
		{[]api.Node{{Op: api.And}, {Op: api.And}, euro, zero, {Op: api.Give}, zero}, "and(and(one EUR, zero), give(zero))"},
	} {
		if s, e := text.Print(c.l); s != c.want || e != api.OK {
			t.Errorf("Print(%v): %q, %v; want %q", c.l, s, e, c.want)
		}
	}
}

func TestPrintOfManyContracts(t *testing.T) {
	r := rand.New(rand.NewSource(1))
	for range 5000 {
		l, want := contract(r)
		if s, e := text.Print(l); s != want || e != api.OK {
			t.Fatalf("Print(%v): %q, %v; want %q", l, s, e, want)
		}
	}
}

func TestPrintOfNoContract(t *testing.T) {
	zero := api.Node{Op: api.Zero}
	give := api.Node{Op: api.Give}
	number := api.Node{Op: api.Number, Value: api.Ratio{Num: 1, Den: 1}}
	deep := append(slices.Repeat([]api.Node{give}, 12), zero)
	for i, c := range []struct {
		l []api.Node
		e api.Errno
	}{
		{nil, api.ErrForm},
		{[]api.Node{}, api.ErrForm},
		{[]api.Node{{}}, api.ErrForm},
		{[]api.Node{{Op: -1}}, api.ErrForm},
		{[]api.Node{{Op: api.Ops}}, api.ErrForm},
		{[]api.Node{give}, api.ErrForm},
		{[]api.Node{zero, zero}, api.ErrForm},
		{[]api.Node{{Op: api.One, A: 8}}, api.ErrRange},
		{[]api.Node{{Op: api.One, A: -1}}, api.ErrRange},
		{[]api.Node{{Op: api.Zero, A: 1}}, api.ErrRange},
		{[]api.Node{{Op: api.Or, A: 64}, zero, zero}, api.ErrRange},
		{[]api.Node{{Op: api.When, A: 73049}, zero}, api.ErrRange},
		{[]api.Node{{Op: api.Any, B: -1}, zero}, api.ErrRange},
		{[]api.Node{{Op: api.Scale}, {Op: api.Number}, zero}, api.ErrRange},
		{[]api.Node{{Op: api.Scale}, {Op: api.Number, Value: api.Ratio{Num: least, Den: 1}}, zero}, api.ErrRange},
		{[]api.Node{number}, api.ErrSort},
		{[]api.Node{{Op: api.Fixing}}, api.ErrSort},
		{[]api.Node{give, number}, api.ErrSort},
		{[]api.Node{{Op: api.Scale}, zero, zero}, api.ErrSort},
		{deep, api.ErrDeep},
		{make([]api.Node, 65), api.ErrDeep},
		// The error that is named first is answered.
		{append(slices.Clone(deep), zero), api.ErrForm},
		{append(slices.Clone(deep[:12]), number), api.ErrSort},
		{append(slices.Clone(deep[:12]), api.Node{Op: api.One, A: 8}), api.ErrRange},
	} {
		if s, e := text.Print(c.l); s != "" || e != c.e || e != term.Check(c.l) {
			t.Errorf("%d: Print(%v): %q, %v; want %v", i, c.l, s, e, c.e)
		}
	}
	if s, e := text.Print(deep[1:]); s != gives(11, "zero") || e != api.OK {
		t.Errorf("%q, %v", s, e)
	}
}

// P6.2

func TestParseOfTheExamples(t *testing.T) {
	for _, c := range []struct {
		s  string
		at int
		e  api.Errno
	}{
		{"scale(3/2, when 2000-01-31(one EUR))", 0, api.OK},
		{"and(zero,", 9, api.ErrForm},
		{"or 64(zero, zero)", 3, api.ErrRange},
	} {
		if l, at, e := text.Parse(c.s); at != c.at || e != c.e || (len(l) == 0) != (e != api.OK) {
			t.Errorf("Parse(%q): %v, %d, %v", c.s, l, at, e)
		}
	}
}

func TestParseOfWrongTexts(t *testing.T) {
	for _, c := range []struct {
		s  string
		at int
		e  api.Errno
	}{
		// No token where there has to be one.
		{"", 0, api.ErrForm},
		{" ", 1, api.ErrForm},
		{"\n \n\n", 4, api.ErrForm},
		{"one", 3, api.ErrForm},
		{"one  \n", 6, api.ErrForm},
		{"give", 4, api.ErrForm},
		{"give(", 5, api.ErrForm},
		{"give(zero", 9, api.ErrForm},
		{"and(zero ", 9, api.ErrForm},
		{"and(zero, ", 10, api.ErrForm},
		{"or", 2, api.ErrForm},
		{"or 1", 4, api.ErrForm},
		{"when", 4, api.ErrForm},
		{"any 1", 5, api.ErrForm},
		{"any 1 2000-01-01", 16, api.ErrForm},
		{"scale(fix", 9, api.ErrForm},
		{"cond(1, 2, zero, zero", 21, api.ErrForm},
		{strings.Repeat("give(", 12), 60, api.ErrForm},
		// One too many.
		{"zero zero", 5, api.ErrForm},
		{"zero\nzero", 5, api.ErrForm},
		{"zero)", 4, api.ErrForm},
		{"zero (", 5, api.ErrForm},
		{"zero,", 4, api.ErrForm},
		{"zero()", 4, api.ErrForm},
		{"one EUR EUR", 8, api.ErrForm},
		{"give(zero))", 10, api.ErrForm},
		{"give(zero, zero)", 9, api.ErrForm},
		{"give(give(zero,", 14, api.ErrForm},
		{"zero nil", 5, api.ErrForm},
		{"zero one EUR", 5, api.ErrForm},
		// Another one.
		{"(", 0, api.ErrForm},
		{" (zero)", 1, api.ErrForm},
		{",", 0, api.ErrForm},
		{"and(zero)", 8, api.ErrForm},
		{"and(zero zero)", 9, api.ErrForm},
		{"and(,zero)", 4, api.ErrForm},
		{"and(zero,,zero)", 9, api.ErrForm},
		{"and(zero,)", 9, api.ErrForm},
		{"and()", 4, api.ErrForm},
		{"and zero", 4, api.ErrForm},
		{"and((zero, zero))", 4, api.ErrForm},
		{"give)zero(", 4, api.ErrForm},
		{"give,zero)", 4, api.ErrForm},
		{"give[zero]", 0, api.ErrForm},
		// Words.
		{"nil", 0, api.ErrForm},
		{"Zero", 0, api.ErrForm},
		{"zer", 0, api.ErrForm},
		{"zeros", 0, api.ErrForm},
		{"zero\t", 0, api.ErrForm},
		{"zero\r\n", 0, api.ErrForm},
		{"\tzero", 0, api.ErrForm},
		{"zero\x00", 0, api.ErrForm},
		{"zero\xff", 0, api.ErrForm},
		{"z\xe9ro", 0, api.ErrForm},
		{"zero\u00a0", 0, api.ErrForm},
		{"ze ro", 0, api.ErrForm},
		{"oneEUR", 0, api.ErrForm},
		{"or1(zero, zero)", 0, api.ErrForm},
		// Sorts.
		{"3", 0, api.ErrForm},
		{"fix 1", 0, api.ErrForm},
		{"neg(1)", 0, api.ErrForm},
		{"plus(1, 2)", 0, api.ErrForm},
		{"give(3)", 5, api.ErrForm},
		{"scale(zero, zero)", 6, api.ErrForm},
		{"scale(one EUR, zero)", 6, api.ErrForm},
		{"scale(1, 2)", 9, api.ErrForm},
		{"scale(scale(1, zero), zero)", 6, api.ErrForm},
		{"scale(neg(zero), zero)", 10, api.ErrForm},
		{"cond(1, zero, zero, zero)", 8, api.ErrForm},
		{"cond(1, 2, 3, zero)", 11, api.ErrForm},
		{"cond(1, 2, zero, 3)", 17, api.ErrForm},
		// Currencies.
		{"one eur", 4, api.ErrForm},
		{"one EURO", 4, api.ErrForm},
		{"one 0", 4, api.ErrForm},
		{"one EU R", 4, api.ErrForm},
		{"one(EUR)", 3, api.ErrForm},
		{"one zero", 4, api.ErrForm},
		// Numbers.
		{"scale(2/4, zero)", 6, api.ErrForm},
		{"scale(2/1, zero)", 6, api.ErrForm},
		{"scale(+2, zero)", 6, api.ErrForm},
		{"scale(-0, zero)", 6, api.ErrForm},
		{"scale(02, zero)", 6, api.ErrForm},
		{"scale(2.5, zero)", 6, api.ErrForm},
		{"scale(1/0, zero)", 6, api.ErrForm},
		{"scale(1/-2, zero)", 6, api.ErrForm},
		{"scale(- 2, zero)", 6, api.ErrForm},
		{"scale(1 /2, zero)", 8, api.ErrForm},
		{"scale(9223372036854775808, zero)", 6, api.ErrForm},
		{"scale(-9223372036854775808, zero)", 6, api.ErrForm},
		{"scale(1/9223372036854775808, zero)", 6, api.ErrForm},
		// Keys.
		{"or 64(zero, zero)", 3, api.ErrRange},
		{"or 99(zero, zero)", 3, api.ErrRange},
		{"or 100(zero, zero)", 3, api.ErrRange},
		{"or 256(zero, zero)", 3, api.ErrRange},
		{"or 9223372036854775808(zero, zero)", 3, api.ErrRange},
		{"or 18446744073709551616(zero, zero)", 3, api.ErrRange},
		{"or 18446744073709551617(zero, zero)", 3, api.ErrRange},
		{"or 1" + strings.Repeat("0", 1000) + "(zero, zero)", 3, api.ErrRange},
		{"or 64", 3, api.ErrRange},
		{"or 64)", 3, api.ErrRange},
		{"or 00(zero, zero)", 3, api.ErrForm},
		{"or 07(zero, zero)", 3, api.ErrForm},
		{"or 064(zero, zero)", 3, api.ErrForm},
		{"or 0" + strings.Repeat("9", 30) + "(zero, zero)", 3, api.ErrForm},
		{"or -1(zero, zero)", 3, api.ErrForm},
		{"or -0(zero, zero)", 3, api.ErrForm},
		{"or +1(zero, zero)", 3, api.ErrForm},
		{"or -64(zero, zero)", 3, api.ErrForm},
		{"or 1_0(zero, zero)", 3, api.ErrForm},
		{"or 0x1(zero, zero)", 3, api.ErrForm},
		{"or 1a1(zero, zero)", 3, api.ErrForm},
		{"or 64a(zero, zero)", 3, api.ErrForm},
		{"or 1.0(zero, zero)", 3, api.ErrForm},
		{"or 1/2(zero, zero)", 3, api.ErrForm},
		{"or \u0661(zero, zero)", 3, api.ErrForm},
		{"or (zero, zero)", 3, api.ErrForm},
		{"or(zero, zero)", 2, api.ErrForm},
		{"or 1 2(zero, zero)", 5, api.ErrForm},
		{"or 6 4(zero, zero)", 5, api.ErrForm},
		{"scale(fix 64, zero)", 10, api.ErrRange},
		{"scale(fix -1, zero)", 10, api.ErrForm},
		{"scale(fix, zero)", 9, api.ErrForm},
		{"scale(fix(1), zero)", 9, api.ErrForm},
		{"any 64 2000-01-01(zero)", 4, api.ErrRange},
		{"any 64 x(zero)", 4, api.ErrRange},
		// Days.
		{"when 2000-02-30(zero)", 5, api.ErrRange},
		{"when 2100-02-29(zero)", 5, api.ErrRange},
		{"when 1999-12-31(zero)", 5, api.ErrRange},
		{"when 2200-01-01(zero)", 5, api.ErrRange},
		{"when 0000-00-00(zero)", 5, api.ErrRange},
		{"when 2000-13-01(zero)", 5, api.ErrRange},
		{"when 9999-99-99", 5, api.ErrRange},
		{"when 2000-2-3(zero)", 5, api.ErrForm},
		{"when 2000-02-300(zero)", 5, api.ErrForm},
		{"when 2000/02/03(zero)", 5, api.ErrForm},
		{"when 20000203(zero)", 5, api.ErrForm},
		{"when 34(zero)", 5, api.ErrForm},
		{"when(zero)", 4, api.ErrForm},
		{"when (zero)", 5, api.ErrForm},
		{"when 2000-01-01 zero", 16, api.ErrForm},
		{"any 1(zero)", 5, api.ErrForm},
		{"any 2000-01-01(zero)", 4, api.ErrForm},
		{"any 2000-01-01 1(zero)", 4, api.ErrForm},
		{"any 1 2000-02-30(zero)", 6, api.ErrRange},
		{"any 1 2000-2-30(zero)", 6, api.ErrForm},
		// The first wrong one counts, whatever comes behind it.
		{"and(or 64(nil, zero), zero", 7, api.ErrRange},
		{"and(nil, or 64(zero, zero))", 4, api.ErrForm},
		{"give(or 07(when 2000-02-30(", 8, api.ErrForm},
	} {
		l, at, e := text.Parse(c.s)
		if len(l) != 0 || at != c.at || e != c.e {
			t.Errorf("Parse(%q): %v, %d, %v; want %d, %v", c.s, l, at, e, c.at, c.e)
		}
		checkParse(t, c.s)
	}
}

// TestParseOfDepths: the 13th above one another is too deep, if the text may go on with it.
func TestParseOfDepths(t *testing.T) {
	negs := func(n int, s string) string {
		return "scale(" + strings.Repeat("neg(", n) + s + strings.Repeat(")", n) + ", zero)"
	}
	for _, c := range []struct {
		s  string
		at int
		e  api.Errno
	}{
		{gives(11, "zero"), 0, api.OK},
		{gives(12, "zero"), 60, api.ErrDeep},
		{gives(12, "  zero"), 62, api.ErrDeep},
		{gives(12, "give(zero)"), 60, api.ErrDeep},
		{gives(12, "or 64(zero, zero)"), 60, api.ErrDeep},
		{gives(12, "nil"), 60, api.ErrForm},
		{gives(12, "3"), 60, api.ErrForm},
		{gives(12, "fix 1"), 60, api.ErrForm},
		{gives(12, ""), 60, api.ErrForm},
		{gives(12, ","), 60, api.ErrForm},
		{gives(100000, "zero"), 60, api.ErrDeep},
		{strings.Repeat("give(", 12) + "zero", 60, api.ErrDeep},
		{negs(10, "1"), 0, api.OK},
		{negs(11, "1"), 50, api.ErrDeep},
		{negs(11, "fix 64"), 50, api.ErrDeep},
		{negs(11, "2/4"), 50, api.ErrForm},
		{negs(11, "zero"), 50, api.ErrForm},
		// What is closed is above nothing any more.
		{"and(" + gives(10, "zero") + ", " + gives(10, "zero") + ")", 0, api.OK},
		{"and(" + gives(10, "zero") + ", " + gives(11, "zero") + ")", 70 + 55, api.ErrDeep},
		{"and(" + gives(11, "zero") + ", " + gives(10, "zero") + ")", 4 + 55, api.ErrDeep},
	} {
		if l, at, e := text.Parse(c.s); at != c.at || e != c.e || (len(l) == 0) != (e != api.OK) {
			t.Errorf("Parse(%.200q): %v, %d, %v; want %d, %v", c.s, l, at, e, c.at, c.e)
		}
		checkParse(t, c.s)
	}
}

// TestParseOfManyNodes: the 65th is too many, if the text may go on with it.
func TestParseOfManyNodes(t *testing.T) {
	if l, at, e := text.Parse(wide(63)); len(l) != 63 || at != 0 || e != api.OK {
		t.Errorf("%d, %d, %v", len(l), at, e)
	}
	if l, at, e := text.Parse(gives(1, wide(63))); len(l) != 64 || at != 0 || e != api.OK {
		t.Errorf("%d, %d, %v", len(l), at, e)
	}
	// The last of 65 is the last zero.
	if l, at, e := text.Parse(wide(65)); len(l) != 0 || at != strings.LastIndex(wide(65), "zero") || e != api.ErrDeep {
		t.Errorf("%d, %d, %v", len(l), at, e)
	}
	for n := 59; n < 80; n += 2 {
		checkParse(t, wide(n))
		checkParse(t, gives(1, wide(n)))
		checkParse(t, gives(2, wide(n)))
		checkParse(t, "cond(1, 2, zero, "+wide(n)+")")
	}
	rest := wide(65)[:strings.LastIndex(wide(65), "zero")]
	for _, c := range []struct {
		s string
		e api.Errno
	}{
		{"one EUR", api.ErrDeep}, {"give(", api.ErrDeep}, {"or 64", api.ErrDeep}, {"nil", api.ErrForm}, {"1", api.ErrForm}, {"fix 1", api.ErrForm}, {"(", api.ErrForm}, {")", api.ErrForm}, {"", api.ErrForm},
	} {
		if l, at, e := text.Parse(rest + c.s); len(l) != 0 || at != len(rest) || e != c.e {
			t.Errorf("%q as the 65th: %d, %d, %v", c.s, len(l), at, e)
		}
	}
}

// TestParseOfGaps: blanks and line feeds stand between tokens, as many as there are.
func TestParseOfGaps(t *testing.T) {
	want := []api.Node{{Op: api.And}, {Op: api.Any, A: 5, B: 9}, {Op: api.One, A: 1}, {Op: api.Scale}, {Op: api.Fixing, A: 7}, {Op: api.Zero}}
	for _, s := range []string{
		"and(any 5 2000-01-10(one USD), scale(fix 7, zero))",
		"and(any 5 2000-01-10(one USD),scale(fix 7,zero))",
		"and\n(\nany\n5\n2000-01-10\n(\none\nUSD\n)\n,\nscale\n(\nfix\n7\n,\nzero\n)\n)\n",
		"  and  (  any  5  2000-01-10  (  one  USD  )  ,  scale  (  fix  7  ,  zero  )  )  ",
		strings.Repeat(" \n", 100000) + "and(any 5 2000-01-10(one" + strings.Repeat("\n", 100000) + "USD), scale(fix 7, zero))" + strings.Repeat(" ", 100000),
	} {
		if l, at, e := text.Parse(s); !slices.Equal(l, want) || at != 0 || e != api.OK {
			t.Errorf("Parse(%.80q): %v, %d, %v", s, l, at, e)
		}
	}
	r := rand.New(rand.NewSource(2))
	for range 5000 {
		want, s := contract(r)
		s = loose(r, s)
		if l, at, e := text.Parse(s); !slices.Equal(l, want) || at != 0 || e != api.OK {
			t.Fatalf("Parse(%q): %v, %d, %v; want %v", s, l, at, e, want)
		}
	}
}

// beginnings are all rows of so many tokens with which the text of a term may begin; what letters stand for is one of few.
func beginnings(due []string, n int) [][]string {
	if n == 0 {
		return [][]string{nil}
	}
	if len(due) == 0 {
		return nil
	}
	var rows [][]string
	follow := func(token string, behind []string) {
		for _, row := range beginnings(behind, n-1) {
			rows = append(rows, append([]string{token}, row...))
		}
	}
	letter, rest := due[0], due[1:]
	switch letter {
	case "X", "C":
		for op, shape := range shapes {
			if sortOf(op) == letter {
				behind := tokens(shape)
				if op == api.Number {
					behind = []string{"-3/2"}
				}
				follow(behind[0], slices.Concat(behind[1:], rest))
			}
		}
	case "K":
		follow("0", rest)
		follow("63", rest)
	case "N":
		follow("EUR", rest)
	case "D", "U":
		follow("2000-02-29", rest)
	default:
		follow(letter, rest)
	}
	return rows
}

// TestParseOfAllBeginnings: a token is wrong if no text goes on with it, and none is wrong ahead of it.
func TestParseOfAllBeginnings(t *testing.T) {
	all := []string{"(", ")", ",", "EUR", "0", "63", "64", "07", "-3/2", "2000-02-29", "2000-02-30", "2000-2-3", "nil"}
	for op, shape := range shapes {
		if op != api.Number {
			all = append(all, tokens(shape)[0])
		}
	}
	for n := range 9 {
		may := map[string]bool{}
		for _, row := range beginnings([]string{"C"}, n+1) {
			may[strings.Join(row, " ")] = true
		}
		// Numbers are told by "-3/2" alone, so others do not count where it may stand.
		for _, row := range beginnings([]string{"C"}, n) {
			ahead := strings.Join(row, " ")
			if n > 0 {
				ahead += " "
			}
			for _, token := range all {
				if may[ahead+"-3/2"] && strings.Contains(" 0 63 64 ", " "+token+" ") {
					continue
				}
				s := ahead + token
				_, at, e := text.Parse(s)
				switch {
				case may[s]:
					// Ended, or it has to go on.
					if !(e == api.OK && at == 0) && !(e == api.ErrForm && at == len(s)) {
						t.Fatalf("Parse(%q): %d, %v", s, at, e)
					}
				case at != len(ahead):
					t.Fatalf("Parse(%q): %d, %v", s, at, e)
				case token == "64" && may[ahead+"63"] || token == "2000-02-30" && may[ahead+"2000-02-29"]:
					if e != api.ErrRange {
						t.Fatalf("Parse(%q): %d, %v", s, at, e)
					}
				case e != api.ErrForm:
					t.Fatalf("Parse(%q): %d, %v", s, at, e)
				}
			}
		}
	}
}

// odd are tokens that may be wrong, or not.
var odd = []string{"(", ")", ",", "zero", "one", "EUR", "XAU", "eur", "give", "and", "scale", "when", "cond", "or", "any", "fix", "neg", "plus", "minus",
	"times", "least", "most", "0", "1", "-1", "63", "64", "07", "-3/2", "2/4", "3/1", "2000-01-01", "2199-12-31", "2200-01-01", "2001-02-29", "2000-1-1", "nil", "\t", "\xff", "one\r"}

// unlike is a token of the same kind, that may be wrong.
func unlike(r *rand.Rand, token string) string {
	switch {
	case keyForm.MatchString(token):
		return one(r, "64", "07", "9223372036854775808", "-1", "63")
	case dayForm.MatchString(token):
		return one(r, "2200-01-01", "2001-02-29", "2000-1-1", "1999-12-31", "2199-12-31")
	case slices.Contains(names, token):
		return one(r, "eur", "EU", "EURO", "XAU")
	}
	return strings.ToUpper(token)
}

// spoil changes, leaves out, doubles, swaps or puts in tokens.
func spoil(r *rand.Rand, s string) string {
	l := tokens(s)
	for range 1 + r.Intn(2) {
		if len(l) == 0 {
			break
		}
		i, j := r.Intn(len(l)), r.Intn(len(l))
		switch r.Intn(7) {
		case 0:
			l = slices.Delete(l, i, i+1)
		case 1:
			l = slices.Insert(l, i, l[j])
		case 2:
			l[i], l[j] = l[j], l[i]
		case 3:
			l[i] = one(r, odd...)
		case 4:
			l = slices.Insert(l, i, one(r, odd...))
		case 5:
			l = l[:i]
		case 6:
			l[i] = unlike(r, l[i])
		}
	}
	return strings.Join(l, one(r, " ", "\n", "  "))
}

func TestParseOfManySpoiltTexts(t *testing.T) {
	r := rand.New(rand.NewSource(3))
	for range 15000 {
		// Also what is too deep or too great.
		_, s := draw(r, one(r, "C", "C", "C", "X"), 1+r.Intn(15))
		checkParse(t, s)
		checkParse(t, spoil(r, s))
		at := r.Intn(len(s) + 1)
		checkParse(t, s[:at])
		checkParse(t, s[:at]+one(r, "x", " ", "\n", "(", ")", ",", "0", "-", "\xc3")+s[at:])
	}
}

func TestParseOfManyRowsOfTokens(t *testing.T) {
	r := rand.New(rand.NewSource(4))
	for range 50000 {
		s := ""
		for range r.Intn(8) {
			s += one(r, odd...) + one(r, "", " ", "\n")
		}
		checkParse(t, s)
		raw := make([]byte, r.Intn(12))
		for i := range raw {
			raw[i] = one(r, byte(r.Intn(256)), '(', ' ', '\n', ',', ')')
		}
		checkParse(t, string(raw))
	}
}

// TestParseOfAllKeysAndDays tries each key about its bounds, each day, and each currency.
func TestParseOfAllKeysAndDays(t *testing.T) {
	for key := -2; key < 130; key++ {
		k := strconv.Itoa(key)
		for _, s := range []string{"or " + k + "(zero, zero)", "any " + k + " 2000-01-01(zero)", "scale(fix " + k + ", zero)"} {
			checkParse(t, s)
		}
		if l, _, e := text.Parse("any " + k + " 2000-01-01(zero)"); (e == api.OK) != (key >= 0 && key <= 63) || e == api.OK && l[0].A != key {
			t.Errorf("%d: %v, %v", key, l, e)
		}
	}
	for day := range 73049 {
		s := dayText(day)
		l, _, e := text.Parse("when " + s + "(zero)")
		m, _, f := text.Parse("any 3 " + s + "(zero)")
		if e != api.OK || f != api.OK || l[0] != (api.Node{Op: api.When, A: day}) || m[0] != (api.Node{Op: api.Any, A: 3, B: day}) {
			t.Fatalf("%d: %v, %v, %v, %v", day, l, e, m, f)
		}
	}
	for cur, name := range names {
		if l, _, e := text.Parse("one " + name); e != api.OK || !slices.Equal(l, []api.Node{{Op: api.One, A: cur}}) {
			t.Errorf("%s: %v, %v", name, l, e)
		}
	}
}

// P6.3

func TestParseOfPrint(t *testing.T) {
	r := rand.New(rand.NewSource(5))
	for range 5000 {
		want, _ := contract(r)
		s, e := text.Print(want)
		l, at, f := text.Parse(s)
		if !slices.Equal(l, want) || at != 0 || e != api.OK || f != api.OK {
			t.Fatalf("%v: %q, %v: %v, %d, %v", want, s, e, l, at, f)
		}
	}
}

// TestWhatIsParsed: it is a contract, and is parsed of its text again, which has the same tokens.
func TestWhatIsParsed(t *testing.T) {
	r := rand.New(rand.NewSource(6))
	for range 20000 {
		_, s := contract(r)
		s = loose(r, s)
		if r.Intn(2) == 0 {
			s = spoil(r, s)
		}
		l, at, e := text.Parse(s)
		if e != api.OK {
			continue
		}
		told, f := text.Print(l)
		m, again, g := text.Parse(told)
		if term.Check(l) != api.OK || at != 0 || f != api.OK || g != api.OK || again != 0 || !slices.Equal(l, m) || !slices.Equal(tokens(s), tokens(told)) {
			t.Fatalf("%q: %v, %d; %q, %v; %v, %d, %v", s, l, at, told, f, m, again, g)
		}
	}
}

// TestWhereATextIsWrong: what is ahead of the place may go on or has ended, and what is behind the token does not count.
func TestWhereATextIsWrong(t *testing.T) {
	r := rand.New(rand.NewSource(7))
	wrong := 0
	for range 20000 {
		_, s := draw(r, "C", 1+r.Intn(14))
		s = spoil(r, s)
		l, at, e := text.Parse(s)
		if e == api.OK {
			continue
		}
		wrong++
		if len(l) != 0 || at < 0 || at > len(s) {
			t.Fatalf("Parse(%q): %v, %d, %v", s, l, at, e)
		}
		ahead := s[:at]
		if _, place, f := text.Parse(ahead); !(f == api.OK && place == 0) && !(f == api.ErrForm && place == at) {
			t.Fatalf("Parse(%q), ahead of %v: %d, %v", ahead, e, place, f)
		}
		if at == len(s) {
			continue
		}
		token := tokens(s[at:])[0]
		for _, behind := range []string{"", " ", "(", ", zero)", "\n" + one(r, odd...), " " + s} {
			if m, place, f := text.Parse(ahead + token + behind); len(m) != 0 || place != at || f != e {
				t.Fatalf("Parse(%q): %v, %d, %v; want %d, %v", ahead+token+behind, m, place, f, at, e)
			}
		}
	}
	if wrong < 5000 {
		t.Error(wrong)
	}
}

// R1, R2

// TestLongTexts: Parse ends, however long a text is.
func TestLongTexts(t *testing.T) {
	const n = 1 << 22
	for _, c := range []struct {
		s  string
		at int
		e  api.Errno
	}{
		{strings.Repeat("z", n), 0, api.ErrForm},
		{strings.Repeat(" ", n), n, api.ErrForm},
		{strings.Repeat("(", n), 0, api.ErrForm},
		{"zero" + strings.Repeat(")", n), 4, api.ErrForm},
		{"or " + strings.Repeat("9", n), 3, api.ErrRange},
		{"or " + strings.Repeat("0", n), 3, api.ErrForm},
		{"when " + strings.Repeat("2", n), 5, api.ErrForm},
		{"scale(" + strings.Repeat("9", n), 6, api.ErrForm},
		{strings.Repeat("and(", n), 48, api.ErrDeep},
		{"and(" + strings.Repeat("zero, ", n), 14, api.ErrForm},
	} {
		if l, at, e := text.Parse(c.s); len(l) != 0 || at != c.at || e != c.e {
			t.Errorf("Parse(%.20q..): %v, %d, %v; want %d, %v", c.s, l, at, e, c.at, c.e)
		}
	}
}

// TestArgumentsAreLeft: nothing is written into what is handed in, nor behind its length.
func TestArgumentsAreLeft(t *testing.T) {
	r := rand.New(rand.NewSource(8))
	for range 1000 {
		l, want := contract(r)
		room := slices.Concat(l, l)
		before := slices.Clone(room)
		if s, e := text.Print(room[:len(l)]); s != want || e != api.OK || !slices.Equal(room, before) {
			t.Fatalf("%v became %v: %q, %v", before, room, s, e)
		}
	}
}

// TestAnswersAreTheCallers: what is written into an answer is seen nowhere else.
func TestAnswersAreTheCallers(t *testing.T) {
	r := rand.New(rand.NewSource(9))
	for range 1000 {
		want, s := contract(r)
		l, _, _ := text.Parse(s)
		other, _, _ := text.Parse(s)
		for i := range l[:cap(l)] {
			l[:cap(l)][i] = api.Node{Op: -1}
		}
		again, at, e := text.Parse(s)
		if !slices.Equal(other, want) || !slices.Equal(again, want) || at != 0 || e != api.OK {
			t.Fatalf("%q: %v, %v, %d, %v", s, other, again, at, e)
		}
	}
}
