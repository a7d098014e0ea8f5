package text_test

import (
	"math/big"
	"math/rand"
	"regexp"
	"slices"
	"strconv"
	"strings"
	"testing"
	"time"

	"chattel/api"
	"chattel/term"
	"chattel/text"
)

// The tests' own telling of what the document asks for: texts out of shapes, and the first wrong token by them.

const (
	most  = 1<<63 - 1
	least = -1 << 63
)

// shapes are the texts of ops. Capital letters stand for what comes in: X, C terms that make a number, a contract;
// V a Value, K a key, N a currency's name, D a day (A), U a day (B).
var shapes = map[int]string{
	api.Number: "V",
	api.Fixing: "fix K",
	api.Neg:    "neg(X)",
	api.Plus:   "plus(X, X)",
	api.Minus:  "minus(X, X)",
	api.Times:  "times(X, X)",
	api.Least:  "least(X, X)",
	api.Most:   "most(X, X)",
	api.Zero:   "zero",
	api.One:    "one N",
	api.Give:   "give(C)",
	api.And:    "and(C, C)",
	api.Scale:  "scale(X, C)",
	api.When:   "when D(C)",
	api.Cond:   "cond(X, X, C, C)",
	api.Or:     "or K(C, C)",
	api.Any:    "any K U(C)",
}

// names are those of the currencies, from 0 on.
var names = []string{"EUR", "USD", "GBP", "JPY", "CHF", "SEK", "KWD", "XAU"}

// sortOf is the capital letter of what an op makes.
func sortOf(op int) string {
	if op <= api.Most {
		return "X"
	}
	return "C"
}

// dayText is a day's, by the library's calendar.
func dayText(day int) string {
	return time.Date(2000, 1, 1+day, 0, 0, 0, 0, time.UTC).Format(time.DateOnly)
}

// dayOf is the day of a text; false, if there is none.
func dayOf(s string) (int, bool) {
	at, err := time.Parse(time.DateOnly, s)
	if err != nil || at.Year() < 2000 || at.Year() > 2199 {
		return 0, false
	}
	return int(at.Unix()/86400) - 10957, true
}

// ratioText is a ratio's.
func ratioText(r api.Ratio) string {
	return strings.TrimSuffix(strconv.Itoa(r.Num)+"/"+strconv.Itoa(r.Den), "/1")
}

var (
	tokenForm = regexp.MustCompile(`[(),]|[^(), \n]+`)
	keyForm   = regexp.MustCompile(`^(0|[1-9][0-9]*)$`)
	dayForm   = regexp.MustCompile(`^[0-9]{4}-[0-9]{2}-[0-9]{2}$`)
	ratioForm = regexp.MustCompile(`^(0|-?[1-9][0-9]*)(/([1-9][0-9]*))?$`)
)

// tokens are those of a text.
func tokens(s string) []string { return tokenForm.FindAllString(s, -1) }

// ratioOf is the ratio of a text; false, if it is none's.
func ratioOf(s string) (api.Ratio, bool) {
	m := ratioForm.FindStringSubmatch(s)
	if m == nil || m[3] == "1" {
		return api.Ratio{}, false
	}
	num, _ := new(big.Int).SetString(m[1], 10)
	den := big.NewInt(1)
	if m[3] != "" {
		den.SetString(m[3], 10)
	}
	top := big.NewInt(most)
	if num.CmpAbs(top) > 0 || den.Cmp(top) > 0 || new(big.Int).GCD(nil, nil, new(big.Int).Abs(num), den).Cmp(big.NewInt(1)) != 0 {
		return api.Ratio{}, false
	}
	return api.Ratio{Num: int(num.Int64()), Den: int(den.Int64())}, true
}

// begun is the node that begins with a token, where a term of a letter has to begin.
func begun(letter, token string) (api.Node, bool) {
	if value, ok := ratioOf(token); ok && letter == "X" {
		return api.Node{Op: api.Number, Value: value}, true
	}
	for op, shape := range shapes {
		if op != api.Number && sortOf(op) == letter && tokens(shape)[0] == token {
			return api.Node{Op: op}, true
		}
	}
	return api.Node{}, false
}

// set puts what a token tells into the field of a letter, and is the token's error.
func set(n *api.Node, letter, token string) api.Errno {
	switch letter {
	case "N":
		n.A = slices.Index(names, token)
		if n.A < 0 {
			return api.ErrForm
		}
	case "K":
		if !keyForm.MatchString(token) {
			return api.ErrForm
		}
		if len(token) > 2 || token > "63" && len(token) == 2 {
			return api.ErrRange
		}
		n.A, _ = strconv.Atoi(token)
	case "D", "U":
		if !dayForm.MatchString(token) {
			return api.ErrForm
		}
		day, ok := dayOf(token)
		if !ok {
			return api.ErrRange
		}
		if letter == "D" {
			n.A = day
		} else {
			n.B = day
		}
	}
	return api.OK
}

// parsed is what Parse has to answer.
func parsed(s string) ([]api.Node, int, api.Errno) {
	var l []api.Node
	depth := 0
	due := []string{"C"}
	for _, place := range tokenForm.FindAllStringIndex(s, -1) {
		at, token := place[0], s[place[0]:place[1]]
		if len(due) == 0 {
			return nil, at, api.ErrForm
		}
		letter := due[0]
		due = due[1:]
		switch letter {
		case "X", "C":
			n, ok := begun(letter, token)
			if !ok {
				return nil, at, api.ErrForm
			}
			if len(l) == 64 || depth == 12 {
				return nil, at, api.ErrDeep
			}
			l = append(l, n)
			due = append(tokens(shapes[n.Op])[1:], due...)
		case "N", "K", "D", "U":
			if e := set(&l[len(l)-1], letter, token); e != api.OK {
				return nil, at, e
			}
		default:
			if token != letter {
				return nil, at, api.ErrForm
			}
			depth += strings.Count(token, "(") - strings.Count(token, ")")
		}
	}
	if len(due) > 0 {
		return nil, len(s), api.ErrForm
	}
	return l, 0, api.OK
}

// checkParse holds Parse of a text against what it has to answer.
func checkParse(t *testing.T, s string) {
	t.Helper()
	want, wantAt, wantE := parsed(s)
	l, at, e := text.Parse(s)
	if !slices.Equal(l, want) || at != wantAt || e != wantE {
		t.Errorf("Parse(%q): %v, %d, %v; want %v, %d, %v", s, l, at, e, want, wantAt, wantE)
	}
	if e == api.OK && term.Check(l) != api.OK {
		t.Errorf("Parse(%q): %v: %v", s, l, term.Check(l))
	}
}

// one is a drawn one of a list.
func one[T any](r *rand.Rand, l ...T) T { return l[r.Intn(len(l))] }

// fill draws what comes in for a letter that is no term, and puts it into the node.
func fill(r *rand.Rand, n *api.Node, letter byte) string {
	switch letter {
	case 'V':
		n.Value = one(r, []api.Ratio{{Num: 0, Den: 1}, {Num: 1, Den: 1}, {Num: -1, Den: 1}, {Num: 3, Den: 2}, {Num: -7, Den: 10},
			{Num: most, Den: 1}, {Num: -most, Den: 1}, {Num: 1, Den: most}, {Num: -most, Den: most - 1}, {Num: r.Intn(1000), Den: 1009}, {Num: r.Intn(1000), Den: 1}}...)
		if n.Value.Num == 0 {
			n.Value.Den = 1
		}
		return ratioText(n.Value)
	case 'N':
		n.A = r.Intn(8)
		return names[n.A]
	case 'K':
		n.A = one(r, 0, 1, 9, 10, 62, 63, r.Intn(64))
		return strconv.Itoa(n.A)
	}
	day := one(r, 0, 1, 59, 60, 73047, 73048, r.Intn(73049))
	if letter == 'D' {
		n.A = day
	} else {
		n.B = day
	}
	return dayText(day)
}

// draw is a term of a letter, with at most so many nodes above one another, and its text.
func draw(r *rand.Rand, letter string, depth int) ([]api.Node, string) {
	var fit []int
	for op := api.Number; op < api.Ops; op++ {
		if sortOf(op) == letter && (depth > 1 || !strings.Contains(shapes[op], "(")) {
			fit = append(fit, op)
		}
	}
	op := one(r, fit...)
	if r.Intn(4) == 0 {
		// An op with nothing below it, so that terms do not grow too great.
		op = map[string]int{"X": api.Number, "C": api.One}[letter]
	}
	l, s := []api.Node{{Op: op}}, ""
	for _, c := range []byte(shapes[op]) {
		switch {
		case c == 'X' || c == 'C':
			below, told := draw(r, string(c), depth-1)
			l, s = append(l, below...), s+told
		case c >= 'A' && c <= 'Z':
			s += fill(r, &l[0], c)
		default:
			s += string(c)
		}
	}
	return l, s
}

// contract is one that may be, and its text.
func contract(r *rand.Rand) ([]api.Node, string) {
	for {
		if l, s := draw(r, "C", 1+r.Intn(12)); len(l) <= 64 {
			return l, s
		}
	}
}

// loose sets blanks and line feeds between tokens, and leaves out those that need not be.
func loose(r *rand.Rand, s string) string {
	gap := func() string {
		return one(r, "", "", " ", "\n", "  ", " \n ", "\n\n", strings.Repeat(" ", r.Intn(9)))
	}
	out, wordy := gap(), false
	for _, token := range tokens(s) {
		mark := strings.Contains("(),", token)
		if wordy && !mark {
			out += one(r, " ", "\n", "\n \n")
		}
		out += token + gap()
		wordy = !mark && !strings.ContainsAny(out[len(out)-1:], " \n")
	}
	return out
}

// gives is so many give, with a text below them.
func gives(n int, s string) string {
	return strings.Repeat("give(", n) + s + strings.Repeat(")", n)
}

// wide is a contract's text of so many nodes, an odd number, that is as flat as may be.
func wide(nodes int) string {
	if nodes == 1 {
		return "zero"
	}
	left := nodes / 2
	if left%2 == 0 {
		left--
	}
	return "and(" + wide(left) + ", " + wide(nodes-1-left) + ")"
}
