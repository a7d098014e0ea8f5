package term_test

import (
	"math/rand"
	"slices"
	"testing"

	"chattel/api"
	"chattel/term"
)

const (
	most  = 1<<63 - 1
	least = -1 << 63
)

// forms are what ops make, and what stands below them: o is Observed, c is Contract.
var forms = map[int]string{
	api.Number: "o",
	api.Fixing: "o",
	api.Neg:    "o o",
	api.Plus:   "o oo",
	api.Minus:  "o oo",
	api.Times:  "o oo",
	api.Least:  "o oo",
	api.Most:   "o oo",
	api.Zero:   "c",
	api.One:    "c",
	api.Give:   "c c",
	api.And:    "c cc",
	api.Scale:  "c oc",
	api.When:   "c c",
	api.Cond:   "c oocc",
	api.Or:     "c cc",
	api.Any:    "c c",
}

// noOps are numbers of no op.
func noOps() []int {
	return []int{0, -1, -2, -17, api.Ops, api.Ops + 1, 99, 255, 256, 257, 1 << 32, 1<<32 + 1, -1<<32 + 1, 1 << 62, most, least, least + 1}
}

func sortOf(letter byte) int {
	if letter == 'o' {
		return term.Observed
	}
	return term.Contract
}

// kids are the sorts of what stands below an op, by forms.
func kids(op int) []int {
	var l []int
	if form := forms[op]; len(form) > 1 {
		for i := range form[2:] {
			l = append(l, sortOf(form[2+i]))
		}
	}
	return l
}

// tree is a term, taken apart.
type tree struct {
	node  api.Node
	at    int
	size  int
	under []*tree
}

// parse is the term that begins at a place; nil, if none does.
func parse(t []api.Node, at int) *tree {
	if at >= len(t) || forms[t[at].Op] == "" {
		return nil
	}
	x := &tree{node: t[at], at: at, size: 1}
	for range kids(t[at].Op) {
		y := parse(t, at+x.size)
		if y == nil {
			return nil
		}
		x.under = append(x.under, y)
		x.size += y.size
	}
	return x
}

func (x *tree) sort() int { return sortOf(forms[x.node.Op][0]) }

func (x *tree) sorted() bool {
	for i, y := range x.under {
		if y.sort() != kids(x.node.Op)[i] || !y.sorted() {
			return false
		}
	}
	return true
}

func (x *tree) depth() int {
	n := 1
	for _, y := range x.under {
		n = max(n, 1+y.depth())
	}
	return n
}

func (x *tree) all(tell func(api.Node)) {
	tell(x.node)
	for _, y := range x.under {
		y.all(tell)
	}
}

// ratios are those that may be a Value, and others that may not be.
func ratios() (may, not []api.Ratio) {
	of := func(l ...[2]int) (out []api.Ratio) {
		for _, r := range l {
			out = append(out, api.Ratio{Num: r[0], Den: r[1]})
		}
		return out
	}
	may = of([2]int{0, 1}, [2]int{1, 1}, [2]int{-1, 1}, [2]int{1, 2}, [2]int{-7, 3}, [2]int{most, 1}, [2]int{1, most}, [2]int{-most, most - 1})
	not = of([2]int{0, 0}, [2]int{1, 0}, [2]int{-1, 0}, [2]int{0, 2}, [2]int{0, -1}, [2]int{2, 2}, [2]int{6, 4}, [2]int{1, -2},
		[2]int{-1, -2}, [2]int{least, 1}, [2]int{least, 3}, [2]int{1, least}, [2]int{most, most})
	return may, not
}

// fits tells whether a node's fields may be.
func fits(n api.Node) bool {
	may, _ := ratios()
	ratio, a, b := false, 0, 0
	switch n.Op {
	case api.Number:
		ratio = true
	case api.Fixing, api.Or:
		a = 63
	case api.One:
		a = 7
	case api.When:
		a = 73048
	case api.Any:
		a, b = 63, 73048
	}
	if ratio != slices.Contains(may, n.Value) || !ratio && n.Value != (api.Ratio{}) {
		return false
	}
	return 0 <= n.A && n.A <= a && 0 <= n.B && n.B <= b
}

// of is what Of has to answer.
func of(t []api.Node) (int, api.Errno) {
	if len(t) > 64 {
		return term.None, api.ErrDeep
	}
	x := parse(t, 0)
	if x == nil || x.size != len(t) {
		return term.None, api.ErrForm
	}
	for _, n := range t {
		if !fits(n) {
			return term.None, api.ErrRange
		}
	}
	if !x.sorted() {
		return term.None, api.ErrSort
	}
	if x.depth() > 12 {
		return term.None, api.ErrDeep
	}
	return x.sort(), api.OK
}

// ops are nodes of ops alone, with the ratio 1 where one has to be.
func ops(l ...int) []api.Node {
	var t []api.Node
	for _, op := range l {
		n := api.Node{Op: op}
		if op == api.Number {
			n.Value = api.Ratio{Num: 1, Den: 1}
		}
		t = append(t, n)
	}
	return t
}

func join(l ...[]api.Node) []api.Node { return slices.Concat(l...) }

// tower is so many Give, and Zero below them.
func tower(n int) []api.Node {
	return join(slices.Repeat(ops(api.Give), n), ops(api.Zero))
}

// wide is a contract of so many nodes, an odd number, that is as flat as may be.
func wide(nodes int) []api.Node {
	if nodes == 1 {
		return ops(api.Zero)
	}
	left := nodes / 2
	if left%2 == 0 {
		left--
	}
	return join(ops(api.And), wide(left), wide(nodes-1-left))
}

// smallest is a term of an op, with as few nodes below it as may be.
func smallest(op int) []api.Node {
	t := ops(op)
	for _, sort := range kids(op) {
		if sort == term.Observed {
			t = append(t, ops(api.Number)...)
		} else {
			t = append(t, ops(api.Zero)...)
		}
	}
	return t
}

// drawNode is a node of an op with fields that may be.
func drawNode(r *rand.Rand, op int) api.Node {
	n := api.Node{Op: op}
	may, _ := ratios()
	pick := func(l ...int) int { return l[r.Intn(len(l))] }
	switch op {
	case api.Number:
		n.Value = may[r.Intn(len(may))]
	case api.Fixing, api.Or, api.Any:
		n.A = pick(0, 1, 2, 3, 30, 62, 63, r.Intn(64))
	case api.One:
		n.A = r.Intn(8)
	case api.When:
		n.A = pick(0, 1, 365, 73047, 73048, r.Intn(73049))
	}
	if op == api.Any {
		n.B = pick(0, 1, 365, 73047, 73048, r.Intn(73049))
	}
	return n
}

// draw is a term of a sort, with at most so many nodes above one another; wrong is how many of a thousand are of the other one.
func draw(r *rand.Rand, sort, depth, wrong int) []api.Node {
	if r.Intn(1000) < wrong {
		sort = term.Observed + term.Contract - sort
	}
	var fit []int
	for op := api.Number; op < api.Ops; op++ {
		if sortOf(forms[op][0]) == sort && (depth > 1 || len(kids(op)) == 0) {
			fit = append(fit, op)
		}
	}
	op := fit[r.Intn(len(fit))]
	if r.Intn(4) == 0 {
		// An op with nothing below it, so that terms do not grow too great.
		op = fit[r.Intn(2)]
	}
	t := []api.Node{drawNode(r, op)}
	for _, under := range kids(op) {
		t = append(t, draw(r, under, depth-1, wrong)...)
	}
	return t
}

// contract is one that may be.
func contract(r *rand.Rand) []api.Node {
	for {
		if t := draw(r, term.Contract, 1+r.Intn(12), 0); len(t) <= 64 {
			return t
		}
	}
}

// spoil changes, leaves out, doubles or puts in nodes.
func spoil(r *rand.Rand, t []api.Node) []api.Node {
	t = slices.Clone(t)
	_, not := ratios()
	for range 1 + r.Intn(2) {
		if len(t) == 0 {
			return t
		}
		i, j := r.Intn(len(t)), r.Intn(len(t))
		switch r.Intn(8) {
		case 0:
			t = append(t[:i], t[i+1:]...)
		case 1:
			t = slices.Insert(t, i, t[j])
		case 2:
			t[i], t[j] = t[j], t[i]
		case 3:
			t[i] = drawNode(r, 1+r.Intn(17))
		case 4:
			t[i].Op = []int{0, -1, api.Ops, 99, 1 + r.Intn(17)}[r.Intn(5)]
		case 5:
			t[i].A = []int{-1, 0, 1, 7, 8, 63, 64, 73048, 73049, most, least}[r.Intn(11)]
		case 6:
			t[i].B = []int{-1, 0, 1, 73048, 73049, most, least}[r.Intn(7)]
		case 7:
			t[i].Value = not[r.Intn(len(not))]
		}
	}
	return t
}

// P5.1

func TestSortAndKids(t *testing.T) {
	if term.None != 0 || term.Observed != 1 || term.Contract != 2 || len(forms) != api.Ops-1 {
		t.Fatal(term.None, term.Observed, term.Contract, len(forms))
	}
	for op, form := range forms {
		if sort := term.Sort(op); sort != sortOf(form[0]) {
			t.Errorf("Sort(%d): %d", op, sort)
		}
		if l := term.Kids(op); !slices.Equal(l, kids(op)) {
			t.Errorf("Kids(%d): %v, want %v", op, l, kids(op))
		}
	}
	for _, op := range noOps() {
		if sort, l := term.Sort(op), term.Kids(op); sort != term.None || len(l) != 0 {
			t.Errorf("Sort(%d), Kids(%d): %d, %v", op, op, sort, l)
		}
	}
}

func TestKidsAreTheCallers(t *testing.T) {
	for op := range forms {
		l := term.Kids(op)
		other := term.Kids(op)
		for i := range l[:cap(l)] {
			l[:cap(l)][i] = 77
		}
		if !slices.Equal(other, kids(op)) || !slices.Equal(term.Kids(op), kids(op)) || term.Sort(op) == term.None {
			t.Errorf("Kids(%d): %v, %v", op, other, term.Kids(op))
		}
		// What stands behind an op's kids may not come into another's.
		if size, e := term.Size(smallest(op), 0); size != 1+len(kids(op)) || e != api.OK {
			t.Errorf("Size of op %d: %d, %v", op, size, e)
		}
	}
}

func TestSizeAndBelowOfTheExample(t *testing.T) {
	c := []api.Node{{Op: api.Scale}, {Op: api.Number, Value: api.Ratio{Num: 2, Den: 1}}, {Op: api.One}}
	size, e := term.Size(c, 0)
	places, f := term.Below(c, 0)
	if size != 3 || e != api.OK || !slices.Equal(places, []int{1, 2}) || f != api.OK {
		t.Error(size, e, places, f)
	}
	for at := 1; at < 3; at++ {
		size, e := term.Size(c, at)
		places, f := term.Below(c, at)
		if size != 1 || e != api.OK || len(places) != 0 || f != api.OK {
			t.Error(at, size, e, places, f)
		}
	}
	alone := ops(api.And)
	size, e = term.Size(alone, 0)
	places, f = term.Below(alone, 0)
	if size != 0 || e != api.ErrForm || len(places) != 0 || f != api.ErrForm {
		t.Error(size, e, places, f)
	}
}

// checkPlace holds Size and Below of a place against the tree there.
func checkPlace(t *testing.T, l []api.Node, at int) {
	t.Helper()
	size, wantE, x := 0, api.ErrRange, (*tree)(nil)
	if at >= 0 && at < len(l) {
		wantE, x = api.ErrForm, parse(l, at)
	}
	var places []int
	if x != nil {
		size, wantE = x.size, api.OK
		for _, y := range x.under {
			places = append(places, y.at)
		}
	}
	if n, e := term.Size(l, at); n != size || e != wantE {
		t.Errorf("Size(%v, %d): %d, %v; want %d, %v", l, at, n, e, size, wantE)
	}
	if got, e := term.Below(l, at); !slices.Equal(got, places) || e != wantE {
		t.Errorf("Below(%v, %d): %v, %v; want %v, %v", l, at, got, e, places, wantE)
	}
}

func TestSizeAndBelowOfAllShortRows(t *testing.T) {
	all := []int{0, -1, api.Ops}
	for op := range forms {
		all = append(all, op)
	}
	var rows func(l []api.Node, more int)
	rows = func(l []api.Node, more int) {
		for at := -1; at <= len(l); at++ {
			checkPlace(t, l, at)
		}
		if more > 0 {
			for _, op := range all {
				rows(append(slices.Clone(l), api.Node{Op: op}), more-1)
			}
		}
	}
	rows(nil, 3)
}

func TestSizeAndBelowOfManyRows(t *testing.T) {
	r := rand.New(rand.NewSource(1))
	for range 4000 {
		l := draw(r, term.Contract, 1+r.Intn(6), 200)
		if r.Intn(2) == 0 {
			l = spoil(r, l)
		}
		// Terms one behind the other, and nodes that none begins at.
		l = join(l, draw(r, term.Observed, 3, 0), ops(r.Intn(20)-1))
		for at := range l {
			checkPlace(t, l, at)
		}
		for _, at := range []int{-1, len(l), len(l) + 1, -len(l), most, least, 1 << 32, -1 << 32} {
			checkPlace(t, l, at)
		}
	}
	for _, at := range []int{-1, 0, 1, most, least} {
		checkPlace(t, nil, at)
	}
}

// TestSizeByOpsAlone: fields, sorts, depth and how many nodes there are do not count.
func TestSizeByOpsAlone(t *testing.T) {
	for _, n := range []int{12, 13, 64, 65, 1000, 1 << 20} {
		l := tower(n)
		if size, e := term.Size(l, 0); size != n+1 || e != api.OK {
			t.Errorf("Size of %d nodes: %d, %v", n+1, size, e)
		}
		if places, e := term.Below(l, n-1); !slices.Equal(places, []int{n}) || e != api.OK {
			t.Errorf("Below of %d nodes: %v, %v", n+1, places, e)
		}
		if size, e := term.Size(l[:n], 0); size != 0 || e != api.ErrForm {
			t.Errorf("Size of %d nodes without an end: %d, %v", n, size, e)
		}
		// Each to the left of the one above it.
		left := join(slices.Repeat(ops(api.Plus), n), slices.Repeat(ops(api.Number), n+1))
		if places, e := term.Below(left, 0); !slices.Equal(places, []int{1, 2 * n}) || e != api.OK {
			t.Errorf("Below of Plus in %d: %v, %v", n, places, e)
		}
	}
	odd := []api.Node{{Op: api.And, A: -1, B: most, Value: api.Ratio{Num: least}}, {Op: api.Number}, {Op: api.One, A: 99}}
	if places, e := term.Below(odd, 0); !slices.Equal(places, []int{1, 2}) || e != api.OK {
		t.Errorf("Below of odd fields: %v, %v", places, e)
	}
	for _, op := range noOps() {
		behind := join(ops(api.Give, api.Zero), ops(op))
		if size, e := term.Size(behind, 0); size != 2 || e != api.OK {
			t.Errorf("Size with op %d behind: %d, %v", op, size, e)
		}
		for _, l := range [][]api.Node{ops(op), ops(op, api.Zero), ops(api.Give, op), ops(api.And, op, api.Zero), ops(api.And, api.Zero, op)} {
			if size, e := term.Size(l, 0); size != 0 || e != api.ErrForm {
				t.Errorf("Size with op %d: %d, %v", op, size, e)
			}
			if places, e := term.Below(l, 0); len(places) != 0 || e != api.ErrForm {
				t.Errorf("Below with op %d: %v, %v", op, places, e)
			}
		}
	}
}

// P5.2

// checkOf holds Of and Check against what they have to answer.
func checkOf(t *testing.T, l []api.Node) {
	t.Helper()
	want, wantE := of(l)
	if sort, e := term.Of(l); sort != want || e != wantE {
		t.Errorf("Of(%v): %d, %v; want %d, %v", l, sort, e, want, wantE)
	}
	if wantE == api.OK && want != term.Contract {
		wantE = api.ErrSort
	}
	if e := term.Check(l); e != wantE {
		t.Errorf("Check(%v): %v; want %v", l, e, wantE)
	}
}

func TestOf(t *testing.T) {
	one := ops(api.One)
	for i, c := range []struct {
		l     []api.Node
		sort  int
		of    api.Errno
		check api.Errno
	}{
		{ops(api.Zero), term.Contract, api.OK, api.OK},
		{ops(api.Number), term.Observed, api.OK, api.ErrSort},
		{ops(api.Fixing), term.Observed, api.OK, api.ErrSort},
		{ops(api.Scale, api.Number, api.One), term.Contract, api.OK, api.OK},
		{nil, term.None, api.ErrForm, api.ErrForm},
		{[]api.Node{}, term.None, api.ErrForm, api.ErrForm},
		{ops(api.And), term.None, api.ErrForm, api.ErrForm},
		{ops(api.And, api.Zero), term.None, api.ErrForm, api.ErrForm},
		{ops(api.Zero, api.Zero), term.None, api.ErrForm, api.ErrForm},
		{ops(api.And, api.Zero, api.Zero, api.Zero), term.None, api.ErrForm, api.ErrForm},
		{ops(0), term.None, api.ErrForm, api.ErrForm},
		{ops(api.Give, api.Ops), term.None, api.ErrForm, api.ErrForm},
		{[]api.Node{{Op: api.Number}}, term.None, api.ErrRange, api.ErrRange},
		{ops(api.Scale, api.One, api.Number), term.None, api.ErrSort, api.ErrSort},
		{ops(api.Give, api.Number), term.None, api.ErrSort, api.ErrSort},
		{ops(api.Neg, api.Zero), term.None, api.ErrSort, api.ErrSort},
		{ops(api.Cond, api.Number, api.Number, api.Zero, api.Number), term.None, api.ErrSort, api.ErrSort},
		{tower(11), term.Contract, api.OK, api.OK},
		{tower(12), term.None, api.ErrDeep, api.ErrDeep},
		{join(slices.Repeat(ops(api.Neg), 11), ops(api.Number)), term.Observed, api.OK, api.ErrSort},
		{join(slices.Repeat(ops(api.Neg), 12), ops(api.Number)), term.None, api.ErrDeep, api.ErrDeep},
		{tower(63), term.None, api.ErrDeep, api.ErrDeep},
		{wide(63), term.Contract, api.OK, api.OK},
		{join(ops(api.Give), wide(63)), term.Contract, api.OK, api.OK},
		{wide(65), term.None, api.ErrDeep, api.ErrDeep},
		{slices.Repeat(one, 64), term.None, api.ErrForm, api.ErrForm},
		{slices.Repeat(one, 65), term.None, api.ErrDeep, api.ErrDeep},
		{slices.Repeat(one, 1<<20), term.None, api.ErrDeep, api.ErrDeep},
	} {
		sort, e := term.Of(c.l)
		if sort != c.sort || e != c.of {
			t.Errorf("%d: Of: %d, %v; want %d, %v", i, sort, e, c.sort, c.of)
		}
		if e := term.Check(c.l); e != c.check {
			t.Errorf("%d: Check: %v; want %v", i, e, c.check)
		}
		checkOf(t, c.l)
	}
}

// TestOfOrderOfErrors: the error that is named first is answered.
func TestOfOrderOfErrors(t *testing.T) {
	bad := api.Node{Op: api.One, A: 8}
	gives := slices.Repeat(ops(api.Give), 12)
	for i, c := range []struct {
		l []api.Node
		e api.Errno
	}{
		{make([]api.Node, 65), api.ErrDeep},                        // and ErrForm
		{slices.Repeat([]api.Node{bad}, 65), api.ErrDeep},          // and ErrForm, ErrRange
		{make([]api.Node, 64), api.ErrForm},                        // and ErrRange
		{join([]api.Node{bad}, ops(api.Zero)), api.ErrForm},        // and ErrRange
		{append(ops(api.Neg, api.One), bad), api.ErrForm},          // and ErrRange, ErrSort
		{join(gives, ops(api.Zero, api.Zero)), api.ErrForm},        // and ErrDeep
		{gives, api.ErrForm},                                       // and ErrDeep
		{[]api.Node{{Op: api.Neg}, bad}, api.ErrRange},             // and ErrSort
		{[]api.Node{{Op: api.Neg, B: 1}, {Op: 9}}, api.ErrRange},   // and ErrSort
		{join(gives, []api.Node{bad}), api.ErrRange},               // and ErrDeep
		{join(ops(api.Neg), gives, []api.Node{bad}), api.ErrRange}, // and ErrSort, ErrDeep
		{join(gives, ops(api.Number)), api.ErrSort},                // and ErrDeep
		{join(ops(api.Neg), gives, ops(api.Zero)), api.ErrSort},    // and ErrDeep
		{join(ops(api.And, api.Number), tower(12)), api.ErrSort},   // and ErrDeep
		{join(ops(api.And), tower(12), ops(api.Number)), api.ErrSort},
	} {
		if sort, e := term.Of(c.l); sort != term.None || e != c.e {
			t.Errorf("%d: Of: %d, %v; want %v", i, sort, e, c.e)
		}
		if e := term.Check(c.l); e != c.e {
			t.Errorf("%d: Check: %v; want %v", i, e, c.e)
		}
	}
}

// TestOfFields tries each field of each op about its bounds, alone and below others.
func TestOfFields(t *testing.T) {
	numbers := []int{least, -1 << 32, -1, 0, 1, 6, 7, 8, 9, 62, 63, 64, 65, 73047, 73048, 73049, 1 << 32, 1<<32 + 1, most}
	may, not := ratios()
	for op := range forms {
		l := smallest(op)
		above := ops(api.Give)
		if sortOf(forms[op][0]) == term.Observed {
			above = ops(api.Neg)
		}
		try := func(n api.Node) {
			l[0] = n
			checkOf(t, l)
			checkOf(t, join(above, l))
		}
		n := l[0]
		for _, a := range numbers {
			for _, b := range numbers {
				try(api.Node{Op: op, A: a, B: b, Value: n.Value})
			}
		}
		for _, value := range append(may, not...) {
			try(api.Node{Op: op, Value: value})
			try(api.Node{Op: op, A: 1, Value: value})
		}
	}
}

// TestOfFieldsOfEachNode: a wrong one counts wherever it stands.
func TestOfFieldsOfEachNode(t *testing.T) {
	r := rand.New(rand.NewSource(2))
	for range 200 {
		l := contract(r)
		for i := range l {
			for _, n := range []api.Node{{Op: l[i].Op, A: -1}, {Op: l[i].Op, B: 73049}, {Op: l[i].Op, Value: api.Ratio{Num: 2, Den: 4}}} {
				wrong := slices.Clone(l)
				wrong[i] = n
				if sort, e := term.Of(wrong); sort != term.None || e != api.ErrRange {
					t.Errorf("Of(%v): %d, %v", wrong, sort, e)
				}
			}
		}
	}
}

// TestOfSorts tries all ops below all ops.
func TestOfSorts(t *testing.T) {
	for op := range forms {
		for i := range kids(op) {
			for other := range forms {
				l := ops(op)
				for j, sort := range kids(op) {
					switch {
					case j == i:
						l = append(l, smallest(other)...)
					case sort == term.Observed:
						l = append(l, ops(api.Fixing)...)
					default:
						l = append(l, ops(api.One)...)
					}
				}
				checkOf(t, l)
			}
		}
	}
}

func TestOfManyRows(t *testing.T) {
	r := rand.New(rand.NewSource(3))
	for range 20000 {
		l := draw(r, 1+r.Intn(2), 1+r.Intn(16), r.Intn(2)*r.Intn(100))
		checkOf(t, l)
		checkOf(t, spoil(r, l))
	}
}

// TestOfDepths sets towers beside one another: the deepest one counts.
func TestOfDepths(t *testing.T) {
	for a := range 14 {
		for b := range 14 {
			checkOf(t, join(ops(api.And), tower(a), tower(b)))
			checkOf(t, join(ops(api.Scale), slices.Repeat(ops(api.Neg), a), ops(api.Number), tower(b)))
			checkOf(t, join(ops(api.Cond, api.Number), slices.Repeat(ops(api.Neg), a), ops(api.Fixing), tower(b), ops(api.Zero)))
		}
	}
}

// P5.3

// checkContract holds what is told of a contract against what its tree tells.
func checkContract(t *testing.T, l []api.Node) {
	t.Helper()
	wantE := term.Check(l)
	depth, horizon := 0, 0
	var keys, choices []int
	if wantE == api.OK {
		x := parse(l, 0)
		depth, horizon = x.depth(), -1
		var fixed, chosen [64]bool
		x.all(func(n api.Node) {
			switch n.Op {
			case api.When:
				horizon = max(horizon, n.A)
			case api.Any:
				horizon = max(horizon, n.B)
				chosen[n.A] = true
			case api.Or:
				chosen[n.A] = true
			case api.Fixing:
				fixed[n.A] = true
			}
		})
		for key := range 64 {
			if fixed[key] {
				keys = append(keys, key)
			}
			if chosen[key] {
				choices = append(choices, key)
			}
		}
	}
	if n, e := term.Depth(l); n != depth || e != wantE {
		t.Errorf("Depth(%v): %d, %v; want %d, %v", l, n, e, depth, wantE)
	}
	if n, e := term.Horizon(l); n != horizon || e != wantE {
		t.Errorf("Horizon(%v): %d, %v; want %d, %v", l, n, e, horizon, wantE)
	}
	if got, e := term.Keys(l); !slices.Equal(got, keys) || e != wantE {
		t.Errorf("Keys(%v): %v, %v; want %v, %v", l, got, e, keys, wantE)
	}
	if got, e := term.Choices(l); !slices.Equal(got, choices) || e != wantE {
		t.Errorf("Choices(%v): %v, %v; want %v, %v", l, got, e, choices, wantE)
	}
}

func TestWhatAContractTells(t *testing.T) {
	a := func(op, a, b int) []api.Node { return []api.Node{{Op: op, A: a, B: b}} }
	one, number := ops(api.One), ops(api.Number)
	for i, c := range []struct {
		l       []api.Node
		depth   int
		horizon int
		keys    []int
		choices []int
	}{
		{ops(api.Zero), 1, -1, nil, nil},
		{a(api.One, 7, 0), 1, -1, nil, nil},
		{join(a(api.When, 0, 0), one), 2, 0, nil, nil},
		{join(a(api.When, 73048, 0), one), 2, 73048, nil, nil},
		{join(a(api.Any, 0, 0), one), 2, 0, nil, []int{0}},
		{join(a(api.Any, 63, 9), one), 2, 9, nil, []int{63}},
		{join(a(api.Any, 63, 9), a(api.When, 8, 0), one), 3, 9, nil, []int{63}},
		{join(a(api.When, 3, 0), a(api.When, 5, 0), a(api.When, 4, 0), one), 4, 5, nil, nil},
		{join(a(api.Or, 63, 0), one, one), 2, -1, nil, []int{63}},
		{join(a(api.Or, 5, 0), a(api.Any, 5, 7), one, a(api.Or, 4, 0), one, one), 3, 7, nil, []int{4, 5}},
		{join(ops(api.Scale), a(api.Fixing, 63, 0), one), 2, -1, []int{63}, nil},
		{join(ops(api.Scale, api.Plus), a(api.Fixing, 9, 0), a(api.Fixing, 9, 0), one), 3, -1, []int{9}, nil},
		{join(ops(api.Cond), a(api.Fixing, 9, 0), a(api.Fixing, 0, 0), a(api.Or, 8, 0), one, one, ops(api.Zero)), 3, -1, []int{0, 9}, []int{8}},
		{join(ops(api.And, api.Scale), number, one, one), 3, -1, nil, nil},
		{tower(11), 12, -1, nil, nil},
		{wide(63), 6, -1, nil, nil},
	} {
		depth, e := term.Depth(c.l)
		horizon, f := term.Horizon(c.l)
		keys, g := term.Keys(c.l)
		choices, h := term.Choices(c.l)
		if depth != c.depth || horizon != c.horizon || !slices.Equal(keys, c.keys) || !slices.Equal(choices, c.choices) {
			t.Errorf("%d: %d, %d, %v, %v; want %v", i, depth, horizon, keys, choices, c)
		}
		if e != api.OK || f != api.OK || g != api.OK || h != api.OK {
			t.Errorf("%d: %v, %v, %v, %v", i, e, f, g, h)
		}
		checkContract(t, c.l)
	}
}

func TestWhatNoContractTells(t *testing.T) {
	for _, c := range []struct {
		l []api.Node
		e api.Errno
	}{
		{nil, api.ErrForm},
		{ops(api.And, api.Zero), api.ErrForm},
		{ops(api.Fixing), api.ErrSort},
		{ops(api.Number), api.ErrSort},
		{ops(api.When, api.Fixing), api.ErrSort},
		{[]api.Node{{Op: api.Fixing, A: 64}}, api.ErrRange},
		{[]api.Node{{Op: api.Any, A: 1, B: 73049}, {Op: api.Zero}}, api.ErrRange},
		{tower(12), api.ErrDeep},
		{wide(65), api.ErrDeep},
	} {
		depth, e := term.Depth(c.l)
		horizon, f := term.Horizon(c.l)
		keys, g := term.Keys(c.l)
		choices, h := term.Choices(c.l)
		if depth != 0 || horizon != 0 || len(keys) != 0 || len(choices) != 0 {
			t.Errorf("%v: %d, %d, %v, %v", c.l, depth, horizon, keys, choices)
		}
		if e != c.e || f != c.e || g != c.e || h != c.e {
			t.Errorf("%v: %v, %v, %v, %v; want %v", c.l, e, f, g, h, c.e)
		}
	}
}

func TestWhatManyContractsTell(t *testing.T) {
	r := rand.New(rand.NewSource(4))
	for range 10000 {
		l := contract(r)
		checkContract(t, l)
		checkContract(t, spoil(r, l))
	}
}

// P5.4

func TestJoin(t *testing.T) {
	number, one, zero := ops(api.Number), ops(api.One), ops(api.Zero)
	scale, and, cond := api.Node{Op: api.Scale}, api.Node{Op: api.And}, api.Node{Op: api.Cond}
	full := wide(63)
	for i, c := range []struct {
		n api.Node
		l [][]api.Node
		e api.Errno
	}{
		{api.Node{Op: api.Zero}, nil, api.OK},
		{api.Node{Op: api.Fixing, A: 63}, [][]api.Node{}, api.OK},
		{scale, [][]api.Node{number, one}, api.OK},
		{and, [][]api.Node{one, join(ops(api.And), one, zero)}, api.OK},
		{cond, [][]api.Node{number, join(ops(api.Neg), number), one, zero}, api.OK},
		{api.Node{Op: api.Neg}, [][]api.Node{number}, api.OK},
		{api.Node{Op: api.Give}, [][]api.Node{full}, api.OK},
		{api.Node{Op: api.Give}, [][]api.Node{tower(10)}, api.OK},

		{scale, nil, api.ErrForm},
		{scale, [][]api.Node{number}, api.ErrForm},
		{scale, [][]api.Node{number, nil}, api.ErrForm},
		{scale, [][]api.Node{number, one, zero}, api.ErrForm},
		{and, [][]api.Node{ops(api.And, api.Zero), zero}, api.ErrForm},
		{api.Node{}, nil, api.ErrForm},
		{api.Node{Op: api.Ops}, [][]api.Node{zero}, api.ErrForm},
		{api.Node{Op: api.Zero}, [][]api.Node{zero}, api.ErrForm},
		{api.Node{Op: api.Number}, nil, api.ErrRange},
		{api.Node{Op: api.Give, A: 1}, [][]api.Node{zero}, api.ErrRange},
		{api.Node{Op: api.Give}, [][]api.Node{{{Op: api.One, A: 8}}}, api.ErrRange},
		{scale, [][]api.Node{one, number}, api.ErrSort},
		{api.Node{Op: api.Give}, [][]api.Node{number}, api.ErrSort},
		{api.Node{Op: api.Give}, [][]api.Node{tower(11)}, api.ErrDeep},
		{and, [][]api.Node{zero, full}, api.ErrDeep},
		{and, [][]api.Node{full, zero}, api.ErrDeep},

		// All of it is a term, but not one of those terms.
		{api.Node{Op: api.Zero}, [][]api.Node{nil}, api.ErrSort},
		{api.Node{Op: api.Zero}, [][]api.Node{{}, nil}, api.ErrSort},
		{scale, [][]api.Node{join(number, one)}, api.ErrSort},
		{scale, [][]api.Node{number, one, nil}, api.ErrSort},
		{scale, [][]api.Node{nil, number, one}, api.ErrSort},
		{scale, [][]api.Node{number, nil, one}, api.ErrSort},
		{scale, [][]api.Node{join(number, one), nil}, api.ErrSort},
		{scale, [][]api.Node{nil, join(number, one)}, api.ErrSort},
		{cond, [][]api.Node{number, number, join(one, zero)}, api.ErrSort},
		{cond, [][]api.Node{number, join(number, one), zero, nil}, api.ErrSort},
		{and, [][]api.Node{ops(api.Give), join(zero, one)}, api.ErrSort},
		{and, [][]api.Node{ops(api.Give, api.Zero, api.Give), one}, api.ErrSort},
		{api.Node{Op: api.Give}, [][]api.Node{ops(api.Give), zero}, api.ErrSort},
	} {
		got, e := term.Join(c.n, c.l...)
		if e != c.e || e != api.OK && len(got) != 0 {
			t.Errorf("%d: Join(%v, %v): %v, %v; want %v", i, c.n, c.l, got, e, c.e)
		}
		if want := join([]api.Node{c.n}, join(c.l...)); c.e == api.OK && !slices.Equal(got, want) {
			t.Errorf("%d: Join(%v, %v): %v", i, c.n, c.l, got)
		}
	}
}

// TestJoinOfListsThatShare: there is no room for all of it, but it need not be put together.
func TestJoinOfListsThatShare(t *testing.T) {
	long := slices.Repeat(ops(api.Zero), 1<<20)
	for _, l := range [][][]api.Node{
		slices.Repeat([][]api.Node{long}, 1<<16),
		{long[:64]},
		{long[:63], long[:1]},
		slices.Repeat([][]api.Node{long[:1]}, 64),
		{nil, long},
	} {
		if got, e := term.Join(api.Node{Op: api.And}, l...); len(got) != 0 || e != api.ErrDeep {
			t.Errorf("Join of %d lists: %d nodes, %v", len(l), len(got), e)
		}
	}
	if got, e := term.Join(api.Node{Op: api.And}, long[:63]); len(got) != 0 || e != api.ErrForm {
		t.Errorf("Join of 64 nodes: %v, %v", got, e)
	}
	if got, e := term.Join(api.Node{Op: api.Zero}, make([][]api.Node, 1000)...); len(got) != 0 || e != api.ErrSort {
		t.Errorf("Join of lists without nodes: %v, %v", got, e)
	}
}

// parts are the terms below the first node of a term.
func parts(l []api.Node) [][]api.Node {
	var out [][]api.Node
	for _, y := range parse(l, 0).under {
		out = append(out, l[y.at:y.at+y.size])
	}
	return out
}

func TestJoinOfManyParts(t *testing.T) {
	r := rand.New(rand.NewSource(5))
	for range 5000 {
		l := contract(r)
		got, e := term.Join(l[0], parts(l)...)
		if !slices.Equal(got, l) || e != api.OK {
			t.Errorf("Join of the parts of %v: %v, %v", l, got, e)
		}
		// Cut at places that are drawn, it is only right where terms begin.
		var cut [][]api.Node
		for rest := l[1:]; len(rest) > 0; {
			n := 1 + r.Intn(len(rest))
			cut = append(cut, rest[:n])
			rest = rest[n:]
		}
		wantE := api.ErrSort
		if slices.EqualFunc(cut, parts(l), func(a, b []api.Node) bool { return len(a) == len(b) }) {
			wantE = api.OK
		}
		if got, e := term.Join(l[0], cut...); e != wantE || len(got) != 0 && e != api.OK {
			t.Errorf("Join(%v, %v): %v, %v; want %v", l[0], cut, got, e, wantE)
		}
	}
}

func TestJoinOfWrongParts(t *testing.T) {
	r := rand.New(rand.NewSource(6))
	for range 20000 {
		var l [][]api.Node
		for range r.Intn(5) {
			l = append(l, draw(r, 1+r.Intn(2), 1+r.Intn(3), 20))
		}
		n := drawNode(r, 1+r.Intn(17))
		if r.Intn(10) == 0 {
			n = spoil(r, ops(n.Op, n.Op, n.Op))[0]
		}
		want := join([]api.Node{n}, join(l...))
		_, wantE := of(want)
		got, e := term.Join(n, l...)
		if e != wantE || e == api.OK && !slices.Equal(got, want) || e != api.OK && len(got) != 0 {
			t.Errorf("Join(%v, %v): %v, %v; want %v", n, l, got, e, wantE)
		}
	}
}

// P5.5

func TestATermIsItsNodeAndTheTermsBelow(t *testing.T) {
	r := rand.New(rand.NewSource(7))
	for range 3000 {
		l := contract(r)
		for at := range l {
			size, e := term.Size(l, at)
			places, f := term.Below(l, at)
			if e != api.OK || f != api.OK || len(places) != len(term.Kids(l[at].Op)) {
				t.Fatalf("%v at %d: %d, %v, %v, %v", l, at, size, e, places, f)
			}
			whole, deepest := 1, 0
			var under [][]api.Node
			for i, place := range places {
				if place != at+whole {
					t.Errorf("%v at %d: %v", l, at, places)
				}
				n, _ := term.Size(l, place)
				part := l[place : place+n]
				sort, e := term.Of(part)
				if sort != term.Kids(l[at].Op)[i] || e != api.OK {
					t.Errorf("Of(%v): %d, %v", part, sort, e)
				}
				whole += n
				deepest = max(deepest, contractDepth(part))
				under = append(under, part)
			}
			all := l[at : at+size]
			if whole != size || contractDepth(all) != deepest+1 {
				t.Errorf("%v: %d nodes, and %d below; depth %d, and %d", all, size, whole, contractDepth(all), deepest)
			}
			again, e := term.Join(l[at], under...)
			apart, f := term.Below(again, 0)
			for i := range apart {
				apart[i] += at
			}
			if !slices.Equal(again, all) || !slices.Equal(apart, places) || e != api.OK || f != api.OK {
				t.Errorf("%v joined again: %v, %v, %v, %v", all, again, apart, e, f)
			}
		}
	}
}

// contractDepth is a term's Depth; of one that is Observed it is that of its parent, less one.
func contractDepth(l []api.Node) int {
	if sort, _ := term.Of(l); sort == term.Contract {
		n, _ := term.Depth(l)
		return n
	}
	if parse(l, 0).depth() < 12 {
		n, _ := term.Depth(join(ops(api.Scale), l, ops(api.Zero)))
		return n - 1
	}
	return 12
}

// R2

// TestArgumentsAreLeft: nothing is written into what is handed in, nor behind its length.
func TestArgumentsAreLeft(t *testing.T) {
	r := rand.New(rand.NewSource(8))
	for range 500 {
		l := contract(r)
		if r.Intn(2) == 0 {
			l = spoil(r, l)
		}
		// There is room behind each length, and more nodes stand there.
		room := join(l, l)
		l = room[:len(l)]
		before := slices.Clone(room)
		for at := range l {
			term.Size(l, at)
			term.Below(l, at)
		}
		term.Of(l)
		term.Check(l)
		term.Depth(l)
		term.Horizon(l)
		term.Keys(l)
		term.Choices(l)
		term.Join(api.Node{Op: api.Give}, l)
		term.Join(api.Node{Op: api.And}, l, l)
		if !slices.Equal(room, before) {
			t.Fatalf("%v became %v", before, room)
		}
	}
}

// TestAnswersAreTheCallers: what is written into an answer is seen nowhere else.
func TestAnswersAreTheCallers(t *testing.T) {
	r := rand.New(rand.NewSource(9))
	for range 500 {
		l := contract(r)
		before := slices.Clone(l)
		under := parts(l)
		got, _ := term.Join(l[0], under...)
		for i := range got[:cap(got)] {
			got[:cap(got)][i] = api.Node{Op: -1}
		}
		for _, list := range [][]int{first(term.Below(l, 0)), first(term.Keys(l)), first(term.Choices(l))} {
			for i := range list[:cap(list)] {
				list[:cap(list)][i] = -1
			}
		}
		if !slices.Equal(l, before) {
			t.Fatalf("%v became %v", before, l)
		}
		checkContract(t, l)
		checkPlace(t, l, 0)
	}
}

func first(l []int, _ api.Errno) []int { return l }
