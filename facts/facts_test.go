package facts_test

import (
	"math/rand"
	"slices"
	"testing"

	"chattel/api"
	"chattel/facts"
	"chattel/ratio"
)

var (
	half  = api.Ratio{Num: 1, Den: 2}
	seven = api.Ratio{Num: 7, Den: 1}
)

// wrongKeys, wrongDays and wrongPicks may not be; some are right ones when they are cut to fewer bits.
var (
	wrongKeys  = []int{-1, 64, 65, -63, -64, 127, 128, 256, 1 << 32, -1 << 32, most, least}
	wrongDays  = []int{-1, 73049, 73050, -73048, 1 << 17, 1 << 32, -1 << 32, most, least}
	wrongPicks = []int{0, 3, -1, -2, 4, 257, 1<<32 + 1, most, least}
)

// wrongValues are ratios that may not be.
var wrongValues = map[api.Ratio]api.Errno{
	{}:                     api.ErrZero,
	{Num: 1}:               api.ErrZero,
	{Num: least}:           api.ErrZero,
	{Num: 2, Den: 4}:       api.ErrForm,
	{Num: 0, Den: 2}:       api.ErrForm,
	{Num: 1, Den: -2}:      api.ErrForm,
	{Num: 0, Den: -1}:      api.ErrForm,
	{Num: least, Den: 1}:   api.ErrForm,
	{Num: 1, Den: least}:   api.ErrForm,
	{Num: most, Den: most}: api.ErrForm,
}

// some are facts of both kinds, and what they have to be.
func some(t *testing.T) (*facts.Facts, *model) {
	t.Helper()
	f, m := facts.New(), &model{}
	r := rand.New(rand.NewSource(7))
	for range 20 {
		tell(t, r, f, m)
	}
	return f, m
}

// P7.1

func TestNewIsWithoutAny(t *testing.T) {
	f := facts.New()
	if f == nil {
		t.Fatal("nil")
	}
	checkAll(t, f, &model{})
	for _, key := range []int{0, 1, 63} {
		checkPlace(t, f, &model{}, key, 0)
		checkFirst(t, f, &model{}, key, 0, api.MaxDay, 1)
	}
	if e := f.Fix(facts.Fixing{Value: half}); e != api.OK {
		t.Error(e)
	}
	checkAll(t, facts.New(), &model{})
}

func TestFixOfWhatMayBe(t *testing.T) {
	f, m := facts.New(), &model{}
	for _, key := range []int{0, 1, 62, 63} {
		for _, day := range []int{0, 1, 73047, 73048} {
			for _, value := range []api.Ratio{{Num: 0, Den: 1}, {Num: -7, Den: 3}, {Num: most, Den: 1}, {Num: -most, Den: most - 1}, {Num: 1, Den: most}} {
				x := facts.Fixing{Key: key, Day: day, Value: value}
				m.fix(x)
				if e := f.Fix(x); e != api.OK {
					t.Errorf("Fix(%v): %v", x, e)
				}
				checkPlace(t, f, m, key, day)
			}
		}
	}
	checkAll(t, f, m)
}

func TestChooseOfWhatMayBe(t *testing.T) {
	f, m := facts.New(), &model{}
	for _, key := range []int{0, 1, 62, 63} {
		for _, day := range []int{0, 1, 73047, 73048} {
			for _, pick := range []int{1, 2, 2, 1} {
				x := facts.Choice{Key: key, Day: day, Pick: pick}
				m.choose(x)
				if e := f.Choose(x); e != api.OK {
					t.Errorf("Choose(%v): %v", x, e)
				}
				checkPlace(t, f, m, key, day)
			}
		}
	}
	checkAll(t, f, m)
}

func TestAllKeys(t *testing.T) {
	for key := -200; key <= 300; key++ {
		want := api.OK
		if key < 0 || key > 63 {
			want = api.ErrRange
		}
		f := facts.New()
		if e := f.Fix(facts.Fixing{Key: key, Value: half}); e != want {
			t.Errorf("Fix of the key %d: %v", key, e)
		}
		if e := f.Choose(facts.Choice{Key: key, Pick: 1}); e != want {
			t.Errorf("Choose of the key %d: %v", key, e)
		}
	}
}

func TestAllDays(t *testing.T) {
	f := facts.New()
	for day := -10; day <= 73060; day++ {
		want := api.OK
		if day < 0 || day > 73048 {
			want = api.ErrDay
		}
		if e := f.Fix(facts.Fixing{Day: day, Value: half}); e != want {
			t.Errorf("Fix at the day %d: %v", day, e)
		}
		if e := f.Choose(facts.Choice{Day: day, Pick: 2}); e != want {
			t.Errorf("Choose at the day %d: %v", day, e)
		}
	}
	if l := slices.Collect(f.Fixings()); len(l) != 73049 {
		t.Errorf("%d fixings", len(l))
	}
	if day, is := f.First(0, least, most, 2); day != 0 || !is {
		t.Errorf("%d, %v", day, is)
	}
}

// fixErrors tells Fix's error of x, where its key, day or value may not be: that of the first of them.
func fixErrors(x facts.Fixing) api.Errno {
	switch {
	case slices.Contains(wrongKeys, x.Key):
		return api.ErrRange
	case slices.Contains(wrongDays, x.Day):
		return api.ErrDay
	}
	return wrongValues[x.Value]
}

func TestFixOfWhatMayNotBe(t *testing.T) {
	f, m := some(t)
	values := []api.Ratio{half}
	for value := range wrongValues {
		values = append(values, value)
	}
	for _, key := range append([]int{0, 63}, wrongKeys...) {
		for _, day := range append([]int{0, 73048}, wrongDays...) {
			for _, value := range values {
				x := facts.Fixing{Key: key, Day: day, Value: value}
				want := fixErrors(x)
				if want == api.OK {
					continue
				}
				if e := f.Fix(x); e != want {
					t.Errorf("Fix(%v): %v; want %v", x, e, want)
				}
			}
		}
	}
	// With an error nothing is changed.
	checkAll(t, f, m)
}

func TestFixHasTheErrorsOfRatio(t *testing.T) {
	for num := -20; num <= 20; num++ {
		for den := -20; den <= 20; den++ {
			value := api.Ratio{Num: num, Den: den}
			f := facts.New()
			if e := f.Fix(facts.Fixing{Value: value}); e != ratio.Check(value) {
				t.Errorf("Fix of %v: %v; want %v", value, e, ratio.Check(value))
			}
			got, is := f.Fixing(0, 0)
			if is != (ratio.Check(value) == api.OK) || is && got != value {
				t.Errorf("Fixing of %v: %v, %v", value, got, is)
			}
		}
	}
}

// chooseErrors tells Choose's error of x, where its key, pick or day may not be: that of a day last.
func chooseErrors(x facts.Choice) api.Errno {
	switch {
	case slices.Contains(wrongKeys, x.Key), slices.Contains(wrongPicks, x.Pick):
		return api.ErrRange
	case slices.Contains(wrongDays, x.Day):
		return api.ErrDay
	}
	return api.OK
}

func TestChooseOfWhatMayNotBe(t *testing.T) {
	f, m := some(t)
	for _, key := range append([]int{0, 63}, wrongKeys...) {
		for _, day := range append([]int{0, 73048}, wrongDays...) {
			for _, pick := range append([]int{1, 2}, wrongPicks...) {
				x := facts.Choice{Key: key, Day: day, Pick: pick}
				want := chooseErrors(x)
				if want == api.OK {
					continue
				}
				if e := f.Choose(x); e != want {
					t.Errorf("Choose(%v): %v; want %v", x, e, want)
				}
			}
		}
	}
	// With an error nothing is changed.
	checkAll(t, f, m)
}

// TestWrongDoesNotTakeAway: what may not be does not come in place of what is known.
func TestWrongDoesNotTakeAway(t *testing.T) {
	f := facts.New()
	f.Fix(facts.Fixing{Key: 3, Day: 10, Value: seven})
	f.Choose(facts.Choice{Key: 3, Day: 10, Pick: 2})
	if e := f.Fix(facts.Fixing{Key: 3, Day: 10, Value: api.Ratio{Num: 2, Den: 4}}); e != api.ErrForm {
		t.Error(e)
	}
	if e := f.Choose(facts.Choice{Key: 3, Day: 10}); e != api.ErrRange {
		t.Error(e)
	}
	value, known := f.Fixing(3, 10)
	pick, chosen := f.Choice(3, 10)
	if value != seven || !known || pick != 2 || !chosen {
		t.Error(value, known, pick, chosen)
	}
}

// TestKindsApart: a fixing and a choice of one key and day do not touch each other.
func TestKindsApart(t *testing.T) {
	f := facts.New()
	f.Fix(facts.Fixing{Key: 3, Day: 10, Value: half})
	if pick, is := f.Choice(3, 10); pick != 0 || is {
		t.Error(pick, is)
	}
	f.Choose(facts.Choice{Key: 3, Day: 10, Pick: 2})
	f.Choose(facts.Choice{Key: 4, Day: 11, Pick: 1})
	if value, is := f.Fixing(3, 10); value != half || !is {
		t.Error(value, is)
	}
	if value, is := f.Fixing(4, 11); value != (api.Ratio{}) || is {
		t.Error(value, is)
	}
}

func TestNilIsNotTold(t *testing.T) {
	var f *facts.Facts
	for _, x := range []facts.Fixing{{Value: half}, {}, {Key: -1}, {Key: 64, Day: -1}, {Day: 73049, Value: half}, {Value: api.Ratio{Num: 2, Den: 4}}} {
		if e := f.Fix(x); e != api.ErrNil {
			t.Errorf("Fix(%v): %v", x, e)
		}
	}
	for _, x := range []facts.Choice{{Pick: 1}, {}, {Key: -1, Pick: 1}, {Key: 64, Day: -1}, {Day: 73049, Pick: 2}, {Pick: 3}} {
		if e := f.Choose(x); e != api.ErrNil {
			t.Errorf("Choose(%v): %v", x, e)
		}
	}
}

// P7.2

func TestTheExample(t *testing.T) {
	f := facts.New()
	f.Fix(facts.Fixing{Key: 3, Day: 10, Value: api.Ratio{Num: 5, Den: 2}})
	if value, is := f.Fixing(3, 10); value != (api.Ratio{Num: 5, Den: 2}) || !is {
		t.Error(value, is)
	}
	if value, is := f.Fixing(3, 11); value != (api.Ratio{}) || is {
		t.Error(value, is)
	}
}

func TestWhatIsNotKnown(t *testing.T) {
	f, m := facts.New(), &model{}
	for _, key := range []int{0, 3, 63} {
		for _, day := range []int{0, 10, 73048} {
			m.fix(facts.Fixing{Key: key, Day: day, Value: half})
			f.Fix(facts.Fixing{Key: key, Day: day, Value: half})
			m.choose(facts.Choice{Key: key, Day: day, Pick: 1})
			f.Choose(facts.Choice{Key: key, Day: day, Pick: 1})
		}
	}
	for _, key := range append([]int{0, 1, 2, 3, 4, 10, 62, 63}, wrongKeys...) {
		for _, day := range append([]int{0, 1, 3, 9, 10, 11, 63, 73047, 73048}, wrongDays...) {
			checkPlace(t, f, m, key, day)
		}
	}
}

func TestFirst(t *testing.T) {
	f := facts.New()
	for _, x := range []facts.Choice{{Key: 1, Day: 7, Pick: 1}, {Key: 1, Day: 5, Pick: 2}, {Key: 1, Day: 6, Pick: 1}, {Key: 2, Day: 0, Pick: 1}, {Key: 2, Day: 73048, Pick: 2}} {
		f.Choose(x)
	}
	// A fixing is no choice.
	f.Fix(facts.Fixing{Key: 3, Day: 1, Value: api.Ratio{Num: 1, Den: 1}})
	for _, c := range []struct {
		key, from, to, pick int
		day                 int
		is                  bool
	}{
		{1, 0, 100, 1, 6, true},
		{1, 6, 100, 1, 6, true},
		{1, 7, 100, 1, 7, true},
		{1, 7, 7, 1, 7, true},
		{1, 8, 100, 1, 0, false},
		{1, 0, 5, 1, 0, false},
		{1, 0, 6, 1, 6, true},
		{1, 0, 5, 2, 5, true},
		{1, 0, 4, 2, 0, false},
		{1, 6, 100, 2, 0, false},
		{1, 7, 6, 1, 0, false},
		{1, most, least, 1, 0, false},
		{1, least, most, 1, 6, true},
		{1, least, most, 2, 5, true},
		{1, -5, 73049, 1, 6, true},
		{1, 7, most, 1, 7, true},
		{1, least, 6, 1, 6, true},
		{1, most, most, 1, 0, false},
		{1, least, least, 1, 0, false},
		{1, least, -1, 1, 0, false},
		{1, 73049, most, 1, 0, false},
		{2, 0, 0, 1, 0, true},
		{2, 0, 73048, 2, 73048, true},
		{2, 73048, 73048, 2, 73048, true},
		{2, 0, 73047, 2, 0, false},
		{2, 1, 73048, 1, 0, false},
		{3, 0, 73048, 1, 0, false},
		{0, 0, 73048, 1, 0, false},
		{0, 0, 73048, 0, 0, false},
		{1, 0, 73048, 0, 0, false},
		{1, 0, 73048, 3, 0, false},
		{-1, 0, 73048, 1, 0, false},
		{64, 0, 73048, 1, 0, false},
		{least, least, most, most, 0, false},
		{most, least, most, least, 0, false},
	} {
		if day, is := f.First(c.key, c.from, c.to, c.pick); day != c.day || is != c.is {
			t.Errorf("First(%d, %d, %d, %d): %d, %v; want %d, %v", c.key, c.from, c.to, c.pick, day, is, c.day, c.is)
		}
	}
}

// TestFirstOfChoicesAnew: the pick that a choice had before counts no more.
func TestFirstOfChoicesAnew(t *testing.T) {
	f := facts.New()
	f.Choose(facts.Choice{Day: 4, Pick: 1})
	f.Choose(facts.Choice{Day: 9, Pick: 1})
	f.Choose(facts.Choice{Day: 4, Pick: 2})
	if day, is := f.First(0, 0, 20, 1); day != 9 || !is {
		t.Error(day, is)
	}
	if day, is := f.First(0, 0, 20, 2); day != 4 || !is {
		t.Error(day, is)
	}
}

func TestOrder(t *testing.T) {
	f := facts.New()
	for _, at := range [][2]int{{63, 0}, {3, 10}, {3, 2}, {0, 73048}, {3, 100}, {10, 3}, {0, 9}, {63, 73048}, {2, 11}} {
		f.Fix(facts.Fixing{Key: at[0], Day: at[1], Value: half})
		f.Choose(facts.Choice{Key: at[0], Day: at[1], Pick: 2})
	}
	want := [][2]int{{0, 9}, {0, 73048}, {2, 11}, {3, 2}, {3, 10}, {3, 100}, {10, 3}, {63, 0}, {63, 73048}}
	var fixings, choices [][2]int
	for x := range f.Fixings() {
		fixings = append(fixings, [2]int{x.Key, x.Day})
	}
	for x := range f.Choices() {
		choices = append(choices, [2]int{x.Key, x.Day})
	}
	if !slices.Equal(fixings, want) || !slices.Equal(choices, want) {
		t.Error(fixings, choices)
	}
}

// TestAsTheyAreWhenAskedFor: what is told behind the asking does not count for what comes.
func TestAsTheyAreWhenAskedFor(t *testing.T) {
	f, m := some(t)
	fixings, choices := f.Fixings(), f.Choices()
	want := m.sorted()
	check := func() {
		t.Helper()
		if l := slices.Collect(fixings); !slices.Equal(l, want.fixings) {
			t.Errorf("%v; want %v", l, want.fixings)
		}
		if l := slices.Collect(choices); !slices.Equal(l, want.choices) {
			t.Errorf("%v; want %v", l, want.choices)
		}
	}
	check()
	for x := range f.Fixings() {
		anew := facts.Fixing{Key: x.Key, Day: x.Day, Value: seven}
		f.Fix(anew)
		m.fix(anew)
		more := facts.Fixing{Key: 30, Day: x.Day, Value: half}
		f.Fix(more)
		m.fix(more)
	}
	for x := range f.Choices() {
		anew := facts.Choice{Key: x.Key, Day: x.Day, Pick: 3 - x.Pick}
		f.Choose(anew)
		m.choose(anew)
		more := facts.Choice{Key: 30, Day: x.Day, Pick: 1}
		f.Choose(more)
		m.choose(more)
	}
	// As often as they are gone through.
	check()
	check()
	checkAll(t, f, m)
}

// TestGoingThroughEnds: where the loop ends, no more comes.
func TestGoingThroughEnds(t *testing.T) {
	f, m := some(t)
	want := m.sorted()
	for n := 1; n <= len(want.fixings); n++ {
		var l []facts.Fixing
		for x := range f.Fixings() {
			l = append(l, x)
			if len(l) == n {
				break
			}
		}
		if !slices.Equal(l, want.fixings[:n]) {
			t.Errorf("%v; want %v", l, want.fixings[:n])
		}
	}
	for n := 1; n <= len(want.choices); n++ {
		var l []facts.Choice
		for x := range f.Choices() {
			l = append(l, x)
			if len(l) == n {
				break
			}
		}
		if !slices.Equal(l, want.choices[:n]) {
			t.Errorf("%v; want %v", l, want.choices[:n])
		}
	}
}

func TestNilIsWithoutAny(t *testing.T) {
	var f *facts.Facts
	for _, key := range append([]int{0, 3, 63}, wrongKeys...) {
		for _, day := range append([]int{0, 10, 73048}, wrongDays...) {
			checkPlace(t, f, &model{}, key, day)
			checkFirst(t, f, &model{}, key, day, most, 1)
			checkFirst(t, f, &model{}, key, least, day, 2)
			checkFirst(t, f, &model{}, key, 0, api.MaxDay, 0)
		}
	}
	if f.Fixings() == nil || f.Choices() == nil {
		t.Fatal("a nil function")
	}
	checkAll(t, f, &model{})
	if c := f.Copy(); c != nil {
		t.Error(c)
	}
}

func TestCopyOfNoFacts(t *testing.T) {
	f := facts.New()
	c := f.Copy()
	if c == nil || c == f {
		t.Fatal(c)
	}
	checkAll(t, c, &model{})
	if e := c.Fix(facts.Fixing{Value: half}); e != api.OK {
		t.Error(e)
	}
	if e := c.Choose(facts.Choice{Pick: 1}); e != api.OK {
		t.Error(e)
	}
	checkAll(t, f, &model{})
}

// P7.3

// orders goes through all orders of n numbers.
func orders(n int, yield func([]int)) {
	l := make([]int, n)
	for i := range l {
		l[i] = i
	}
	var turn func(from int)
	turn = func(from int) {
		if from == n {
			yield(l)
		}
		for i := from; i < n; i++ {
			l[from], l[i] = l[i], l[from]
			turn(from + 1)
			l[from], l[i] = l[i], l[from]
		}
	}
	turn(0)
}

// TestOrderOfTellingDoesNotCount: nor does it count, if facts are told twice.
func TestOrderOfTellingDoesNotCount(t *testing.T) {
	fixings := []facts.Fixing{{Key: 3, Day: 10, Value: half}, {Key: 3, Day: 2, Value: seven}, {Key: 2, Day: 10, Value: seven}, {Key: 63, Day: 0, Value: half}, {Key: 0, Day: 73048, Value: half}}
	choices := []facts.Choice{{Key: 3, Day: 10, Pick: 1}, {Key: 3, Day: 2, Pick: 2}, {Key: 2, Day: 10, Pick: 2}, {Key: 3, Day: 12, Pick: 2}, {Key: 3, Day: 11, Pick: 1}}
	m := &model{fixings: fixings, choices: choices}
	orders(len(fixings), func(l []int) {
		f := facts.New()
		for _, i := range append(slices.Clone(l), l[0], l[2], l[0]) {
			f.Fix(fixings[i])
			f.Choose(choices[i])
		}
		checkAll(t, f, m)
		for pick := 0; pick <= 3; pick++ {
			for from := 0; from <= 13; from++ {
				checkFirst(t, f, m, 3, from, 12, pick)
			}
		}
	})
}

// TestCopiesApart: what is told of a copy, or of what it is a copy of, does not count for the other one.
func TestCopiesApart(t *testing.T) {
	f, m := some(t)
	c, n := f.Copy(), m.copy()
	checkAll(t, c, n)
	d, o := c.Copy(), n.copy()
	r := rand.New(rand.NewSource(3))
	for range 50 {
		tell(t, r, f, m)
		tell(t, r, c, n)
		checkAll(t, f, m)
		checkAll(t, c, n)
		checkAll(t, d, o)
	}
}

// TestManyFacts: facts and copies of them, told and asked at will, are as they have to be.
func TestManyFacts(t *testing.T) {
	r := rand.New(rand.NewSource(1))
	all, models := []*facts.Facts{facts.New()}, []*model{{}}
	for range 4000 {
		i := r.Intn(len(all))
		f, m := all[i], models[i]
		tell(t, r, f, m)
		if r.Intn(40) == 0 {
			all, models = append(all, f.Copy()), append(models, m.copy())
		}
		key, day := one(r, 0, 1, 62, 63, r.Intn(64)), one(r, 0, 1, 2, 3, 4, 5, 73047, 73048)
		checkPlace(t, f, m, key, day)
		checkFirst(t, f, m, key, one(r, least, -1, 0, day, 3, 73048, most), one(r, least, -1, 0, day, 4, 73048, most), r.Intn(4))
		if r.Intn(20) == 0 {
			checkAll(t, f, m)
		}
	}
	for i, f := range all {
		checkAll(t, f, models[i])
	}
}
