package facts_test

import (
	"cmp"
	"math/rand"
	"slices"
	"testing"

	"chattel/api"
	"chattel/facts"
)

// The tests' own telling of what the document asks for: two lists, that are looked through from their beginnings.

const (
	most  = 1<<63 - 1
	least = -1 << 63
)

// model is what facts have to be.
type model struct {
	fixings []facts.Fixing
	choices []facts.Choice
}

// fix puts a fixing in place of another one of its key and day.
func (m *model) fix(x facts.Fixing) {
	m.fixings = slices.DeleteFunc(m.fixings, func(y facts.Fixing) bool { return y.Key == x.Key && y.Day == x.Day })
	m.fixings = append(m.fixings, x)
}

// choose puts a choice in place of another one of its key and day.
func (m *model) choose(x facts.Choice) {
	m.choices = slices.DeleteFunc(m.choices, func(y facts.Choice) bool { return y.Key == x.Key && y.Day == x.Day })
	m.choices = append(m.choices, x)
}

// copy is a model of its own that is the same.
func (m *model) copy() *model {
	return &model{fixings: slices.Clone(m.fixings), choices: slices.Clone(m.choices)}
}

// sorted puts both lists in order.
func (m *model) sorted() *model {
	c := m.copy()
	slices.SortFunc(c.fixings, func(a, b facts.Fixing) int {
		return cmp.Or(cmp.Compare(a.Key, b.Key), cmp.Compare(a.Day, b.Day))
	})
	slices.SortFunc(c.choices, func(a, b facts.Choice) int {
		return cmp.Or(cmp.Compare(a.Key, b.Key), cmp.Compare(a.Day, b.Day))
	})
	return c
}

// fixing is what Fixing has to answer.
func (m *model) fixing(key, day int) (api.Ratio, bool) {
	for _, x := range m.fixings {
		if x.Key == key && x.Day == day {
			return x.Value, true
		}
	}
	return api.Ratio{}, false
}

// choice is what Choice has to answer.
func (m *model) choice(key, day int) (int, bool) {
	for _, x := range m.choices {
		if x.Key == key && x.Day == day {
			return x.Pick, true
		}
	}
	return 0, false
}

// first is what First has to answer.
func (m *model) first(key, from, to, pick int) (int, bool) {
	for _, x := range m.sorted().choices {
		if x.Key == key && x.Pick == pick && x.Day >= from && x.Day <= to {
			return x.Day, true
		}
	}
	return 0, false
}

// checkAll holds all that facts tell by their iterators against a model.
func checkAll(t *testing.T, f *facts.Facts, m *model) {
	t.Helper()
	want := m.sorted()
	if l := slices.Collect(f.Fixings()); !slices.Equal(l, want.fixings) {
		t.Errorf("Fixings(): %v; want %v", l, want.fixings)
	}
	if l := slices.Collect(f.Choices()); !slices.Equal(l, want.choices) {
		t.Errorf("Choices(): %v; want %v", l, want.choices)
	}
}

// checkPlace holds what facts tell of a key and a day against a model.
func checkPlace(t *testing.T, f *facts.Facts, m *model, key, day int) {
	t.Helper()
	value, known := f.Fixing(key, day)
	if wantValue, wantKnown := m.fixing(key, day); value != wantValue || known != wantKnown {
		t.Errorf("Fixing(%d, %d): %v, %v; want %v, %v", key, day, value, known, wantValue, wantKnown)
	}
	pick, chosen := f.Choice(key, day)
	if wantPick, wantChosen := m.choice(key, day); pick != wantPick || chosen != wantChosen {
		t.Errorf("Choice(%d, %d): %v, %v; want %v, %v", key, day, pick, chosen, wantPick, wantChosen)
	}
}

// checkFirst holds First against a model.
func checkFirst(t *testing.T, f *facts.Facts, m *model, key, from, to, pick int) {
	t.Helper()
	day, is := f.First(key, from, to, pick)
	if wantDay, wantIs := m.first(key, from, to, pick); day != wantDay || is != wantIs {
		t.Errorf("First(%d, %d, %d, %d): %d, %v; want %d, %v", key, from, to, pick, day, is, wantDay, wantIs)
	}
}

// one is a drawn one of a list.
func one[T any](r *rand.Rand, l ...T) T { return l[r.Intn(len(l))] }

// aFixing draws one that may be, at one of few places, so that some come anew.
func aFixing(r *rand.Rand) facts.Fixing {
	value := api.Ratio{Num: 2*r.Intn(50) - 49, Den: one(r, 1, 2, 4, 8)}
	return facts.Fixing{Key: one(r, 0, 1, 62, 63), Day: one(r, 0, 1, 2, 3, 4, 73047, 73048), Value: value}
}

// aChoice draws one that may be, at one of few places, so that some come anew.
func aChoice(r *rand.Rand) facts.Choice {
	return facts.Choice{Key: one(r, 0, 1, 62, 63), Day: one(r, 0, 1, 2, 3, 4, 73047, 73048), Pick: 1 + r.Intn(2)}
}

// tell tells facts and a model the same drawn fact.
func tell(t *testing.T, r *rand.Rand, f *facts.Facts, m *model) {
	t.Helper()
	if r.Intn(2) == 0 {
		x := aFixing(r)
		m.fix(x)
		if e := f.Fix(x); e != api.OK {
			t.Errorf("Fix(%v): %v", x, e)
		}
		return
	}
	x := aChoice(r)
	m.choose(x)
	if e := f.Choose(x); e != api.OK {
		t.Errorf("Choose(%v): %v", x, e)
	}
}
