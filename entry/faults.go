package entry

import (
	"slices"

	"chattel/amount"
	"chattel/api"
)

const fewestLines = 2

// fault is something that may be wrong with an entry.
type fault struct {
	in    func(Entry) bool
	wrong api.Errno
}

// faults are all that may be wrong with an entry, those ahead that are answered first.
func faults() []fault {
	return []fault{
		{in: Entry.outOfRange, wrong: api.ErrRange},
		{in: Entry.unlikeLines, wrong: api.ErrArg},
		{in: Entry.zeroLine, wrong: api.ErrZero},
		{in: Entry.leastLine, wrong: api.ErrOver},
		{in: Entry.uneven, wrong: api.ErrUneven},
	}
}

// outOfRange tells whether a number of it, but for Amounts, may not be.
func (e Entry) outOfRange() bool {
	if !e.tagMayBe() || e.Seq < 0 || e.Period < 0 || e.Ref < None {
		return true
	}
	return slices.ContainsFunc(e.Lines, func(l Line) bool { return !l.mayBe() })
}

// unlikeLines tells whether there are too few lines, or too many, or one is of another currency.
func (e Entry) unlikeLines() bool {
	if len(e.Lines) < fewestLines || len(e.Lines) > MostLines {
		return true
	}
	return slices.ContainsFunc(e.Lines, func(l Line) bool { return l.Cur != e.Cur })
}

// zeroLine tells whether a line has no money.
func (e Entry) zeroLine() bool {
	return slices.ContainsFunc(e.Lines, func(l Line) bool { return l.Amount == 0 })
}

// leastLine tells whether a line has the least number that there is.
func (e Entry) leastLine() bool {
	return slices.ContainsFunc(e.Lines, func(l Line) bool {
		_, wrong := amount.Neg(l.Amount)
		return wrong != api.OK
	})
}

// uneven tells whether its Amounts do not come to nought.
func (e Entry) uneven() bool {
	var all []int
	for _, l := range e.Lines {
		all = append(all, l.Amount)
	}
	// Sums that wrap round may come to nought: the exact one counts.
	sum, wrong := amount.Sum(all...)
	return wrong != api.OK || sum != 0
}
