package denote

import (
	"chattel/api"
	"chattel/facts"
	"chattel/ratio"
	"chattel/term"
	"chattel/value"
)

// The picks of a choice: first is also that by which an Any is acquired.
const (
	first  = 1
	second = 2
)

// acquired is the contract at a place of a term, acquired at a day, times a factor.
type acquired struct {
	at     int
	day    int
	factor api.Ratio
}

// reading is what a contract is read by, and what has come of it, in no order.
type reading struct {
	t     []api.Node
	to    int
	facts *facts.Facts
	flows []api.Flow
	waits []Wait
}

// goThrough is all that comes of a contract, acquired at a day, up to a day.
func goThrough(t []api.Node, from, to int, f *facts.Facts) (reading, api.Errno) {
	if e := term.Check(t); e != api.OK {
		return reading{}, e
	}
	if from < 0 || from > api.MaxDay || to < -1 || to > api.MaxDay {
		return reading{}, api.ErrDay
	}
	var todo []acquired
	acquire := func(x acquired) {
		if x.day <= to {
			todo = append(todo, x)
		}
	}
	acquire(acquired{at: 0, day: from, factor: api.Ratio{Num: 1, Den: 1}})
	r := reading{t: t, to: to, facts: f}
	err := api.OK
doing:
	// Not by range: the row grows while it is gone through.
	for i := 0; i < len(todo); i++ {
		if e := r.do(todo[i], acquire); e != api.OK {
			err = e
			break doing
		}
	}
	if err != api.OK {
		return reading{}, err
	}
	return r, api.OK
}

// do tells what comes of a contract: flows, waits, or contracts that are acquired in its stead.
func (r *reading) do(x acquired, acquire func(acquired)) api.Errno {
	n := r.t[x.at]
	// No error: the nodes are a term, so one begins at each.
	below, _ := term.Below(r.t, x.at)
	switch n.Op {
	case api.One:
		return r.pay(x, n.A)
	case api.Give:
		return give(x, below, acquire)
	case api.And:
		acquire(x.instead(below[0]))
		acquire(x.instead(below[1]))
	case api.Scale:
		return r.scale(x, below, acquire)
	case api.When:
		if n.A >= x.day {
			acquire(acquired{at: below[0], day: n.A, factor: x.factor})
		}
	case api.Cond:
		return r.decide(x, below, acquire)
	case api.Or:
		r.choose(x, n.A, below, acquire)
	case api.Any:
		if day, is := r.facts.First(n.A, x.day, min(n.B, r.to), first); is {
			acquire(acquired{at: below[0], day: day, factor: x.factor})
		}
	}
	return api.OK
}

// instead is another contract, acquired at the same day, times the same factor.
func (x acquired) instead(at int) acquired {
	return acquired{at: at, day: x.day, factor: x.factor}
}

// pay is what comes of One.
func (r *reading) pay(x acquired, cur int) api.Errno {
	n, e := ratio.Round(x.factor)
	if e != api.OK {
		return e
	}
	if n != 0 {
		r.flows = append(r.flows, api.Flow{Day: x.day, Cur: cur, Amount: n})
	}
	return api.OK
}

// give is what comes of Give.
func give(x acquired, below []int, acquire func(acquired)) api.Errno {
	factor, e := ratio.Neg(x.factor)
	if e != api.OK {
		return e
	}
	acquire(acquired{at: below[0], day: x.day, factor: factor})
	return api.OK
}

// scale is what comes of Scale.
func (r *reading) scale(x acquired, below []int, acquire func(acquired)) api.Errno {
	values, known, e := r.ask(x.day, below[0])
	if e != api.OK || !known {
		return e
	}
	factor, e := ratio.Mul(x.factor, values[0])
	if e != api.OK {
		return e
	}
	acquire(acquired{at: below[1], day: x.day, factor: factor})
	return api.OK
}

// decide is what comes of Cond.
func (r *reading) decide(x acquired, below []int, acquire func(acquired)) api.Errno {
	values, known, e := r.ask(x.day, below[0], below[1])
	if e != api.OK || !known {
		return e
	}
	order, e := ratio.Compare(values[0], values[1])
	if e != api.OK {
		return e
	}
	if order < 0 {
		acquire(x.instead(below[2]))
	} else {
		acquire(x.instead(below[3]))
	}
	return api.OK
}

// choose is what comes of Or.
func (r *reading) choose(x acquired, key int, below []int, acquire func(acquired)) {
	pick, _ := r.facts.Choice(key, x.day)
	switch pick {
	case first:
		acquire(x.instead(below[0]))
	case second:
		acquire(x.instead(below[1]))
	default:
		r.waits = append(r.waits, Wait{Choice: true, Key: key, Day: x.day})
	}
}

// ask is what numbers at places are at a day, if all of them are known; if not, their fixings are waited for.
func (r *reading) ask(day int, places ...int) ([]api.Ratio, bool, api.Errno) {
	var values []api.Ratio
	for _, at := range places {
		// All are asked for, also behind one that is not known: one of them may not fit.
		v, e := value.At(r.t, at, day, r.facts)
		if e != api.OK {
			return nil, false, e
		}
		if v.Is {
			values = append(values, v.Ratio)
		}
	}
	if len(values) < len(places) {
		r.await(day, places...)
		return nil, false, api.OK
	}
	return values, true, api.OK
}

// await puts waits for the fixings that numbers need at a day, and that are not known.
func (r *reading) await(day int, places ...int) {
	for _, at := range places {
		// No error: there is a number at each.
		keys, _ := value.Needs(r.t, at)
		for _, key := range keys {
			if _, is := r.facts.Fixing(key, day); !is {
				r.waits = append(r.waits, Wait{Key: key, Day: day})
			}
		}
	}
}
