package step

import (
	"chattel/api"
	"chattel/denote"
	"chattel/facts"
	"chattel/ratio"
	"chattel/term"
	"chattel/value"
)

// The picks of a choice: first is also that by which an Any is acquired.
const (
	first  = 1
	second = 2
)

// holding is a place of a contract, acquired at a day, times a factor.
type holding struct {
	at     int
	day    int
	factor api.Ratio
}

// place is what is held there, its node, and where the terms below that begin.
type place struct {
	holding
	node  api.Node
	below []int
}

// instead is what is held in its stead, as of the same day.
func (x place) instead(i int) holding {
	return holding{at: x.below[i], day: x.day, factor: x.factor}
}

// came is what came of what was held, in no order.
type came struct {
	flows []api.Flow
	waits []denote.Wait
	// todo may be done yet, kept is not done by what is known.
	todo []holding
	kept []holding
}

// pay puts a flow, if there is money in it.
func (c *came) pay(x api.Flow) {
	if x.Amount != 0 {
		c.flows = append(c.flows, x)
	}
}

// hold puts what is held in the stead of what was done.
func (c *came) hold(x holding) {
	c.todo = append(c.todo, x)
}

// keep puts what is held on.
func (c *came) keep(x holding) {
	c.kept = append(c.kept, x)
}

// await puts what is asked for.
func (c *came) await(w denote.Wait) {
	c.waits = append(c.waits, w)
}

// next takes something out of what may be done yet.
func (c *came) next() holding {
	last := len(c.todo) - 1
	x := c.todo[last]
	c.todo = c.todo[:last]
	return x
}

// going is a contract on its way up to a day, by facts.
type going struct {
	t     []api.Node
	to    int
	facts *facts.Facts
	came
}

// doAll does all that is held, as long as something may be done.
func (g *going) doAll() api.Errno {
	err := api.OK
doing:
	for len(g.todo) > 0 {
		x := g.next()
		if x.day > g.to {
			g.keep(x)
			continue
		}
		if e := g.do(x); e != api.OK {
			err = e
			break doing
		}
	}
	return err
}

// do does what is held.
func (g *going) do(x holding) api.Errno {
	n := g.t[x.at]
	// No error: the nodes are a term, so one begins at each.
	below, _ := term.Below(g.t, x.at)
	way := g.way(n.Op)
	return way(place{holding: x, node: n, below: below})
}

// way is what is done with a place of an op.
func (g *going) way(op int) func(place) api.Errno {
	switch op {
	case api.One:
		return g.one
	case api.Give:
		return g.give
	case api.And:
		return g.and
	case api.Scale:
		return g.scale
	case api.When:
		return g.when
	case api.Cond:
		return g.cond
	case api.Or:
		return g.or
	case api.Any:
		return g.any
	}
	return g.zero
}

// zero does Zero: nothing comes of it.
func (g *going) zero(place) api.Errno {
	return api.OK
}

// one does One.
func (g *going) one(x place) api.Errno {
	n, e := ratio.Round(x.factor)
	if e != api.OK {
		return e
	}
	g.pay(api.Flow{Day: x.day, Cur: x.node.A, Amount: n})
	return api.OK
}

// give does Give.
func (g *going) give(x place) api.Errno {
	factor, e := ratio.Neg(x.factor)
	if e != api.OK {
		return e
	}
	g.hold(holding{at: x.below[0], day: x.day, factor: factor})
	return api.OK
}

// and does And.
func (g *going) and(x place) api.Errno {
	g.hold(x.instead(0))
	g.hold(x.instead(1))
	return api.OK
}

// scale does Scale.
func (g *going) scale(x place) api.Errno {
	values, known, e := g.ask(x, 1)
	if e != api.OK || !known {
		return e
	}
	factor, e := ratio.Mul(x.factor, values[0])
	if e != api.OK {
		return e
	}
	g.hold(holding{at: x.below[1], day: x.day, factor: factor})
	return api.OK
}

// when does When.
func (g *going) when(x place) api.Errno {
	if x.node.A >= x.day {
		g.hold(holding{at: x.below[0], day: x.node.A, factor: x.factor})
	}
	return api.OK
}

// cond does Cond.
func (g *going) cond(x place) api.Errno {
	values, known, e := g.ask(x, 2)
	if e != api.OK || !known {
		return e
	}
	order, e := ratio.Compare(values[0], values[1])
	if e != api.OK {
		return e
	}
	if order < 0 {
		g.hold(x.instead(2))
	} else {
		g.hold(x.instead(3))
	}
	return api.OK
}

// or does Or.
func (g *going) or(x place) api.Errno {
	pick, _ := g.facts.Choice(x.node.A, x.day)
	switch pick {
	case first:
		g.hold(x.instead(0))
	case second:
		g.hold(x.instead(1))
	default:
		g.await(denote.Wait{Choice: true, Key: x.node.A, Day: x.day})
		g.keep(x.holding)
	}
	return api.OK
}

// any does Any.
func (g *going) any(x place) api.Errno {
	if x.node.B < x.day {
		return api.OK
	}
	day, is := g.facts.First(x.node.A, x.day, min(x.node.B, g.to), first)
	if !is {
		// Also when B is past: the choice may become known later.
		g.keep(x.holding)
		return api.OK
	}
	g.hold(holding{at: x.below[0], day: day, factor: x.factor})
	return api.OK
}

// ask is what the first n terms below a place, numbers, are at its day, if all of them are known; if not, it waits for their fixings.
func (g *going) ask(x place, n int) ([]api.Ratio, bool, api.Errno) {
	var values []api.Ratio
	for _, at := range x.below[:n] {
		// All are asked for, also behind one that is not known: one of them may not fit.
		v, e := value.At(g.t, at, x.day, g.facts)
		if e != api.OK {
			return nil, false, e
		}
		if v.Is {
			values = append(values, v.Ratio)
		}
	}
	if len(values) == n {
		return values, true, api.OK
	}
	for _, at := range x.below[:n] {
		g.awaitFixings(at, x.day)
	}
	g.keep(x.holding)
	return nil, false, api.OK
}

// awaitFixings puts waits for the fixings that a number needs at a day, and that are not known.
func (g *going) awaitFixings(at, day int) {
	// No error: there is a number.
	keys, _ := value.Needs(g.t, at)
	for _, key := range keys {
		if _, is := g.facts.Fixing(key, day); !is {
			g.await(denote.Wait{Key: key, Day: day})
		}
	}
}
