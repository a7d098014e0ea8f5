package text

import (
	"slices"
	"strconv"
	"strings"

	"chattel/api"
	"chattel/cash"
	"chattel/days"
	"chattel/ratio"
	"chattel/term"
)

// parser puts a contract together out of tokens.
type parser struct {
	reader
	nodes []api.Node
	// open is how many brackets are open: so many nodes stand above a term that begins.
	open int
	// due are the parts that have to come, the next one last.
	due []int
}

// takers are how a token is taken that has to be of a part.
func takers() [parts]func(*parser, string) api.Errno {
	return [parts]func(*parser, string) api.Errno{
		term.None:     (*parser).nothing,
		term.Observed: (*parser).observed,
		term.Contract: (*parser).contract,
		opening:       (*parser).opening,
		comma:         (*parser).comma,
		closing:       (*parser).closing,
		name:          (*parser).name,
		key:           (*parser).key,
		day:           (*parser).day,
		until:         (*parser).until,
	}
}

// read takes all tokens up to one that is wrong: where that is, and its error.
func (p *parser) read() (int, api.Errno) {
	wrong, e := 0, api.OK
	take := takers()
reading:
	for at, token := range p.tokens() {
		e = take[p.next()](p, token)
		if e != api.OK {
			wrong = at
			break reading
		}
	}
	if e == api.OK && len(p.due) > 0 {
		return len(p.text), api.ErrForm
	}
	return wrong, e
}

// next is the part that has to come, and is due no more; term.None behind the last one.
func (p *parser) next() int {
	last := len(p.due) - 1
	if last < 0 {
		return term.None
	}
	part := p.due[last]
	p.due = p.due[:last]
	return part
}

// nothing takes no token: the contract has ended.
func (p *parser) nothing(string) api.Errno {
	return api.ErrForm
}

// observed takes the beginning of a number.
func (p *parser) observed(token string) api.Errno {
	// No word is a number's text too, so either may be looked at first.
	if value, e := ratio.Parse(token); e == api.OK {
		return p.begin(api.Node{Op: api.Number, Value: value})
	}
	return p.word(term.Observed, token)
}

// contract takes the beginning of a contract.
func (p *parser) contract(token string) api.Errno {
	return p.word(term.Contract, token)
}

// word takes the word with which a term of a sort begins.
func (p *parser) word(sort int, token string) api.Errno {
	for op, h := range heads {
		if h.word == token && term.Sort(op) == sort {
			return p.begin(api.Node{Op: op})
		}
	}
	return api.ErrForm
}

// begin begins a term: what comes behind it is due.
func (p *parser) begin(n api.Node) api.Errno {
	if len(p.nodes) >= api.MaxNodes || p.open >= api.MaxDepth {
		return api.ErrDeep
	}
	p.nodes = append(p.nodes, n)
	behind := partsBehind(n.Op)
	slices.Reverse(behind)
	p.due = append(p.due, behind...)
	return api.OK
}

// partsBehind are the parts of a term's text behind its word.
func partsBehind(op int) []int {
	var l []int
	for _, part := range heads[op].behind {
		if part != term.None {
			l = append(l, part)
		}
	}
	mark := opening
	for _, sort := range term.Kids(op) {
		l = append(l, mark, sort)
		mark = comma
	}
	if mark == comma {
		l = append(l, closing)
	}
	return l
}

// opening takes the bracket ahead of the terms below.
func (p *parser) opening(token string) api.Errno {
	p.open++
	return only("(", token)
}

// comma takes what stands between two terms below.
func (p *parser) comma(token string) api.Errno {
	return only(",", token)
}

// closing takes the bracket behind the terms below.
func (p *parser) closing(token string) api.Errno {
	p.open--
	return only(")", token)
}

// only is the error of a token that has to be a mark.
func only(mark, token string) api.Errno {
	if token != mark {
		return api.ErrForm
	}
	return api.OK
}

// name takes a currency's.
func (p *parser) name(token string) api.Errno {
	cur, e := cash.Of(token)
	if e != api.OK {
		return api.ErrForm
	}
	p.last().A = cur
	return api.OK
}

// key takes a key.
func (p *parser) key(token string) api.Errno {
	if !counts(token) {
		return api.ErrForm
	}
	n, err := strconv.Atoi(token)
	// Its form is right, so an err can only be of one that is too great.
	if err != nil || n > api.MaxKey {
		return api.ErrRange
	}
	p.last().A = n
	return api.OK
}

// day takes the day at which something is.
func (p *parser) day(token string) api.Errno {
	n, e := dayOf(token)
	p.last().A = n
	return e
}

// until takes the day up to which something may be.
func (p *parser) until(token string) api.Errno {
	n, e := dayOf(token)
	p.last().B = n
	return e
}

// last is the node that began last.
func (p *parser) last() *api.Node {
	return &p.nodes[len(p.nodes)-1]
}

// dayOf is the day that a token is.
func dayOf(token string) (int, api.Errno) {
	n, e := days.Parse(token)
	if e == api.ErrDay {
		return 0, api.ErrRange
	}
	return n, e
}

// counts tells whether a token is decimal digits, with no 0 ahead of others.
func counts(token string) bool {
	return token == "0" || !strings.HasPrefix(token, "0") && strings.Trim(token, "0123456789") == ""
}
