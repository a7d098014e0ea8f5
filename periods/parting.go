package periods

import "chattel/api"

// parting is how days are parted into periods.
type parting struct {
	// size is how many days each has, but for the last one, that may have less.
	size int
}

// of is the period of a day.
func (d parting) of(day int) (int, api.Errno) {
	if day < 0 || day > api.MaxDay {
		return 0, api.ErrDay
	}
	return day / d.size, api.OK
}

// last is the last period.
func (d parting) last() int {
	return api.MaxDay / d.size
}

// span is the first and the last day of a period.
func (d parting) span(period int) (from, to int, e api.Errno) {
	if period < 0 || period > d.last() {
		return 0, 0, api.ErrRange
	}
	from = period * d.size
	return from, min(from+d.size-1, api.MaxDay), api.OK
}
