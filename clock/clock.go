// Package clock has a clock that does not go back. It is handed its times: it has none of its own.
package clock

import "choirloft/api"

// Clock knows the last time that it was set to, 0 at first. Things that are told a now embed it.
type Clock struct {
	last int
}

// At gives the clock as it is at a now. It leaves the one that it is asked of as it was, so that
// a call that goes wrong later on has not changed it.
func (c Clock) At(now int) (Clock, error) {
	if now < 0 || now > api.MaxTime {
		return Clock{}, api.ErrRange
	}
	if now < c.last {
		return Clock{}, api.ErrState
	}
	return Clock{last: now}, nil
}

// Now is the last time that it was set to.
func (c Clock) Now() int {
	return c.last
}
