package mesh

import (
	"slices"

	"choirloft/api"
)

const mostFlying = 1000 // where so many fly, none flies twice

// flights are all that flies, in the order in which it began to.
type flights []flight

// flight is a letter on its way. Nobody writes into its bytes, so that two of them may have the same.
type flight struct {
	from int
	api.Letter
}

// add lets something fly behind all that flies.
func (l *flights) add(f flight) {
	*l = append(*l, f)
}

func (l flights) has(at int) bool {
	return at >= 0 && at < len(l)
}

// take gives what flies as the at-th: it flies no more.
func (l *flights) take(at int) (flight, error) {
	if !l.has(at) {
		return flight{}, api.ErrRange
	}
	f := (*l)[at]
	if at > 0 {
		*l = slices.Delete(*l, at, at+1)
		return f, nil
	}
	// All that flies lands from the front: what is behind need not move up each time.
	(*l)[0] = flight{}
	*l = (*l)[1:]
	return f, nil
}

// double lets what flies as the at-th fly once more.
func (l *flights) double(at int) error {
	if !l.has(at) {
		return api.ErrRange
	}
	if len(*l) >= mostFlying {
		return api.ErrFull
	}
	l.add((*l)[at])
	return nil
}
