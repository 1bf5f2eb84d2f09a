// Package serial has numbers that go round, and a window over the last of those that do not.
package serial

import "choirloft/api"

const (
	round     = api.MaxSeq + 1
	half      = round / 2
	mostInOne = 64 // numbers of a Window: as many as its word has bits
)

// Window remembers which of the last numbers, down from the greatest, were there.
type Window struct {
	size int
	top  int
	seen uint64 // bit i stands for top - i
}

// Ahead tells whether a is ahead of b by less than half a round.
func Ahead(a, b int) bool {
	by := beyond(a, b)
	return by >= 1 && by < half
}

// beyond is a less b, modulo a round. The difference of two ints may overflow, but then
// it is wrong by 2^64, of which a round is a divisor: the low bits are right all the same.
func beyond(a, b int) int {
	return (a - b) & api.MaxSeq
}

// Unwrap gives the number from 0 on, nearest to last, that is seq when it has gone round.
// It may be above MaxLong, if last is near that.
func Unwrap(last, seq int) (int, error) {
	if !isLong(last) || seq < 0 || seq > api.MaxSeq {
		return 0, api.ErrRange
	}
	up := last + beyond(seq, last)
	down := up - round
	if down >= 0 && last-down <= up-last {
		return down, nil
	}
	return up, nil
}

func isLong(number int) bool {
	return number >= 0 && number <= api.MaxLong
}

// NewWindow makes a Window of the last n numbers, of which none was there yet.
func NewWindow(n int) (*Window, error) {
	if n < 1 || n > mostInOne {
		return nil, api.ErrRange
	}
	return &Window{size: n, top: -1}, nil
}

// Add remembers a number, and tells whether it was new.
func (w *Window) Add(number int) (bool, error) {
	if !isLong(number) {
		return false, api.ErrRange
	}
	if w.top-number >= w.size {
		return false, api.ErrState
	}
	if number > w.top {
		w.rise(number)
		return true, nil
	}
	fresh := !w.Has(number)
	w.seen |= 1 << (w.top - number)
	return fresh, nil
}

// rise makes a number the greatest. What falls out of the word is older than any Window is wide.
func (w *Window) rise(number int) {
	w.seen = w.seen<<(number-w.top) | 1
	w.top = number
}

// Has tells whether a number was added, of those that are not too far below Top.
func (w *Window) Has(number int) bool {
	// Numbers below 0 go first: their distance from top may overflow.
	if number < 0 || number > w.top || w.top-number >= w.size {
		return false
	}
	return w.seen>>(w.top-number)&1 == 1
}

// Top is the greatest number that was added, -1 if there is none.
func (w *Window) Top() int {
	return w.top
}
