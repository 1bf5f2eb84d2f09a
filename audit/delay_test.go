package audit_test

import (
	"math"
	"math/rand"
	"slices"
	"testing"

	"choirloft/api"
)

// briefly: of many times the first ones.
func briefly(l []int) []int {
	return l[:min(len(l), 10)]
}

// badTimes: just below 0 and just above MaxTime, and far away.
var badTimes = []int{-1, -2, -maxTime, math.MinInt, math.MinInt + 1,
	maxTime + 1, maxTime + 2, 2 * maxTime, 1 << 32, math.MaxInt - 1, math.MaxInt}

// later is a list of times, each later by so much.
func later(l []int, by int) []int {
	l = slices.Clone(l)
	for i := range l {
		l[i] += by
	}
	return l
}

// modelDelay is the chapter's Delay: all faults ahead of all differences, which are sorted.
func modelDelay(sent, got []int) (least, most int, told api.Errno) {
	switch {
	case len(sent) >= 1001 || len(got) >= 1001:
		return 0, 0, api.ErrFull
	case len(sent) < len(got) || len(sent) > len(got):
		return 0, 0, api.ErrShape
	case len(got) == 0:
		return 0, 0, api.ErrNone
	}
	var late []int
	for i := range sent {
		for _, time := range []int{sent[i], got[i]} {
			if time < 0 || time > 1_000_000 {
				return 0, 0, api.ErrRange
			}
		}
		if sent[i] > got[i] {
			return 0, 0, api.ErrState
		}
		late = append(late, got[i]-sent[i])
	}
	slices.Sort(late)
	return late[0], late[len(late)-1], api.OK
}

func TestDelay(t *testing.T) {
	delayIs(t, []int{0}, []int{0}, 0, 0, api.OK)
	delayIs(t, []int{0}, []int{1}, 1, 1, api.OK)
	delayIs(t, []int{3}, []int{10}, 7, 7, api.OK)
	delayIs(t, []int{0}, []int{maxTime}, maxTime, maxTime, api.OK)
	delayIs(t, []int{maxTime}, []int{maxTime}, 0, 0, api.OK)
	delayIs(t, []int{0, maxTime}, []int{maxTime, maxTime}, 0, maxTime, api.OK)
	delayIs(t, []int{0, 0}, []int{maxTime, maxTime}, maxTime, maxTime, api.OK)
	delayIs(t, []int{5, 6, 7}, []int{7, 9, 8}, 1, 3, api.OK)
	delayIs(t, []int{5, 6, 7}, []int{9, 9, 8}, 1, 4, api.OK)
	delayIs(t, []int{5, 6, 7}, []int{6, 8, 10}, 1, 3, api.OK)
	delayIs(t, []int{5, 6, 7}, []int{8, 8, 10}, 2, 3, api.OK)
	delayIs(t, []int{5, 6, 7}, []int{7, 8, 9}, 2, 2, api.OK)
	delayIs(t, []int{5, 6, 7}, []int{5, 6, 7}, 0, 0, api.OK)
	delayIs(t, []int{5, 5, 5, 5}, []int{9, 7, 9, 7}, 2, 4, api.OK)
	// Times may go up and down.
	delayIs(t, []int{900, 3, 50}, []int{904, 10, 52}, 2, 7, api.OK)
	delayIs(t, []int{3, 900, 50}, []int{999_999, 901, 50}, 0, 999_996, api.OK)
}

func TestDelayOfNoTimes(t *testing.T) {
	delayIs(t, nil, nil, 0, 0, api.ErrNone)
	delayIs(t, []int{}, nil, 0, 0, api.ErrNone)
	delayIs(t, nil, []int{}, 0, 0, api.ErrNone)
	delayIs(t, []int{}, []int{}, 0, 0, api.ErrNone)
}

// TestDelayOfMany: the least and the greatest difference stand at each place of it.
func TestDelayOfMany(t *testing.T) {
	for _, n := range []int{2, 3, 999, 1000} {
		sent := make([]int, n)
		for i := range sent {
			sent[i] = (i * 7919) % 5000
		}
		got := later(sent, 20)
		delayIs(t, sent, got, 20, 20, api.OK)
		for _, place := range places(n) {
			delayIs(t, sent, with(got, place, sent[place]), 0, 20, api.OK)
			delayIs(t, sent, with(got, place, sent[place]+19), 19, 20, api.OK)
			delayIs(t, sent, with(got, place, sent[place]+21), 20, 21, api.OK)
			delayIs(t, with(sent, place, 0), with(got, place, maxTime), 20, maxTime, api.OK)
		}
	}
}

func TestDelayOfTooMany(t *testing.T) {
	for _, n := range []int{1001, 1002, 5000} {
		long := make([]int, n)
		for _, other := range [][]int{nil, {0}, make([]int, 1000), make([]int, 1001), make([]int, n)} {
			delayIs(t, long, other, 0, 0, api.ErrFull)
			delayIs(t, other, long, 0, 0, api.ErrFull)
		}
		for _, place := range places(n) {
			delayIs(t, long, with(long, place, -1), 0, 0, api.ErrFull)
			delayIs(t, with(long, place, maxTime+1), long, 0, 0, api.ErrFull)
			delayIs(t, with(long, place, 1), long, 0, 0, api.ErrFull)
			delayIs(t, long[:3], with(long, place, -1), 0, 0, api.ErrFull)
		}
	}
}

// TestDelayOfNotAsMany: that is told of whatever times.
func TestDelayOfNotAsMany(t *testing.T) {
	for _, n := range []int{0, 1, 2, 10, 999, 1000} {
		for _, m := range []int{0, 1, 2, 9, 11, 999, 1000} {
			if n == m {
				continue
			}
			delayIs(t, make([]int, n), make([]int, m), 0, 0, api.ErrShape)
			delayIs(t, slices.Repeat([]int{-1}, n), make([]int, m), 0, 0, api.ErrShape)
			delayIs(t, make([]int, n), slices.Repeat([]int{maxTime + 1}, m), 0, 0, api.ErrShape)
			delayIs(t, slices.Repeat([]int{5}, n), slices.Repeat([]int{4}, m), 0, 0, api.ErrShape)
		}
	}
}

// TestDelayOfNoTime: in either list, at each place.
func TestDelayOfNoTime(t *testing.T) {
	for _, bad := range badTimes {
		for _, n := range []int{1, 2, 5, 1000} {
			sent := slices.Repeat([]int{500}, n)
			got := later(sent, 3)
			for place := range n {
				delayIs(t, with(sent, place, bad), got, 0, 0, api.ErrRange)
				delayIs(t, sent, with(got, place, bad), 0, 0, api.ErrRange)
				delayIs(t, with(sent, place, bad), with(got, place, bad), 0, 0, api.ErrRange)
			}
		}
	}
}

// TestDelayOfWhatWasGotAhead, at each place.
func TestDelayOfWhatWasGotAhead(t *testing.T) {
	for _, n := range []int{1, 2, 5, 1000} {
		sent := slices.Repeat([]int{500}, n)
		got := later(sent, 3)
		for place := range n {
			delayIs(t, sent, with(got, place, 499), 0, 0, api.ErrState)
			delayIs(t, sent, with(got, place, 0), 0, 0, api.ErrState)
			delayIs(t, with(sent, place, 504), got, 0, 0, api.ErrState)
			delayIs(t, with(sent, place, maxTime), got, 0, 0, api.ErrState)
		}
	}
	delayIs(t, []int{1}, []int{0}, 0, 0, api.ErrState)
	delayIs(t, []int{maxTime}, []int{maxTime - 1}, 0, 0, api.ErrState)
	delayIs(t, []int{maxTime}, []int{0}, 0, 0, api.ErrState)
}

// TestDelayOfTwoFaults: at one place a time that is none goes first, at two the first place.
func TestDelayOfTwoFaults(t *testing.T) {
	delayIs(t, []int{5}, []int{-1}, 0, 0, api.ErrRange)
	delayIs(t, []int{maxTime + 1}, []int{maxTime}, 0, 0, api.ErrRange)
	delayIs(t, []int{maxTime + 2}, []int{maxTime + 1}, 0, 0, api.ErrRange)
	delayIs(t, []int{-1}, []int{-2}, 0, 0, api.ErrRange)
	delayIs(t, []int{math.MaxInt}, []int{math.MinInt}, 0, 0, api.ErrRange)
	delayIs(t, []int{math.MinInt}, []int{math.MaxInt}, 0, 0, api.ErrRange)
	sent, got := []int{10, 20, 30, 40}, []int{11, 22, 33, 44}
	for _, bad := range badTimes {
		for first := range sent {
			for second := first + 1; second < len(sent); second++ {
				delayIs(t, with(sent, second, bad), with(got, first, 0), 0, 0, api.ErrState)
				delayIs(t, sent, with(with(got, first, 0), second, bad), 0, 0, api.ErrState)
				delayIs(t, with(sent, first, bad), with(got, second, 0), 0, 0, api.ErrRange)
				delayIs(t, sent, with(with(got, first, bad), second, 0), 0, 0, api.ErrRange)
			}
		}
	}
}

// TestAllShortDelays holds Delay against the model, with all lists of up to three times at the edges.
func TestAllShortDelays(t *testing.T) {
	lists := [][]int{nil}
	for i := 0; i < len(lists); i++ {
		if len(lists[i]) == 3 {
			continue
		}
		for _, time := range []int{-1, 0, 1, 500, maxTime, maxTime + 1} {
			lists = append(lists, append(slices.Clone(lists[i]), time))
		}
	}
	for _, sent := range lists {
		for _, got := range lists {
			least, most, told := modelDelay(sent, got)
			delayIs(t, sent, got, least, most, told)
		}
	}
}

func TestDelaysByLot(t *testing.T) {
	lot := rand.New(rand.NewSource(19))
	for range 3000 {
		var sent, got []int
		for range 1 + lot.Intn(30) {
			from := lot.Intn(maxTime + 1)
			to := from + lot.Intn(maxTime+1-from)
			if lot.Intn(100) == 0 {
				to = lot.Intn(maxTime + 1)
			}
			if lot.Intn(100) == 0 {
				from = badTimes[lot.Intn(len(badTimes))]
			}
			sent, got = append(sent, from), append(got, to)
		}
		least, most, told := modelDelay(sent, got)
		delayIs(t, sent, got, least, most, told)
	}
}
