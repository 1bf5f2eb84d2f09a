package gaps_test

import (
	"math"
	"math/rand"
	"slices"
	"testing"

	"choirloft/api"
	"choirloft/gaps"
	"choirloft/plain"
)

const maxTime, maxLong, maxList, maxTries = 1000000, 1 << 40, 200, 20

// badTimes: nows that may not be, just below 0 and just above MaxTime, and far away.
var badTimes = []int{-1, -2, -maxTime, math.MinInt, math.MinInt + 1,
	maxTime + 1, maxTime + 2, 1 << 32, math.MaxInt - 1, math.MaxInt}

// badNumbers: likewise of numbers.
var badNumbers = []int{-1, -2, -maxList, -maxLong, math.MinInt, math.MinInt + 1,
	maxLong + 1, maxLong + 2, maxLong + maxList, 1 << 41, math.MaxInt - 1, math.MaxInt}

func newGaps(t *testing.T, again, tries int) *gaps.Gaps {
	t.Helper()
	g, err := gaps.New(again, tries)
	if g == nil || err != nil {
		t.Fatalf("New(%d, %d) = %v, %v", again, tries, g, err)
	}
	return g
}

func hear(t *testing.T, g *gaps.Gaps, number, now int, want bool) {
	t.Helper()
	if got, err := g.Hear(number, now); got != want || err != nil {
		t.Errorf("Hear(%d, %d) = %v, %v, want %v", number, now, got, err, want)
	}
}

func hearRefused(t *testing.T, g *gaps.Gaps, number, now int, want api.Errno) {
	t.Helper()
	if got, err := g.Hear(number, now); got || plain.Told(err) != want {
		t.Errorf("Hear(%d, %d) = %v, %v, want %v", number, now, got, err, want)
	}
}

func due(t *testing.T, g *gaps.Gaps, now int, want ...int) {
	t.Helper()
	if got, err := g.Due(now); !slices.Equal(got, want) || err != nil {
		t.Errorf("Due(%d) = %v, %v, want %v", now, got, err, want)
	}
}

func dueRefused(t *testing.T, g *gaps.Gaps, now int, want api.Errno) {
	t.Helper()
	if got, err := g.Due(now); len(got) != 0 || plain.Told(err) != want {
		t.Errorf("Due(%d) = %v, %v, want %v", now, got, err, want)
	}
}

func gaveUp(t *testing.T, g *gaps.Gaps, want ...int) {
	t.Helper()
	if got := g.GaveUp(); !slices.Equal(got, want) {
		t.Errorf("GaveUp = %v, want %v", got, want)
	}
}

func lacks(t *testing.T, g *gaps.Gaps, want ...int) {
	t.Helper()
	if got := g.Lacks(); !slices.Equal(got, want) {
		t.Errorf("Lacks = %v, want %v", got, want)
	}
}

// from is the numbers from low on, many of them.
func from(low, many int) (l []int) {
	for i := range many {
		l = append(l, low+i)
	}
	return l
}

// model is the chapter's G1 and G2: all that came, was asked for and was given up stands in rows,
// and what is lacking is found anew in every call.
type model struct {
	again, tries int
	clock        int
	came         []int
	asks         map[int][]int // of each number the times when it was asked for
	given, told  []int
}

func newModel(again, tries int) *model {
	return &model{again: again, tries: tries, asks: map[int][]int{}}
}

func (m *model) top() int {
	return slices.Max(m.came)
}

// lacking: what is between the first one and the greatest, did not come, and was not given up.
func (m *model) lacking() (l []int) {
	if len(m.came) == 0 {
		return nil
	}
	for number := m.came[0] + 1; number < m.top(); number++ {
		if !slices.Contains(m.came, number) && !slices.Contains(m.given, number) {
			l = append(l, number)
		}
	}
	return l
}

func (m *model) at(now int) api.Errno {
	switch {
	case now < 0 || now > maxTime:
		return api.ErrRange
	case now < m.clock:
		return api.ErrState
	}
	return api.OK
}

func (m *model) hear(number, now int) (bool, api.Errno) {
	if no := m.at(now); no != api.OK {
		return false, no
	}
	if number < 0 || number > maxLong {
		return false, api.ErrRange
	}
	fresh := len(m.came) == 0 || number > m.top() || slices.Contains(m.lacking(), number)
	if len(m.came) > 0 && number > m.top() && len(m.lacking())+number-m.top()-1 > maxList {
		return false, api.ErrFull
	}
	m.clock = now
	if fresh {
		m.came = append(m.came, number)
	}
	return fresh, api.OK
}

func (m *model) due(now int) ([]int, api.Errno) {
	if no := m.at(now); no != api.OK {
		return nil, no
	}
	m.clock = now
	var l []int
	for _, number := range m.lacking() {
		times := m.asks[number]
		if len(times) > 0 && times[len(times)-1]+m.again > now {
			continue
		}
		if len(times) == m.tries {
			m.given = append(m.given, number)
			continue
		}
		m.asks[number] = append(times, now)
		l = append(l, number)
	}
	return l, api.OK
}

// gaveUp: what was given up and was not told yet.
func (m *model) gaveUp() (l []int) {
	for _, number := range m.given {
		if !slices.Contains(m.told, number) {
			l = append(l, number)
		}
	}
	m.told = append(m.told, l...)
	slices.Sort(l)
	return l
}

func TestNewAtItsEdges(t *testing.T) {
	for _, again := range []int{1, 2, 3, 65536, maxTime - 1, maxTime} {
		for tries := 1; tries <= maxTries; tries++ {
			g := newGaps(t, again, tries)
			lacks(t, g)
			gaveUp(t, g)
			due(t, g, 0)
		}
	}
}

func TestNewOfWrongNumbers(t *testing.T) {
	badTries := []int{0, -1, -2, -maxTries, maxTries + 1, maxTries + 2, 1 << 32, 1<<32 + 1,
		math.MinInt, math.MinInt + 1, math.MaxInt - 1, math.MaxInt}
	refused := func(again, tries int) {
		if g, err := gaps.New(again, tries); g != nil || plain.Told(err) != api.ErrRange {
			t.Errorf("New(%d, %d) = %v, %v", again, tries, g, err)
		}
	}
	for _, again := range append([]int{0, 1<<32 + 1}, badTimes...) {
		for _, tries := range append([]int{1, 2, maxTries}, badTries...) {
			refused(again, tries)
		}
	}
	for _, tries := range badTries {
		for _, again := range []int{1, 2, maxTime} {
			refused(again, tries)
		}
	}
}

func TestNothingCameYet(t *testing.T) {
	g := newGaps(t, 1, 1)
	for now := range 5 {
		due(t, g, now)
		gaveUp(t, g)
		lacks(t, g)
	}
}

// TestEveryFirstNumber: the first of all may be any, and nothing ahead of it is lacking, now or later.
func TestEveryFirstNumber(t *testing.T) {
	for _, number := range []int{0, 1, 2, maxList, maxList + 1, maxList + 2, 65535, 65536, 1 << 32, maxLong - 1, maxLong} {
		g := newGaps(t, 2, 1)
		hear(t, g, number, 0, true)
		lacks(t, g)
		due(t, g, 0)
		hear(t, g, number, 0, false)
		for _, below := range []int{number - 1, number / 2, 0} {
			if below >= 0 && below < number {
				hear(t, g, below, 1, false)
			}
		}
		lacks(t, g)
		due(t, g, 9)
		gaveUp(t, g)
	}
}

// TestFirstBehindOtherCalls: neither a Due nor a call that was refused makes a number the first one.
func TestFirstBehindOtherCalls(t *testing.T) {
	g := newGaps(t, 3, 2)
	due(t, g, 4)
	lacks(t, g)
	hearRefused(t, g, -1, 5, api.ErrRange)
	hearRefused(t, g, maxLong+1, 5, api.ErrRange)
	hear(t, g, 900, 4, true)
	lacks(t, g)
	hear(t, g, 902, 4, true)
	lacks(t, g, 901)
}

func TestNumbersThatFollow(t *testing.T) {
	for _, first := range []int{0, 7, maxLong - 50} {
		g := newGaps(t, 1, 1)
		for number := first; number <= first+50; number++ {
			hear(t, g, number, 3, true)
			lacks(t, g)
		}
		due(t, g, 3)
		for number := first; number <= first+50; number++ {
			hear(t, g, number, 3, false)
		}
		lacks(t, g)
	}
}

// TestLeftOut: one, two and many that are left out are lacking, at small and at great numbers.
func TestLeftOut(t *testing.T) {
	for _, many := range []int{1, 2, 3, 17, maxList - 1, maxList} {
		for _, first := range []int{0, 1, 65500, maxLong - many - 1} {
			g := newGaps(t, 5, 2)
			hear(t, g, first, 0, true)
			hear(t, g, first+many+1, 0, true)
			lacks(t, g, from(first+1, many)...)
			due(t, g, 0, from(first+1, many)...)
			lacks(t, g, from(first+1, many)...)
		}
	}
}

// TestTooManyLackAtOnce: MaxList may be left out, one more and many more may not, and nothing is changed then.
func TestTooManyLackAtOnce(t *testing.T) {
	for _, first := range []int{0, 1, 5000, maxLong - maxList - 2} {
		g := newGaps(t, 5, 2)
		hear(t, g, first, 0, true)
		for _, number := range []int{first + maxList + 2, min(first+maxList+3, maxLong), maxLong - 1, maxLong} {
			if number < first+maxList+2 {
				continue
			}
			hearRefused(t, g, number, 9, api.ErrFull)
			lacks(t, g)
		}
		due(t, g, 1)
		hear(t, g, first+1, 1, true)
		hear(t, g, first+maxList+2, 1, true)
		lacks(t, g, from(first+2, maxList)...)
	}
}

// TestTooManyLackInAll: what is lacking already counts, whatever the way on which it came together.
func TestTooManyLackInAll(t *testing.T) {
	g := newGaps(t, 5, 2)
	hear(t, g, 0, 0, true)
	hear(t, g, 150, 0, true)
	hearRefused(t, g, 150+53, 0, api.ErrFull)
	hear(t, g, 150+52, 0, true)
	full := append(from(1, 149), from(151, 51)...)
	lacks(t, g, full...)

	// With MaxList lacking one that follows is taken, one that leaves another out is not.
	hearRefused(t, g, 204, 0, api.ErrFull)
	hearRefused(t, g, maxLong, 0, api.ErrFull)
	hear(t, g, 203, 0, true)
	hear(t, g, 203, 0, false)
	hear(t, g, 0, 0, false)
	hearRefused(t, g, 205, 0, api.ErrFull)
	lacks(t, g, full...)

	// One that was lacking comes, and makes room for just one.
	hear(t, g, 100, 0, true)
	hearRefused(t, g, 206, 0, api.ErrFull)
	hear(t, g, 205, 0, true)
	full = append(slices.Delete(full, 99, 100), 204)
	lacks(t, g, full...)
	due(t, g, 0, full...)
}

// TestGivenUpMakesRoom: what was given up does not count as lacking.
func TestGivenUpMakesRoom(t *testing.T) {
	g := newGaps(t, 2, 1)
	hear(t, g, 0, 0, true)
	hear(t, g, maxList+1, 0, true)
	due(t, g, 0, from(1, maxList)...)
	hearRefused(t, g, maxList+3, 1, api.ErrFull)
	due(t, g, 2)
	lacks(t, g)
	hearRefused(t, g, 2*maxList+3, 2, api.ErrFull)
	hear(t, g, 2*maxList+2, 2, true)
	lacks(t, g, from(maxList+2, maxList)...)
	due(t, g, 2, from(maxList+2, maxList)...)
	due(t, g, 4)
	gaveUp(t, g, append(from(1, maxList), from(maxList+2, maxList)...)...)
}

func TestLackingComes(t *testing.T) {
	g := newGaps(t, 5, 3)
	hear(t, g, 10, 0, true)
	hear(t, g, 15, 0, true)
	lacks(t, g, 11, 12, 13, 14)
	hear(t, g, 13, 1, true)
	lacks(t, g, 11, 12, 14)
	hear(t, g, 13, 1, false)
	due(t, g, 1, 11, 12, 14)
	// What was asked for may come, too, and is not asked for again.
	hear(t, g, 11, 2, true)
	hear(t, g, 11, 2, false)
	hear(t, g, 14, 3, true)
	lacks(t, g, 12)
	due(t, g, 6, 12)
	hear(t, g, 12, 6, true)
	hear(t, g, 12, 6, false)
	lacks(t, g)
	due(t, g, 100)
	gaveUp(t, g)
	for number := 9; number <= 15; number++ {
		hear(t, g, number, 100, false)
	}
	hear(t, g, 16, 100, true)
	lacks(t, g)
}

func TestGivenUpComesThen(t *testing.T) {
	g := newGaps(t, 2, 1)
	hear(t, g, 0, 0, true)
	hear(t, g, 4, 0, true)
	due(t, g, 0, 1, 2, 3)
	hear(t, g, 2, 1, true)
	due(t, g, 2)
	lacks(t, g)
	// It is not lacking any more, and it is told all the same that it was given up.
	hear(t, g, 1, 2, false)
	gaveUp(t, g, 1, 3)
	hear(t, g, 3, 2, false)
	hear(t, g, 3, 3, false)
	hear(t, g, 1, 3, false)
	lacks(t, g)
	due(t, g, 50)
	gaveUp(t, g)
	hear(t, g, 6, 50, true)
	lacks(t, g, 5)
}

// TestDueAgain: at once, not one short of again later, just again later; of again from 1 to MaxTime.
func TestDueAgain(t *testing.T) {
	for _, again := range []int{1, 2, 3, 10, maxTime / 2, maxTime} {
		for _, start := range []int{0, 1, maxTime - 2*again, maxTime - again} {
			if start < 0 || start > maxTime-again {
				continue
			}
			g := newGaps(t, again, 2)
			hear(t, g, 5, start, true)
			hear(t, g, 8, start, true)
			due(t, g, start, 6, 7)
			due(t, g, start)
			due(t, g, start+again-1)
			due(t, g, start+again, 6, 7)
			due(t, g, start+again)
			lacks(t, g, 6, 7)
			gaveUp(t, g)
			if start+2*again > maxTime {
				continue
			}
			due(t, g, start+2*again-1)
			lacks(t, g, 6, 7)
			due(t, g, start+2*again)
			lacks(t, g)
			gaveUp(t, g, 6, 7)
		}
	}
}

// TestDueCountsFromWhenItWasAsked: neither from when it was left out, nor from when it would have been due.
func TestDueCountsFromWhenItWasAsked(t *testing.T) {
	g := newGaps(t, 10, 3)
	hear(t, g, 0, 0, true)
	hear(t, g, 2, 0, true)
	due(t, g, 7, 1)
	due(t, g, 10)
	due(t, g, 16)
	due(t, g, 25, 1)
	due(t, g, 27)
	due(t, g, 34)
	due(t, g, 35, 1)
	due(t, g, 44)
	lacks(t, g, 1)
	gaveUp(t, g)
	due(t, g, 45)
	lacks(t, g)
	gaveUp(t, g, 1)
}

// TestEachHasItsOwnTime: numbers that were left out at other times are due at other times.
func TestEachHasItsOwnTime(t *testing.T) {
	g := newGaps(t, 10, 2)
	hear(t, g, 0, 0, true)
	hear(t, g, 2, 0, true)
	due(t, g, 0, 1)
	hear(t, g, 5, 4, true)
	due(t, g, 4, 3, 4)
	due(t, g, 10, 1)
	hear(t, g, 7, 13, true)
	due(t, g, 14, 3, 4, 6)
	due(t, g, 19)
	gaveUp(t, g)
	due(t, g, 20)
	gaveUp(t, g, 1)
	lacks(t, g, 3, 4, 6)
	due(t, g, 24, 6)
	lacks(t, g, 6)
	gaveUp(t, g, 3, 4)
	due(t, g, 40)
	lacks(t, g)
	gaveUp(t, g, 6)
}

// TestEveryTries: a number is asked for just tries times, and given up when it is due once more.
func TestEveryTries(t *testing.T) {
	for tries := 1; tries <= maxTries; tries++ {
		g := newGaps(t, 3, tries)
		hear(t, g, 40, 0, true)
		hear(t, g, 43, 0, true)
		for i := range tries {
			due(t, g, 3*i, 41, 42)
			due(t, g, 3*i+2)
			lacks(t, g, 41, 42)
			gaveUp(t, g)
		}
		due(t, g, 3*tries)
		lacks(t, g)
		gaveUp(t, g, 41, 42)
		due(t, g, 3*tries+3)
		gaveUp(t, g)
	}
}

// TestLateIsOnce: long after it was due a number is asked for once, not as often as it might have been.
func TestLateIsOnce(t *testing.T) {
	g := newGaps(t, 1, 3)
	hear(t, g, 0, 0, true)
	hear(t, g, 2, 0, true)
	due(t, g, 100, 1)
	due(t, g, 1000, 1)
	due(t, g, 500000, 1)
	gaveUp(t, g)
	due(t, g, maxTime)
	gaveUp(t, g, 1)
}

// TestGaveUpIsToldOnce: of several Dues together, rising, and then no more.
func TestGaveUpIsToldOnce(t *testing.T) {
	g := newGaps(t, 4, 1)
	hear(t, g, 0, 0, true)
	hear(t, g, 3, 0, true)
	due(t, g, 0, 1, 2)
	hear(t, g, 6, 1, true)
	due(t, g, 1, 4, 5)
	due(t, g, 4)
	lacks(t, g, 4, 5)
	due(t, g, 5)
	lacks(t, g)
	gaveUp(t, g, 1, 2, 4, 5)
	gaveUp(t, g)
	hear(t, g, 8, 6, true)
	due(t, g, 6, 7)
	gaveUp(t, g)
	due(t, g, 10)
	gaveUp(t, g, 7)
	gaveUp(t, g)
}

// TestNowAtItsEdges: 0 and MaxTime may be, and the same again; what is one beyond may not.
func TestNowAtItsEdges(t *testing.T) {
	g := newGaps(t, 1, 1)
	for _, now := range badTimes {
		hearRefused(t, g, 1, now, api.ErrRange)
		dueRefused(t, g, now, api.ErrRange)
	}
	hear(t, g, 1, 0, true)
	due(t, g, 0)
	hear(t, g, 2, 0, true)
	hear(t, g, 4, maxTime, true)
	due(t, g, maxTime, 3)
	for _, now := range badTimes {
		hearRefused(t, g, 5, now, api.ErrRange)
		hearRefused(t, g, 3, now, api.ErrRange)
		dueRefused(t, g, now, api.ErrRange)
	}
	hearRefused(t, g, 5, maxTime-1, api.ErrState)
	dueRefused(t, g, maxTime-1, api.ErrState)
	due(t, g, maxTime)
	lacks(t, g, 3)
	hear(t, g, 5, maxTime, true)
	hear(t, g, 3, maxTime, true)
	lacks(t, g)
}

// TestNowGoesBack: each call with a now moves the clock for both of them, by whatever it answers.
func TestNowGoesBack(t *testing.T) {
	behind := func(g *gaps.Gaps, last int) {
		t.Helper()
		for _, now := range []int{last - 1, last / 2, 0} {
			hearRefused(t, g, 7, now, api.ErrState)
			hearRefused(t, g, 99, now, api.ErrState)
			dueRefused(t, g, now, api.ErrState)
		}
	}
	g := newGaps(t, 1000, 5)
	hear(t, g, 5, 10, true)
	behind(g, 10)
	hear(t, g, 8, 10, true)
	hear(t, g, 8, 20, false)
	behind(g, 20)
	hear(t, g, 6, 30, true)
	behind(g, 30)
	due(t, g, 40, 7)
	behind(g, 40)
	due(t, g, 50)
	behind(g, 50)
	lacks(t, g, 7)
	due(t, g, 50)
	hear(t, g, 7, 50, true)
	lacks(t, g)
}

// TestFaultsDoNotMoveTheClock: less than in a call that told an error may be.
func TestFaultsDoNotMoveTheClock(t *testing.T) {
	for _, later := range []func(g *gaps.Gaps, now int){
		func(g *gaps.Gaps, now int) { hear(t, g, 3, now, true) },
		func(g *gaps.Gaps, now int) { due(t, g, now, 1) },
	} {
		g := newGaps(t, 100, 5)
		hear(t, g, 0, 10, true)
		hear(t, g, 2, 10, true)
		for _, number := range badNumbers {
			hearRefused(t, g, number, 500, api.ErrRange)
		}
		hearRefused(t, g, 2+maxList+1, 500, api.ErrFull)
		hearRefused(t, g, maxLong, maxTime, api.ErrFull)
		for _, now := range badTimes {
			hearRefused(t, g, 3, now, api.ErrRange)
			dueRefused(t, g, now, api.ErrRange)
		}
		hearRefused(t, g, 3, 9, api.ErrState)
		dueRefused(t, g, 9, api.ErrState)
		later(g, 10)
		hearRefused(t, g, 4, 9, api.ErrState)
	}
}

// TestWrongNumbers: they are refused with nothing, with little and with much lacking, and nothing is changed.
func TestWrongNumbers(t *testing.T) {
	for _, came := range [][]int{nil, {0}, {maxLong}, {3, 5}, {0, maxList + 1}, {maxLong - 2, maxLong}} {
		g, m := newGaps(t, 2, 2), newModel(2, 2)
		for _, number := range came {
			hear(t, g, number, 1, true)
			m.hear(number, 1)
		}
		for _, number := range badNumbers {
			hearRefused(t, g, number, 1, api.ErrRange)
		}
		lacks(t, g, m.lacking()...)
		want, _ := m.due(1)
		due(t, g, 1, want...)
	}
}

// TestTwoFaults: a now is told ahead of a number, ErrRange ahead of ErrState, and ErrFull at last.
func TestTwoFaults(t *testing.T) {
	g := newGaps(t, 2, 2)
	hear(t, g, 0, 100, true)
	hear(t, g, 2, 100, true)
	for _, number := range append([]int{2 + maxList + 1, maxLong}, badNumbers...) {
		for _, now := range badTimes {
			hearRefused(t, g, number, now, api.ErrRange)
		}
		for _, now := range []int{99, 50, 0} {
			hearRefused(t, g, number, now, api.ErrState)
		}
	}
	// Of too great a number too many would be lacking, too.
	for _, number := range badNumbers {
		hearRefused(t, g, number, 100, api.ErrRange)
	}
	lacks(t, g, 1)
	due(t, g, 100, 1)
	gaveUp(t, g)
}

// TestRefusedCallsChangeNothing: not what is asked for, nor how often, nor what is given up.
func TestRefusedCallsChangeNothing(t *testing.T) {
	g := newGaps(t, 5, 2)
	refuse := func() {
		t.Helper()
		dueRefused(t, g, -1, api.ErrRange)
		dueRefused(t, g, maxTime+1, api.ErrRange)
		hearRefused(t, g, 1, -1, api.ErrRange)
		hearRefused(t, g, 1, maxTime+1, api.ErrRange)
		hearRefused(t, g, -1, maxTime, api.ErrRange)
		hearRefused(t, g, 1000, maxTime, api.ErrFull)
		dueRefused(t, g, 9, api.ErrState)
		hearRefused(t, g, 1, 9, api.ErrState)
	}
	hear(t, g, 0, 10, true)
	hear(t, g, 3, 10, true)
	refuse()
	lacks(t, g, 1, 2)
	due(t, g, 10, 1, 2)
	refuse()
	due(t, g, 14)
	due(t, g, 15, 1, 2)
	refuse()
	due(t, g, 20)
	refuse()
	gaveUp(t, g, 1, 2)
	refuse()
	gaveUp(t, g)
	lacks(t, g)
	hear(t, g, 4, 20, true)
	lacks(t, g)
}

// number is one near what a model has, with a wrong or a far one now and then.
func (m *model) number(random *rand.Rand, first int) int {
	if random.Intn(25) == 0 {
		return badNumbers[random.Intn(len(badNumbers))]
	}
	if len(m.came) == 0 {
		return first
	}
	top := m.top()
	switch random.Intn(12) {
	case 0:
		return top + 1 + maxList - len(m.lacking()) + random.Intn(3)
	case 1:
		return top + random.Intn(90)
	case 2, 3:
		return top + 2
	case 4, 5, 6:
		return top + 1
	}
	return top - random.Intn(20)
}

func (m *model) now(random *rand.Rand) int {
	switch random.Intn(20) {
	case 0:
		return badTimes[random.Intn(len(badTimes))]
	case 1:
		return m.clock - 1
	case 2, 3, 4, 5:
		return m.clock
	case 6:
		return m.clock + m.again
	}
	return m.clock + random.Intn(3)
}

// TestAsTheModel: rows of all calls, and each time what is lacking.
func TestAsTheModel(t *testing.T) {
	random := rand.New(rand.NewSource(1))
	for range 300 {
		again, tries := 1+random.Intn(6), 1+random.Intn(4)
		g, m := newGaps(t, again, tries), newModel(again, tries)
		first := []int{0, 1, 65530, maxLong - 300, maxLong - 20, maxLong}[random.Intn(6)]
		m.clock = []int{0, 0, 500, maxTime - 60, maxTime}[random.Intn(5)]
		due(t, g, m.clock)
		for i := range 120 {
			now := m.now(random)
			switch random.Intn(5) {
			case 0, 1:
				number := m.number(random, first)
				fresh, no := m.hear(number, now)
				if got, err := g.Hear(number, now); got != fresh || plain.Told(err) != no {
					t.Fatalf("call %d: Hear(%d, %d) = %v, %v, want %v, %v", i, number, now, got, err, fresh, no)
				}
			case 2, 3:
				want, no := m.due(now)
				if got, err := g.Due(now); !slices.Equal(got, want) || plain.Told(err) != no {
					t.Fatalf("call %d: Due(%d) = %v, %v, want %v, %v", i, now, got, err, want, no)
				}
			default:
				gaveUp(t, g, m.gaveUp()...)
			}
			lacks(t, g, m.lacking()...)
			if t.Failed() {
				t.FailNow()
			}
		}
	}
}

// TestGapsAreApart: what comes to one does not come to another.
func TestGapsAreApart(t *testing.T) {
	a, b := newGaps(t, 2, 1), newGaps(t, 2, 1)
	hear(t, a, 0, 50, true)
	hear(t, a, 3, 50, true)
	lacks(t, b)
	hear(t, b, 1, 0, true)
	due(t, b, 0)
	due(t, a, 50, 1, 2)
	due(t, a, 52)
	gaveUp(t, b)
	gaveUp(t, a, 1, 2)
}

// spoil writes into all the memory that a list has.
func spoil(l []int) {
	l = l[:cap(l)]
	for i := range l {
		l[i] = -77
	}
}

// TestMemoryIsApart: who writes into what was answered changes nothing, neither here nor in another answer.
func TestMemoryIsApart(t *testing.T) {
	g := newGaps(t, 2, 1)
	hear(t, g, 0, 0, true)
	hear(t, g, 6, 0, true)
	spoil(g.Lacks())
	lacks(t, g, 1, 2, 3, 4, 5)
	one, other := g.Lacks(), g.Lacks()
	spoil(one)
	if !slices.Equal(other, from(1, 5)) {
		t.Errorf("two answers share memory: %v", other)
	}
	asked, _ := g.Due(0)
	spoil(asked)
	lacks(t, g, 1, 2, 3, 4, 5)
	due(t, g, 1)
	hear(t, g, 8, 1, true)
	due(t, g, 1, 7)
	due(t, g, 2)

	first := g.GaveUp()
	kept := slices.Clone(first)
	due(t, g, 3)
	second := g.GaveUp()
	if !slices.Equal(first, kept) || !slices.Equal(second, []int{7}) {
		t.Errorf("GaveUp = %v, then %v", first, second)
	}
	spoil(first)
	spoil(second)
	gaveUp(t, g)
	hear(t, g, 10, 3, true)
	due(t, g, 3, 9)
	due(t, g, 5)
	gaveUp(t, g, 9)
}
