package rate_test

import (
	"math"
	"math/big"
	"math/rand"
	"slices"
	"testing"

	"choirloft/api"
	"choirloft/plain"
	"choirloft/rate"
)

const maxRate, maxTime, maxList, maxLayer = 1_000_000, 1_000_000, 200, 3

// badRates: numbers that no rate is, just below 0 and just above MaxRate, and far away.
var badRates = []int{-1, -2, -maxRate, math.MinInt, math.MinInt + 1, math.MinInt32, -1 << 32,
	maxRate + 1, maxRate + 2, 2 * maxRate, 1 << 32, 1<<32 + 1, math.MaxInt - 1, math.MaxInt}

// badGuesses: likewise of what New takes, which begins at 1.
var badGuesses = append([]int{0}, badRates...)

// badAlls: likewise of how many packets there were.
var badAlls = []int{0, -1, -2, -maxTime, math.MinInt, math.MinInt + 1,
	maxTime + 1, maxTime + 2, 2 * maxTime, 1 << 32, 1<<32 + 1, math.MaxInt - 1, math.MaxInt}

func fair(t *testing.T, all int, wants []int, want ...int) {
	t.Helper()
	if got, err := rate.Fair(all, wants); !slices.Equal(got, want) || err != nil {
		t.Errorf("Fair(%d, %v) = %v, %v, want %v", all, wants, got, err, want)
	}
}

func fairRefused(t *testing.T, all int, wants []int, want api.Errno) {
	t.Helper()
	if got, err := rate.Fair(all, wants); len(got) != 0 || plain.Told(err) != want {
		t.Errorf("Fair(%d, %v) = %v, %v, want %v", all, wants, got, err, want)
	}
}

func chooses(t *testing.T, most int, layers []int, want int) {
	t.Helper()
	if got, err := rate.Choose(most, layers); got != want || err != nil {
		t.Errorf("Choose(%d, %v) = %d, %v, want %d", most, layers, got, err, want)
	}
}

func chooseRefused(t *testing.T, most int, layers []int, want api.Errno) {
	t.Helper()
	if got, err := rate.Choose(most, layers); got != 0 || plain.Told(err) != want {
		t.Errorf("Choose(%d, %v) = %d, %v, want %v", most, layers, got, err, want)
	}
}

func newGuess(t *testing.T, begin, low, high int) *rate.Guess {
	t.Helper()
	g, err := rate.New(begin, low, high)
	if g == nil || err != nil {
		t.Fatalf("New(%d, %d, %d) = %v, %v", begin, low, high, g, err)
	}
	is(t, g, begin)
	return g
}

func newRefused(t *testing.T, begin, low, high int, want api.Errno) {
	t.Helper()
	if g, err := rate.New(begin, low, high); g != nil || plain.Told(err) != want {
		t.Errorf("New(%d, %d, %d) = %v, %v, want %v", begin, low, high, g, err, want)
	}
}

func is(t *testing.T, g *rate.Guess, want int) {
	t.Helper()
	if got := g.Rate(); got != want {
		t.Errorf("Rate = %d, want %d", got, want)
	}
}

// reports tells what comes of a Report, and that Rate says the same behind it.
func reports(t *testing.T, g *rate.Guess, lost, all, want int) {
	t.Helper()
	ahead := g.Rate()
	if got, err := g.Report(lost, all); got != want || err != nil {
		t.Errorf("from %d, Report(%d, %d) = %d, %v, want %d", ahead, lost, all, got, err, want)
	}
	is(t, g, want)
}

// reportRefused tells that a Report goes wrong, and changes nothing.
func reportRefused(t *testing.T, g *rate.Guess, lost, all int) {
	t.Helper()
	ahead := g.Rate()
	if got, err := g.Report(lost, all); got != 0 || plain.Told(err) != api.ErrRange {
		t.Errorf("Report(%d, %d) = %d, %v", lost, all, got, err)
	}
	is(t, g, ahead)
}

// dealt is another way to a fair share: one by one, round and round, to all that want more, until nothing is left.
func dealt(all int, wants []int) []int {
	shares := make([]int, len(wants))
	for gave := true; gave; {
		gave = false
		for i, want := range wants {
			if all > 0 && shares[i] < want {
				shares[i]++
				all--
				gave = true
			}
		}
	}
	return shares
}

// levelled is the chapter's R1, word by word: the greatest number is looked for by halves.
func levelled(all int, wants []int) []int {
	less := func(level int) (shares []int, sum int) {
		for _, want := range wants {
			shares = append(shares, min(level, want))
			sum += min(level, want)
		}
		return shares, sum
	}
	level, over := 0, maxRate+1
	for over-level > 1 {
		middle := (level + over) / 2
		if _, sum := less(middle); sum <= all {
			level = middle
		} else {
			over = middle
		}
	}
	shares, sum := less(level)
	for i := range shares {
		if sum < all && shares[i] < wants[i] {
			shares[i]++
			sum++
		}
	}
	return shares
}

// lists calls do with each list of n numbers from 0 to most.
func lists(n, most int, do func(l []int)) {
	if n == 0 {
		do(nil)
		return
	}
	lists(n-1, most, func(ahead []int) {
		for last := 0; last <= most; last++ {
			do(append(slices.Clone(ahead), last))
		}
	})
}

func TestFairOfAllShortLists(t *testing.T) {
	for n := 0; n <= 5; n++ {
		lists(n, 4, func(wants []int) {
			for all := 0; all <= 4*n+2; all++ {
				want := dealt(all, wants)
				fair(t, all, wants, want...)
				if other := levelled(all, wants); !slices.Equal(other, want) {
					t.Fatalf("the two models differ: %d, %v: %v, %v", all, wants, want, other)
				}
			}
		})
	}
}

func TestFairByLot(t *testing.T) {
	lot := rand.New(rand.NewSource(14))
	for range 3000 {
		top := []int{1, 3, 100, 10_000, maxRate}[lot.Intn(5)]
		wants := make([]int, lot.Intn(maxList+1))
		sum := 0
		for i := range wants {
			wants[i] = lot.Intn(top + 1)
			sum += wants[i]
		}
		all := lot.Intn(min(maxRate, sum+sum/4) + 1)
		fair(t, all, wants, levelled(all, wants)...)
	}
}

func TestFairWhereThereIsEnough(t *testing.T) {
	fair(t, 0, nil)
	fair(t, 0, []int{})
	fair(t, maxRate, nil)
	fair(t, 0, []int{0}, 0)
	fair(t, 0, []int{0, 0, 0}, 0, 0, 0)
	fair(t, 59, []int{15}, 15)
	fair(t, maxRate, []int{maxRate}, maxRate)
	fair(t, maxRate, []int{maxRate - 1}, maxRate-1)
	fair(t, maxRate, []int{0, maxRate, 0}, 0, maxRate, 0)
	wants := []int{30, 5, 20}
	fair(t, 55, wants, 30, 5, 20)
	fair(t, 56, wants, 30, 5, 20)
	fair(t, maxRate, wants, 30, 5, 20)
}

func TestFairWhereThereIsNotEnough(t *testing.T) {
	wants := []int{30, 5, 20}
	fair(t, 54, wants, 29, 5, 20)
	fair(t, 45, wants, 20, 5, 20)
	fair(t, 44, wants, 20, 5, 19)
	fair(t, 15, wants, 5, 5, 5)
	fair(t, 14, wants, 5, 5, 4)
	fair(t, 2, wants, 1, 1, 0)
	fair(t, 1, wants, 1, 0, 0)
	fair(t, 0, wants, 0, 0, 0)
	fair(t, maxRate-1, []int{maxRate}, maxRate-1)
	fair(t, maxRate, []int{maxRate, maxRate}, maxRate/2, maxRate/2)
	fair(t, maxRate-1, []int{maxRate, maxRate}, maxRate/2, maxRate/2-1)
	fair(t, maxRate, []int{maxRate, 1}, maxRate-1, 1)
	fair(t, 0, []int{maxRate, maxRate}, 0, 0)
}

func TestFairOfEquals(t *testing.T) {
	equal := []int{7, 7, 7, 7}
	fair(t, 29, equal, 7, 7, 7, 7)
	fair(t, 28, equal, 7, 7, 7, 7)
	fair(t, 27, equal, 7, 7, 7, 6)
	fair(t, 25, equal, 7, 6, 6, 6)
	fair(t, 24, equal, 6, 6, 6, 6)
	fair(t, 3, equal, 1, 1, 1, 0)
}

func TestFairOfOneThatWantsLittle(t *testing.T) {
	fair(t, 100, []int{90, 3, 90}, 49, 3, 48)
	fair(t, 100, []int{3, 90, 90}, 3, 49, 48)
	fair(t, 100, []int{90, 90, 3}, 49, 48, 3)
	fair(t, 100, []int{90, 0, 90}, 50, 0, 50)
	// Two that want little leave more to the other one than a third.
	fair(t, 90, []int{10, 80, 20}, 10, 60, 20)
}

func TestFairOfWhatIsLeft(t *testing.T) {
	wants := []int{9, 9, 9, 9}
	fair(t, 20, wants, 5, 5, 5, 5) // nothing
	fair(t, 21, wants, 6, 5, 5, 5) // one
	fair(t, 23, wants, 6, 6, 6, 5) // as many as there may be
	// The first ones want no more: they are passed over, the one that wants just as much as all get among them.
	fair(t, 21, []int{1, 5, 9, 9}, 1, 5, 8, 7)
	fair(t, 12, []int{5, 1, 9, 9}, 4, 1, 4, 3)
	fair(t, 18, []int{5, 0, 2, 9, 9}, 5, 0, 2, 6, 5)
	fair(t, 17, []int{5, 5, 9, 0, 9}, 5, 4, 4, 0, 4)
	fair(t, 17, []int{4, 5, 9, 0, 9}, 4, 5, 4, 0, 4)
	fair(t, 18, []int{4, 4, 9, 4, 9}, 4, 4, 4, 3, 3)
}

func TestFairOfMany(t *testing.T) {
	full := slices.Repeat([]int{maxRate}, maxList)
	fair(t, maxRate, full, slices.Repeat([]int{maxRate / maxList}, maxList)...)
	left := slices.Repeat([]int{5000}, maxList)
	left[maxList-1]--
	fair(t, maxRate-1, full, left...)
	one := make([]int, maxList)
	one[0] = 1
	fair(t, 1, full, one...)
	fair(t, 0, full, make([]int, maxList)...)
	fair(t, maxRate, make([]int, maxList), make([]int, maxList)...)
	fairRefused(t, maxRate, append(full, maxRate), api.ErrFull)
	fairRefused(t, 0, make([]int, maxList+1), api.ErrFull)
	fairRefused(t, 0, make([]int, 2*maxList), api.ErrFull)
	fairRefused(t, 0, make([]int, 1<<16), api.ErrFull)
}

func TestFairRefuses(t *testing.T) {
	for _, bad := range badRates {
		fairRefused(t, bad, nil, api.ErrRange)
		fairRefused(t, bad, []int{1, 2}, api.ErrRange)
		fairRefused(t, bad, []int{bad}, api.ErrRange)
		fairRefused(t, bad, make([]int, maxList), api.ErrRange)
		fairRefused(t, bad, make([]int, maxList+1), api.ErrFull)
		for at := range 3 {
			wants := []int{1, 2, 3}
			wants[at] = bad
			fairRefused(t, 0, wants, api.ErrRange)
			fairRefused(t, 6, wants, api.ErrRange)
			fairRefused(t, maxRate, wants, api.ErrRange)
		}
		many := make([]int, maxList+1)
		many[maxList-1] = bad
		fairRefused(t, maxRate, many[:maxList], api.ErrRange)
		fairRefused(t, maxRate, many, api.ErrFull)
		fairRefused(t, bad, many, api.ErrFull)
	}
}

func TestChooseOfAllShortLists(t *testing.T) {
	for n := 0; n <= maxLayer+1; n++ {
		lists(n, 4, func(layers []int) {
			for most := 0; most <= 5; most++ {
				last := -1
				for i, needed := range layers {
					if needed <= most {
						last = i
					}
				}
				if last < 0 {
					chooseRefused(t, most, layers, api.ErrNone)
				} else {
					chooses(t, most, layers, last)
				}
			}
		})
	}
}

func TestChoose(t *testing.T) {
	rising := []int{10, 20, 30, 40}
	chooseRefused(t, 0, rising, api.ErrNone)
	chooseRefused(t, 9, rising, api.ErrNone)
	chooses(t, 10, rising, 0)
	chooses(t, 19, rising, 0)
	chooses(t, 20, rising, 1)
	chooses(t, 39, rising, 2)
	chooses(t, 40, rising, 3)
	chooses(t, maxRate, rising, 3)
	falling := []int{40, 30, 20, 10}
	chooseRefused(t, 9, falling, api.ErrNone)
	chooses(t, 10, falling, 3)
	chooses(t, maxRate, falling, 3)
	chooses(t, 20, []int{20, 20, 20}, 2)
	chooseRefused(t, 19, []int{20, 20, 20}, api.ErrNone)
	chooses(t, 20, []int{21, 20, 21}, 1)
	chooses(t, 25, []int{30, 10, 50, 40}, 1)
	chooses(t, 25, []int{10, 30, 20, 40}, 2)
}

func TestChooseAtTheEdges(t *testing.T) {
	chooseRefused(t, 0, nil, api.ErrNone)
	chooseRefused(t, maxRate, nil, api.ErrNone)
	chooseRefused(t, maxRate, []int{}, api.ErrNone)
	chooses(t, 0, []int{0}, 0)
	chooses(t, 0, []int{0, 1}, 0)
	chooses(t, 0, []int{1, 0}, 1)
	chooses(t, maxRate, []int{maxRate}, 0)
	chooses(t, maxRate, []int{maxRate, maxRate}, 1)
	chooses(t, maxRate-1, []int{maxRate - 1, maxRate}, 0)
	chooseRefused(t, maxRate-1, []int{maxRate}, api.ErrNone)
	chooses(t, maxRate, make([]int, maxLayer+1), maxLayer)
	chooseRefused(t, maxRate, make([]int, maxLayer+2), api.ErrFull)
	chooseRefused(t, 0, []int{1, 1, 1, 1, 1}, api.ErrFull)
	chooseRefused(t, maxRate, make([]int, 1<<16), api.ErrFull)
}

func TestChooseRefuses(t *testing.T) {
	for _, bad := range badRates {
		chooseRefused(t, bad, nil, api.ErrRange)
		chooseRefused(t, bad, []int{0}, api.ErrRange)
		chooseRefused(t, bad, []int{bad}, api.ErrRange)
		chooseRefused(t, bad, make([]int, maxLayer+2), api.ErrFull)
		for at := range maxLayer + 1 {
			layers := []int{1, 2, 3, 4}
			layers[at] = bad
			chooseRefused(t, 0, layers, api.ErrRange) // none is at most 0, too
			chooseRefused(t, 9, layers, api.ErrRange)
			chooseRefused(t, 9, append(layers, 5), api.ErrFull)
			chooseRefused(t, bad, append(layers, 5), api.ErrFull)
		}
		chooseRefused(t, 9, []int{1, 2, 3, 4, bad}, api.ErrFull)
	}
}

func TestNew(t *testing.T) {
	newGuess(t, 1, 1, 1)
	newGuess(t, maxRate, maxRate, maxRate)
	newGuess(t, 1, 1, maxRate)
	newGuess(t, 2, 1, maxRate)
	newGuess(t, maxRate-1, 1, maxRate)
	newGuess(t, maxRate, 1, maxRate)
	newGuess(t, 50, 50, 50)
	newGuess(t, 50, 50, 60)
	newGuess(t, 60, 50, 60)
	newGuess(t, 55, 50, 60)
}

func TestNewRefuses(t *testing.T) {
	newRefused(t, 49, 50, 60, api.ErrShape)
	newRefused(t, 61, 50, 60, api.ErrShape)
	newRefused(t, 49, 50, 50, api.ErrShape)
	newRefused(t, 51, 50, 50, api.ErrShape)
	newRefused(t, 1, 2, maxRate, api.ErrShape)
	newRefused(t, maxRate, 1, maxRate-1, api.ErrShape)
	// low is one above high, and far above it: no rate is between.
	for _, begin := range []int{1, 49, 50, 51, 52, maxRate} {
		newRefused(t, begin, 51, 50, api.ErrShape)
		newRefused(t, begin, maxRate, 1, api.ErrShape)
	}
	for _, bad := range badGuesses {
		newRefused(t, bad, 50, 60, api.ErrRange)
		newRefused(t, 55, bad, 60, api.ErrRange)
		newRefused(t, 55, 50, bad, api.ErrRange)
		newRefused(t, bad, bad, 60, api.ErrRange)
		newRefused(t, 55, bad, bad, api.ErrRange)
		newRefused(t, bad, bad, bad, api.ErrRange)
		// What is not in shape is told behind what is not in range.
		newRefused(t, bad, 60, 50, api.ErrRange)
		newRefused(t, 70, bad, 60, api.ErrRange)
		newRefused(t, 40, 50, bad, api.ErrRange)
	}
}

func TestNewOfAllSmallNumbers(t *testing.T) {
	for begin := -1; begin <= 5; begin++ {
		for low := -1; low <= 5; low++ {
			for high := -1; high <= 5; high++ {
				switch {
				case begin < 1 || low < 1 || high < 1:
					newRefused(t, begin, low, high, api.ErrRange)
				case low <= begin && begin <= high:
					newGuess(t, begin, low, high)
				default:
					newRefused(t, begin, low, high, api.ErrShape)
				}
			}
		}
	}
}

func TestReportWhereMuchIsLost(t *testing.T) {
	guess := func(begin int) *rate.Guess { return newGuess(t, begin, 1, maxRate) }
	reports(t, guess(1000), 10, 100, 1000) // just a tenth
	reports(t, guess(1000), 11, 100, 945)  // less by 55
	reports(t, guess(1000), 100, 100, 500)
	reports(t, guess(1000), 1, 10, 1000)
	reports(t, guess(1000), 2, 10, 900)
	reports(t, guess(1000), 1, 9, 945) // 55.6
	reports(t, guess(1000), 1, 11, 1000)
	reports(t, guess(1000), 2, 19, 948)                     // 52.6: just above a tenth, as 20 would be just that
	reports(t, guess(1000), 2, 20, 1000)                    // just a tenth
	reports(t, guess(1000), 2, 21, 1000)                    // and below it
	reports(t, guess(94), 2, 8, 83)                         // 11.75
	reports(t, guess(1), 1, 1, 1)                           // 0.5
	reports(t, guess(2), 1, 1, 1)                           // 1
	reports(t, guess(3), 1, 1, 2)                           // 1.5
	reports(t, guess(3), 1, 2, 3)                           // 0.75
	reports(t, guess(maxRate), maxTime, maxTime, maxRate/2) // the greatest product that there is
	reports(t, guess(maxRate), maxTime-1, maxTime, 500_001) // 499999.5
	reports(t, guess(maxRate), 100_001, maxTime, 950_000)   // 50000.5
	reports(t, guess(maxRate), 100_000, maxTime, maxRate)   // just a tenth
	reports(t, guess(maxRate-1), maxTime, maxTime, 500_000) // 499999.5
	reports(t, guess(999_983), 999_979, maxTime, 500_002)   // 499981.0
	reports(t, guess(999_983), 333_333, 999_983, 999_983-166_666)
}

func TestReportWhereLittleIsLost(t *testing.T) {
	guess := func(begin int) *rate.Guess { return newGuess(t, begin, 1, maxRate) }
	reports(t, guess(1000), 2, 100, 1000) // just a fiftieth
	reports(t, guess(1000), 1, 100, 1051) // one less: a twentieth, and one
	reports(t, guess(1000), 0, 100, 1051)
	reports(t, guess(1000), 1, 50, 1000)
	reports(t, guess(1000), 1, 49, 1000)
	reports(t, guess(1000), 1, 51, 1051)
	reports(t, guess(1000), 0, 50, 1051)
	reports(t, guess(1000), 0, 1, 1051)
	reports(t, guess(1000), 0, maxTime, 1051)
	reports(t, guess(1000), 19_999, maxTime, 1051)
	reports(t, guess(1000), 20_000, maxTime, 1000)
	reports(t, guess(1), 0, 1, 2)
	reports(t, guess(19), 0, 1, 20)
	reports(t, guess(20), 0, 1, 22)
	reports(t, guess(39), 0, 1, 41)
	reports(t, guess(40), 0, 1, 43)
	reports(t, guess(952_380), 0, 1, 1_000_000)
	reports(t, guess(952_379), 0, 1, 999_998)
}

func TestReportBetween(t *testing.T) {
	g := newGuess(t, 1000, 1, maxRate)
	for lost := 2; lost <= 10; lost++ {
		reports(t, g, lost, 100, 1000)
	}
	reports(t, g, 20_000, maxTime, 1000)
	reports(t, g, 100_000, maxTime, 1000)
	reports(t, g, 1, 10, 1000)
	reports(t, g, 1, 50, 1000)
}

func TestReportStaysFromLowToHigh(t *testing.T) {
	reports(t, newGuess(t, 100, 50, 200), 1, 1, 50)
	reports(t, newGuess(t, 100, 51, 200), 1, 1, 51)
	reports(t, newGuess(t, 100, 49, 200), 1, 1, 50)
	reports(t, newGuess(t, 100, 100, 200), 1, 1, 100)
	reports(t, newGuess(t, 100, 50, 106), 0, 1, 106)
	reports(t, newGuess(t, 100, 50, 105), 0, 1, 105)
	reports(t, newGuess(t, 100, 50, 107), 0, 1, 106)
	reports(t, newGuess(t, 100, 50, 100), 0, 1, 100)
	reports(t, newGuess(t, maxRate, 1, maxRate), 0, maxTime, maxRate)
	g := newGuess(t, 70, 70, 70)
	reports(t, g, 1, 1, 70)
	reports(t, g, 0, 1, 70)
	reports(t, g, 1, 20, 70)
}

func TestReportsInARow(t *testing.T) {
	g := newGuess(t, 1, 1, 100)
	for want := 2; want <= 20; want++ { // a twentieth is 0
		reports(t, g, 0, 7, want)
	}
	for _, want := range []int{22, 24, 26, 28, 30, 32, 34, 36, 38, 40, 43, 46, 49, 52, 55, 58, 61, 65, 69, 73, 77, 81, 86, 91, 96, 100, 100} {
		reports(t, g, 0, 7, want)
	}
	for _, want := range []int{50, 25, 13, 7, 4, 2, 1, 1} {
		reports(t, g, 7, 7, want)
	}
	reports(t, g, 0, 7, 2)
	g = newGuess(t, 100, 30, 100)
	for _, want := range []int{50, 30, 30, 30} {
		reports(t, g, 7, 7, want)
	}
	reports(t, g, 0, 7, 32) // from low on, not from what was below it
	g = newGuess(t, 90, 30, 92)
	for _, want := range []int{92, 92, 92} {
		reports(t, g, 0, 7, want)
	}
	reports(t, g, 7, 7, 46) // likewise
}

func TestReportRefuses(t *testing.T) {
	g := newGuess(t, 1000, 1, maxRate)
	for _, bad := range badAlls {
		for _, lost := range []int{0, 1, -1, bad, maxTime, math.MinInt, math.MaxInt} {
			reportRefused(t, g, lost, bad)
		}
	}
	for _, all := range []int{1, 2, 10, 50, 100, maxTime - 1, maxTime} {
		for _, lost := range []int{-1, -2, -all, math.MinInt, math.MinInt + 1, -1 << 32,
			all + 1, all + 2, 2 * all, 10 * all, 1 << 32, 1<<32 + 1, math.MaxInt/10 + 1, math.MaxInt - 1, math.MaxInt} {
			if lost != all {
				reportRefused(t, g, lost, all)
			}
		}
	}
	reports(t, g, 1, 1, 500)
	reportRefused(t, g, 2, 1)
	reports(t, g, 0, 1, 526)
	reportRefused(t, g, 0, 0)
	reportRefused(t, g, -1, 1)
	reports(t, g, 1, 1, 263)
}

// reported is the chapter's R2 with fractions as they are, rounded where it says so.
func reported(begin, low, high, lost, all int) int {
	part := big.NewRat(int64(lost), int64(all))
	switch {
	case part.Cmp(big.NewRat(1, 10)) > 0:
		half := big.NewRat(int64(begin), 2)
		begin -= floor(half.Mul(half, part))
	case part.Cmp(big.NewRat(1, 50)) < 0:
		begin += floor(big.NewRat(int64(begin), 20)) + 1
	}
	return min(high, max(low, begin))
}

func floor(r *big.Rat) int {
	return int(new(big.Int).Div(r.Num(), r.Denom()).Int64())
}

func TestReportOfAllSmallNumbers(t *testing.T) {
	for _, begin := range []int{1, 2, 3, 7, 19, 20, 21, 39, 40, 97, 100} {
		for all := 1; all <= 105; all++ {
			for lost := 0; lost <= all; lost++ {
				low, high := max(1, begin*2/3), begin+3
				g := newGuess(t, begin, low, high)
				reports(t, g, lost, all, reported(begin, low, high, lost, all))
			}
		}
	}
}

func TestReportsByLot(t *testing.T) {
	lot := rand.New(rand.NewSource(15))
	for range 300 {
		three := []int{1 + lot.Intn(maxRate), 1 + lot.Intn(maxRate), 1 + lot.Intn(maxRate)}
		slices.Sort(three)
		low, now, high := three[0], three[1], three[2]
		if lot.Intn(2) == 0 {
			low, high = 1, maxRate
		}
		g := newGuess(t, now, low, high)
		for range 60 {
			all := 1 + lot.Intn([]int{3, 120, maxTime}[lot.Intn(3)])
			lost := lot.Intn(all/[]int{1, 8, 30}[lot.Intn(3)] + 1)
			if lot.Intn(5) == 0 {
				lost = min(all, max(0, all/[]int{10, 50}[lot.Intn(2)]+lot.Intn(3)-1))
			}
			if lot.Intn(10) == 0 {
				reportRefused(t, g, all+1, all)
			}
			now = reported(now, low, high, lost, all)
			reports(t, g, lost, all, now)
		}
	}
}

// TestGuessesAreApart: what one is told, and what of it goes wrong, the other one does not know.
func TestGuessesAreApart(t *testing.T) {
	a, b := newGuess(t, 100, 40, 110), newGuess(t, 100, 20, 200)
	reports(t, a, 1, 1, 50)
	is(t, b, 100)
	reports(t, b, 0, 1, 106)
	is(t, a, 50)
	reports(t, a, 1, 1, 40)
	reportRefused(t, a, 2, 1)
	reports(t, b, 0, 1, 112)
	is(t, a, 40)
	newGuess(t, 7, 1, 9)
	newRefused(t, 7, 9, 1, api.ErrShape)
	is(t, a, 40)
	is(t, b, 112)
}

// TestListsAreLeft: neither a list that is handed in nor what lies behind its length is written into.
func TestListsAreLeft(t *testing.T) {
	for _, whole := range [][]int{{30, 5, 20, 99, 98}, {9, 8, 7, -1, -2}, {-1, 5, maxRate + 1, 7, 8}, {0, 0, 0, 0, 0}} {
		for n := range whole {
			for _, all := range []int{-1, 0, 1, 14, 44, 54, 55, maxRate, maxRate + 1} {
				kept := slices.Clone(whole)
				rate.Fair(all, kept[:n])
				rate.Choose(all, kept[:n])
				if !slices.Equal(kept, whole) {
					t.Fatalf("Fair or Choose of %d wrote into %v: %v", all, whole[:n], kept)
				}
			}
		}
	}
	many := slices.Repeat([]int{3, 1, 2}, 70)
	kept := slices.Clone(many)
	rate.Fair(9, kept)
	rate.Choose(9, kept)
	if !slices.Equal(kept, many) {
		t.Error("a list that is too long was written into")
	}
}

// TestWhatLiesBehindIsNotRead: a want behind the list's length, be it wrong, is none.
func TestWhatLiesBehindIsNotRead(t *testing.T) {
	whole := []int{30, 5, -1, maxRate + 1, 0}
	fair(t, 20, whole[:2], 15, 5)
	chooses(t, 20, whole[:2], 1)
	long := make([]int, maxList, maxList+50)
	fair(t, 20, long, make([]int, maxList)...)
}

// spoil overwrites a list up to its capacity.
func spoil(l []int) {
	l = l[:cap(l)]
	for i := range l {
		l[i] = -77
	}
}

func TestSharesAreFresh(t *testing.T) {
	for _, all := range []int{0, 14, 54, 55, 56, maxRate} {
		wants := []int{30, 5, 20}
		first, err := rate.Fair(all, wants)
		if err != nil {
			t.Fatal(err)
		}
		want := slices.Clone(first)
		second, _ := rate.Fair(all, wants)
		spoil(second)
		if !slices.Equal(wants, []int{30, 5, 20}) || !slices.Equal(first, want) {
			t.Errorf("of %d: what Fair answers shares memory: %v, %v", all, wants, first)
		}
		spoil(wants)
		if !slices.Equal(first, want) {
			t.Errorf("of %d: what Fair answers shares memory with wants: %v", all, first)
		}
		fair(t, all, []int{30, 5, 20}, want...)
	}
}

// TestAnswersHangOnArgumentsAlone: Fair and Choose say the same again, whatever was called between, wrong or not.
func TestAnswersHangOnArgumentsAlone(t *testing.T) {
	g := newGuess(t, 100, 50, 200)
	for range 3 {
		fair(t, 44, []int{30, 5, 20}, 20, 5, 19)
		chooses(t, 25, []int{10, 30, 20, 40}, 2)
		fairRefused(t, -1, []int{1}, api.ErrRange)
		chooseRefused(t, 1, []int{2}, api.ErrNone)
		fairRefused(t, 1, make([]int, maxList+1), api.ErrFull)
		is(t, g, 100)
	}
	reports(t, g, 1, 1, 50)
	fair(t, 44, []int{30, 5, 20}, 20, 5, 19)
	chooses(t, 25, []int{10, 30, 20, 40}, 2)
}
