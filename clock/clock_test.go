package clock_test

import (
	"math"
	"testing"

	"choirloft/api"
	"choirloft/clock"
	"choirloft/plain"
)

const maxTime = 1000000

// at sets a clock to a now that it must take.
func at(t *testing.T, c clock.Clock, now int) clock.Clock {
	t.Helper()
	next, err := c.At(now)
	if err != nil {
		t.Fatalf("At(%d) = %v", now, err)
	}
	return next
}

func refused(t *testing.T, c clock.Clock, now int, want api.Errno) {
	t.Helper()
	if next, err := c.At(now); next != (clock.Clock{}) || plain.Told(err) != want {
		t.Errorf("At(%d) = %v, %v, want %v", now, next, err, want)
	}
}

func TestEveryFirstTime(t *testing.T) {
	for _, now := range []int{0, 1, 2, 65535, 65536, maxTime - 1, maxTime} {
		at(t, clock.Clock{}, now)
	}
}

// TestTimesThatMayNotBe: they are ErrRange wherever the clock stands, also where they would go back.
func TestTimesThatMayNotBe(t *testing.T) {
	for _, last := range []int{0, 1, 500, maxTime} {
		c := at(t, clock.Clock{}, last)
		for _, now := range []int{-1, -2, -maxTime, math.MinInt, math.MinInt + 1,
			maxTime + 1, maxTime + 2, 2 * maxTime, 1 << 32, math.MaxInt - 1, math.MaxInt} {
			refused(t, c, now, api.ErrRange)
		}
	}
}

func TestItDoesNotGoBack(t *testing.T) {
	for _, last := range []int{1, 2, 500, maxTime - 1, maxTime} {
		c := at(t, clock.Clock{}, last)
		for _, now := range []int{last - 1, last / 2, 0} {
			refused(t, c, now, api.ErrState)
		}
		at(t, c, last)
		at(t, c, maxTime)
		at(t, at(t, c, last), last)
	}
}

// TestTheOldOneStays: a clock that is asked for another one is what it was.
func TestTheOldOneStays(t *testing.T) {
	old := at(t, clock.Clock{}, 7)
	late := at(t, old, 900)
	refused(t, old, -1, api.ErrRange)
	refused(t, old, 6, api.ErrState)
	at(t, old, 7)
	refused(t, late, 899, api.ErrState)
	at(t, late, 900)
}

// TestNow: the time that it was set to last, and 0 at first; what it refuses does not set it.
func TestNow(t *testing.T) {
	c := clock.Clock{}
	for _, want := range []int{0, 0, 1, 7, 7, 65536, maxTime - 1, maxTime} {
		c = at(t, c, want)
		refused(t, c, want-1-maxTime, api.ErrRange)
		if now := c.Now(); now != want {
			t.Errorf("Now = %d, want %d", now, want)
		}
	}
	if now := (clock.Clock{}).Now(); now != 0 {
		t.Errorf("Now, at first = %d", now)
	}
}
