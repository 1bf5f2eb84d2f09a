package link_test

import (
	"math"
	"math/rand"
	"slices"
	"testing"

	"choirloft/api"
	"choirloft/link"
	"choirloft/plain"
)

const maxTime = 1_000_000

// Kinds of messages, and states, as the chapter and package api number them.
const (
	hello, reply, alive = 1, 2, 3
	cold, said, warm    = 0, 1, 2
)

const me = 7 // which time the node of most of these tests runs

// badTimes: numbers that no now may have, just below 0 and just above MaxTime, and far away. They may not stand third
// in a message, either.
var badTimes = []int{-1, -2, -7, -maxTime, math.MinInt, math.MinInt + 1,
	maxTime + 1, maxTime + 2, 2 * maxTime, 1 << 32, 1<<32 + 1, 1<<32 + me, math.MaxInt - 1, math.MaxInt}

// badRuns: likewise of the times that a node may run, and of what stands second.
var badRuns = append([]int{0}, badTimes...)

// badKinds: likewise of what stands first.
var badKinds = []int{0, -1, -2, -3, math.MinInt, math.MinInt + 1,
	4, 5, 6, 256 + hello, maxTime, 1 << 32, 1<<32 + hello, 1<<32 + reply, math.MaxInt - 1, math.MaxInt}

// badShapes: lists that are no message, whatever their numbers are.
var badShapes = [][]int{nil, {}, {hello}, {0}, {hello, 5}, {alive, me}, {4, 0}, {hello, 5, 0, 0}, {reply, 5, me, 0},
	{alive, 5, me, 1}, {-1, -1, -1, -1}, {hello, 5, 0, hello, 5, 0}, make([]int, 300)}

func newLink(t *testing.T, me int) *link.Link {
	t.Helper()
	l, err := link.New(me)
	if l == nil || err != nil {
		t.Fatalf("New(%d) = %v, %v", me, l, err)
	}
	return l
}

func opens(t *testing.T, l *link.Link, now int, want ...int) {
	t.Helper()
	if out, err := l.Open(now); !slices.Equal(out, want) || err != nil {
		t.Errorf("Open(%d) = %v, %v, want %v", now, out, err, want)
	}
}

func openRefused(t *testing.T, l *link.Link, now int, want api.Errno) {
	t.Helper()
	if out, err := l.Open(now); len(out) != 0 || plain.Told(err) != want {
		t.Errorf("Open(%d) = %v, %v, want %v", now, out, err, want)
	}
}

func hears(t *testing.T, l *link.Link, m []int, now int, want ...int) {
	t.Helper()
	if out, err := l.Hear(m, now); !slices.Equal(out, want) || err != nil {
		t.Errorf("Hear(%v, %d) = %v, %v, want %v", m, now, out, err, want)
	}
}

func hearRefused(t *testing.T, l *link.Link, m []int, now int, want api.Errno) {
	t.Helper()
	if out, err := l.Hear(m, now); len(out) != 0 || plain.Told(err) != want {
		t.Errorf("Hear(%v, %d) = %v, %v, want %v", m, now, out, err, want)
	}
}

func ticks(t *testing.T, l *link.Link, now int, want ...int) {
	t.Helper()
	if out, err := l.Tick(now); !slices.Equal(out, want) || err != nil {
		t.Errorf("Tick(%d) = %v, %v, want %v", now, out, err, want)
	}
}

func tickRefused(t *testing.T, l *link.Link, now int, want api.Errno) {
	t.Helper()
	if out, err := l.Tick(now); len(out) != 0 || plain.Told(err) != want {
		t.Errorf("Tick(%d) = %v, %v, want %v", now, out, err, want)
	}
}

func is(t *testing.T, l *link.Link, state, other int) {
	t.Helper()
	if l.State() != state || l.Other() != other {
		t.Errorf("State = %d, Other = %d, want %d and %d", l.State(), l.Other(), state, other)
	}
}

// message of a kind.
func message(kind, from, to int) []int {
	return []int{kind, from, to}
}

// heardAt tells when a Warm link heard the other one last: it is Warm 29 later, and Cold 30 later.
func heardAt(t *testing.T, l *link.Link, when int) {
	t.Helper()
	other := l.Other()
	if _, err := l.Tick(when + 29); err != nil {
		t.Errorf("Tick(%d) = %v", when+29, err)
	}
	is(t, l, warm, other)
	ticks(t, l, when+30)
	is(t, l, cold, 0)
}

// wentOutAt tells when anything went out last: 9 later nothing does, 10 later the words that are wanted.
func wentOutAt(t *testing.T, l *link.Link, when int, want ...int) {
	t.Helper()
	ticks(t, l, when+9)
	ticks(t, l, when+10, want...)
}

// saidAt is a link that said hello.
func saidAt(t *testing.T, now int) *link.Link {
	t.Helper()
	l := newLink(t, me)
	opens(t, l, now, hello, me, 0)
	is(t, l, said, 0)
	return l
}

// warmAt is a link that is Warm with another one since a hello.
func warmAt(t *testing.T, other, now int) *link.Link {
	t.Helper()
	l := newLink(t, me)
	hears(t, l, message(hello, other, 0), now, reply, me, other)
	is(t, l, warm, other)
	return l
}

// coldAgainAt is a link that was Warm with another one, and is Cold since now.
func coldAgainAt(t *testing.T, other, now int) *link.Link {
	t.Helper()
	l := warmAt(t, other, now-30)
	ticks(t, l, now)
	is(t, l, cold, 0)
	return l
}

// allStates: those in which a link may be at a now of 100, when anything was heard, and went out, last. Those that
// are Warm are it with 5.
func allStates(t *testing.T) map[string]func() *link.Link {
	return map[string]func() *link.Link{
		"Cold": func() *link.Link {
			l := newLink(t, me)
			ticks(t, l, 100)
			return l
		},
		"Cold again": func() *link.Link { return coldAgainAt(t, 5, 100) },
		"Said":       func() *link.Link { return saidAt(t, 100) },
		"Said, once Warm": func() *link.Link {
			l := coldAgainAt(t, 5, 100)
			opens(t, l, 100, hello, me, 0)
			return l
		},
		"Warm by a hello": func() *link.Link { return warmAt(t, 5, 100) },
		"Warm by a hello, Said ahead": func() *link.Link {
			l := saidAt(t, 90)
			hears(t, l, message(hello, 5, 0), 100, reply, me, 5)
			return l
		},
		"Warm by a reply": func() *link.Link {
			l := saidAt(t, 90)
			hears(t, l, message(reply, 5, me), 100, alive, me, 5)
			return l
		},
		"Warm again": func() *link.Link {
			l := coldAgainAt(t, 9, 100)
			hears(t, l, message(hello, 5, 0), 100, reply, me, 5)
			return l
		},
		"Warm with a later one": func() *link.Link {
			l := warmAt(t, 3, 80)
			hears(t, l, message(reply, 5, me), 100, alive, me, 5)
			return l
		},
	}
}

// eachState asks something of a link in each of these states.
func eachState(t *testing.T, ask func(t *testing.T, l *link.Link)) {
	for name, start := range allStates(t) {
		t.Run(name, func(t *testing.T) { ask(t, start()) })
	}
}

// eachWarm does so where the link is Warm.
func eachWarm(t *testing.T, ask func(t *testing.T, l *link.Link)) {
	eachState(t, func(t *testing.T, l *link.Link) {
		if l.State() == warm {
			ask(t, l)
		}
	})
}

// eachNotWarm does so where it is not.
func eachNotWarm(t *testing.T, ask func(t *testing.T, l *link.Link)) {
	eachState(t, func(t *testing.T, l *link.Link) {
		if l.State() != warm {
			ask(t, l)
		}
	})
}

// TestTheStates: the states are what their names say.
func TestTheStates(t *testing.T) {
	wants := map[byte][2]int{'C': {cold, 0}, 'S': {said, 0}, 'W': {warm, 5}}
	for name, start := range allStates(t) {
		want := wants[name[0]]
		is(t, start(), want[0], want[1])
	}
	if api.Cold != cold || api.Said != said || api.Warm != warm {
		t.Errorf("Cold, Said and Warm are %d, %d and %d", api.Cold, api.Said, api.Warm)
	}
}

func TestNewAtItsEdges(t *testing.T) {
	for _, run := range []int{1, 2, 3, 255, 256, 65535, 65536, maxTime - 1, maxTime} {
		l := newLink(t, run)
		is(t, l, cold, 0)
		opens(t, l, 0, hello, run, 0)
		hears(t, l, message(reply, 5, run-1), 0)
		is(t, l, said, 0)
		hears(t, l, message(reply, 5, run), 0, alive, run, 5)
		is(t, l, warm, 5)
		hears(t, l, message(hello, 5, 0), 0, reply, run, 5)
		ticks(t, l, 10, alive, run, 5)
	}
}

func TestNewOfWrongNumbers(t *testing.T) {
	for _, run := range badRuns {
		if l, err := link.New(run); l != nil || plain.Told(err) != api.ErrRange {
			t.Errorf("New(%d) = %v, %v", run, l, err)
		}
	}
}

func TestOpenOfCold(t *testing.T) {
	l := newLink(t, me)
	is(t, l, cold, 0)
	opens(t, l, 12, hello, me, 0)
	is(t, l, said, 0)

	l = coldAgainAt(t, 5, 40)
	opens(t, l, 40, hello, me, 0)
	is(t, l, said, 0)
	wentOutAt(t, l, 40, hello, me, 0)
}

// TestOpenOfSaid: hello goes out once more, at once.
func TestOpenOfSaid(t *testing.T) {
	l := saidAt(t, 12)
	opens(t, l, 12, hello, me, 0)
	is(t, l, said, 0)
	opens(t, l, 15, hello, me, 0)
	is(t, l, said, 0)
	opens(t, l, 500, hello, me, 0)
	is(t, l, said, 0)
}

func TestOpenOfWarm(t *testing.T) {
	eachWarm(t, func(t *testing.T, l *link.Link) {
		for _, now := range []int{100, 101, 129, 130, 200, maxTime} {
			openRefused(t, l, now, api.ErrState)
			is(t, l, warm, 5)
		}
		// Nothing was said by that, nor heard, nor did time go on.
		ticks(t, l, 100)
		wentOutAt(t, l, 100, alive, me, 5)
		heardAt(t, l, 100)
		opens(t, l, 130, hello, me, 0)
	})
}

// TestListsThatAreNoMessage: not three numbers, in each state.
func TestListsThatAreNoMessage(t *testing.T) {
	eachState(t, func(t *testing.T, l *link.Link) {
		state, other := l.State(), l.Other()
		for _, m := range badShapes {
			for _, now := range []int{100, 200, maxTime} {
				hearRefused(t, l, m, now, api.ErrShape)
				is(t, l, state, other)
			}
		}
		hears(t, l, message(hello, 8, 0), 100, reply, me, 8)
	})
}

// TestMessagesOfWrongNumbers: one of them wrong, two, and all three, in each state.
func TestMessagesOfWrongNumbers(t *testing.T) {
	eachState(t, func(t *testing.T, l *link.Link) {
		state, other := l.State(), l.Other()
		for _, kind := range append([]int{hello, reply, alive}, badKinds...) {
			for _, from := range append([]int{1, 5, 6, maxTime}, badRuns...) {
				for _, to := range append([]int{0, 1, me, maxTime}, badTimes...) {
					if slices.Contains(badKinds, kind) || slices.Contains(badRuns, from) || slices.Contains(badTimes, to) {
						hearRefused(t, l, message(kind, from, to), 100, api.ErrRange)
						hearRefused(t, l, message(kind, from, to), 900, api.ErrRange)
					}
				}
			}
		}
		is(t, l, state, other)
		hears(t, l, message(hello, 8, 0), 100, reply, me, 8)
	})
}

// TestMessagesAtTheirEdges: each kind, of the least and of the greatest numbers.
func TestMessagesAtTheirEdges(t *testing.T) {
	for _, from := range []int{1, 2, me, 65535, 65536, maxTime - 1, maxTime} {
		for _, to := range []int{0, 1, 2, me - 1, me + 1, 65536 + me, maxTime - 1, maxTime} {
			l := newLink(t, me)
			hears(t, l, message(alive, from, to), 0)
			hears(t, l, message(reply, from, to), 0)
			is(t, l, cold, 0)
			// The third number of a hello tells nothing.
			hears(t, l, message(hello, from, to), 0, reply, me, from)
			is(t, l, warm, from)
			hears(t, l, message(alive, from, to), 0)
			hears(t, l, message(reply, from, to), 0)
			is(t, l, warm, from)
		}
		l := newLink(t, me)
		hears(t, l, message(alive, from, me), 0)
		is(t, l, cold, 0)
		hears(t, l, message(hello, from, me), 0, reply, me, from)
		is(t, l, warm, from)

		l = newLink(t, me)
		hears(t, l, message(reply, from, me), 0, alive, me, from)
		is(t, l, warm, from)
		hears(t, l, message(alive, from, me), 0)
		is(t, l, warm, from)
	}
	for _, run := range []int{1, maxTime} {
		l := newLink(t, run)
		hears(t, l, message(reply, maxTime, run), 0, alive, run, maxTime)
		is(t, l, warm, maxTime)
	}
}

// TestHelloToOneThatIsNotWarm: of any time, also of an older one than of who it was Warm with.
func TestHelloToOneThatIsNotWarm(t *testing.T) {
	for _, from := range []int{1, 4, 5, 6, me, 9, maxTime} {
		eachNotWarm(t, func(t *testing.T, l *link.Link) {
			hears(t, l, message(hello, from, 0), 104, reply, me, from)
			is(t, l, warm, from)
			wentOutAt(t, l, 104, alive, me, from)
			heardAt(t, l, 104)
		})
	}
}

func TestHelloOfAnOlderTime(t *testing.T) {
	for _, from := range []int{1, 3, 4} {
		eachWarm(t, func(t *testing.T, l *link.Link) {
			hears(t, l, message(hello, from, 0), 104)
			is(t, l, warm, 5)
			wentOutAt(t, l, 100, alive, me, 5)
			hears(t, l, message(hello, from, 0), 129)
			heardAt(t, l, 100)
		})
	}
}

func TestHelloOfTheSameTimeAndOfALaterOne(t *testing.T) {
	for _, from := range []int{5, 6, me, 9, maxTime} {
		eachWarm(t, func(t *testing.T, l *link.Link) {
			hears(t, l, message(hello, from, 0), 104, reply, me, from)
			is(t, l, warm, from)
			hears(t, l, message(hello, from, 0), 107, reply, me, from)
			is(t, l, warm, from)
			wentOutAt(t, l, 107, alive, me, from)
			heardAt(t, l, 107)
		})
	}
}

// TestReplyToOneThatIsNotWarm: of any time; also to one that did not say hello.
func TestReplyToOneThatIsNotWarm(t *testing.T) {
	for _, from := range []int{1, 4, 5, 6, me, 9, maxTime} {
		eachNotWarm(t, func(t *testing.T, l *link.Link) {
			hears(t, l, message(reply, from, me), 104, alive, me, from)
			is(t, l, warm, from)
			wentOutAt(t, l, 104, alive, me, from)
			heardAt(t, l, 104)
		})
	}
}

func TestReplyOfAnOlderTime(t *testing.T) {
	for _, from := range []int{1, 3, 4} {
		eachWarm(t, func(t *testing.T, l *link.Link) {
			hears(t, l, message(reply, from, me), 104)
			is(t, l, warm, 5)
			wentOutAt(t, l, 100, alive, me, 5)
			hears(t, l, message(reply, from, me), 129)
			heardAt(t, l, 100)
		})
	}
}

// TestReplyOfTheSameTime: it was heard, and nothing goes out.
func TestReplyOfTheSameTime(t *testing.T) {
	eachWarm(t, func(t *testing.T, l *link.Link) {
		hears(t, l, message(reply, 5, me), 104)
		is(t, l, warm, 5)
		wentOutAt(t, l, 100, alive, me, 5)
		heardAt(t, l, 104)
	})
}

func TestReplyOfALaterTime(t *testing.T) {
	for _, from := range []int{6, me, 9, maxTime} {
		eachWarm(t, func(t *testing.T, l *link.Link) {
			hears(t, l, message(reply, from, me), 104, alive, me, from)
			is(t, l, warm, from)
			// Of this one no more goes out.
			hears(t, l, message(reply, from, me), 106)
			is(t, l, warm, from)
			wentOutAt(t, l, 104, alive, me, from)
			heardAt(t, l, 106)
		})
	}
}

// TestNotToThisNode: reply and alive to another time of this node tell nothing, whoever says them.
func TestNotToThisNode(t *testing.T) {
	for _, kind := range []int{reply, alive} {
		for _, from := range []int{1, 4, 5, 6, me, maxTime} {
			for _, to := range []int{0, 1, 5, me - 1, me + 1, maxTime} {
				eachState(t, func(t *testing.T, l *link.Link) {
					state, other := l.State(), l.Other()
					hears(t, l, message(kind, from, to), 104)
					is(t, l, state, other)
					switch state {
					case warm:
						wentOutAt(t, l, 100, alive, me, 5)
						hears(t, l, message(kind, from, to), 129)
						heardAt(t, l, 100)
					case said:
						wentOutAt(t, l, 100, hello, me, 0)
					default:
						wentOutAt(t, l, 100)
					}
				})
			}
		}
	}
}

func TestAliveToOneThatIsNotWarm(t *testing.T) {
	for _, from := range []int{1, 4, 5, 6, me, maxTime} {
		eachNotWarm(t, func(t *testing.T, l *link.Link) {
			state := l.State()
			hears(t, l, message(alive, from, me), 104)
			is(t, l, state, 0)
			if state == said {
				wentOutAt(t, l, 100, hello, me, 0)
			} else {
				wentOutAt(t, l, 100)
			}
			is(t, l, state, 0)
		})
	}
}

// TestAliveOfTheOther: it was heard, and nothing goes out.
func TestAliveOfTheOther(t *testing.T) {
	eachWarm(t, func(t *testing.T, l *link.Link) {
		hears(t, l, message(alive, 5, me), 104)
		is(t, l, warm, 5)
		wentOutAt(t, l, 100, alive, me, 5)
		hears(t, l, message(alive, 5, me), 119)
		is(t, l, warm, 5)
		heardAt(t, l, 119)
	})
}

// TestAliveOfAnotherOne: of an older and of a later time than of the one it is Warm with.
func TestAliveOfAnotherOne(t *testing.T) {
	for _, from := range []int{1, 4, 6, me, maxTime} {
		eachWarm(t, func(t *testing.T, l *link.Link) {
			hears(t, l, message(alive, from, me), 104)
			is(t, l, warm, 5)
			wentOutAt(t, l, 100, alive, me, 5)
			hears(t, l, message(alive, from, me), 129)
			heardAt(t, l, 100)
		})
	}
}

// TestTimesMayBeTheSame: the other one may run as often as this node.
func TestTimesMayBeTheSame(t *testing.T) {
	l := newLink(t, me)
	hears(t, l, message(hello, me, 0), 0, reply, me, me)
	is(t, l, warm, me)
	hears(t, l, message(reply, me, me), 1)
	hears(t, l, message(alive, me, me), 2)
	is(t, l, warm, me)
	heardAt(t, l, 2)
}

func TestTickOfCold(t *testing.T) {
	l := newLink(t, me)
	for _, now := range []int{0, 0, 9, 10, 29, 30, 40, 500, maxTime, maxTime} {
		ticks(t, l, now)
		is(t, l, cold, 0)
	}
	l = coldAgainAt(t, 5, 40)
	for _, now := range []int{40, 49, 50, 70, 71, maxTime} {
		ticks(t, l, now)
		is(t, l, cold, 0)
	}
}

// TestTickOfSaid: hello each 10; it is not given up, however long nobody is heard.
func TestTickOfSaid(t *testing.T) {
	l := saidAt(t, 12)
	for _, now := range []int{12, 13, 21} {
		ticks(t, l, now)
	}
	for last := 22; last < 200; last += 10 {
		ticks(t, l, last, hello, me, 0)
		is(t, l, said, 0)
		ticks(t, l, last)
		ticks(t, l, last+1)
		ticks(t, l, last+9)
		is(t, l, said, 0)
	}
	// Later than it might: the 10 begin when it went out.
	ticks(t, l, 345, hello, me, 0)
	wentOutAt(t, l, 345, hello, me, 0)
	ticks(t, l, maxTime, hello, me, 0)
	is(t, l, said, 0)
}

// TestTickOfSaidBehindOpen: what Open said counts, too.
func TestTickOfSaidBehindOpen(t *testing.T) {
	l := saidAt(t, 0)
	opens(t, l, 8, hello, me, 0)
	wentOutAt(t, l, 8, hello, me, 0)
	opens(t, l, 25, hello, me, 0)
	wentOutAt(t, l, 25, hello, me, 0)
}

func TestTickOfWarm(t *testing.T) {
	eachWarm(t, func(t *testing.T, l *link.Link) {
		for _, now := range []int{100, 101, 109} {
			ticks(t, l, now)
			is(t, l, warm, 5)
		}
		ticks(t, l, 110, alive, me, 5)
		ticks(t, l, 110)
		is(t, l, warm, 5)
		wentOutAt(t, l, 110, alive, me, 5)
		ticks(t, l, 129)
		is(t, l, warm, 5)
		// Both at once: nothing went out for 10, and nobody was heard for 30.
		ticks(t, l, 130)
		is(t, l, cold, 0)
		ticks(t, l, 130)
		ticks(t, l, 200)
		is(t, l, cold, 0)
	})
}

// TestTickOfWarmLate: the first Tick is 11, 29, 30, 31 and much more behind what was heard.
func TestTickOfWarmLate(t *testing.T) {
	for _, late := range []int{10, 11, 20, 28, 29} {
		eachWarm(t, func(t *testing.T, l *link.Link) {
			ticks(t, l, 100+late, alive, me, 5)
			is(t, l, warm, 5)
			heardAt(t, l, 100)
		})
	}
	for _, late := range []int{30, 31, 40, 500, maxTime - 100} {
		eachWarm(t, func(t *testing.T, l *link.Link) {
			ticks(t, l, 100+late)
			is(t, l, cold, 0)
		})
	}
}

// TestTickOfWarmHeardOn: while it is heard it stays Warm, and says that it is alive each 10.
func TestTickOfWarmHeardOn(t *testing.T) {
	eachWarm(t, func(t *testing.T, l *link.Link) {
		for now := 100; now < 400; now += 29 {
			ticks(t, l, now+10, alive, me, 5)
			ticks(t, l, now+20, alive, me, 5)
			hears(t, l, message(alive, 5, me), now+29)
			is(t, l, warm, 5)
		}
	})
}

// TestHeardAtTheLastMoment: 30 and longer behind what was heard last, but no Tick told it, a message counts.
func TestHeardAtTheLastMoment(t *testing.T) {
	for _, late := range []int{29, 30, 31, 500} {
		for _, kind := range []int{reply, alive} {
			eachWarm(t, func(t *testing.T, l *link.Link) {
				hears(t, l, message(kind, 5, me), 100+late)
				is(t, l, warm, 5)
				heardAt(t, l, 100+late)
			})
		}
		eachWarm(t, func(t *testing.T, l *link.Link) {
			hears(t, l, message(hello, 5, 0), 100+late, reply, me, 5)
			is(t, l, warm, 5)
			heardAt(t, l, 100+late)
		})
		// An older one is none, also then: only a Tick makes it Cold.
		eachWarm(t, func(t *testing.T, l *link.Link) {
			hears(t, l, message(hello, 4, 0), 100+late)
			hears(t, l, message(reply, 4, me), 100+late)
			is(t, l, warm, 5)
			openRefused(t, l, 100+late, api.ErrState)
		})
	}
}

// TestWhatGoesOutCounts: what each call says moves the next word of a Tick.
func TestWhatGoesOutCounts(t *testing.T) {
	l := saidAt(t, 0)
	ticks(t, l, 10, hello, me, 0)
	hears(t, l, message(reply, 5, me), 15, alive, me, 5)
	wentOutAt(t, l, 15, alive, me, 5)
	hears(t, l, message(hello, 5, 0), 30, reply, me, 5)
	wentOutAt(t, l, 30, alive, me, 5)
	hears(t, l, message(hello, 6, 0), 44, reply, me, 6)
	wentOutAt(t, l, 44, alive, me, 6)
	hears(t, l, message(reply, 8, me), 58, alive, me, 8)
	wentOutAt(t, l, 58, alive, me, 8)
	wentOutAt(t, l, 68, alive, me, 8)
	ticks(t, l, 88)
	is(t, l, cold, 0)
	opens(t, l, 91, hello, me, 0)
	wentOutAt(t, l, 91, hello, me, 0)
	wentOutAt(t, l, 101, hello, me, 0)
}

// TestNothingGoesOut: then the answer is an empty list, and no error.
func TestNothingGoesOut(t *testing.T) {
	eachState(t, func(t *testing.T, l *link.Link) {
		for _, m := range [][]int{message(reply, 5, me+1), message(alive, 5, me+1), message(alive, 6, me)} {
			if out, err := l.Hear(m, 100); len(out) != 0 || err != nil {
				t.Errorf("Hear(%v, 100) = %v, %v", m, out, err)
			}
		}
		if out, err := l.Tick(100); len(out) != 0 || err != nil {
			t.Errorf("Tick(100) = %v, %v", out, err)
		}
	})
}

// TestWarmAgain: what was ahead of Cold is forgotten: an older time will do.
func TestWarmAgain(t *testing.T) {
	l := coldAgainAt(t, 9, 30)
	hears(t, l, message(alive, 9, me), 31)
	is(t, l, cold, 0)
	hears(t, l, message(hello, 4, 0), 32, reply, me, 4)
	is(t, l, warm, 4)
	heardAt(t, l, 32)
	opens(t, l, 63, hello, me, 0)
	is(t, l, said, 0)
	hears(t, l, message(alive, 4, me), 64)
	is(t, l, said, 0)
	hears(t, l, message(reply, 2, me), 65, alive, me, 2)
	is(t, l, warm, 2)
	heardAt(t, l, 65)
	// The same one again: it is not Warm with that any more, so alive goes out.
	hears(t, l, message(reply, 2, me), 96, alive, me, 2)
	is(t, l, warm, 2)
}

// TestTwoTalk: what goes out of one is heard by another.
func TestTwoTalk(t *testing.T) {
	a, b := newLink(t, 3), newLink(t, 8)
	opens(t, a, 0, hello, 3, 0)
	hears(t, b, message(hello, 3, 0), 1, reply, 8, 3)
	hears(t, a, message(reply, 8, 3), 2, alive, 3, 8)
	hears(t, b, message(alive, 3, 8), 3)
	is(t, a, warm, 8)
	is(t, b, warm, 3)
	for now := 4; now < 300; now++ {
		if out, err := a.Tick(now); err != nil {
			t.Fatalf("Tick(%d) = %v", now, err)
		} else if len(out) > 0 {
			hears(t, b, out, now)
		}
		if out, err := b.Tick(now); err != nil {
			t.Fatalf("Tick(%d) = %v", now, err)
		} else if len(out) > 0 {
			hears(t, a, out, now)
		}
	}
	is(t, a, warm, 8)
	is(t, b, warm, 3)
	// a begins anew, as its fourth time: b knows it by that, and what was under way of the third is none.
	a = newLink(t, 4)
	opens(t, a, 300, hello, 4, 0)
	hears(t, b, message(hello, 4, 0), 300, reply, 8, 4)
	hears(t, b, message(alive, 3, 8), 301)
	hears(t, b, message(hello, 3, 0), 301)
	is(t, b, warm, 4)
	hears(t, a, message(alive, 8, 3), 301)
	is(t, a, said, 0)
	hears(t, a, message(reply, 8, 4), 301, alive, 4, 8)
	is(t, a, warm, 8)
}

// timed: all calls with a now, of messages and of lists that are none.
func timed(l *link.Link) map[string]func(now int) ([]int, error) {
	return map[string]func(now int) ([]int, error){
		"Open":  l.Open,
		"Tick":  l.Tick,
		"hello": func(now int) ([]int, error) { return l.Hear(message(hello, 5, 0), now) },
		"reply": func(now int) ([]int, error) { return l.Hear(message(reply, 5, me), now) },
		"alive": func(now int) ([]int, error) { return l.Hear(message(alive, 5, me), now) },
		"to another": func(now int) ([]int, error) {
			return l.Hear(message(alive, 5, me+1), now)
		},
		"to nobody":  func(now int) ([]int, error) { return l.Hear(message(hello, 5, -1), now) },
		"not three":  func(now int) ([]int, error) { return l.Hear([]int{hello, 5}, now) },
		"of no kind": func(now int) ([]int, error) { return l.Hear(message(4, 5, 0), now) },
		"of nobody":  func(now int) ([]int, error) { return l.Hear(message(hello, 0, 0), now) },
		"nothing":    func(now int) ([]int, error) { return l.Hear(nil, now) },
	}
}

// TestWrongNows: in each state and call, whatever else is wrong; and nothing is changed.
func TestWrongNows(t *testing.T) {
	eachState(t, func(t *testing.T, l *link.Link) {
		state, other := l.State(), l.Other()
		for name, call := range timed(l) {
			for _, now := range badTimes {
				if out, err := call(now); len(out) != 0 || plain.Told(err) != api.ErrRange {
					t.Errorf("%s at %d: %v, %v", name, now, out, err)
				}
			}
			for _, now := range []int{0, 1, 50, 98, 99} {
				if out, err := call(now); len(out) != 0 || plain.Told(err) != api.ErrState {
					t.Errorf("%s at %d: %v, %v", name, now, out, err)
				}
			}
			is(t, l, state, other)
		}
		switch state {
		case warm:
			wentOutAt(t, l, 100, alive, me, 5)
			heardAt(t, l, 100)
		case said:
			wentOutAt(t, l, 100, hello, me, 0)
		default:
			wentOutAt(t, l, 100)
		}
	})
}

// TestNowAtItsEdges: 0 and MaxTime, each call, and the same now again.
func TestNowAtItsEdges(t *testing.T) {
	for _, now := range []int{0, 1, 65535, 65536, maxTime - 1, maxTime} {
		l := newLink(t, me)
		ticks(t, l, now)
		ticks(t, l, now)
		opens(t, l, now, hello, me, 0)
		opens(t, l, now, hello, me, 0)
		ticks(t, l, now)
		hears(t, l, message(hello, 5, 0), now, reply, me, 5)
		hears(t, l, message(hello, 5, 0), now, reply, me, 5)
		hears(t, l, message(reply, 5, me), now)
		hears(t, l, message(alive, 5, me), now)
		ticks(t, l, now)
		is(t, l, warm, 5)

		l = newLink(t, me)
		opens(t, l, now, hello, me, 0)
		l = newLink(t, me)
		hears(t, l, message(hello, 5, 0), now, reply, me, 5)
		l = newLink(t, me)
		hears(t, l, message(reply, 5, me), now, alive, me, 5)
	}
	// From the least to the greatest: nothing goes round.
	l := saidAt(t, 0)
	ticks(t, l, maxTime, hello, me, 0)
	l = warmAt(t, 5, 0)
	ticks(t, l, maxTime)
	is(t, l, cold, 0)
}

// TestNowGoesBack: each call that was answered moves the clock, by whatever it answers.
func TestNowGoesBack(t *testing.T) {
	l := newLink(t, me)
	behind := func(last int) {
		t.Helper()
		for _, now := range []int{last - 1, last / 2, 0} {
			openRefused(t, l, now, api.ErrState)
			hearRefused(t, l, message(hello, 5, 0), now, api.ErrState)
			hearRefused(t, l, message(reply, 5, me), now, api.ErrState)
			hearRefused(t, l, message(alive, 5, me), now, api.ErrState)
			tickRefused(t, l, now, api.ErrState)
		}
	}
	ticks(t, l, 2)
	behind(2)
	hears(t, l, message(alive, 5, me), 3)
	behind(3)
	hears(t, l, message(reply, 5, me+1), 4)
	behind(4)
	opens(t, l, 5, hello, me, 0)
	behind(5)
	opens(t, l, 6, hello, me, 0)
	behind(6)
	ticks(t, l, 7)
	behind(7)
	ticks(t, l, 16, hello, me, 0)
	behind(16)
	hears(t, l, message(reply, 5, me), 17, alive, me, 5)
	behind(17)
	hears(t, l, message(reply, 5, me), 18)
	behind(18)
	hears(t, l, message(reply, 4, me), 19)
	behind(19)
	hears(t, l, message(hello, 5, 0), 20, reply, me, 5)
	behind(20)
	hears(t, l, message(hello, 4, 0), 21)
	behind(21)
	hears(t, l, message(alive, 5, me), 22)
	behind(22)
	hears(t, l, message(alive, 6, me), 23)
	behind(23)
	ticks(t, l, 24)
	behind(24)
	ticks(t, l, 30, alive, me, 5)
	behind(30)
	ticks(t, l, 52)
	is(t, l, cold, 0)
	behind(52)
	hears(t, l, message(hello, 4, 0), 53, reply, me, 4)
	behind(53)
}

// TestTwoFaultsAtOnce: a now's come first, ErrRange ahead of ErrState; then those of a message, and that it is Warm.
func TestTwoFaultsAtOnce(t *testing.T) {
	l := warmAt(t, 5, 100)
	wrong := slices.Concat(badShapes, [][]int{{0, 5, 0}, {4, 5, 0}, {hello, 0, 0}, {hello, maxTime + 1, 0},
		{reply, 5, -1}, {alive, 5, maxTime + 1}})
	for _, now := range badTimes {
		openRefused(t, l, now, api.ErrRange)
		tickRefused(t, l, now, api.ErrRange)
		for _, m := range wrong {
			hearRefused(t, l, m, now, api.ErrRange)
		}
	}
	for _, now := range []int{0, 50, 99} {
		openRefused(t, l, now, api.ErrState)
		tickRefused(t, l, now, api.ErrState)
		for _, m := range wrong {
			hearRefused(t, l, m, now, api.ErrState)
		}
	}
	for _, m := range badShapes {
		hearRefused(t, l, m, 100, api.ErrShape)
	}
	is(t, l, warm, 5)
	ticks(t, l, 100)
}

// TestRefusedCallsChangeNothing: what is answered behind an error is as if that call had not been.
func TestRefusedCallsChangeNothing(t *testing.T) {
	refuse := func(l *link.Link, last int) {
		t.Helper()
		for _, later := range []int{last, last + 9, last + 10, last + 30, maxTime} {
			hearRefused(t, l, nil, later, api.ErrShape)
			hearRefused(t, l, []int{hello, 9}, later, api.ErrShape)
			hearRefused(t, l, []int{hello, 9, 0, 0}, later, api.ErrShape)
			hearRefused(t, l, message(0, 9, 0), later, api.ErrRange)
			hearRefused(t, l, message(4, 9, me), later, api.ErrRange)
			hearRefused(t, l, message(hello, 0, 0), later, api.ErrRange)
			hearRefused(t, l, message(hello, maxTime+1, 0), later, api.ErrRange)
			hearRefused(t, l, message(hello, 9, -1), later, api.ErrRange)
			hearRefused(t, l, message(reply, maxTime+1, me), later, api.ErrRange)
			hearRefused(t, l, message(alive, 5, maxTime+1), later, api.ErrRange)
			if l.State() == warm {
				openRefused(t, l, later, api.ErrState)
			}
		}
		openRefused(t, l, -1, api.ErrRange)
		hearRefused(t, l, message(hello, 9, 0), -1, api.ErrRange)
		tickRefused(t, l, maxTime+1, api.ErrRange)
		if last > 0 {
			openRefused(t, l, last-1, api.ErrState)
			hearRefused(t, l, message(reply, 9, me), last-1, api.ErrState)
			tickRefused(t, l, last-1, api.ErrState)
		}
	}
	l := newLink(t, me)
	refuse(l, 0)
	is(t, l, cold, 0)
	opens(t, l, 0, hello, me, 0)
	refuse(l, 0)
	is(t, l, said, 0)
	ticks(t, l, 9)
	refuse(l, 9)
	ticks(t, l, 10, hello, me, 0)
	refuse(l, 10)
	hears(t, l, message(reply, 5, me), 11, alive, me, 5)
	refuse(l, 11)
	is(t, l, warm, 5)
	ticks(t, l, 20)
	refuse(l, 20)
	ticks(t, l, 21, alive, me, 5)
	refuse(l, 21)
	ticks(t, l, 40, alive, me, 5)
	refuse(l, 40)
	is(t, l, warm, 5)
	ticks(t, l, 41)
	refuse(l, 41)
	is(t, l, cold, 0)
	hears(t, l, message(hello, 4, 0), 41, reply, me, 4)
	refuse(l, 41)
	is(t, l, warm, 4)
}

// TestAskingChangesNothing: State and Other may be asked at any time, or never.
func TestAskingChangesNothing(t *testing.T) {
	asked, silent := newLink(t, me), newLink(t, me)
	for _, l := range []*link.Link{asked, silent} {
		ask := func() {
			for range 3 {
				if l == asked {
					l.State()
					l.Other()
				}
			}
		}
		ask()
		opens(t, l, 0, hello, me, 0)
		ask()
		ticks(t, l, 10, hello, me, 0)
		ask()
		hears(t, l, message(hello, 5, 0), 20, reply, me, 5)
		ask()
		ticks(t, l, 30, alive, me, 5)
		ask()
		ticks(t, l, 50)
		ask()
		hears(t, l, message(reply, 3, me), 51, alive, me, 3)
		is(t, l, warm, 3)
	}
}

// model is the chapter's K1 and K2, clause by clause. What happened stands in rows, of which the last ones hold.
type model struct {
	me     int
	nows   []int
	states []int
	others []int // of all that it was Warm with
	heard  []int // when
	out    []int // when
}

func newModel(me int) *model {
	return &model{me: me, nows: []int{0}, states: []int{0}, others: []int{0}}
}

func last(l []int) int {
	return l[len(l)-1]
}

func (m *model) state() int {
	return last(m.states)
}

func (m *model) other() int {
	if m.state() != 2 {
		return 0
	}
	return last(m.others)
}

func (m *model) now(now int) api.Errno {
	switch {
	case now < 0 || 1000000 < now:
		return api.ErrRange
	case now < slices.Max(m.nows):
		return api.ErrState
	}
	return api.OK
}

// goes tells what goes out.
func (m *model) goes(now int, words ...int) []int {
	m.out = append(m.out, now)
	return words
}

func (m *model) warm(other, now int) {
	m.states = append(m.states, 2)
	m.others = append(m.others, other)
	m.heard = append(m.heard, now)
}

func (m *model) open(now int) ([]int, api.Errno) {
	if no := m.now(now); no != api.OK {
		return nil, no
	}
	if m.state() == 2 {
		return nil, api.ErrState
	}
	m.nows = append(m.nows, now)
	m.states = append(m.states, 1)
	return m.goes(now, 1, m.me, 0), api.OK
}

func (m *model) hear(words []int, now int) ([]int, api.Errno) {
	if no := m.now(now); no != api.OK {
		return nil, no
	}
	if len(words) != 3 {
		return nil, api.ErrShape
	}
	if words[0] < 1 || 3 < words[0] || words[1] < 1 || 1000000 < words[1] || words[2] < 0 || 1000000 < words[2] {
		return nil, api.ErrRange
	}
	m.nows = append(m.nows, now)
	isWarm, with, from, you := m.state() == 2, m.other(), words[1], words[2]
	switch words[0] {
	case 1:
		if isWarm && from < with {
			return nil, api.OK
		}
		m.warm(from, now)
		return m.goes(now, 2, m.me, from), api.OK
	case 2:
		if you != m.me || isWarm && from < with {
			return nil, api.OK
		}
		m.warm(from, now)
		if isWarm && from == with {
			return nil, api.OK
		}
		return m.goes(now, 3, m.me, from), api.OK
	}
	if you == m.me && isWarm && from == with {
		m.heard = append(m.heard, now)
	}
	return nil, api.OK
}

func (m *model) tick(now int) ([]int, api.Errno) {
	if no := m.now(now); no != api.OK {
		return nil, no
	}
	m.nows = append(m.nows, now)
	switch m.state() {
	case 1:
		if last(m.out)+10 <= now {
			return m.goes(now, 1, m.me, 0), api.OK
		}
	case 2:
		if last(m.heard)+30 <= now {
			m.states = append(m.states, 0)
		} else if last(m.out)+10 <= now {
			return m.goes(now, 3, m.me, m.other()), api.OK
		}
	}
	return nil, api.OK
}

// call is one of Open, Hear and Tick, by its first letter.
type call struct {
	kind  byte
	words []int
	now   int // in rows of all calls: how much later than ahead
}

// play asks both, and holds the answers against each other.
func (c call) play(t *testing.T, l *link.Link, m *model) {
	t.Helper()
	var out, want []int
	var err error
	var no api.Errno
	switch c.kind {
	case 'O':
		want, no = m.open(c.now)
		out, err = l.Open(c.now)
	case 'H':
		want, no = m.hear(c.words, c.now)
		out, err = l.Hear(c.words, c.now)
	default:
		want, no = m.tick(c.now)
		out, err = l.Tick(c.now)
	}
	if !slices.Equal(out, want) || plain.Told(err) != no {
		t.Errorf("%c %v at %d: %v, %v, want %v, %v", c.kind, c.words, c.now, out, err, want, no)
	}
	if l.State() != m.state() || l.Other() != m.other() {
		t.Errorf("%c %v at %d: State %d, Other %d, want %d, %d", c.kind, c.words, c.now,
			l.State(), l.Other(), m.state(), m.other())
	}
}

// TestAllShortRows: all rows of up to four calls of some kinds, 0, 10 and 20 behind each other, against the model.
func TestAllShortRows(t *testing.T) {
	var calls []call
	for _, later := range []int{0, 10, 20} {
		calls = append(calls, call{kind: 'O', now: later}, call{kind: 'T', now: later})
		for _, words := range [][]int{{1, 4, 0}, {1, 5, 0}, {2, 4, me}, {2, 5, me}, {2, 5, 1}, {3, 4, me}, {3, 5, me}} {
			calls = append(calls, call{'H', words, later})
		}
	}
	var row func(made []call, more int)
	row = func(made []call, more int) {
		if more > 0 {
			for _, c := range calls {
				row(append(made[:len(made):len(made)], c), more-1)
			}
			return
		}
		l, m := newLink(t, me), newModel(me)
		now := 0
		for _, c := range made {
			now += c.now
			call{c.kind, c.words, now}.play(t, l, m)
		}
		if t.Failed() {
			t.Fatalf("behind %v", made)
		}
	}
	for length := range 5 {
		row(nil, length)
	}
}

// one gives any of a list.
func one(random *rand.Rand, l []int) int {
	return l[random.Intn(len(l))]
}

// lot is a call of some kind, with wrong numbers now and then.
func (m *model) lot(random *rand.Rand) call {
	some := func(good, bad []int) int {
		if random.Intn(40) == 0 {
			return one(random, bad)
		}
		return one(random, good)
	}
	clock := slices.Max(m.nows)
	now := some([]int{clock, clock, clock, clock + 1, clock + 1, clock + 2, clock + 4, clock + 5, clock + 9, clock + 10,
		clock + 11, clock + 19, clock + 20, clock + 29, clock + 30, clock + 31, clock - 1}, badTimes)
	switch random.Intn(8) {
	case 0:
		return call{'O', nil, now}
	case 1, 2, 3:
		return call{'T', nil, now}
	}
	if random.Intn(60) == 0 {
		return call{'H', badShapes[random.Intn(len(badShapes))], now}
	}
	with := max(m.other(), 2)
	words := []int{
		some([]int{1, 2, 2, 3, 3, 3}, badKinds),
		some([]int{with, with, with, with, with - 1, min(with+1, maxTime), 1, 2, 3, 4}, badRuns),
		some([]int{m.me, m.me, m.me, m.me, m.me, m.me - 1, 0, 1, maxTime}, badTimes),
	}
	return call{'H', words, now}
}

// TestAsTheModel: long rows of all calls, with faults, in each call against the model.
func TestAsTheModel(t *testing.T) {
	random := rand.New(rand.NewSource(1))
	for range 2000 {
		run := one(random, []int{1, 2, 3, 7, 65536, maxTime - 1, maxTime})
		l, m := newLink(t, run), newModel(run)
		call{'T', nil, one(random, []int{0, 0, 500, maxTime - 300, maxTime - 30, maxTime})}.play(t, l, m)
		for i := range 120 {
			m.lot(random).play(t, l, m)
			if t.Failed() {
				t.Fatalf("call %d, me %d", i, run)
			}
		}
	}
}

// TestLinksAreApart: what one said and heard is not of another.
func TestLinksAreApart(t *testing.T) {
	a, b := newLink(t, 3), newLink(t, 8)
	opens(t, a, 500, hello, 3, 0)
	is(t, b, cold, 0)
	ticks(t, b, 20)
	hears(t, b, message(reply, 3, 3), 21)
	is(t, b, cold, 0)
	hears(t, b, message(hello, 6, 0), 22, reply, 8, 6)
	is(t, a, said, 0)
	is(t, b, warm, 6)
	hears(t, a, message(hello, 5, 0), 501, reply, 3, 5)
	is(t, b, warm, 6)
	ticks(t, b, 32, alive, 8, 6)
	ticks(t, a, 511, alive, 3, 5)
	ticks(t, b, 52)
	is(t, b, cold, 0)
	is(t, a, warm, 5)
	c := newLink(t, 3)
	is(t, c, cold, 0)
	opens(t, c, 0, hello, 3, 0)
	is(t, a, warm, 5)
	hears(t, a, message(alive, 5, 3), 520)
	heardAt(t, a, 520)
}

// spoil writes into a list, and behind it.
func spoil(l []int) {
	l = l[:cap(l)]
	for i := range l {
		l[i] = -77
	}
}

// TestMemoryIsApart: who writes into what was answered, or handed in, changes nothing.
func TestMemoryIsApart(t *testing.T) {
	l := newLink(t, me)
	var answers, copies [][]int
	keep := func(out []int, err error) {
		t.Helper()
		if len(out) != 3 || err != nil {
			t.Fatalf("%v, %v", out, err)
		}
		answers, copies = append(answers, out), append(copies, slices.Clone(out))
	}
	keep(l.Open(0))
	keep(l.Open(0))
	keep(l.Tick(10))
	keep(l.Tick(20))
	m := message(hello, 5, 0)
	keep(l.Hear(m, 21))
	spoil(m)
	is(t, l, warm, 5)
	keep(l.Hear(message(hello, 5, 0), 21))
	m = message(reply, 6, me)
	keep(l.Hear(m, 22))
	spoil(m)
	is(t, l, warm, 6)
	keep(l.Tick(32))
	keep(l.Tick(42))
	for i := range answers {
		spoil(answers[i])
		for k := i + 1; k < len(answers); k++ {
			if !slices.Equal(answers[k], copies[k]) {
				t.Errorf("answers %d and %d share memory", i, k)
			}
		}
		is(t, l, warm, 6)
	}
	m = message(alive, 6, me)
	hears(t, l, m, 43)
	spoil(m)
	ticks(t, l, 52, alive, me, 6)
	heardAt(t, l, 43)
	opens(t, l, 73, hello, me, 0)
}

// TestNothingHandedInIsChanged: neither the message nor what lies behind it; and that is not read.
func TestNothingHandedInIsChanged(t *testing.T) {
	for _, words := range [][]int{{}, {hello}, {hello, 5}, {hello, 5, 0}, {hello, 4, 0}, {hello, 6, 9}, {reply, 5, me},
		{reply, 6, me}, {reply, 6, 2}, {alive, 5, me}, {alive, 6, me}, {alive, 5, 2}, {0, 5, 0}, {4, 5, 0},
		{hello, 0, 0}, {hello, 5, -1}, {hello, 5, 0, 0}} {
		eachState(t, func(t *testing.T, l *link.Link) {
			memory := append(slices.Clone(words), hello, 5, 0, 44, 45)
			kept := slices.Clone(memory)
			for _, now := range []int{-1, 99, 100, 105} {
				out, _ := l.Hear(memory[:len(words)], now)
				spoil(out)
				if !slices.Equal(memory, kept) {
					t.Errorf("Hear(%v, %d) left %v of %v", words, now, memory, kept)
				}
			}
		})
	}
}
