package order_test

import (
	"bytes"
	"math"
	"math/rand"
	"reflect"
	"slices"
	"testing"

	"choirloft/api"
	"choirloft/order"
	"choirloft/plain"
)

const maxTime, maxLong, maxList, maxBody = 1000000, 1 << 40, 200, 1000

// badTimes: times that may not be, just below 0 and just above MaxTime, and far away.
var badTimes = []int{-1, -2, -maxTime, math.MinInt, math.MinInt + 1,
	maxTime + 1, maxTime + 2, 1 << 32, math.MaxInt - 1, math.MaxInt}

// badNumbers: likewise of numbers.
var badNumbers = []int{-1, -2, -maxList, -maxLong, math.MinInt, math.MinInt + 1,
	maxLong + 1, maxLong + 2, maxLong + maxList, 1 << 41, math.MaxInt - 1, math.MaxInt}

// firsts: numbers that may be the first one of all.
var firsts = []int{0, 1, 2, maxList - 1, maxList, maxList + 1, 65535, 65536, 1 << 32, maxLong - 1, maxLong}

// badPacket is a packet that may not be, and what chapter 3 tells of it.
type badPacket struct {
	p    api.Packet
	want api.Errno
}

func badPackets() []badPacket {
	full := make([]byte, maxBody+1)
	return []badPacket{
		{api.Packet{Seq: -1}, api.ErrRange},
		{api.Packet{Seq: 65536}, api.ErrRange},
		{api.Packet{Time: -1}, api.ErrRange},
		{api.Packet{Time: 1 << 32}, api.ErrRange},
		{api.Packet{Layer: -1}, api.ErrRange},
		{api.Packet{Layer: 4}, api.ErrRange},
		{api.Packet{Level: -1}, api.ErrRange},
		{api.Packet{Level: 128}, api.ErrRange},
		{api.Packet{Seq: math.MinInt, Time: math.MaxInt}, api.ErrRange},
		{api.Packet{Level: 128, Body: full}, api.ErrRange},
		{api.Packet{Seq: 65536, Start: true, Body: full}, api.ErrRange},
		{api.Packet{Body: full}, api.ErrFull},
		{api.Packet{Start: true, Body: make([]byte, 65536)}, api.ErrFull},
	}
}

// made is a packet that tells by every field which one it is.
func made(i int) api.Packet {
	return api.Packet{Seq: i % 65536, Time: i % 1000 * 4000000, Layer: i % 4, Level: i % 128, Start: i%3 == 0,
		Body: bytes.Repeat([]byte{byte(i)}, i%7)}
}

// came is the item of a number that was pushed with the packet made of it.
func came(number int) api.Item {
	return api.Item{Number: number, Packet: made(number)}
}

func lost(number int) api.Item {
	return api.Item{Number: number, Gone: true}
}

// run is items of numbers that follow one another, many of them.
func run(item func(int) api.Item, low, many int) (l []api.Item) {
	for i := range many {
		l = append(l, item(low+i))
	}
	return l
}

func samePacket(p, q api.Packet) bool {
	return p.Seq == q.Seq && p.Time == q.Time && p.Layer == q.Layer && p.Level == q.Level &&
		p.Start == q.Start && bytes.Equal(p.Body, q.Body)
}

func same(a, b []api.Item) bool {
	return slices.EqualFunc(a, b, func(x, y api.Item) bool {
		return x.Number == y.Number && x.Gone == y.Gone && samePacket(x.Packet, y.Packet)
	})
}

func newOrder(t *testing.T, wait int) *order.Order {
	t.Helper()
	o, err := order.New(wait)
	if o == nil || err != nil {
		t.Fatalf("New(%d) = %v, %v", wait, o, err)
	}
	return o
}

// push pushes the packet that is made of a number.
func push(t *testing.T, o *order.Order, number, now int, want bool) {
	t.Helper()
	pushPacket(t, o, number, made(number), now, want)
}

func pushPacket(t *testing.T, o *order.Order, number int, p api.Packet, now int, want bool) {
	t.Helper()
	if got, err := o.Push(number, p, now); got != want || err != nil {
		t.Errorf("Push(%d, %v, %d) = %v, %v, want %v", number, p, now, got, err, want)
	}
}

func pushRefused(t *testing.T, o *order.Order, number int, p api.Packet, now int, want api.Errno) {
	t.Helper()
	if got, err := o.Push(number, p, now); got || plain.Told(err) != want {
		t.Errorf("Push(%d, a packet of Seq %d and %d bytes, %d) = %v, %v, want %v",
			number, p.Seq, len(p.Body), now, got, err, want)
	}
}

func gone(t *testing.T, o *order.Order, number, now int) {
	t.Helper()
	goneRefused(t, o, number, now, api.OK)
}

func goneRefused(t *testing.T, o *order.Order, number, now int, want api.Errno) {
	t.Helper()
	if err := o.Gone(number, now); plain.Told(err) != want {
		t.Errorf("Gone(%d, %d) = %v, want %v", number, now, err, want)
	}
}

func pop(t *testing.T, o *order.Order, now int, want ...api.Item) {
	t.Helper()
	if got, err := o.Pop(now); !same(got, want) || err != nil {
		t.Errorf("Pop(%d) = %v, %v, want %v", now, got, err, want)
	}
}

func popRefused(t *testing.T, o *order.Order, now int, want api.Errno) {
	t.Helper()
	if got, err := o.Pop(now); len(got) != 0 || plain.Told(err) != want {
		t.Errorf("Pop(%d) = %v, %v, want %v", now, got, err, want)
	}
}

func length(t *testing.T, o *order.Order, want int) {
	t.Helper()
	if got := o.Len(); got != want {
		t.Errorf("Len = %d, want %d", got, want)
	}
}

// told is an item, and when it was pushed or told to be gone.
type told struct {
	item api.Item
	when int
}

// model is the chapter's O1 and O2: all that was ever taken stands in a row, all that was handed out in another,
// and what is next and what is there is found anew each time.
type model struct {
	wait, clock int
	row         []told
	out         []api.Item
}

// next tells the number that is next, and whether there is any.
func (m *model) next() (int, bool) {
	if len(m.out) > 0 {
		return m.out[len(m.out)-1].Number + 1, true
	}
	if len(m.row) > 0 {
		return m.row[0].item.Number, true
	}
	return 0, false
}

// there: what was taken and was not handed out.
func (m *model) there() (l []told) {
	for _, x := range m.row {
		if !slices.ContainsFunc(m.out, func(y api.Item) bool { return x.item.Number == y.Number }) {
			l = append(l, x)
		}
	}
	return l
}

func (m *model) find(number int) (told, bool) {
	for _, x := range m.there() {
		if x.item.Number == number {
			return x, true
		}
	}
	return told{}, false
}

func (m *model) at(now int) api.Errno {
	switch {
	case now < 0 || now > maxTime:
		return api.ErrRange
	case now < m.clock:
		return api.ErrState
	}
	return api.OK
}

func (m *model) take(item api.Item, now int) bool {
	next, some := m.next()
	_, is := m.find(item.Number)
	if is || some && item.Number < next {
		return false
	}
	m.row = append(m.row, told{item, now})
	return true
}

// push takes a good packet, or one of which is known what is wrong with it.
func (m *model) push(number int, p badPacket, now int) (bool, api.Errno) {
	if no := m.at(now); no != api.OK {
		return false, no
	}
	if number < 0 || number > maxLong {
		return false, api.ErrRange
	}
	if p.want != api.OK {
		return false, p.want
	}
	if next, some := m.next(); some && number >= next+maxList {
		return false, api.ErrFull
	}
	m.clock = now
	return m.take(api.Item{Number: number, Packet: p.p}, now), api.OK
}

func (m *model) gone(number, now int) api.Errno {
	if no := m.at(now); no != api.OK {
		return no
	}
	if number < 0 || number > maxLong {
		return api.ErrRange
	}
	next, some := m.next()
	if !some {
		return api.ErrState
	}
	m.clock = now
	if number < next+maxList {
		m.take(lost(number), now)
	}
	return api.OK
}

func (m *model) pop(now int) ([]api.Item, api.Errno) {
	if no := m.at(now); no != api.OK {
		return nil, no
	}
	m.clock = now
	before := len(m.out)
	for {
		next, _ := m.next()
		x, is := m.find(next)
		late := slices.ContainsFunc(m.there(), func(y told) bool {
			return y.item.Number > next && y.when+m.wait <= now
		})
		switch {
		case is:
			m.out = append(m.out, x.item)
		case late:
			m.out = append(m.out, lost(next))
		default:
			return m.out[before:], api.OK
		}
	}
}

func TestNewAtItsEdges(t *testing.T) {
	for _, wait := range []int{0, 1, 2, 65535, 65536, maxTime - 1, maxTime} {
		o := newOrder(t, wait)
		length(t, o, 0)
		pop(t, o, 0)
		push(t, o, 7, 0, true)
		pop(t, o, 0, came(7))
	}
	for _, wait := range badTimes {
		if o, err := order.New(wait); o != nil || plain.Told(err) != api.ErrRange {
			t.Errorf("New(%d) = %v, %v", wait, o, err)
		}
	}
}

// TestNothingKept: with nothing pushed yet, and with all handed out, there is nothing to hand out, however late it is.
func TestNothingKept(t *testing.T) {
	for _, wait := range []int{0, 1, maxTime} {
		o := newOrder(t, wait)
		for _, now := range []int{0, 0, 1, 500} {
			pop(t, o, now)
			length(t, o, 0)
		}
		push(t, o, 3, 500, true)
		length(t, o, 1)
		pop(t, o, 500, came(3))
		for _, now := range []int{500, 501, maxTime} {
			pop(t, o, now)
			length(t, o, 0)
		}
	}
}

// TestEveryFirstNumber: the first of all may be any; what is below it is never handed out.
func TestEveryFirstNumber(t *testing.T) {
	for _, number := range firsts {
		o := newOrder(t, 0)
		push(t, o, number, 0, true)
		length(t, o, 1)
		for _, below := range []int{number - 1, number / 2, 0} {
			if below >= 0 && below < number {
				push(t, o, below, 0, false)
				gone(t, o, below, 0)
			}
		}
		length(t, o, 1)
		pop(t, o, 0, came(number))
		push(t, o, number, 0, false)
		gone(t, o, number, 0)
		length(t, o, 0)
		pop(t, o, maxTime)
	}
}

// TestFirstBehindOtherCalls: neither a Pop nor a call that was refused makes a number the first one.
func TestFirstBehindOtherCalls(t *testing.T) {
	o := newOrder(t, 0)
	pop(t, o, 4)
	goneRefused(t, o, 10, 4, api.ErrState)
	pushRefused(t, o, -1, made(1), 4, api.ErrRange)
	pushRefused(t, o, maxLong+1, made(1), 4, api.ErrRange)
	pushRefused(t, o, 11, api.Packet{Seq: -1}, 4, api.ErrRange)
	pushRefused(t, o, 11, api.Packet{Body: make([]byte, maxBody+1)}, 4, api.ErrFull)
	pushRefused(t, o, 11, made(1), 3, api.ErrState)
	pushRefused(t, o, 11, made(1), -1, api.ErrRange)
	length(t, o, 0)
	goneRefused(t, o, 11, 4, api.ErrState)
	push(t, o, 900000, 4, true)
	length(t, o, 1)
	push(t, o, 11, 4, false)
	pop(t, o, 4, came(900000))
}

// TestNumbersThatFollow: each at once, several at once, and all at once.
func TestNumbersThatFollow(t *testing.T) {
	for _, first := range []int{0, 7, maxLong - 99} {
		for _, each := range []int{1, 2, 3, 7, 50, 100} {
			o := newOrder(t, 5)
			for number := first; number < first+100; number++ {
				push(t, o, number, 3, true)
				behind := number - first + 1
				length(t, o, (behind-1)%each+1)
				if behind%each == 0 {
					pop(t, o, 3, run(came, number-each+1, each)...)
					pop(t, o, 3)
					length(t, o, 0)
				}
			}
		}
	}
}

// TestOutOfOrder: what was pushed crosswise is handed out by number.
func TestOutOfOrder(t *testing.T) {
	o := newOrder(t, maxTime)
	for _, number := range []int{20, 24, 22, 21, 26, 23} {
		push(t, o, number, 0, true)
	}
	length(t, o, 6)
	pop(t, o, 0, run(came, 20, 5)...)
	length(t, o, 1)
	pop(t, o, 0)
	push(t, o, 25, 0, true)
	length(t, o, 2)
	pop(t, o, 0, came(25), came(26))
	length(t, o, 0)
}

// TestAheadOfNext: what is next, and what is less than MaxList ahead of it, is kept; what is more is refused.
func TestAheadOfNext(t *testing.T) {
	for _, first := range []int{0, 1, 65530, maxLong - maxList - 2} {
		for _, handed := range []int{0, 1, 2} {
			o := newOrder(t, 9)
			push(t, o, first, 0, true)
			for i := range handed {
				pop(t, o, 0, came(first+i))
				push(t, o, first+i+1, 0, true)
			}
			next := first + handed
			length(t, o, 1)
			for _, far := range []int{next + maxList, min(next+maxList+1, maxLong), maxLong - 1, maxLong} {
				if far >= next+maxList {
					pushRefused(t, o, far, made(1), 0, api.ErrFull)
				}
			}
			length(t, o, 1)
			push(t, o, next+maxList-1, 0, true)
			push(t, o, next+maxList-1, 0, false)
			push(t, o, next+maxList-2, 0, true)
			push(t, o, next+1, 0, true)
			push(t, o, next, 0, false)
			length(t, o, 4)
			// One that is handed out makes room for just one.
			pop(t, o, 0, came(next), came(next+1))
			push(t, o, next+maxList, 0, true)
			push(t, o, next+2, 0, true)
			length(t, o, 4)
		}
	}
}

// TestFarAheadOfTheFirst: with the first one kept still, too, far ahead is far ahead of it.
func TestFarAheadOfTheFirst(t *testing.T) {
	o := newOrder(t, 1)
	push(t, o, 5, 0, true)
	push(t, o, 150, 0, true)
	pushRefused(t, o, 5+maxList, made(1), 0, api.ErrFull)
	pushRefused(t, o, 340, made(1), 0, api.ErrFull)
	push(t, o, 5+maxList-1, 0, true)
	length(t, o, 3)
}

// TestAsManyAsMayBe: MaxList are kept, and are handed out at once.
func TestAsManyAsMayBe(t *testing.T) {
	for _, wait := range []int{0, 1, maxTime} {
		for _, first := range []int{0, 3, maxLong - maxList + 1} {
			o := newOrder(t, wait)
			push(t, o, first, 0, true)
			for number := first + maxList - 1; number > first; number-- {
				push(t, o, number, 0, true)
			}
			length(t, o, maxList)
			for number := first; number < first+maxList; number++ {
				pushPacket(t, o, number, made(number+1), 0, false)
			}
			pop(t, o, 0, run(came, first, maxList)...)
			length(t, o, 0)
			for number := first; number < first+maxList; number++ {
				push(t, o, number, 0, false)
			}
		}
	}
}

// TestLastNumber: behind MaxLong nothing comes, and nothing is handed out.
func TestLastNumber(t *testing.T) {
	o := newOrder(t, 0)
	push(t, o, maxLong-2, 0, true)
	push(t, o, maxLong, 0, true)
	pop(t, o, 0, came(maxLong-2), lost(maxLong-1), came(maxLong))
	for _, number := range []int{maxLong, maxLong - 1, maxLong - 2, 0} {
		push(t, o, number, 1, false)
		gone(t, o, number, 1)
	}
	pushRefused(t, o, maxLong+1, made(1), 1, api.ErrRange)
	goneRefused(t, o, maxLong+1, 1, api.ErrRange)
	length(t, o, 0)
	pop(t, o, maxTime)

	o = newOrder(t, 0)
	push(t, o, maxLong-1, 0, true)
	gone(t, o, maxLong, 0)
	pop(t, o, 0, came(maxLong-1), lost(maxLong))
	pop(t, o, maxTime)
}

// TestOlderStays: of what is pushed twice the first packet is handed out, though nothing is in it.
func TestOlderStays(t *testing.T) {
	o := newOrder(t, 5)
	pushPacket(t, o, 10, api.Packet{}, 0, true)
	pushPacket(t, o, 12, made(3), 0, true)
	for _, p := range []api.Packet{made(4), {}, made(3)} {
		pushPacket(t, o, 10, p, 0, false)
		pushPacket(t, o, 12, p, 0, false)
	}
	length(t, o, 2)
	pop(t, o, 5, api.Item{Number: 10}, lost(11), api.Item{Number: 12, Packet: made(3)})
}

// TestHandedOutComesAgain: neither what came nor what did not is taken then, nor is it told to be gone.
func TestHandedOutComesAgain(t *testing.T) {
	o := newOrder(t, 2)
	push(t, o, 5, 0, true)
	push(t, o, 8, 0, true)
	gone(t, o, 9, 0)
	pop(t, o, 2, came(5), lost(6), lost(7), came(8), lost(9))
	for number := range 10 {
		push(t, o, number, 2, false)
		gone(t, o, number, 2)
	}
	length(t, o, 0)
	pop(t, o, maxTime)
	push(t, o, 10, maxTime, true)
	pop(t, o, maxTime, came(10))
}

// TestGoneCountsAsThere: what is next, and what is ahead of it by less than MaxList.
func TestGoneCountsAsThere(t *testing.T) {
	for _, first := range []int{0, 1, 65530, maxLong - maxList} {
		o := newOrder(t, maxTime)
		push(t, o, first, 0, true)
		pop(t, o, 0, came(first))
		next := first + 1
		gone(t, o, next, 0)
		length(t, o, 1)
		gone(t, o, next+2, 0)
		gone(t, o, next+maxList-1, 0)
		length(t, o, 3)
		pop(t, o, 0, lost(next))
		length(t, o, 2)
		pop(t, o, 0)
		push(t, o, next+1, 0, true)
		pop(t, o, 0, came(next+1), lost(next+2))
		length(t, o, 1)
		for number := next + 3; number < next+maxList-1; number++ {
			gone(t, o, number, 0)
		}
		pop(t, o, 0, run(lost, next+3, maxList-3)...)
		length(t, o, 0)
	}
}

// TestGoneFarAhead: MaxList ahead of what is next, and farther, nothing is changed, and nothing is wrong.
func TestGoneFarAhead(t *testing.T) {
	for _, handed := range []int{0, 1} {
		o := newOrder(t, 0)
		push(t, o, 40, 0, true)
		if handed > 0 {
			pop(t, o, 0, came(40))
		}
		next := 40 + handed
		for _, number := range []int{next + maxList, next + maxList + 1, 65536, maxLong - 1, maxLong} {
			gone(t, o, number, 1)
			length(t, o, 1-handed)
		}
		pop(t, o, 9, run(came, 40, 1-handed)...)
		gone(t, o, 41+maxList-1, 9)
		length(t, o, 1)
		pop(t, o, 9, run(lost, 41, maxList)...)
		// What was too far away then is not known to be gone now.
		pop(t, o, maxTime)
		push(t, o, 41+maxList, maxTime, true)
		length(t, o, 1)
	}
}

// TestGoneBehind: what is below what is next stays as it is.
func TestGoneBehind(t *testing.T) {
	o := newOrder(t, 0)
	push(t, o, 40, 0, true)
	for _, number := range []int{39, 38, 1, 0} {
		gone(t, o, number, 0)
		length(t, o, 1)
	}
	pop(t, o, 0, came(40))
	for _, number := range []int{40, 39, 0} {
		gone(t, o, number, 0)
		length(t, o, 0)
	}
	pop(t, o, 0)
	push(t, o, 41, 0, true)
	pop(t, o, 0, came(41))
}

// TestGoneOfWhatIsThere: a packet that is there stays, and waits since it was pushed.
func TestGoneOfWhatIsThere(t *testing.T) {
	o := newOrder(t, 10)
	push(t, o, 1, 0, true)
	push(t, o, 3, 4, true)
	gone(t, o, 1, 6)
	gone(t, o, 3, 6)
	gone(t, o, 3, 7)
	length(t, o, 2)
	pop(t, o, 13, came(1))
	pop(t, o, 14, lost(2), came(3))
}

// TestGoneIsPushedThen: it is not taken, and what was told first stays.
func TestGoneIsPushedThen(t *testing.T) {
	o := newOrder(t, 10)
	push(t, o, 1, 0, true)
	gone(t, o, 2, 0)
	gone(t, o, 4, 3)
	push(t, o, 2, 4, false)
	push(t, o, 4, 5, false)
	gone(t, o, 4, 6)
	length(t, o, 3)
	pop(t, o, 12, came(1), lost(2))
	push(t, o, 2, 12, false)
	pop(t, o, 13, lost(3), lost(4))
	push(t, o, 4, 13, false)
	length(t, o, 0)
}

func TestGoneWithNothingPushed(t *testing.T) {
	o := newOrder(t, 0)
	for _, number := range firsts {
		goneRefused(t, o, number, 5, api.ErrState)
	}
	length(t, o, 0)
	pop(t, o, 5)
	push(t, o, 6, 5, true)
	gone(t, o, 7, 5)
	length(t, o, 2)
	pop(t, o, 5, came(6), lost(7))
	// All was handed out, but something was pushed.
	gone(t, o, 9, 5)
	length(t, o, 1)
}

// TestGoneIsEmpty: the Packet of what does not come is empty, whether it was told or waited for.
func TestGoneIsEmpty(t *testing.T) {
	o := newOrder(t, 1)
	push(t, o, 6, 0, true)
	gone(t, o, 7, 0)
	gone(t, o, 9, 0)
	push(t, o, 7, 0, false)
	push(t, o, 10, 0, true)
	got, err := o.Pop(1)
	if err != nil || len(got) != 5 {
		t.Fatalf("Pop = %v, %v", got, err)
	}
	for _, item := range got[1:4] {
		if !item.Gone || !reflect.ValueOf(item.Packet).IsZero() {
			t.Errorf("gone: %v", item)
		}
	}
}

// TestWaited: one less than wait is not enough, just wait is, since what is ahead was pushed, or told to be gone.
func TestWaited(t *testing.T) {
	for _, wait := range []int{0, 1, 2, 10, maxTime - 1, maxTime} {
		for _, start := range []int{0, 1, maxTime - wait} {
			if start > maxTime-wait {
				continue
			}
			for _, isGone := range []bool{false, true} {
				o := newOrder(t, wait)
				push(t, o, 5, 0, true)
				pop(t, o, start, came(5))
				last := came(8)
				if isGone {
					gone(t, o, 8, start)
					last = lost(8)
				} else {
					push(t, o, 8, start, true)
				}
				if wait > 0 {
					pop(t, o, start)
					pop(t, o, start+wait-1)
				}
				length(t, o, 1)
				pop(t, o, start+wait, lost(6), lost(7), last)
				length(t, o, 0)
			}
		}
	}
}

// TestWaitedLonger: it does not matter by how much.
func TestWaitedLonger(t *testing.T) {
	for _, late := range []int{11, 12, 20, 500, maxTime} {
		o := newOrder(t, 10)
		push(t, o, 5, 0, true)
		push(t, o, 7, 0, true)
		pop(t, o, late, came(5), lost(6), came(7))
	}
}

// TestNobodyWaitsForWhatIsThere: what is there is handed out at once, whatever wait is.
func TestNobodyWaitsForWhatIsThere(t *testing.T) {
	o := newOrder(t, maxTime)
	push(t, o, 5, 7, true)
	push(t, o, 6, 7, true)
	gone(t, o, 7, 7)
	push(t, o, 8, 7, true)
	push(t, o, 10, 7, true)
	pop(t, o, 7, came(5), came(6), lost(7), came(8))
	length(t, o, 1)
	pop(t, o, maxTime)
}

// TestAnythingAhead: of what is ahead any one that has waited is enough, the nearest or not. What is lacking beyond
// it is waited for on and on.
func TestAnythingAhead(t *testing.T) {
	o := newOrder(t, 10)
	push(t, o, 0, 0, true)
	push(t, o, 6, 0, true)
	push(t, o, 3, 5, true)
	push(t, o, 9, 7, true)
	pop(t, o, 9, came(0))
	pop(t, o, 10, lost(1), lost(2), came(3), lost(4), lost(5), came(6))
	length(t, o, 1)
	pop(t, o, 16)
	pop(t, o, 17, lost(7), lost(8), came(9))

	// The nearest has waited, the one beyond has not.
	o = newOrder(t, 10)
	push(t, o, 0, 0, true)
	push(t, o, 3, 0, true)
	push(t, o, 4, 5, true)
	push(t, o, 6, 5, true)
	pop(t, o, 10, came(0), lost(1), lost(2), came(3), came(4))
	length(t, o, 1)
	pop(t, o, 14)
	push(t, o, 5, 14, true)
	pop(t, o, 14, came(5), came(6))
}

// TestFarthestHasWaited: all up to it is handed out at once, as many as there can be.
func TestFarthestHasWaited(t *testing.T) {
	for _, first := range []int{0, 77, maxLong - maxList} {
		o := newOrder(t, 3)
		push(t, o, first, 0, true)
		pop(t, o, 0, came(first))
		push(t, o, first+maxList, 0, true)
		push(t, o, first+2, 2, true)
		pop(t, o, 2)
		want := append([]api.Item{lost(first + 1), came(first + 2)}, run(lost, first+3, maxList-3)...)
		pop(t, o, 3, append(want, came(first+maxList))...)
		length(t, o, 0)
	}
}

// TestPushAgainDoesNotWaitAnew: what is there waits since it was pushed first.
func TestPushAgainDoesNotWaitAnew(t *testing.T) {
	o := newOrder(t, 10)
	push(t, o, 0, 0, true)
	push(t, o, 2, 1, true)
	push(t, o, 2, 6, false)
	pop(t, o, 10, came(0))
	push(t, o, 2, 10, false)
	pop(t, o, 11, lost(1), came(2))
}

// TestNowAtItsEdges: 0 and MaxTime may be, and the same again; what is one beyond may not.
func TestNowAtItsEdges(t *testing.T) {
	o := newOrder(t, 3)
	outside := func() {
		t.Helper()
		for _, now := range badTimes {
			pushRefused(t, o, 1, made(1), now, api.ErrRange)
			pushRefused(t, o, 4, made(4), now, api.ErrRange)
			goneRefused(t, o, 2, now, api.ErrRange)
			popRefused(t, o, now, api.ErrRange)
		}
	}
	outside()
	push(t, o, 1, 0, true)
	gone(t, o, 3, 0)
	pop(t, o, 0, came(1))
	push(t, o, 5, 0, true)
	outside()
	length(t, o, 2)
	gone(t, o, 7, maxTime)
	push(t, o, 8, maxTime, true)
	length(t, o, 4)
	outside()
	pushRefused(t, o, 9, made(9), maxTime-1, api.ErrState)
	goneRefused(t, o, 9, maxTime-1, api.ErrState)
	popRefused(t, o, maxTime-1, api.ErrState)
	length(t, o, 4)
	pop(t, o, maxTime, lost(2), lost(3), lost(4), came(5))
	push(t, o, 6, maxTime, true)
	pop(t, o, maxTime, came(6), lost(7), came(8))
}

// TestNowGoesBack: each call with a now moves the clock for all of them, whatever it answers.
func TestNowGoesBack(t *testing.T) {
	o := newOrder(t, 1000)
	behind := func(last int) {
		t.Helper()
		for _, now := range []int{last - 1, last / 2, 0} {
			pushRefused(t, o, 5, made(5), now, api.ErrState)
			pushRefused(t, o, 99, made(99), now, api.ErrState)
			goneRefused(t, o, 99, now, api.ErrState)
			popRefused(t, o, now, api.ErrState)
		}
	}
	pop(t, o, 5)
	behind(5)
	push(t, o, 5, 10, true)
	behind(10)
	push(t, o, 5, 20, false)
	behind(20)
	push(t, o, 4, 30, false)
	behind(30)
	gone(t, o, 7, 40)
	behind(40)
	gone(t, o, 7, 50)
	behind(50)
	gone(t, o, 4, 60)
	behind(60)
	gone(t, o, 5+maxList, 70)
	behind(70)
	length(t, o, 2)
	pop(t, o, 80, came(5))
	behind(80)
	pop(t, o, 90)
	behind(90)
	length(t, o, 1)
	push(t, o, 6, 90, true)
	pop(t, o, 90, came(6), lost(7))
}

// TestFaultsDoNotMoveTheClock: less than in a call that told an error may be.
func TestFaultsDoNotMoveTheClock(t *testing.T) {
	empty := newOrder(t, 0)
	goneRefused(t, empty, 3, 700, api.ErrState)
	goneRefused(t, empty, -1, 700, api.ErrRange)
	pushRefused(t, empty, maxLong+1, made(1), 700, api.ErrRange)
	pop(t, empty, 1)

	o := newOrder(t, 100)
	push(t, o, 5, 10, true)
	refuse := func() {
		t.Helper()
		for _, number := range badNumbers {
			pushRefused(t, o, number, made(1), 500, api.ErrRange)
			goneRefused(t, o, number, 500, api.ErrRange)
		}
		for _, bad := range badPackets() {
			pushRefused(t, o, 6, bad.p, 500, bad.want)
		}
		pushRefused(t, o, 5+maxList+2, made(1), maxTime, api.ErrFull)
		for _, now := range badTimes {
			pushRefused(t, o, 6, made(1), now, api.ErrRange)
			goneRefused(t, o, 6, now, api.ErrRange)
			popRefused(t, o, now, api.ErrRange)
		}
	}
	refuse()
	push(t, o, 7, 10, true)
	refuse()
	gone(t, o, 8, 10)
	refuse()
	pop(t, o, 10, came(5))
	pushRefused(t, o, 6, made(6), 9, api.ErrState)
	refuse()
	pop(t, o, 110, lost(6), came(7), lost(8))
}

// TestWrongNumbers: they are refused with nothing, with little and with much kept, and nothing is changed.
func TestWrongNumbers(t *testing.T) {
	for _, pushed := range [][]int{nil, {0}, {maxLong}, {3, 5}, {0, maxList - 1}, {maxLong - 2, maxLong}} {
		o, m := newOrder(t, 0), &model{}
		for _, number := range pushed {
			push(t, o, number, 1, true)
			m.push(number, badPacket{p: made(number)}, 1)
		}
		for _, number := range badNumbers {
			pushRefused(t, o, number, made(1), 1, api.ErrRange)
			goneRefused(t, o, number, 1, api.ErrRange)
		}
		length(t, o, len(pushed))
		want, _ := m.pop(1)
		pop(t, o, 1, want...)
	}
}

func TestNumbersAtTheirEdges(t *testing.T) {
	o := newOrder(t, 0)
	push(t, o, 0, 0, true)
	gone(t, o, 0, 0)
	gone(t, o, maxLong, 0)
	pushRefused(t, o, maxLong, made(1), 0, api.ErrFull)
	length(t, o, 1)

	o = newOrder(t, 0)
	push(t, o, maxLong, 0, true)
	push(t, o, 0, 0, false)
	gone(t, o, 0, 0)
	gone(t, o, maxLong, 0)
	length(t, o, 1)
	pop(t, o, 0, came(maxLong))
}

// TestWrongPackets: chapter 3's Check is told ahead of ErrFull, and of a packet that would not be kept.
func TestWrongPackets(t *testing.T) {
	for _, bad := range badPackets() {
		o := newOrder(t, 2)
		for _, number := range firsts {
			pushRefused(t, o, number, bad.p, 0, bad.want)
		}
		length(t, o, 0)
		push(t, o, 10, 0, true)
		pop(t, o, 0, came(10))
		push(t, o, 12, 0, true)
		gone(t, o, 13, 0)
		for _, number := range []int{0, 9, 10, 11, 12, 13, 14, 10 + maxList, 11 + maxList, 12 + maxList, maxLong} {
			pushRefused(t, o, number, bad.p, 0, bad.want)
		}
		length(t, o, 2)
		pop(t, o, 2, lost(11), came(12), lost(13))
	}
}

func TestPacketsAtTheirEdges(t *testing.T) {
	o := newOrder(t, 0)
	edges := []api.Packet{
		{},
		{Start: true},
		{Body: []byte{}},
		{Body: []byte{0}},
		{Seq: 65535, Time: 1<<32 - 1, Layer: 3, Level: 127, Start: true, Body: bytes.Repeat([]byte{255}, maxBody)},
		{Seq: 65535}, {Time: 1<<32 - 1}, {Layer: 3}, {Level: 127},
		{Body: bytes.Repeat([]byte{7}, maxBody-1)},
	}
	var want []api.Item
	for number, p := range edges {
		pushPacket(t, o, number, p, 0, true)
		want = append(want, api.Item{Number: number, Packet: p})
	}
	pop(t, o, 0, want...)
}

// TestTwoFaults: a now is told first, then a number, then a packet, and ErrFull or ErrState at last.
func TestTwoFaults(t *testing.T) {
	o := newOrder(t, 2)
	full := api.Packet{Body: make([]byte, maxBody+1)}
	back := []int{99, 50, 0}
	pop(t, o, 100)
	for _, number := range append([]int{0, 5}, badNumbers...) {
		for _, now := range badTimes {
			goneRefused(t, o, number, now, api.ErrRange)
		}
	}
	for _, number := range badNumbers {
		// Nothing was pushed, too.
		goneRefused(t, o, number, 100, api.ErrRange)
	}
	push(t, o, 3, 100, true)
	for _, p := range []api.Packet{made(1), full, {Seq: -1}} {
		for _, number := range append([]int{3, 4, 3 + maxList, maxLong}, badNumbers...) {
			for _, now := range badTimes {
				pushRefused(t, o, number, p, now, api.ErrRange)
				goneRefused(t, o, number, now, api.ErrRange)
			}
			for _, now := range back {
				pushRefused(t, o, number, p, now, api.ErrState)
				goneRefused(t, o, number, now, api.ErrState)
			}
		}
		for _, number := range badNumbers {
			pushRefused(t, o, number, p, 100, api.ErrRange)
		}
	}
	pushRefused(t, o, 3+maxList, api.Packet{Layer: 4}, 100, api.ErrRange)
	pushRefused(t, o, maxLong, api.Packet{Level: -1, Body: full.Body}, 100, api.ErrRange)
	length(t, o, 1)
	pop(t, o, 100, came(3))
}

// TestRefusedCallsChangeNothing: not what is next, nor what is kept, nor since when.
func TestRefusedCallsChangeNothing(t *testing.T) {
	o := newOrder(t, 5)
	refuse := func() {
		t.Helper()
		popRefused(t, o, -1, api.ErrRange)
		popRefused(t, o, maxTime+1, api.ErrRange)
		popRefused(t, o, 9, api.ErrState)
		for _, number := range []int{1, 2, 3, 4, 5} {
			pushRefused(t, o, number, made(8), -1, api.ErrRange)
			pushRefused(t, o, number, made(8), maxTime+1, api.ErrRange)
			pushRefused(t, o, number, made(8), 9, api.ErrState)
			pushRefused(t, o, number, api.Packet{Seq: -1}, maxTime, api.ErrRange)
			goneRefused(t, o, number, -1, api.ErrRange)
			goneRefused(t, o, number, maxTime+1, api.ErrRange)
			goneRefused(t, o, number, 9, api.ErrState)
		}
		pushRefused(t, o, 1000, made(8), maxTime, api.ErrFull)
		pushRefused(t, o, -1, made(8), maxTime, api.ErrRange)
		goneRefused(t, o, -1, maxTime, api.ErrRange)
	}
	push(t, o, 1, 10, true)
	refuse()
	length(t, o, 1)
	push(t, o, 3, 12, true)
	refuse()
	gone(t, o, 5, 14)
	refuse()
	length(t, o, 3)
	pop(t, o, 16, came(1))
	refuse()
	length(t, o, 2)
	pop(t, o, 17, lost(2), came(3))
	refuse()
	pop(t, o, 18)
	pop(t, o, 19, lost(4), lost(5))
	refuse()
	length(t, o, 0)
}

// number is one near what is next in a model, with a wrong or a far one now and then.
func (m *model) number(random *rand.Rand, first int) int {
	if random.Intn(25) == 0 {
		return badNumbers[random.Intn(len(badNumbers))]
	}
	next, some := m.next()
	if !some {
		return first
	}
	switch random.Intn(16) {
	case 0:
		return next + maxList - 2 + random.Intn(4)
	case 1:
		return next + random.Intn(maxList)
	case 2, 3:
		return next - 1 - random.Intn(4)
	case 4, 5, 6, 7:
		return next
	}
	return next + random.Intn(8)
}

func (m *model) now(random *rand.Rand) int {
	switch random.Intn(20) {
	case 0:
		return badTimes[random.Intn(len(badTimes))]
	case 1:
		return m.clock - 1
	case 2, 3, 4, 5:
		return m.clock
	case 6:
		return m.clock + m.wait
	}
	return m.clock + random.Intn(2)
}

func packet(random *rand.Rand) badPacket {
	if random.Intn(15) == 0 {
		l := badPackets()
		return l[random.Intn(len(l))]
	}
	return badPacket{p: made(random.Intn(65536))}
}

// whole: what was handed out is one number behind the other, from the first one on.
func whole(t *testing.T, l []api.Item) {
	t.Helper()
	for i, item := range l {
		if item.Number != l[0].Number+i {
			t.Fatalf("number %d stands at place %d behind %d", item.Number, i, l[0].Number)
		}
	}
}

// TestAsTheModel: rows of all calls, and each time how many are kept.
func TestAsTheModel(t *testing.T) {
	random := rand.New(rand.NewSource(1))
	for range 300 {
		wait := []int{0, 1, 2, 3, 5, 9, 30}[random.Intn(7)]
		o, m := newOrder(t, wait), &model{wait: wait}
		first := []int{0, 1, 65530, maxLong - 300, maxLong - 20, maxLong}[random.Intn(6)]
		m.clock = []int{0, 0, 500, maxTime - 60, maxTime}[random.Intn(5)]
		pop(t, o, m.clock)
		var out []api.Item
		for i := range 120 {
			number, now := m.number(random, first), m.now(random)
			switch random.Intn(7) {
			case 0, 1, 2:
				p := packet(random)
				want, no := m.push(number, p, now)
				if got, err := o.Push(number, p.p, now); got != want || plain.Told(err) != no {
					t.Fatalf("call %d: Push(%d, .., %d) = %v, %v, want %v, %v", i, number, now, got, err, want, no)
				}
			case 3:
				no := m.gone(number, now)
				if err := o.Gone(number, now); plain.Told(err) != no {
					t.Fatalf("call %d: Gone(%d, %d) = %v, want %v", i, number, now, err, no)
				}
			default:
				want, no := m.pop(now)
				got, err := o.Pop(now)
				if !same(got, want) || plain.Told(err) != no {
					t.Fatalf("call %d: Pop(%d) = %v, %v, want %v, %v", i, now, got, err, want, no)
				}
				out = append(out, got...)
			}
			if length(t, o, len(m.there())); t.Failed() {
				t.FailNow()
			}
		}
		whole(t, out)
	}
}

// TestOrdersAreApart: what is pushed into one is not in another.
func TestOrdersAreApart(t *testing.T) {
	a, b := newOrder(t, 2), newOrder(t, 2)
	push(t, a, 5, 50, true)
	length(t, b, 0)
	goneRefused(t, b, 6, 0, api.ErrState)
	pop(t, b, 0)
	push(t, b, 1, 0, true)
	push(t, a, 6, 50, true)
	length(t, a, 2)
	pop(t, b, 0, came(1))
	pop(t, a, 50, came(5), came(6))
}

// spoil writes into all the memory that the Bodies of items, and the list of them, have.
func spoil(l []api.Item) {
	for _, item := range l {
		clear(item.Packet.Body[:cap(item.Packet.Body)])
	}
	clear(l[:cap(l)])
}

// TestMemoryIsApart: neither who handed a packet in nor who got one can change what is kept.
func TestMemoryIsApart(t *testing.T) {
	const text = "abcdefghij"
	room := []byte(text)
	p := api.Packet{Seq: 3, Body: room[:4]}
	o := newOrder(t, 2)
	for _, number := range []int{1, 2, 3, 5} {
		pushPacket(t, o, number, p, 0, true)
	}
	// A packet that is refused, or not kept, is not written into either.
	pushPacket(t, o, 1, p, 0, false)
	pushPacket(t, o, 0, p, 0, false)
	pushRefused(t, o, maxLong, p, 0, api.ErrFull)
	if string(room) != text {
		t.Fatalf("Push wrote into what was handed in: %q", room)
	}
	clear(room)

	want := api.Packet{Seq: 3, Body: []byte("abcd")}
	got, _ := o.Pop(0)
	if !same(got, []api.Item{{Number: 1, Packet: want}, {Number: 2, Packet: want}, {Number: 3, Packet: want}}) {
		t.Fatalf("Pop = %v", got)
	}
	spoil(got[:1:1])
	if !same(got[1:], []api.Item{{Number: 2, Packet: want}, {Number: 3, Packet: want}}) {
		t.Errorf("two Bodies share memory: %v", got[1:])
	}
	body := append(got[1].Packet.Body, text...)
	clear(body)
	if string(got[2].Packet.Body) != "abcd" {
		t.Errorf("two Bodies share memory: %v", got[2:])
	}
	spoil(got)
	pop(t, o, 2, lost(4), api.Item{Number: 5, Packet: want})
	if !bytes.Equal(room, make([]byte, len(text))) {
		t.Errorf("a call wrote into what was handed in: %q", room)
	}
}

// TestAnswersAreApart: what one Pop answered stays as it is in the next one.
func TestAnswersAreApart(t *testing.T) {
	o := newOrder(t, 9)
	push(t, o, 1, 0, true)
	push(t, o, 2, 0, true)
	push(t, o, 3, 0, true)
	first, _ := o.Pop(0)
	for number := 4; number < 12; number++ {
		push(t, o, number, 0, true)
	}
	second, _ := o.Pop(0)
	if !same(first, run(came, 1, 3)) || !same(second, run(came, 4, 8)) {
		t.Errorf("Pop = %v, then %v", first, second)
	}
	spoil(first)
	if !same(second, run(came, 4, 8)) {
		t.Errorf("two answers share memory: %v", second)
	}
}
