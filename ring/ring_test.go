package ring_test

import (
	"bytes"
	"math"
	"math/rand"
	"reflect"
	"testing"

	"choirloft/api"
	"choirloft/plain"
	"choirloft/ring"
)

const maxRing, maxLong, maxBody = 64, 1 << 40, 1000

// outside: numbers that may not be, just below 0 and just above MaxLong, and far away.
var outside = []int{-1, -2, -maxRing, -maxLong, -maxLong - 1, math.MinInt, math.MinInt + 1, math.MinInt + maxRing,
	maxLong + 1, maxLong + 2, maxLong + maxRing, 1 << 41, math.MaxInt - maxRing, math.MaxInt - 1, math.MaxInt}

// badPacket is a packet that may not be, and what chapter 3 tells of it.
type badPacket struct {
	p    api.Packet
	want api.Errno
}

func badPackets() []badPacket {
	full := make([]byte, maxBody+1)
	return []badPacket{
		{api.Packet{Seq: -1}, api.ErrRange},
		{api.Packet{Seq: 65536}, api.ErrRange},
		{api.Packet{Time: -1}, api.ErrRange},
		{api.Packet{Time: 1 << 32}, api.ErrRange},
		{api.Packet{Layer: -1}, api.ErrRange},
		{api.Packet{Layer: 4}, api.ErrRange},
		{api.Packet{Level: -1}, api.ErrRange},
		{api.Packet{Level: 128}, api.ErrRange},
		{api.Packet{Seq: math.MinInt, Time: math.MaxInt}, api.ErrRange},
		{api.Packet{Level: 128, Body: full}, api.ErrRange},
		{api.Packet{Seq: 65536, Start: true, Body: full}, api.ErrRange},
		{api.Packet{Body: full}, api.ErrFull},
		{api.Packet{Start: true, Body: make([]byte, 65536)}, api.ErrFull},
	}
}

// made is a packet that tells by every field which one it is.
func made(i int) api.Packet {
	return api.Packet{Seq: i % 65536, Time: i % 1000 * 4000000, Layer: i % 4, Level: i % 128, Start: i%3 == 0,
		Body: bytes.Repeat([]byte{byte(i)}, i%7)}
}

func same(p, q api.Packet) bool {
	return p.Seq == q.Seq && p.Time == q.Time && p.Layer == q.Layer && p.Level == q.Level &&
		p.Start == q.Start && bytes.Equal(p.Body, q.Body)
}

func newRing(t *testing.T, n int) *ring.Ring {
	t.Helper()
	r, err := ring.New(n)
	if r == nil || err != nil {
		t.Fatalf("New(%d) = %v, %v", n, r, err)
	}
	return r
}

func put(t *testing.T, r *ring.Ring, number int, p api.Packet, fresh bool) {
	t.Helper()
	if got, err := r.Put(number, p); got != fresh || err != nil {
		t.Errorf("Put(%d, %v) = %v, %v, want %v", number, p, got, err, fresh)
	}
}

func putRefused(t *testing.T, r *ring.Ring, number int, p api.Packet, want api.Errno) {
	t.Helper()
	if got, err := r.Put(number, p); got || plain.Told(err) != want {
		t.Errorf("Put(%d, a packet of Seq %d and %d bytes) = %v, %v, want %v", number, p.Seq, len(p.Body), got, err, want)
	}
}

func has(t *testing.T, r *ring.Ring, number int, want api.Packet) {
	t.Helper()
	if got, err := r.Get(number); !same(got, want) || err != nil {
		t.Errorf("Get(%d) = %v, %v, want %v", number, got, err, want)
	}
}

func hasNot(t *testing.T, r *ring.Ring, numbers ...int) {
	t.Helper()
	for _, number := range numbers {
		if got, err := r.Get(number); !reflect.DeepEqual(got, api.Packet{}) || plain.Told(err) != api.ErrNone {
			t.Errorf("Get(%d) = %v, %v, want ErrNone", number, got, err)
		}
	}
}

func counts(t *testing.T, r *ring.Ring, low, top, length int) {
	t.Helper()
	if r.Low() != low || r.Top() != top || r.Len() != length {
		t.Errorf("Low, Top, Len = %d, %d, %d, want %d, %d, %d", r.Low(), r.Top(), r.Len(), low, top, length)
	}
}

// model is the chapter's R1: all that was ever put stands in a row, and what is there is found anew in every call.
type model struct {
	n   int
	row []api.Item
}

func (m *model) top() int {
	top := -1
	for _, it := range m.row {
		top = max(top, it.Number)
	}
	return top
}

// there: what was put and is not gone.
func (m *model) there() (l []api.Item) {
	for _, it := range m.row {
		if it.Number > m.top()-m.n {
			l = append(l, it)
		}
	}
	return l
}

func (m *model) get(number int) (api.Packet, bool) {
	for _, it := range m.there() {
		if it.Number == number {
			return it.Packet, true
		}
	}
	return api.Packet{}, false
}

// put takes a good packet; bad numbers and packets are tried beside it.
func (m *model) put(number int, p api.Packet) (bool, api.Errno) {
	if number < 0 || number > maxLong {
		return false, api.ErrRange
	}
	if number <= m.top()-m.n {
		return false, api.ErrState
	}
	if _, is := m.get(number); is {
		return false, api.OK
	}
	m.row = append(m.row, api.Item{Number: number, Packet: p})
	return true, api.OK
}

func (m *model) low() int {
	low := m.top()
	for _, it := range m.there() {
		low = min(low, it.Number)
	}
	return low
}

// agree: a Ring has all that the model has, and nothing else near it.
func agree(t *testing.T, r *ring.Ring, m *model) {
	t.Helper()
	counts(t, r, m.low(), m.top(), len(m.there()))
	for number := m.top() - m.n - 3; number <= m.top()+3; number++ {
		if want, is := m.get(number); is {
			has(t, r, number, want)
		} else {
			hasNot(t, r, number)
		}
	}
}

func TestNewAtItsEdges(t *testing.T) {
	for n := 1; n <= maxRing; n++ {
		r := newRing(t, n)
		counts(t, r, -1, -1, 0)
	}
	for _, n := range []int{0, -1, -2, -maxRing, maxRing + 1, maxRing + 2, 128, 200, 1 << 32, 1<<32 + 1,
		math.MinInt, math.MinInt + 1, math.MaxInt - 1, math.MaxInt} {
		if r, err := ring.New(n); r != nil || plain.Told(err) != api.ErrRange {
			t.Errorf("New(%d) = %v, %v", n, r, err)
		}
	}
}

func TestNothingWasPutYet(t *testing.T) {
	for _, n := range []int{1, 2, maxRing} {
		r := newRing(t, n)
		hasNot(t, r, outside...)
		hasNot(t, r, 0, 1, n-1, n, n+1, maxLong-1, maxLong)
		counts(t, r, -1, -1, 0)
	}
}

func TestPutAndGet(t *testing.T) {
	r := newRing(t, 4)
	put(t, r, 10, made(1), true)
	counts(t, r, 10, 10, 1)
	put(t, r, 12, made(2), true)
	counts(t, r, 10, 12, 2)
	put(t, r, 13, made(3), true)
	counts(t, r, 10, 13, 3)
	has(t, r, 10, made(1))
	has(t, r, 12, made(2))
	has(t, r, 13, made(3))
	hasNot(t, r, 9, 11, 14)
	// What was asked for is there still.
	has(t, r, 10, made(1))
	counts(t, r, 10, 13, 3)
}

// TestEveryFirstNumber: a Ring in which nothing is takes any number, however small or great.
func TestEveryFirstNumber(t *testing.T) {
	for _, n := range []int{1, 2, 63, maxRing} {
		for _, number := range []int{0, 1, 2, 62, 63, 64, 65, 65535, 65536, 1 << 32, maxLong - 1, maxLong} {
			r := newRing(t, n)
			put(t, r, number, made(5), true)
			counts(t, r, number, number, 1)
			has(t, r, number, made(5))
			hasNot(t, r, number-1, number+1)
		}
	}
}

// TestWrongNumbers: they are refused by a Ring with nothing, with little and with much in it, and nothing is changed.
func TestWrongNumbers(t *testing.T) {
	for _, first := range [][]int{nil, {0}, {7, 5}, {maxLong}, {maxLong, maxLong - 1}} {
		r, m := newRing(t, 3), &model{n: 3}
		for i, number := range first {
			put(t, r, number, made(i), true)
			m.put(number, made(i))
		}
		for _, number := range outside {
			putRefused(t, r, number, made(8), api.ErrRange)
			for _, bad := range badPackets() {
				putRefused(t, r, number, bad.p, api.ErrRange)
			}
			hasNot(t, r, number)
		}
		agree(t, r, m)
	}
}

// TestWrongPackets: chapter 3's Check is told ahead of ErrState, and of a number that is there already.
func TestWrongPackets(t *testing.T) {
	const top, n = 100, 5
	for _, bad := range badPackets() {
		r, m := newRing(t, n), &model{n: n}
		putRefused(t, r, 0, bad.p, bad.want)
		putRefused(t, r, maxLong, bad.p, bad.want)
		agree(t, r, m)
		for _, number := range []int{top, top - 2, top - n + 1} {
			put(t, r, number, made(number), true)
			m.put(number, made(number))
		}
		for _, number := range []int{top, top - 1, top - 2, top - n + 1, top - n, top - n - 1, 0, top + 1, top + n, maxLong} {
			putRefused(t, r, number, bad.p, bad.want)
		}
		agree(t, r, m)
	}
}

func TestPacketsAtTheirEdges(t *testing.T) {
	r := newRing(t, maxRing)
	edges := []api.Packet{
		{},
		{Start: true},
		{Body: []byte{}},
		{Body: []byte{0}},
		{Seq: 65535, Time: 1<<32 - 1, Layer: 3, Level: 127, Start: true, Body: bytes.Repeat([]byte{255}, maxBody)},
		{Seq: 65535}, {Time: 1<<32 - 1}, {Layer: 3}, {Level: 127},
		{Body: bytes.Repeat([]byte{7}, maxBody-1)},
	}
	for number, p := range edges {
		put(t, r, number, p, true)
	}
	for number, p := range edges {
		has(t, r, number, p)
	}
	counts(t, r, 0, len(edges)-1, len(edges))
}

// TestOlderStays: of a number that is put twice the first packet is kept, at Top, at Low and between.
func TestOlderStays(t *testing.T) {
	for _, n := range []int{3, 4, maxRing} {
		r := newRing(t, n)
		numbers := []int{50, 48, 49}
		for _, number := range numbers {
			put(t, r, number, made(number), true)
		}
		for _, number := range numbers {
			put(t, r, number, made(number+9), false)
			put(t, r, number, made(number), false)
			put(t, r, number, api.Packet{}, false)
			has(t, r, number, made(number))
			counts(t, r, 48, 50, 3)
		}
	}
}

// TestOlderEmptyStays: the first packet is kept though nothing is in it.
func TestOlderEmptyStays(t *testing.T) {
	r := newRing(t, 1)
	put(t, r, 0, api.Packet{}, true)
	put(t, r, 0, made(6), false)
	has(t, r, 0, api.Packet{})
	counts(t, r, 0, 0, 1)
}

// TestBelowTop: what is n - 1 below Top may be put, what is n or more below may not, for every n.
func TestBelowTop(t *testing.T) {
	for n := 1; n <= maxRing; n++ {
		for _, top := range []int{n + 1, n + 2, 1000, maxLong} {
			r := newRing(t, n)
			put(t, r, top, made(1), true)
			for _, number := range []int{top - n, top - n - 1, 0, 1} {
				putRefused(t, r, number, made(2), api.ErrState)
				hasNot(t, r, number)
			}
			counts(t, r, top, top, 1)
			put(t, r, top-n+1, made(3), n > 1)
			counts(t, r, top-n+1, top, min(n, 2))
			if n > 1 {
				has(t, r, top-n+1, made(3))
			}
			has(t, r, top, made(1))
		}
	}
}

// TestNothingIsBelowZero: while Top is less than n, all from 0 on may be put.
func TestNothingIsBelowZero(t *testing.T) {
	for _, n := range []int{1, 2, 5, maxRing} {
		r := newRing(t, n)
		for number := n - 1; number >= 0; number-- {
			put(t, r, number, made(number), true)
			counts(t, r, number, n-1, n-number)
		}
		put(t, r, n, made(n), true)
		counts(t, r, 1, n, n)
		putRefused(t, r, 0, made(0), api.ErrState)
		hasNot(t, r, 0)
	}
}

// full is a Ring of which all n numbers, up to top, are there.
func full(t *testing.T, n, top int) (*ring.Ring, *model) {
	t.Helper()
	r, m := newRing(t, n), &model{n: n}
	for number := top - n + 1; number <= top; number++ {
		put(t, r, number, made(number), true)
		m.put(number, made(number))
	}
	agree(t, r, m)
	return r, m
}

// TestRise: a number above Top by just one, by n - 1, n, n + 1 and very far: what is n or more below is gone.
func TestRise(t *testing.T) {
	const top = 500
	for n := 1; n <= maxRing; n++ {
		for _, by := range []int{1, 2, n - 1, n, n + 1, 2 * n, 65536, 1 << 32, maxLong - top} {
			if by == 0 {
				continue
			}
			r, m := full(t, n, top)
			put(t, r, top+by, made(7), true)
			m.put(top+by, made(7))
			agree(t, r, m)
			left := max(n-by, 0)
			low := top + by
			if left > 0 {
				low = top + by - n + 1
			}
			counts(t, r, low, top+by, left+1)
			hasNot(t, r, low-1, top-n, top+by+1)
			if by >= n {
				hasNot(t, r, top, top-n+1)
			}
		}
	}
}

// TestGoneStaysGone: what is gone can't be put again, and nothing of it comes back when it is tried.
func TestGoneStaysGone(t *testing.T) {
	r, _ := full(t, 4, 10)
	put(t, r, 11, made(11), true)
	putRefused(t, r, 7, made(7), api.ErrState)
	hasNot(t, r, 7)
	counts(t, r, 8, 11, 4)
	put(t, r, 30, made(30), true)
	for number := 7; number <= 11; number++ {
		putRefused(t, r, number, made(number), api.ErrState)
		hasNot(t, r, number)
	}
	counts(t, r, 30, 30, 1)
	put(t, r, 27, made(27), true)
	counts(t, r, 27, 30, 2)
}

// TestOutOfOrder: numbers that come crosswise, with one gone between.
func TestOutOfOrder(t *testing.T) {
	r := newRing(t, 5)
	put(t, r, 20, made(1), true)
	put(t, r, 17, made(2), true)
	counts(t, r, 17, 20, 2)
	put(t, r, 19, made(3), true)
	put(t, r, 16, made(4), true)
	counts(t, r, 16, 20, 4)
	putRefused(t, r, 15, made(5), api.ErrState)
	put(t, r, 22, made(6), true)
	counts(t, r, 19, 22, 3)
	hasNot(t, r, 16, 17, 18, 21)
	put(t, r, 18, made(7), true)
	counts(t, r, 18, 22, 4)
	put(t, r, 19, made(8), false)
	has(t, r, 18, made(7))
	has(t, r, 19, made(3))
	has(t, r, 20, made(1))
	has(t, r, 22, made(6))
}

// TestAsTheModel: rows of Puts about Top, and each time all that a Ring tells.
func TestAsTheModel(t *testing.T) {
	random := rand.New(rand.NewSource(1))
	for range 400 {
		n := []int{1, 2, 3, 4, 5, 8, 33, 63, 64, 1 + random.Intn(64)}[random.Intn(10)]
		r, m := newRing(t, n), &model{n: n}
		at := []int{0, 1, n, 65530, maxLong - 2*n, maxLong - 1}[random.Intn(6)]
		for i := range 60 {
			number := at + random.Intn(2*n+2) - n
			if random.Intn(20) == 0 {
				number = at + random.Intn(4*n)
			}
			p := made(random.Intn(65536))
			fresh, no := m.put(number, p)
			if got, err := r.Put(number, p); got != fresh || plain.Told(err) != no {
				t.Fatalf("Put %d of %d in a Ring of %d = %v, %v, want %v, %v", i, number, n, got, err, fresh, no)
			}
			agree(t, r, m)
			if t.Failed() {
				t.FailNow()
			}
			at = max(at, m.top())
		}
	}
}

// TestRingsAreApart: what is put into one is not in another.
func TestRingsAreApart(t *testing.T) {
	a, b := newRing(t, 3), newRing(t, 3)
	put(t, a, 5, made(5), true)
	counts(t, b, -1, -1, 0)
	hasNot(t, b, 5)
	put(t, b, 1, made(1), true)
	counts(t, a, 5, 5, 1)
	has(t, b, 1, made(1))
}

// TestMemoryIsApart: neither who handed a packet in nor who got one can change what is kept.
func TestMemoryIsApart(t *testing.T) {
	const told = "abcdefghij"
	room := []byte(told)
	p := api.Packet{Seq: 3, Body: room[:4]}
	r := newRing(t, 2)
	put(t, r, 1, p, true)
	put(t, r, 2, p, true)
	if string(room) != told {
		t.Fatalf("Put wrote into what was handed in: %q", room)
	}
	clear(room)

	want := api.Packet{Seq: 3, Body: []byte("abcd")}
	first, _ := r.Get(1)
	clear(first.Body[:cap(first.Body)])
	has(t, r, 1, want)
	has(t, r, 2, want)

	second, _ := r.Get(1)
	third, _ := r.Get(1)
	clear(second.Body[:cap(second.Body)])
	if string(third.Body) != "abcd" {
		t.Errorf("two answers share memory: %q", third.Body)
	}
	if bytes.IndexFunc(room, func(c rune) bool { return c != 0 }) >= 0 {
		t.Errorf("Get wrote into what was handed in: %q", room)
	}

	// A packet that is refused, or not new, is not written into either.
	again := []byte(told)
	put(t, r, 2, api.Packet{Body: again[:4]}, false)
	putRefused(t, r, 0, api.Packet{Body: again[:4]}, api.ErrState)
	if string(again) != told {
		t.Errorf("Put wrote into what was handed in: %q", again)
	}
}
