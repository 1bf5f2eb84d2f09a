package layer_test

import (
	"bytes"
	"math"
	"math/rand"
	"testing"

	"choirloft/api"
	"choirloft/layer"
	"choirloft/plain"
)

const maxLayer, maxLong, maxBody = 3, 1 << 40, 1000

// badLayers: layers that may not be most, just below 0 and just above MaxLayer, and far away.
var badLayers = []int{-1, -2, -maxLayer, math.MinInt, math.MinInt + 1,
	maxLayer + 1, maxLayer + 2, 7, 128, 256, 1 << 32, math.MaxInt - 1, math.MaxInt}

// badNumbers: likewise of numbers.
var badNumbers = []int{-1, -2, -65536, -maxLong, math.MinInt, math.MinInt + 1,
	maxLong + 1, maxLong + 2, 1 << 41, math.MaxInt - 1, math.MaxInt}

// badPacket is a packet that may not be, and what chapter 3 tells of it.
type badPacket struct {
	p    api.Packet
	want api.Errno
}

func badPackets() []badPacket {
	full := make([]byte, maxBody+1)
	return []badPacket{
		{api.Packet{Seq: -1}, api.ErrRange},
		{api.Packet{Seq: 65536, Start: true}, api.ErrRange},
		{api.Packet{Time: -1, Start: true}, api.ErrRange},
		{api.Packet{Time: 1 << 32}, api.ErrRange},
		{api.Packet{Layer: -1}, api.ErrRange},
		{api.Packet{Layer: -1, Start: true}, api.ErrRange},
		{api.Packet{Layer: maxLayer + 1}, api.ErrRange},
		{api.Packet{Layer: maxLayer + 1, Start: true}, api.ErrRange},
		{api.Packet{Layer: math.MinInt, Start: true}, api.ErrRange},
		{api.Packet{Layer: math.MaxInt, Start: true}, api.ErrRange},
		{api.Packet{Level: -1}, api.ErrRange},
		{api.Packet{Level: 128, Start: true}, api.ErrRange},
		{api.Packet{Level: 128, Body: full}, api.ErrRange},
		{api.Packet{Seq: 65536, Start: true, Body: full}, api.ErrRange},
		{api.Packet{Body: full}, api.ErrFull},
		{api.Packet{Start: true, Body: full}, api.ErrFull},
		{api.Packet{Layer: maxLayer, Start: true, Body: make([]byte, 65536)}, api.ErrFull},
	}
}

// begin is an item with Start.
func begin(number, of int) api.Item {
	return api.Item{Number: number, Packet: api.Packet{Layer: of, Start: true}}
}

// more is an item without Start.
func more(number, of int) api.Item {
	return api.Item{Number: number, Packet: api.Packet{Layer: of}}
}

func gone(number int) api.Item {
	return api.Item{Number: number, Gone: true}
}

func newLayer(t *testing.T, most int) *layer.Layer {
	t.Helper()
	l, err := layer.New(most)
	if l == nil || err != nil {
		t.Fatalf("New(%d) = %v, %v", most, l, err)
	}
	return l
}

func limit(t *testing.T, l *layer.Layer, most int) {
	t.Helper()
	if err := l.Limit(most); err != nil {
		t.Errorf("Limit(%d) = %v", most, err)
	}
}

func limitRefused(t *testing.T, l *layer.Layer, most int) {
	t.Helper()
	if err := l.Limit(most); plain.Told(err) != api.ErrRange {
		t.Errorf("Limit(%d) = %v, want ErrRange", most, err)
	}
}

func goes(t *testing.T, l *layer.Layer, it api.Item) {
	t.Helper()
	if got, err := l.Take(it); !got || err != nil {
		t.Errorf("Take(%v) = %v, %v, want true", it, got, err)
	}
}

func stays(t *testing.T, l *layer.Layer, it api.Item) {
	t.Helper()
	if got, err := l.Take(it); got || err != nil {
		t.Errorf("Take(%v) = %v, %v, want false", it, got, err)
	}
}

func refused(t *testing.T, l *layer.Layer, it api.Item, want api.Errno) {
	t.Helper()
	if got, err := l.Take(it); got || plain.Told(err) != want {
		t.Errorf("Take(%d, Gone %v, a packet of Seq %d, Layer %d and %d bytes) = %v, %v, want %v",
			it.Number, it.Gone, it.Packet.Seq, it.Packet.Layer, len(it.Packet.Body), got, err, want)
	}
}

// tells asks Now and Wants, twice: asking changes nothing.
func tells(t *testing.T, l *layer.Layer, now int, wants bool) {
	t.Helper()
	for range 2 {
		if l.Now() != now || l.Wants() != wants {
			t.Errorf("Now, Wants = %d, %v, want %d, %v", l.Now(), l.Wants(), now, wants)
		}
	}
}

// state of a Layer: what Now is, whether it is Broken, and what most is.
type state struct {
	now    int
	broken bool
	most   int
}

// reach makes a Layer of a state, to which numbers from 10 on may come.
func reach(t *testing.T, s state) *layer.Layer {
	t.Helper()
	l := newLayer(t, maxLayer)
	goes(t, l, begin(7, s.now))
	if s.broken {
		stays(t, l, gone(8))
	}
	limit(t, l, s.most)
	tells(t, l, s.now, s.broken || s.now > s.most)
	return l
}

// states: all that a Layer can be in, with something that went through.
func states() (all []state) {
	for now := range maxLayer + 1 {
		for most := range maxLayer + 1 {
			all = append(all, state{now, false, most}, state{now, true, most})
		}
	}
	return all
}

// taken is an item that was Taken without an error, and whether it went through.
type taken struct {
	it   api.Item
	went bool
}

// model is the chapter's L1: all that was Taken without an error stands in a row, and what Now is, and whether it is
// Broken, is found anew each time.
type model struct {
	most int
	row  []taken
}

// through tells the place of the last one that went through, -1 if there is none.
func (m *model) through() int {
	for i := len(m.row) - 1; i >= 0; i-- {
		if m.row[i].went {
			return i
		}
	}
	return -1
}

func (m *model) now() int {
	if i := m.through(); i >= 0 {
		return m.row[i].it.Packet.Layer
	}
	return -1
}

// broken: behind the last one that went through something is Gone.
func (m *model) broken() bool {
	i := m.through()
	if i < 0 {
		return false
	}
	for _, x := range m.row[i:] {
		if x.it.Gone {
			return true
		}
	}
	return false
}

func (m *model) wants() bool {
	return m.now() == -1 || m.broken() || m.now() > m.most
}

// take takes an item with a good packet, or with one of which is known what is wrong with it.
func (m *model) take(it api.Item, fault api.Errno) (bool, api.Errno) {
	if it.Number < 0 || it.Number > maxLong {
		return false, api.ErrRange
	}
	for _, x := range m.row {
		if it.Number <= x.it.Number {
			return false, api.ErrState
		}
	}
	if !it.Gone && fault != api.OK {
		return false, fault
	}
	went := m.lets(it)
	m.row = append(m.row, taken{it, went})
	return went, api.OK
}

func (m *model) lets(it api.Item) bool {
	p, now := it.Packet, m.now()
	switch {
	case it.Gone:
		return false
	case p.Layer > m.most:
		return false
	case p.Start:
		return p.Layer >= now || m.broken() || now > m.most
	}
	return p.Layer == now && !m.broken()
}

func (m *model) limit(most int) api.Errno {
	if most < 0 || most > maxLayer {
		return api.ErrRange
	}
	m.most = most
	return api.OK
}

// pair is a Layer and its model, of which the same is asked. What they tell of an error says where it was, so that
// its methods do without Helper, which takes long.
type pair struct {
	l *layer.Layer
	m *model
}

func newPair(t *testing.T, most int) pair {
	t.Helper()
	return pair{newLayer(t, most), &model{most: most}}
}

func (p pair) take(t *testing.T, it api.Item, fault api.Errno) {
	was := *p.m
	want, no := p.m.take(it, fault)
	if got, err := p.l.Take(it); got != want || plain.Told(err) != no {
		t.Fatalf("behind %v: Take(%v) = %v, %v, want %v, %v", was, it, got, err, want, no)
	}
	p.tell(t)
}

func (p pair) limit(t *testing.T, most int) {
	no := p.m.limit(most)
	if err := p.l.Limit(most); plain.Told(err) != no {
		t.Fatalf("Limit(%d) = %v, want %v", most, err, no)
	}
	p.tell(t)
}

func (p pair) tell(t *testing.T) {
	if p.l.Now() != p.m.now() || p.l.Wants() != p.m.wants() {
		t.Fatalf("behind %v: Now, Wants = %d, %v, want %d, %v", *p.m, p.l.Now(), p.l.Wants(), p.m.now(), p.m.wants())
	}
}

func TestNewAtItsEdges(t *testing.T) {
	for most := range maxLayer + 1 {
		for of := range maxLayer + 1 {
			l := newLayer(t, most)
			tells(t, l, -1, true)
			if of <= most {
				goes(t, l, begin(0, of))
				tells(t, l, of, false)
			} else {
				stays(t, l, begin(0, of))
				tells(t, l, -1, true)
			}
		}
	}
	for _, most := range badLayers {
		if l, err := layer.New(most); l != nil || plain.Told(err) != api.ErrRange {
			t.Errorf("New(%d) = %v, %v, want ErrRange", most, l, err)
		}
	}
}

func TestLimitAtItsEdges(t *testing.T) {
	for most := range maxLayer + 1 {
		for other := range maxLayer + 1 {
			for of := range maxLayer + 1 {
				l := newLayer(t, most)
				limit(t, l, other)
				tells(t, l, -1, true)
				if of <= other {
					goes(t, l, begin(0, of))
					tells(t, l, of, false)
				} else {
					stays(t, l, begin(0, of))
					tells(t, l, -1, true)
				}
			}
		}
	}
}

// TestLimitThatMayNotBe: most stays, and all else.
func TestLimitThatMayNotBe(t *testing.T) {
	for _, bad := range badLayers {
		l := newLayer(t, 2)
		limitRefused(t, l, bad)
		tells(t, l, -1, true)
		stays(t, l, begin(1, 3))
		goes(t, l, begin(2, 2))
		limitRefused(t, l, bad)
		tells(t, l, 2, false)
		goes(t, l, more(3, 2))
		stays(t, l, begin(4, 3))
		stays(t, l, gone(5))
		limitRefused(t, l, bad)
		tells(t, l, 2, true)
		stays(t, l, more(6, 2))
		goes(t, l, begin(7, 1))
		limit(t, l, 0)
		limitRefused(t, l, bad)
		tells(t, l, 1, true)
		stays(t, l, more(8, 1))
		goes(t, l, begin(9, 0))
	}
}

// TestNumbersThatMayBe: the first one may be any of them, of what is Gone, too.
func TestNumbersThatMayBe(t *testing.T) {
	for _, number := range []int{0, 1, 2, 65535, 65536, 1 << 32, maxLong - 1, maxLong} {
		l := newLayer(t, 1)
		goes(t, l, begin(number, 1))
		tells(t, l, 1, false)

		l = newLayer(t, 1)
		stays(t, l, more(number, 1))
		tells(t, l, -1, true)

		l = newLayer(t, 1)
		stays(t, l, gone(number))
		tells(t, l, -1, true)
	}
}

// TestNumbersThatMayNotBe: they are ErrRange, ahead of all else, of what is Gone, too.
func TestNumbersThatMayNotBe(t *testing.T) {
	for _, number := range badNumbers {
		l := newLayer(t, 2)
		refused(t, l, begin(number, 1), api.ErrRange)
		refused(t, l, gone(number), api.ErrRange)
		tells(t, l, -1, true)
		goes(t, l, begin(0, 1))
		refused(t, l, begin(number, 2), api.ErrRange)
		refused(t, l, more(number, 1), api.ErrRange)
		refused(t, l, gone(number), api.ErrRange)
		tells(t, l, 1, false)
		goes(t, l, more(1, 1))
	}
}

// TestLastNumber: behind MaxLong there is no number any more.
func TestLastNumber(t *testing.T) {
	l := newLayer(t, 2)
	goes(t, l, begin(maxLong-1, 1))
	goes(t, l, more(maxLong, 1))
	for _, number := range []int{0, maxLong - 1, maxLong} {
		refused(t, l, more(number, 1), api.ErrState)
		refused(t, l, begin(number, 2), api.ErrState)
		refused(t, l, gone(number), api.ErrState)
	}
	refused(t, l, more(maxLong+1, 1), api.ErrRange)
	tells(t, l, 1, false)
}

// TestNumbersRise: what was Taken bounds the next, whether it went through, did not, or is Gone.
func TestNumbersRise(t *testing.T) {
	for _, last := range []api.Item{begin(20, 1), more(20, 1), more(20, 0), begin(20, 0), begin(20, 3), gone(20)} {
		l := newLayer(t, 2)
		goes(t, l, begin(10, 1))
		if _, err := l.Take(last); err != nil {
			t.Errorf("Take(%v) = %v", last, err)
		}
		wants := last.Gone
		tells(t, l, 1, wants)
		for _, number := range []int{20, 19, 18, 11, 10, 9, 1, 0} {
			refused(t, l, begin(number, 2), api.ErrState)
			refused(t, l, more(number, 1), api.ErrState)
			refused(t, l, gone(number), api.ErrState)
			tells(t, l, 1, wants)
		}
		if wants {
			goes(t, l, begin(21, 0))
		} else {
			goes(t, l, more(21, 1))
		}
		refused(t, l, more(21, 1), api.ErrState)
	}
}

// TestNumbersRiseAheadOfTheFirst: what does not go through counts, though nothing did yet.
func TestNumbersRiseAheadOfTheFirst(t *testing.T) {
	for _, it := range []api.Item{more(5, 0), begin(5, 3), more(5, 3), gone(5)} {
		l := newLayer(t, 1)
		stays(t, l, it)
		refused(t, l, begin(5, 0), api.ErrState)
		refused(t, l, begin(4, 0), api.ErrState)
		refused(t, l, gone(5), api.ErrState)
		tells(t, l, -1, true)
		goes(t, l, begin(6, 0))
	}
}

// TestNumberOfAnError: it was not Taken, so it can be, and what is below it.
func TestNumberOfAnError(t *testing.T) {
	for _, bad := range badPackets() {
		l := newLayer(t, 2)
		refused(t, l, api.Item{Number: 50, Packet: bad.p}, bad.want)
		tells(t, l, -1, true)
		goes(t, l, begin(40, 1))
		refused(t, l, api.Item{Number: 50, Packet: bad.p}, bad.want)
		refused(t, l, api.Item{Number: maxLong, Packet: bad.p}, bad.want)
		refused(t, l, more(maxLong+1, 1), api.ErrRange)
		tells(t, l, 1, false)
		goes(t, l, more(41, 1))
		refused(t, l, more(41, 1), api.ErrState)
		goes(t, l, more(50, 1))
		goes(t, l, more(51, 1))
	}
}

// TestLeftOutNumbers: only what is told to be Gone breaks; a number that is left out does not.
func TestLeftOutNumbers(t *testing.T) {
	l := newLayer(t, 1)
	goes(t, l, begin(3, 1))
	for _, number := range []int{5, 8, 1000, 65536, 1 << 32, maxLong} {
		goes(t, l, more(number, 1))
		tells(t, l, 1, false)
	}
}

// TestFirstOfAll: one with Start begins, whichever layer it is of; one without does not.
func TestFirstOfAll(t *testing.T) {
	for of := range maxLayer + 1 {
		l := newLayer(t, maxLayer)
		stays(t, l, more(0, of))
		tells(t, l, -1, true)
		stays(t, l, more(1, of))
		tells(t, l, -1, true)
		goes(t, l, begin(2, of))
		tells(t, l, of, false)
		goes(t, l, more(3, of))
		tells(t, l, of, false)
	}
}

// TestGoneAheadOfTheFirst: nothing is Broken by it, neither then nor behind the first.
func TestGoneAheadOfTheFirst(t *testing.T) {
	for many := range 4 {
		for of := range maxLayer + 1 {
			l := newLayer(t, maxLayer)
			for number := range many {
				stays(t, l, gone(number))
				tells(t, l, -1, true)
			}
			stays(t, l, more(10, of))
			stays(t, l, more(11, 0))
			tells(t, l, -1, true)
			goes(t, l, begin(12, of))
			tells(t, l, of, false)
			goes(t, l, more(13, of))
			if of > 0 {
				stays(t, l, begin(14, of-1))
			}
			tells(t, l, of, false)
		}
	}
}

// TestGoneBehindTheFirst: what goes through is Broken, by one or several, until a Start.
func TestGoneBehindTheFirst(t *testing.T) {
	for many := 1; many < 5; many++ {
		for of := range maxLayer + 1 {
			for next := range maxLayer + 1 {
				l := newLayer(t, maxLayer)
				goes(t, l, begin(0, of))
				goes(t, l, more(1, of))
				for i := range many {
					stays(t, l, gone(10+10*i))
					tells(t, l, of, true)
					stays(t, l, more(15+10*i, of))
					tells(t, l, of, true)
				}
				goes(t, l, begin(90, next))
				tells(t, l, next, false)
				goes(t, l, more(91, next))
				tells(t, l, next, false)
			}
		}
	}
}

// TestGoneWithAPacket: what is in it is not asked, whether it might be or not, and begins nothing.
func TestGoneWithAPacket(t *testing.T) {
	packets := []api.Packet{{Layer: 1, Start: true}, {Layer: 2, Start: true}, {Layer: 3}, {Layer: 1}}
	for _, bad := range badPackets() {
		packets = append(packets, bad.p)
	}
	for _, p := range packets {
		l := newLayer(t, 2)
		stays(t, l, api.Item{Number: 1, Gone: true, Packet: p})
		tells(t, l, -1, true)
		refused(t, l, begin(1, 1), api.ErrState)
		goes(t, l, begin(2, 1))
		tells(t, l, 1, false)
		stays(t, l, api.Item{Number: 3, Gone: true, Packet: p})
		tells(t, l, 1, true)
		refused(t, l, begin(3, 1), api.ErrState)
		stays(t, l, more(4, 1))
		goes(t, l, begin(5, 0))
	}
}

// TestMost: of most it goes through, of one above it does not, with Start and without, Broken or not.
func TestMost(t *testing.T) {
	for most := range maxLayer + 1 {
		for _, isBroken := range []bool{false, true} {
			l := newLayer(t, most)
			goes(t, l, begin(0, 0))
			if isBroken {
				stays(t, l, gone(1))
			}
			for above := most + 1; above <= maxLayer; above++ {
				stays(t, l, begin(10*above, above))
				stays(t, l, more(10*above+1, above))
				tells(t, l, 0, isBroken)
			}
			goes(t, l, begin(50, most))
			tells(t, l, most, false)
			goes(t, l, more(51, most))
			for above := most + 1; above <= maxLayer; above++ {
				stays(t, l, begin(100+10*above, above))
				stays(t, l, more(101+10*above, above))
				tells(t, l, most, false)
			}
			goes(t, l, more(200, most))
		}
	}
}

// TestStartOfALayerBelow: it stays away, unless one is wanted.
func TestStartOfALayerBelow(t *testing.T) {
	for now := 1; now <= maxLayer; now++ {
		for of := range now {
			l := reach(t, state{now, false, maxLayer})
			stays(t, l, begin(10, of))
			tells(t, l, now, false)
			stays(t, l, more(11, of))
			goes(t, l, more(12, now))

			l = reach(t, state{now, true, maxLayer})
			goes(t, l, begin(10, of))
			tells(t, l, of, false)
			stays(t, l, more(11, now))
			goes(t, l, more(12, of))

			l = reach(t, state{now, false, now - 1})
			goes(t, l, begin(10, of))
			tells(t, l, of, false)
			goes(t, l, more(11, of))
			limit(t, l, maxLayer)
			stays(t, l, more(12, now))
			tells(t, l, of, false)
		}
	}
}

// TestStartOfTheSameLayer: it goes through, and mends what is Broken, unless it is above most.
func TestStartOfTheSameLayer(t *testing.T) {
	for now := range maxLayer + 1 {
		for _, isBroken := range []bool{false, true} {
			l := reach(t, state{now, isBroken, now})
			goes(t, l, begin(10, now))
			tells(t, l, now, false)
			goes(t, l, more(11, now))
			goes(t, l, begin(12, now))
			tells(t, l, now, false)
			if now == 0 {
				continue
			}

			l = reach(t, state{now, isBroken, now - 1})
			stays(t, l, begin(10, now))
			tells(t, l, now, true)
			stays(t, l, more(11, now))
			// Behind that it is as Broken as it was.
			limit(t, l, now)
			tells(t, l, now, isBroken)
		}
	}
}

// TestStartOfALayerAbove: it goes through, unless it is above most.
func TestStartOfALayerAbove(t *testing.T) {
	for now := range maxLayer {
		for of := now + 1; of <= maxLayer; of++ {
			for _, isBroken := range []bool{false, true} {
				l := reach(t, state{now, isBroken, of})
				goes(t, l, begin(10, of))
				tells(t, l, of, false)
				stays(t, l, more(11, now))
				goes(t, l, more(12, of))

				l = reach(t, state{now, isBroken, of - 1})
				stays(t, l, begin(10, of))
				tells(t, l, now, isBroken)
				stays(t, l, more(11, of))
				tells(t, l, now, isBroken)
			}
		}
	}
}

// TestWithoutStart: in every state only what is of the Layer Now goes through, if that is not Broken and not above
// most; nothing is changed by it.
func TestWithoutStart(t *testing.T) {
	for _, s := range states() {
		for of := range maxLayer + 1 {
			l := reach(t, s)
			wants := s.broken || s.now > s.most
			if of == s.now && !wants {
				goes(t, l, more(10, of))
			} else {
				stays(t, l, more(10, of))
			}
			tells(t, l, s.now, wants)
			limit(t, l, maxLayer)
			tells(t, l, s.now, s.broken)
			if s.broken {
				stays(t, l, more(11, s.now))
			} else {
				goes(t, l, more(11, s.now))
			}
		}
	}
}

// TestGoneInEveryState: Now stays, and is Broken, above most, too.
func TestGoneInEveryState(t *testing.T) {
	for _, s := range states() {
		l := reach(t, s)
		stays(t, l, gone(10))
		tells(t, l, s.now, true)
		limit(t, l, maxLayer)
		tells(t, l, s.now, true)
		stays(t, l, more(11, s.now))
		goes(t, l, begin(12, 0))
		tells(t, l, 0, false)
	}
}

// TestLimitAndBack: below Now a Start is wanted, and Now stays; with most at Now again, or above, it goes on as it was.
func TestLimitAndBack(t *testing.T) {
	for now := 1; now <= maxLayer; now++ {
		for _, isBroken := range []bool{false, true} {
			for below := range now {
				for back := now; back <= maxLayer; back++ {
					l := reach(t, state{now, isBroken, maxLayer})
					limit(t, l, below)
					tells(t, l, now, true)
					stays(t, l, more(10, now))
					stays(t, l, begin(11, now))
					tells(t, l, now, true)
					limit(t, l, back)
					tells(t, l, now, isBroken)
					if isBroken {
						stays(t, l, more(12, now))
						goes(t, l, begin(13, below))
						tells(t, l, below, false)
					} else {
						goes(t, l, more(12, now))
						stays(t, l, begin(13, below))
						tells(t, l, now, false)
					}
				}
			}
		}
	}
}

// TestLimitAtAndAboveNow: nothing is wanted by it.
func TestLimitAtAndAboveNow(t *testing.T) {
	for now := range maxLayer + 1 {
		for most := now; most <= maxLayer; most++ {
			for _, isBroken := range []bool{false, true} {
				l := reach(t, state{now, isBroken, maxLayer})
				limit(t, l, most)
				tells(t, l, now, isBroken)
				limit(t, l, most)
				tells(t, l, now, isBroken)
				goes(t, l, begin(10, most))
				tells(t, l, most, false)
			}
		}
	}
}

// TestLimitBelowNowAndAStart: what goes on then is the lower one, also when most is back.
func TestLimitBelowNowAndAStart(t *testing.T) {
	l := newLayer(t, 3)
	goes(t, l, begin(1, 3))
	limit(t, l, 1)
	tells(t, l, 3, true)
	stays(t, l, begin(2, 2))
	tells(t, l, 3, true)
	stays(t, l, more(3, 1))
	goes(t, l, begin(4, 0))
	tells(t, l, 0, false)
	goes(t, l, begin(5, 1))
	tells(t, l, 1, false)
	stays(t, l, begin(6, 0))
	limit(t, l, 3)
	tells(t, l, 1, false)
	stays(t, l, more(7, 3))
	goes(t, l, more(8, 1))
	goes(t, l, begin(9, 3))
	tells(t, l, 3, false)
}

// TestBadPackets: what chapter 3 tells of them, in every state, which stays.
func TestBadPackets(t *testing.T) {
	for _, bad := range badPackets() {
		l := newLayer(t, 0)
		refused(t, l, api.Item{Packet: bad.p}, bad.want)
		tells(t, l, -1, true)
		goes(t, l, begin(0, 0))
		for _, s := range states() {
			l := reach(t, s)
			wants := s.broken || s.now > s.most
			refused(t, l, api.Item{Number: 10, Packet: bad.p}, bad.want)
			tells(t, l, s.now, wants)
			limit(t, l, maxLayer)
			tells(t, l, s.now, s.broken)
			if s.broken {
				stays(t, l, more(10, s.now))
				goes(t, l, begin(11, 0))
			} else {
				goes(t, l, more(10, s.now))
			}
		}
	}
}

// TestAlmostBadPackets: the greatest that may be of all fields, and a Body as long as may be.
func TestAlmostBadPackets(t *testing.T) {
	l := newLayer(t, 3)
	goes(t, l, api.Item{Number: 1, Packet: api.Packet{Seq: 65535, Time: 1<<32 - 1, Layer: 3, Level: 127, Start: true,
		Body: make([]byte, maxBody)}})
	tells(t, l, 3, false)
	goes(t, l, api.Item{Number: 2, Packet: api.Packet{Layer: 3, Body: make([]byte, maxBody)}})
}

// TestTwoFaults: the number's ErrRange is told first, then ErrState, then what chapter 3 tells.
func TestTwoFaults(t *testing.T) {
	for _, bad := range badPackets() {
		l := newLayer(t, 3)
		goes(t, l, begin(5, 1))
		for _, number := range badNumbers {
			refused(t, l, api.Item{Number: number, Packet: bad.p}, api.ErrRange)
			refused(t, l, api.Item{Number: number, Gone: true, Packet: bad.p}, api.ErrRange)
		}
		for _, number := range []int{5, 4, 0} {
			refused(t, l, api.Item{Number: number, Packet: bad.p}, api.ErrState)
			refused(t, l, api.Item{Number: number, Gone: true, Packet: bad.p}, api.ErrState)
		}
		refused(t, l, api.Item{Number: 6, Packet: bad.p}, bad.want)
		tells(t, l, 1, false)
		goes(t, l, more(6, 1))
		stays(t, l, begin(7, 0))
	}
}

// TestBehindAnError: neither is Now another one, nor is it Broken or mended, nor is the number used up.
func TestBehindAnError(t *testing.T) {
	for _, s := range states() {
		l := reach(t, s)
		wants := s.broken || s.now > s.most
		for of := range maxLayer + 1 {
			refused(t, l, begin(7, of), api.ErrState)
			refused(t, l, begin(-1, of), api.ErrRange)
			refused(t, l, begin(maxLong+1, of), api.ErrRange)
			refused(t, l, api.Item{Number: 10, Packet: api.Packet{Layer: of, Start: true, Level: 128}}, api.ErrRange)
			tells(t, l, s.now, wants)
		}
		refused(t, l, gone(7), api.ErrState)
		refused(t, l, gone(-1), api.ErrRange)
		refused(t, l, gone(maxLong+1), api.ErrRange)
		limitRefused(t, l, maxLayer+1)
		limitRefused(t, l, -1)
		tells(t, l, s.now, wants)
		if wants {
			stays(t, l, more(10, s.now))
			goes(t, l, begin(11, 0))
		} else {
			goes(t, l, more(10, s.now))
		}
	}
}

// TestBodyStays: what is handed in is not written into, nor what lies behind it.
func TestBodyStays(t *testing.T) {
	memory := []byte{1, 2, 3, 4, 5, 6}
	l := newLayer(t, 1)
	goes(t, l, api.Item{Number: 1, Packet: api.Packet{Layer: 1, Start: true, Body: memory[:3]}})
	stays(t, l, api.Item{Number: 2, Packet: api.Packet{Layer: 0, Body: memory[:3]}})
	stays(t, l, api.Item{Number: 3, Gone: true, Packet: api.Packet{Body: memory[:3]}})
	refused(t, l, api.Item{Number: 3, Packet: api.Packet{Body: memory[:3]}}, api.ErrState)
	if !bytes.Equal(memory, []byte{1, 2, 3, 4, 5, 6}) {
		t.Errorf("the memory of a Body is %v", memory)
	}
}

// TestApart: one Layer does not know of another one.
func TestApart(t *testing.T) {
	a, b := newLayer(t, 3), newLayer(t, 0)
	goes(t, a, begin(100, 2))
	tells(t, b, -1, true)
	stays(t, b, begin(5, 2))
	goes(t, b, begin(6, 0))
	stays(t, b, gone(7))
	tells(t, a, 2, false)
	limit(t, b, 1)
	goes(t, a, begin(101, 3))
	goes(t, b, begin(8, 1))
	tells(t, a, 3, false)
	tells(t, b, 1, false)
}

// TestAllShortRows: every row of few calls, of all that may come and of all Limits, from every most on, tells what the
// chapter does.
func TestAllShortRows(t *testing.T) {
	const layers = maxLayer + 1
	const ways, length = 3*layers + 1, 5
	rows := 1
	for range length {
		rows *= ways
	}
	for most := range layers {
		for row := range rows {
			p := newPair(t, most)
			for number := range length {
				way := row % ways
				row /= ways
				switch {
				case way < layers:
					p.take(t, begin(number, way), api.OK)
				case way < 2*layers:
					p.take(t, more(number, way-layers), api.OK)
				case way < 3*layers:
					p.limit(t, way-2*layers)
				default:
					p.take(t, gone(number), api.OK)
				}
			}
		}
	}
}

// TestLongRows: calls as they fall, wrong ones among them, tell what the chapter does.
func TestLongRows(t *testing.T) {
	bad := badPackets()
	for seed := range int64(300) {
		dice := rand.New(rand.NewSource(seed))
		p := newPair(t, dice.Intn(maxLayer+1))
		number := dice.Intn(5)
		if seed%5 == 0 {
			number = maxLong - 150
		}
		for range 200 {
			number += dice.Intn(4) - 1
			it := api.Item{Number: number, Gone: dice.Intn(6) == 0,
				Packet: api.Packet{Layer: dice.Intn(maxLayer + 1), Start: dice.Intn(3) == 0}}
			fault := api.OK
			switch dice.Intn(12) {
			case 0:
				x := bad[dice.Intn(len(bad))]
				it.Packet, fault = x.p, x.want
			case 1:
				it.Number = badNumbers[dice.Intn(len(badNumbers))]
			case 2:
				p.limit(t, dice.Intn(maxLayer+1))
			case 3:
				p.limit(t, badLayers[dice.Intn(len(badLayers))])
			}
			p.take(t, it, fault)
		}
	}
}
