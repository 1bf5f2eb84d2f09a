package out_test

import (
	"bytes"
	"math"
	"math/rand"
	"reflect"
	"testing"

	"choirloft/api"
	"choirloft/out"
	"choirloft/plain"
)

const maxSeq, maxWord, maxLayer, maxLevel, maxBody = 65535, 1<<32 - 1, 3, 127, 1000

// badSeqs: numbers that may not be the first Seq, just below 0 and just above MaxSeq, and far away.
var badSeqs = []int{-1, -2, -maxSeq, -maxSeq - 1, math.MinInt, math.MinInt + 1,
	maxSeq + 1, maxSeq + 2, 1 << 17, 1 << 32, math.MaxInt - 1, math.MaxInt}

// badTimes: likewise of Times.
var badTimes = []int{-1, -2, -maxWord, -maxWord - 1, math.MinInt, math.MinInt + 1,
	maxWord + 1, maxWord + 2, 1 << 33, 1 << 40, math.MaxInt - 1, math.MaxInt}

// badPacket is a packet that may not be, and what chapter 3 tells of it.
type badPacket struct {
	p    api.Packet
	want api.Errno
}

func badPackets() []badPacket {
	full := make([]byte, maxBody+1)
	return []badPacket{
		{api.Packet{Seq: -1}, api.ErrRange},
		{api.Packet{Seq: maxSeq + 1}, api.ErrRange},
		{api.Packet{Time: -1}, api.ErrRange},
		{api.Packet{Time: maxWord + 1}, api.ErrRange},
		{api.Packet{Time: -1, Layer: 2}, api.ErrRange},
		{api.Packet{Layer: -1}, api.ErrRange},
		{api.Packet{Layer: maxLayer + 1}, api.ErrRange},
		{api.Packet{Time: 77, Layer: math.MinInt}, api.ErrRange},
		{api.Packet{Time: 77, Layer: math.MaxInt}, api.ErrRange},
		{api.Packet{Level: -1}, api.ErrRange},
		{api.Packet{Time: 88, Layer: 1, Level: maxLevel + 1}, api.ErrRange},
		{api.Packet{Time: 88, Layer: 2, Level: maxLevel + 1}, api.ErrRange},
		{api.Packet{Seq: math.MinInt, Time: math.MaxInt}, api.ErrRange},
		{api.Packet{Seq: maxSeq + 1, Layer: maxLayer + 1, Start: true}, api.ErrRange},
		{api.Packet{Seq: maxSeq + 1, Start: true, Body: full}, api.ErrRange},
		{api.Packet{Time: maxWord + 1, Body: full}, api.ErrRange},
		{api.Packet{Layer: maxLayer + 1, Body: full}, api.ErrRange},
		{api.Packet{Level: maxLevel + 1, Body: full}, api.ErrRange},
		{api.Packet{Body: full}, api.ErrFull},
		{api.Packet{Seq: 5, Time: 99, Layer: 1, Body: full}, api.ErrFull},
		{api.Packet{Seq: 5, Time: 99, Layer: 2, Start: true, Body: full}, api.ErrFull},
		{api.Packet{Seq: maxSeq, Time: maxWord, Layer: maxLayer, Level: maxLevel, Body: make([]byte, 65536)}, api.ErrFull},
	}
}

// of is a packet of a layer with a Time of its own. Its Seq tells nothing of the row.
func of(layer, time int) api.Packet {
	return api.Packet{Seq: 4711, Time: time, Layer: layer, Level: 9, Body: []byte("voice")}
}

func same(p, q api.Packet) bool {
	return p.Seq == q.Seq && p.Time == q.Time && p.Layer == q.Layer && p.Level == q.Level &&
		p.Start == q.Start && bytes.Equal(p.Body, q.Body)
}

func newOut(t *testing.T, seq, time int) *out.Out {
	t.Helper()
	o, err := out.New(seq, time)
	if o == nil || err != nil {
		t.Fatalf("New(%d, %d) = %v, %v", seq, time, o, err)
	}
	return o
}

// next asks for all of what goes out: of the Seq and the Time that are said, and else as it was.
func next(t *testing.T, o *out.Out, p api.Packet, seq, time int) {
	t.Helper()
	want := p
	want.Seq, want.Time = seq, time
	if got, err := o.Next(p); !same(got, want) || err != nil {
		t.Errorf("Next(%v) = %v, %v, want %v", p, got, err, want)
	}
}

func refused(t *testing.T, o *out.Out, p api.Packet, want api.Errno) {
	t.Helper()
	if got, err := o.Next(p); !reflect.DeepEqual(got, api.Packet{}) || plain.Told(err) != want {
		t.Errorf("Next(a packet of Seq %d, Time %d, Layer %d, Level %d and %d bytes) = %v, %v, want %v",
			p.Seq, p.Time, p.Layer, p.Level, len(p.Body), got, err, want)
	}
}

// sent asks Sent, twice: asking changes nothing.
func sent(t *testing.T, o *out.Out, want int) {
	t.Helper()
	for range 2 {
		if got := o.Sent(); got != want {
			t.Errorf("Sent = %d, want %d", got, want)
		}
	}
}

// model is the chapter's U1: all that went out, as it came, stands in a row, and the numbers of the last one are
// found anew from the first one on.
type model struct {
	seq, time int
	row       []api.Packet
}

func (m *model) next(p api.Packet) api.Packet {
	m.row = append(m.row, p)
	seq, time := m.seq, m.time
	for i := 1; i < len(m.row); i++ {
		ahead, it := m.row[i-1], m.row[i]
		seq = (seq + 1) % 65536
		switch {
		case it.Layer != ahead.Layer:
			time++
		case it.Time >= ahead.Time:
			time += it.Time - ahead.Time
		default:
			time += 1<<32 - (ahead.Time - it.Time)
		}
		time %= 1 << 32
	}
	p.Seq, p.Time = seq, time
	return p
}

// pair is an Out and its model, of which the same is asked. What they tell of an error says where it was, so that its
// methods do without Helper, which takes long.
type pair struct {
	o *out.Out
	m *model
}

func newPair(t *testing.T, seq, time int) pair {
	t.Helper()
	return pair{newOut(t, seq, time), &model{seq: seq, time: time}}
}

func (p pair) next(t *testing.T, q api.Packet) {
	want := p.m.next(q)
	if got, err := p.o.Next(q); !same(got, want) || err != nil {
		t.Fatalf("New(%d, %d), and Next of %v: the last is %v, %v, want %v", p.m.seq, p.m.time, p.m.row, got, err, want)
	}
	p.tell(t)
}

func (p pair) refused(t *testing.T, bad badPacket) {
	got, err := p.o.Next(bad.p)
	if !reflect.DeepEqual(got, api.Packet{}) || plain.Told(err) != bad.want {
		t.Fatalf("New(%d, %d), Next of %v, and of one of %d bytes that may not be: %v, %v, want %v",
			p.m.seq, p.m.time, p.m.row, len(bad.p.Body), got, err, bad.want)
	}
	p.tell(t)
}

func (p pair) tell(t *testing.T) {
	if p.o.Sent() != len(p.m.row) {
		t.Fatalf("New(%d, %d), and Next of %v: Sent = %d", p.m.seq, p.m.time, p.m.row, p.o.Sent())
	}
}

func TestNewAtItsEdges(t *testing.T) {
	for _, seq := range []int{0, 1, 255, 256, 32767, 32768, maxSeq - 1, maxSeq} {
		for _, time := range []int{0, 1, 65535, 65536, 1<<31 - 1, 1 << 31, maxWord - 1, maxWord} {
			o := newOut(t, seq, time)
			sent(t, o, 0)
			next(t, o, of(1, 500), seq, time)
			sent(t, o, 1)
		}
	}
}

func TestNewThatMayNotBe(t *testing.T) {
	no := func(seq, time int) {
		t.Helper()
		if o, err := out.New(seq, time); o != nil || plain.Told(err) != api.ErrRange {
			t.Errorf("New(%d, %d) = %v, %v, want ErrRange", seq, time, o, err)
		}
	}
	for _, seq := range badSeqs {
		for _, time := range []int{0, 1, maxSeq, maxWord} {
			no(seq, time)
		}
		for _, time := range badTimes {
			no(seq, time)
		}
	}
	for _, time := range badTimes {
		for _, seq := range []int{0, 1, maxSeq} {
			no(seq, time)
		}
	}
}

// TestSeqAndTimeHaveBoundsOfTheirOwn: what is too much for a Seq is not for a Time.
func TestSeqAndTimeHaveBoundsOfTheirOwn(t *testing.T) {
	o := newOut(t, maxSeq, maxSeq+1)
	next(t, o, of(0, 0), maxSeq, maxSeq+1)
	if o, err := out.New(maxSeq+1, maxSeq); o != nil || plain.Told(err) != api.ErrRange {
		t.Errorf("New(65536, 65535) = %v, %v, want ErrRange", o, err)
	}
}

// TestFirst: whatever the first one's own Seq, Time and Layer are, it has those of New.
func TestFirst(t *testing.T) {
	for layer := range maxLayer + 1 {
		for _, seq := range []int{0, 1, 9, 10, 11, maxSeq} {
			for _, time := range []int{0, 1, 999, 1000, 1001, maxWord} {
				o := newOut(t, 10, 1000)
				p := of(layer, time)
				p.Seq = seq
				next(t, o, p, 10, 1000)
				sent(t, o, 1)
			}
		}
	}
}

// TestFirstTimeOfItsOwnCounts: the second one's Time is told by the first one's own, not by what it went out with.
func TestFirstTimeOfItsOwnCounts(t *testing.T) {
	o := newOut(t, 10, 1000)
	next(t, o, of(2, 70), 10, 1000)
	next(t, o, of(2, 75), 11, 1005)
	next(t, o, of(2, 90), 12, 1020)
	sent(t, o, 3)
}

// TestNoLayerAheadOfTheFirst: no Layer counts as that of the one ahead of all, 0 neither.
func TestNoLayerAheadOfTheFirst(t *testing.T) {
	for layer := range maxLayer + 1 {
		o := newOut(t, 3, 30)
		next(t, o, of(layer, 4000), 3, 30)
		next(t, o, of(layer, 4007), 4, 37)
		o = newOut(t, 3, 30)
		next(t, o, of((layer+1)%4, 4000), 3, 30)
		next(t, o, of(layer, 4007), 4, 31)
		sent(t, o, 2)
	}
}

// TestSeqRises by one, whatever the packets' own Seqs are.
func TestSeqRises(t *testing.T) {
	o := newOut(t, 100, 0)
	for i, own := range []int{0, 0, 7, 6, maxSeq, 0, 101, 50} {
		next(t, o, api.Packet{Seq: own}, 100+i, 0)
		sent(t, o, i+1)
	}
}

func TestSeqGoesRound(t *testing.T) {
	o := newOut(t, maxSeq-1, 5)
	next(t, o, of(0, 0), maxSeq-1, 5)
	next(t, o, of(0, 0), maxSeq, 5)
	sent(t, o, 2)
	next(t, o, of(0, 0), 0, 5)
	sent(t, o, 3)
	next(t, o, of(1, 0), 1, 6)
	sent(t, o, 4)

	o = newOut(t, maxSeq, 5)
	next(t, o, of(0, 0), maxSeq, 5)
	next(t, o, of(1, 0), 0, 6)
	sent(t, o, 2)
}

// TestSeqGoesRoundTwice: Sent goes on where a Seq goes round.
func TestSeqGoesRoundTwice(t *testing.T) {
	const first = 65000
	o := newOut(t, first, maxWord)
	for i := range 2*65536 + 1000 {
		got, err := o.Next(api.Packet{Time: i, Layer: 1})
		if err != nil || got.Seq != (first+i)%65536 || got.Time != (maxWord+i)%(1<<32) || o.Sent() != i+1 {
			t.Fatalf("the one behind %d: %v, %v, Sent = %d", i, got, err, o.Sent())
		}
	}
}

// TestTimeWithinOneLayer: the same one, later, earlier, and gone round, upwards and downwards.
func TestTimeWithinOneLayer(t *testing.T) {
	rows := []struct{ first, own, then, want int }{
		{1000, 50, 50, 1000},
		{1000, 0, 0, 1000},
		{1000, maxWord, maxWord, 1000},
		{1000, 50, 51, 1001},
		{1000, 50, 80, 1030},
		{1000, 50, 49, 999},
		{1000, 50, 20, 970},
		{1000, maxWord, 0, 1001},
		{1000, maxWord, 6, 1007},
		{1000, maxWord - 3, 4, 1008},
		{1000, 0, maxWord, 999},
		{1000, 4, maxWord - 3, 992},
		{maxWord, 50, 51, 0},
		{maxWord, 50, 50, maxWord},
		{maxWord - 1, 50, 51, maxWord},
		{maxWord - 1, 50, 52, 0},
		{maxWord, 50, 80, 29},
		{maxWord, maxWord, 0, 0},
		{maxWord, 0, maxWord, maxWord - 1},
		{maxWord, maxWord, maxWord - 1, maxWord - 1},
		{0, 50, 49, maxWord},
		{0, 50, 50, 0},
		{0, 50, 20, maxWord - 29},
		{1, 50, 49, 0},
		{1, 50, 48, maxWord},
		{0, 0, maxWord, maxWord},
		{0, maxWord, 0, 1},
		{0, 0, 1 << 31, 1 << 31},
		{1 << 31, 0, 1 << 31, 0},
		{1 << 31, 1 << 31, 0, 0},
		{1<<31 - 1, 1 << 31, 0, maxWord},
		{0, 1 << 31, 1<<31 - 1, maxWord},
	}
	for layer := range maxLayer + 1 {
		for _, r := range rows {
			o := newOut(t, 8, r.first)
			next(t, o, of(layer, r.own), 8, r.first)
			next(t, o, of(layer, r.then), 9, r.want)
			sent(t, o, 2)
		}
	}
}

// TestTimeFromLayerToLayer: one more than ahead, whatever their own ones are, and it goes round.
func TestTimeFromLayerToLayer(t *testing.T) {
	owns := []int{0, 1, 49, 50, 51, 1 << 31, maxWord - 1, maxWord}
	for a := range maxLayer + 1 {
		for b := range maxLayer + 1 {
			if a == b {
				continue
			}
			for _, own := range owns {
				for first, want := range map[int]int{0: 1, 1000: 1001, 1<<31 - 1: 1 << 31, maxWord - 1: maxWord, maxWord: 0} {
					o := newOut(t, 8, first)
					next(t, o, of(a, 50), 8, first)
					next(t, o, of(b, own), 9, want)
					sent(t, o, 2)
				}
			}
		}
	}
}

// TestBackToTheLayerTwoAhead: it is another Layer than that of the one ahead, so that its Time is one more, and what
// its Layer's last one had is forgotten.
func TestBackToTheLayerTwoAhead(t *testing.T) {
	o := newOut(t, 8, 1000)
	next(t, o, of(1, 50), 8, 1000)
	next(t, o, of(2, 7000), 9, 1001)
	next(t, o, of(1, 60), 10, 1002)
	sent(t, o, 3)
	next(t, o, of(1, 70), 11, 1012)
	next(t, o, of(2, 7100), 12, 1013)
	next(t, o, of(2, 7110), 13, 1023)
	next(t, o, of(1, 71), 14, 1024)
	sent(t, o, 7)

	o = newOut(t, maxSeq, maxWord-1)
	next(t, o, of(1, 50), maxSeq, maxWord-1)
	next(t, o, of(0, 50), 0, maxWord)
	next(t, o, of(1, 50), 1, 0)
	next(t, o, of(0, 50), 2, 1)
	sent(t, o, 4)
}

// TestBehindAnotherLayer: the Time goes on from the last one's own, of its Layer.
func TestBehindAnotherLayer(t *testing.T) {
	o := newOut(t, 0, maxWord)
	next(t, o, of(3, 10), 0, maxWord)
	next(t, o, of(0, maxWord), 1, 0)
	next(t, o, of(0, 2), 2, 3)
	next(t, o, of(0, maxWord), 3, 0)
	next(t, o, of(0, maxWord-1), 4, maxWord)
	next(t, o, of(3, 10), 5, 0)
	next(t, o, of(3, 9), 6, maxWord)
	sent(t, o, 7)
}

// TestAllElseStays: Layer, Level, Start and Body go out as they were.
func TestAllElseStays(t *testing.T) {
	bodies := [][]byte{nil, {}, {0}, {255, 0}, []byte("voice"), bytes.Repeat([]byte{7}, maxBody-1), bytes.Repeat([]byte{8}, maxBody)}
	o := newOut(t, 0, 0)
	count := 0
	for layer := range maxLayer + 1 {
		for _, level := range []int{0, 1, 64, maxLevel - 1, maxLevel} {
			for _, start := range []bool{false, true} {
				for _, body := range bodies {
					p := api.Packet{Seq: 9, Time: 9, Layer: layer, Level: level, Start: start, Body: body}
					next(t, o, p, count, layer)
					count++
					sent(t, o, count)
				}
			}
		}
	}
}

// TestStartTellsNothing: a Start is not begun anew.
func TestStartTellsNothing(t *testing.T) {
	o := newOut(t, 8, 1000)
	next(t, o, api.Packet{Time: 50, Layer: 1, Start: true}, 8, 1000)
	next(t, o, api.Packet{Time: 60, Layer: 1, Start: true}, 9, 1010)
	next(t, o, api.Packet{Time: 70, Layer: 1}, 10, 1020)
	next(t, o, api.Packet{Time: 80, Layer: 2}, 11, 1021)
	next(t, o, api.Packet{Time: 90, Layer: 1, Start: true}, 12, 1022)
}

// TestRefusedAheadOfTheFirst: the next one is the first one.
func TestRefusedAheadOfTheFirst(t *testing.T) {
	for _, bad := range badPackets() {
		for layer := range maxLayer + 1 {
			o := newOut(t, maxSeq, 1000)
			refused(t, o, bad.p, bad.want)
			sent(t, o, 0)
			next(t, o, of(layer, 50), maxSeq, 1000)
			sent(t, o, 1)
			next(t, o, of(layer, 53), 0, 1003)
			sent(t, o, 2)
		}
	}
}

// TestRefusedInTheRow: the next one is behind the one ahead of what was refused, of its Layer or of another.
func TestRefusedInTheRow(t *testing.T) {
	for _, bad := range badPackets() {
		for layer := range maxLayer + 1 {
			want := 1001
			if layer == 1 {
				want = 1030
			}
			o := newOut(t, maxSeq, 1000)
			next(t, o, of(1, 50), maxSeq, 1000)
			refused(t, o, bad.p, bad.want)
			sent(t, o, 1)
			refused(t, o, bad.p, bad.want)
			sent(t, o, 1)
			next(t, o, of(layer, 80), 0, want)
			sent(t, o, 2)
			next(t, o, of(layer, 81), 1, want+1)
			sent(t, o, 3)
		}
	}
}

// TestAllRefused: however many are refused, nothing went out.
func TestAllRefused(t *testing.T) {
	o := newOut(t, 0, maxWord)
	for range 3 {
		for _, bad := range badPackets() {
			refused(t, o, bad.p, bad.want)
			sent(t, o, 0)
		}
	}
	next(t, o, of(3, 1), 0, maxWord)
	for range 3 {
		for _, bad := range badPackets() {
			refused(t, o, bad.p, bad.want)
			sent(t, o, 1)
		}
	}
	next(t, o, of(3, 2), 1, 0)
	sent(t, o, 2)
}

// TestAtTheEdgesOfAPacket: what is just within chapter 3's bounds goes out.
func TestAtTheEdgesOfAPacket(t *testing.T) {
	o := newOut(t, 1, 2)
	next(t, o, api.Packet{}, 1, 2)
	next(t, o, api.Packet{Seq: maxSeq, Time: maxWord, Layer: maxLayer, Level: maxLevel, Start: true, Body: make([]byte, maxBody)}, 2, 3)
	next(t, o, api.Packet{Seq: maxSeq, Time: 0, Layer: maxLayer, Level: maxLevel, Start: true, Body: make([]byte, maxBody)}, 3, 4)
	sent(t, o, 3)
}

// TestMemory: a Body that goes out is the caller's own, and the one that came is not written into, nor what is behind it.
func TestMemory(t *testing.T) {
	back := []byte("voices")
	p := api.Packet{Layer: 1, Body: back[:3]}
	o := newOut(t, 5, 6)
	first, _ := o.Next(p)
	second, _ := o.Next(p)
	back[0] = 'x'
	if string(first.Body) != "voi" || string(second.Body) != "voi" {
		t.Errorf("a Body changed with the one that came: %q, %q", first.Body, second.Body)
	}
	first.Body[1] = 'y'
	_ = append(first.Body, "zzz"...)
	_ = append(second.Body, "www"...)
	if string(back) != "xoices" || string(second.Body) != "voi" || string(first.Body) != "vyi" {
		t.Errorf("Bodies share memory: %q, %q, %q", back, first.Body, second.Body)
	}
	next(t, o, p, 7, 6)
	if string(back) != "xoices" {
		t.Errorf("the Body that came was written into: %q", back)
	}
}

// TestApart: what one Out was given tells nothing to another one.
func TestApart(t *testing.T) {
	a, b := newOut(t, 10, 100), newOut(t, 20, 200)
	next(t, a, of(1, 5), 10, 100)
	sent(t, b, 0)
	next(t, b, of(1, 50), 20, 200)
	next(t, a, of(1, 7), 11, 102)
	next(t, b, of(2, 7), 21, 201)
	next(t, a, of(2, 7), 12, 103)
	next(t, b, of(2, 8), 22, 202)
	sent(t, a, 3)
	sent(t, b, 3)
}

// TestAllShortRows: all rows of four packets, of some Layers and Times, against the model.
func TestAllShortRows(t *testing.T) {
	var kinds []api.Packet
	for layer := range 3 {
		for _, time := range []int{0, 5, maxWord} {
			kinds = append(kinds, api.Packet{Time: time, Layer: layer, Body: []byte{byte(layer)}})
		}
	}
	const length = 4
	rows := 1
	for range length {
		rows *= len(kinds)
	}
	for _, start := range [][2]int{{0, 0}, {maxSeq, maxWord}, {maxSeq - 2, 3}} {
		for row := range rows {
			p := newPair(t, start[0], start[1])
			for range length {
				p.next(t, kinds[row%len(kinds)])
				row /= len(kinds)
			}
		}
	}
}

// TestLongRows: long rows by lot, with what is refused among them, against the model.
func TestLongRows(t *testing.T) {
	lot := rand.New(rand.NewSource(10))
	bads := badPackets()
	times := func() int {
		switch lot.Intn(3) {
		case 0:
			return lot.Intn(20)
		case 1:
			return maxWord - lot.Intn(20)
		}
		return lot.Intn(maxWord + 1)
	}
	for range 300 {
		p := newPair(t, maxSeq-lot.Intn(100), times())
		layers := 1 + lot.Intn(maxLayer+1)
		for range 120 {
			if lot.Intn(8) == 0 {
				p.refused(t, bads[lot.Intn(len(bads))])
				continue
			}
			body := make([]byte, lot.Intn(4))
			lot.Read(body)
			p.next(t, api.Packet{Seq: lot.Intn(maxSeq + 1), Time: times(), Layer: lot.Intn(layers),
				Level: lot.Intn(maxLevel + 1), Start: lot.Intn(2) == 0, Body: body})
		}
	}
}
