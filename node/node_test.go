package node_test

import (
	"hash/crc32"
	"math"
	"reflect"
	"slices"
	"testing"

	"choirloft/api"
	"choirloft/node"
	"choirloft/plain"
)

const (
	me      = 7 // the node of most of these tests
	maxTime = 1_000_000
	maxSeq  = 65_535
)

// Kinds of what is said back, as package api numbers them.
const (
	lost = 1
	key  = 2
	rate = 3
)

// badTimes: numbers that no now may have, just below 0 and just above MaxTime, and far away.
var badTimes = []int{-1, -2, -maxTime, math.MinInt, maxTime + 1, maxTime + 2, 1 << 32, math.MaxInt}

// badTracks: likewise of tracks.
var badTracks = []int{0, -1, -2, 9, 10, 256 + 1, 1<<32 + 1, math.MinInt, math.MaxInt}

// badNodes: likewise of nodes; -1 may be a parent.
var badNodes = []int{-2, -3, 16, 17, 256, 256 + 3, 1<<32 + 3, math.MinInt, math.MaxInt}

// badLayers: likewise of what a subscriber wants at most.
var badLayers = []int{-1, -2, 4, 5, 256, 1 << 32, math.MinInt, math.MaxInt}

// badPackets: one for each fault of a packet, and what it is told by.
var badPackets = []struct {
	p    api.Packet
	want api.Errno
}{
	{api.Packet{Seq: -1}, api.ErrRange},
	{api.Packet{Seq: 65536}, api.ErrRange},
	{api.Packet{Time: -1}, api.ErrRange},
	{api.Packet{Time: 1 << 32}, api.ErrRange},
	{api.Packet{Layer: -1}, api.ErrRange},
	{api.Packet{Layer: 4}, api.ErrRange},
	{api.Packet{Level: -1}, api.ErrRange},
	{api.Packet{Level: 128}, api.ErrRange},
	{api.Packet{Body: make([]byte, 1001)}, api.ErrFull},
	{api.Packet{Seq: -1, Body: make([]byte, 1001)}, api.ErrRange},
}

func newNode(t *testing.T, id int) *node.Node {
	t.Helper()
	n, err := node.New(id)
	if n == nil || err != nil {
		t.Fatalf("New(%d) = %v, %v", id, n, err)
	}
	return n
}

func plans(t *testing.T, n *node.Node, track, parent int, kids []int, epoch int) {
	t.Helper()
	if err := n.Plan(track, parent, kids, epoch); err != nil {
		t.Fatalf("Plan(%d, %d, %v, %d) = %v", track, parent, kids, epoch, err)
	}
}

func planRefused(t *testing.T, n *node.Node, track, parent int, kids []int, epoch int, want api.Errno) {
	t.Helper()
	if err := n.Plan(track, parent, kids, epoch); plain.Told(err) != want {
		t.Errorf("Plan(%d, %d, %v, %d) = %v, want %v", track, parent, kids, epoch, err, want)
	}
}

func subs(t *testing.T, n *node.Node, track, most, want int) {
	t.Helper()
	if id, err := n.Sub(track, most); id != want || err != nil {
		t.Fatalf("Sub(%d, %d) = %d, %v, want %d", track, most, id, err, want)
	}
}

func subRefused(t *testing.T, n *node.Node, track, most int, want api.Errno) {
	t.Helper()
	if id, err := n.Sub(track, most); id != 0 || plain.Told(err) != want {
		t.Errorf("Sub(%d, %d) = %d, %v, want %v", track, most, id, err, want)
	}
}

func unsubs(t *testing.T, n *node.Node, id int) {
	t.Helper()
	if err := n.Unsub(id); err != nil {
		t.Errorf("Unsub(%d) = %v", id, err)
	}
}

func unsubRefused(t *testing.T, n *node.Node, id int) {
	t.Helper()
	if err := n.Unsub(id); plain.Told(err) != api.ErrNone {
		t.Errorf("Unsub(%d) = %v, want ErrNone", id, err)
	}
}

func sends(t *testing.T, n *node.Node, track int, p api.Packet, now int) {
	t.Helper()
	if err := n.Send(track, p, now); err != nil {
		t.Errorf("Send(%d, Seq %d, %d) = %v", track, p.Seq, now, err)
	}
}

func sendRefused(t *testing.T, n *node.Node, track int, p api.Packet, now int, want api.Errno) {
	t.Helper()
	if err := n.Send(track, p, now); plain.Told(err) != want {
		t.Errorf("Send(%d, Seq %d, %d) = %v, want %v", track, p.Seq, now, err, want)
	}
}

func hears(t *testing.T, n *node.Node, from int, b []byte, now int) {
	t.Helper()
	if err := n.Hear(from, b, now); err != nil {
		t.Errorf("Hear(%d, %v, %d) = %v", from, b, now, err)
	}
}

func hearRefused(t *testing.T, n *node.Node, from int, b []byte, now int, want api.Errno) {
	t.Helper()
	if err := n.Hear(from, b, now); plain.Told(err) != want {
		t.Errorf("Hear(%d, %v, %d) = %v, want %v", from, b, now, err, want)
	}
}

func ticks(t *testing.T, n *node.Node, now int) {
	t.Helper()
	if err := n.Tick(now); err != nil {
		t.Errorf("Tick(%d) = %v", now, err)
	}
}

func tickRefused(t *testing.T, n *node.Node, now int, want api.Errno) {
	t.Helper()
	if err := n.Tick(now); plain.Told(err) != want {
		t.Errorf("Tick(%d) = %v, want %v", now, err, want)
	}
}

// lets asks for what goes out, and that nothing does when it is asked again at once.
func lets(t *testing.T, n *node.Node, want ...api.Letter) {
	t.Helper()
	if out := n.Out(); !sameLetters(out, want) {
		t.Errorf("Out = %v, want %v", out, want)
	}
	if out := n.Out(); len(out) != 0 {
		t.Errorf("Out, asked again = %v", out)
	}
}

// got asks for what a subscriber got, and that it got nothing when it is asked again at once.
func got(t *testing.T, n *node.Node, id int, want ...api.Packet) {
	t.Helper()
	if l, err := n.Got(id); !samePackets(l, want) || err != nil {
		t.Errorf("Got(%d) = %v, %v, want %v", id, l, err, want)
	}
	if l, err := n.Got(id); len(l) != 0 || err != nil {
		t.Errorf("Got(%d), asked again = %v, %v", id, l, err)
	}
}

func gotRefused(t *testing.T, n *node.Node, id int) {
	t.Helper()
	if l, err := n.Got(id); len(l) != 0 || plain.Told(err) != api.ErrNone {
		t.Errorf("Got(%d) = %v, %v, want ErrNone", id, l, err)
	}
}

func sameLetters(a, b []api.Letter) bool {
	return slices.EqualFunc(a, b, func(x, y api.Letter) bool { return x.To == y.To && slices.Equal(x.Body, y.Body) })
}

func samePackets(a, b []api.Packet) bool {
	return slices.EqualFunc(a, b, samePacket)
}

// samePacket: an empty Body and none are the same.
func samePacket(x, y api.Packet) bool {
	bodies := slices.Equal(x.Body, y.Body)
	x.Body, y.Body = nil, nil
	return bodies && reflect.DeepEqual(x, y)
}

// start is a packet with which a layer may begin, of layer 0: each of a row of them goes through.
func start(seq int) api.Packet {
	return api.Packet{Seq: seq, Time: 100 * seq, Level: seq % 128, Start: true, Body: []byte{byte(seq >> 8), byte(seq), 70}}
}

// starts of Seqs, in a row as a subscriber gets them, from the first-th of its row on (the one of the Seq zero is the first).
func starts(zero, first int, seqs ...int) []api.Packet {
	var l []api.Packet
	for i, seq := range seqs {
		p := start(seq)
		p.Seq, p.Time = (first+i)%65536, (p.Time-100*zero)&(1<<32-1)
		l = append(l, p)
	}
	return l
}

// packed, framed and the like write bytes as the chapters say, without the project's packages.
func packed(p api.Packet) []byte {
	first := 128 + p.Layer
	if p.Start {
		first += 32
	}
	b := []byte{byte(first), byte(p.Level), byte(p.Seq >> 8), byte(p.Seq), byte(p.Time >> 24), byte(p.Time >> 16), byte(p.Time >> 8), byte(p.Time)}
	return append(b, p.Body...)
}

func framed(track, origin, epoch, hops int, p api.Packet) []byte {
	return sealed(append([]byte{70, byte(track), byte(origin), byte(hops), byte(epoch >> 8), byte(epoch)}, packed(p)...))
}

func sealed(b []byte) []byte {
	sum := crc32.ChecksumIEEE(b)
	return append(slices.Clone(b), byte(sum>>24), byte(sum>>16), byte(sum>>8), byte(sum))
}

// saidLost is of Seqs that rise.
func saidLost(track int, seqs ...int) []byte {
	b := []byte{lost, byte(track)}
	for len(seqs) > 0 {
		base, mask := seqs[0], 0
		for seqs = seqs[1:]; len(seqs) > 0 && seqs[0]-base <= 16; seqs = seqs[1:] {
			mask |= 1 << (seqs[0] - base - 1)
		}
		b = append(b, byte(base>>8), byte(base), byte(mask>>8), byte(mask))
	}
	return b
}

func saidKey(track, value int) []byte {
	return []byte{key, byte(track), byte(value)}
}

func saidRate(track, value int) []byte {
	return []byte{rate, byte(track), byte(value >> 24), byte(value >> 16), byte(value >> 8), byte(value)}
}

func to(node int, b []byte) api.Letter {
	return api.Letter{To: node, Body: b}
}

// numbers from first to last.
func numbers(first, last int) []int {
	var l []int
	for i := first; i <= last; i++ {
		l = append(l, i)
	}
	return l
}

// without some of a list.
func without(l []int, some ...int) []int {
	return slices.DeleteFunc(slices.Clone(l), func(i int) bool { return slices.Contains(some, i) })
}

// begins is a node at which track 1 begins, at epoch 5, with the kids 3 and 9, and a subscriber, 1, up to layer 0.
func begins(t *testing.T) *node.Node {
	t.Helper()
	n := newNode(t, me)
	plans(t, n, 1, -1, []int{3, 9}, 5)
	subs(t, n, 1, 0, 1)
	return n
}

// passes is a node to which track 2 comes from 4, at epoch 5, with the kids 9 and 3, and a subscriber, 1, up to layer 0.
func passes(t *testing.T) *node.Node {
	t.Helper()
	n := newNode(t, me)
	plans(t, n, 2, 4, []int{9, 3}, 5)
	subs(t, n, 2, 0, 1)
	return n
}

// from4 is a frame as it comes to a node that passes, of the packet that start makes.
func from4(seq int) []byte {
	return framed(2, 12, 5, 1, start(seq))
}

// on is what goes on of that.
func on(seqs ...int) []api.Letter {
	var l []api.Letter
	for _, seq := range seqs {
		b := framed(2, 12, 5, 2, start(seq))
		l = append(l, to(9, b), to(3, b))
	}
	return l
}

// hearsAll lets a node that passes hear frames of Seqs, at one time.
func hearsAll(t *testing.T, n *node.Node, now int, seqs ...int) {
	t.Helper()
	for _, seq := range seqs {
		hears(t, n, 4, from4(seq), now)
	}
}

func TestNewAtItsEdges(t *testing.T) {
	for _, id := range numbers(0, 15) {
		n := newNode(t, id)
		lets(t, n)
		kid := (id + 1) % 16
		planRefused(t, n, 1, id, nil, 1, api.ErrRange)
		plans(t, n, 1, -1, []int{kid}, 1)
		sends(t, n, 1, start(4), 0)
		lets(t, n, to(kid, framed(1, id, 1, 1, start(4))))
	}
}

func TestNewOfWrongNumbers(t *testing.T) {
	for _, id := range append([]int{-1}, badNodes...) {
		if n, err := node.New(id); n != nil || plain.Told(err) != api.ErrRange {
			t.Errorf("New(%d) = %v, %v", id, n, err)
		}
	}
}

// TestANewNode: it has no tracks, no subscribers, nothing to let out.
func TestANewNode(t *testing.T) {
	n := newNode(t, me)
	for _, track := range numbers(1, 8) {
		subRefused(t, n, track, 0, api.ErrNone)
		sendRefused(t, n, track, start(1), 0, api.ErrNone)
		hearRefused(t, n, 4, framed(track, 4, 0, 1, start(1)), 0, api.ErrNone)
		hearRefused(t, n, 4, saidLost(track, 1), 0, api.ErrNone)
		hearRefused(t, n, 4, saidKey(track, 1), 0, api.ErrNone)
		hearRefused(t, n, 4, saidRate(track, 1), 0, api.ErrNone)
	}
	for _, id := range []int{-1, 0, 1, 2, 20} {
		gotRefused(t, n, id)
		unsubRefused(t, n, id)
	}
	ticks(t, n, 0)
	ticks(t, n, maxTime)
	lets(t, n)
}

func TestPlanOfEachTrack(t *testing.T) {
	n := newNode(t, me)
	for _, track := range numbers(1, 8) {
		plans(t, n, track, -1, []int{track % 7}, track)
	}
	for _, track := range numbers(1, 8) {
		sends(t, n, track, start(track), 0)
		lets(t, n, to(track%7, framed(track, me, track, 1, start(track))))
	}
	for _, track := range badTracks {
		planRefused(t, n, track, -1, nil, 1, api.ErrRange)
		planRefused(t, n, track, -1, nil, 9, api.ErrRange)
	}
}

func TestPlanOfParents(t *testing.T) {
	for _, parent := range without(numbers(0, 15), me) {
		n := newNode(t, me)
		plans(t, n, 1, parent, nil, 1)
		sendRefused(t, n, 1, start(1), 0, api.ErrState)
		for _, from := range numbers(-1, 16) {
			if from != parent {
				hearRefused(t, n, from, framed(1, 2, 1, 1, start(1)), 0, api.ErrState)
			}
		}
		hears(t, n, parent, framed(1, 2, 1, 1, start(1)), 0)
		subs(t, n, 1, 2, 1)
		ticks(t, n, 0)
		lets(t, n, to(parent, saidKey(1, 2)))
	}
	n := newNode(t, me)
	for _, parent := range append([]int{me}, badNodes...) {
		planRefused(t, n, 1, parent, nil, 1, api.ErrRange)
	}
	subRefused(t, n, 1, 0, api.ErrNone)
	for _, id := range []int{0, 15} {
		n := newNode(t, id)
		planRefused(t, n, 1, id, nil, 1, api.ErrRange)
		plans(t, n, 1, 15-id, nil, 1)
	}
}

func TestPlanOfKids(t *testing.T) {
	all := without(numbers(0, 15), me)
	back := slices.Clone(all)
	slices.Reverse(back)
	for _, kids := range [][]int{nil, {}, {0}, {15}, {6}, {8}, {15, 0}, {3, 9}, {9, 3}, all, back} {
		n := newNode(t, me)
		plans(t, n, 1, -1, kids, 1)
		sends(t, n, 1, start(1), 0)
		var want []api.Letter
		for _, kid := range kids {
			want = append(want, to(kid, framed(1, me, 1, 1, start(1))))
		}
		lets(t, n, want...)
		for _, from := range numbers(-1, 16) {
			if slices.Contains(kids, from) {
				hears(t, n, from, saidRate(1, 1), 0)
			} else {
				hearRefused(t, n, from, saidRate(1, 1), 0, api.ErrState)
			}
		}
	}
	for _, parent := range all {
		n := newNode(t, me)
		plans(t, n, 1, parent, without(all, parent), 1)
		planRefused(t, n, 1, parent, all, 1, api.ErrRange)
		planRefused(t, n, 1, parent, []int{parent}, 1, api.ErrRange)
	}
}

func TestPlanOfKidsThatMayNotBe(t *testing.T) {
	n := newNode(t, me)
	all := without(numbers(0, 15), me)
	for _, kid := range append([]int{-1, me, 4}, badNodes...) {
		for _, parent := range []int{4, 5, -1} {
			if kid == 4 && parent != 4 {
				continue
			}
			for _, kids := range [][]int{{kid}, {kid, 3}, {3, kid}, {kid, kid}, {3, 3, kid}, {kid, 3, 3}, {3, kid, 3},
				append([]int{kid}, without(all, parent)...), append(without(all, parent), kid),
				append(append(without(all, parent), without(all, parent)...), kid)} {
				planRefused(t, n, 1, parent, kids, 1, api.ErrRange)
			}
		}
	}
	for _, kids := range [][]int{{3, 3}, {0, 0}, {15, 15}, {3, 9, 3}, {9, 3, 3}, {3, 3, 3}, append([]int{0}, all...), append(all, 15),
		append(all, 2, 2), append(all, all...), slices.Repeat([]int{3}, 16), slices.Repeat([]int{3}, 17), slices.Repeat([]int{3}, 300)} {
		planRefused(t, n, 1, -1, kids, 1, api.ErrClash)
	}
	subRefused(t, n, 1, 0, api.ErrNone)
}

func TestPlanOfEpochs(t *testing.T) {
	for _, epoch := range []int{0, 1, 255, 256, maxSeq - 1, maxSeq} {
		n := newNode(t, me)
		plans(t, n, 1, -1, []int{3}, epoch)
		plans(t, n, 1, -1, []int{3}, epoch)
		sends(t, n, 1, start(1), 0)
		lets(t, n, to(3, framed(1, me, epoch, 1, start(1))))
		// Of another track it does not matter.
		plans(t, n, 2, -1, nil, 0)
		if epoch > 0 {
			planRefused(t, n, 1, -1, []int{3}, epoch-1, api.ErrState)
			planRefused(t, n, 1, -1, []int{3}, 0, api.ErrState)
			planRefused(t, n, 1, 4, nil, epoch-1, api.ErrState)
		}
		if epoch < maxSeq {
			plans(t, n, 1, -1, []int{3}, epoch+1)
			planRefused(t, n, 1, -1, []int{3}, epoch, api.ErrState)
		}
		for _, bad := range []int{-1, -2, math.MinInt, maxSeq + 1, maxSeq + 2, 1<<32 + epoch, math.MaxInt} {
			planRefused(t, n, 1, -1, []int{3}, bad, api.ErrRange)
			planRefused(t, n, 3, -1, []int{3}, bad, api.ErrRange)
		}
		subRefused(t, n, 3, 0, api.ErrNone)
	}
}

// TestPlanOfSeveralFaults: what the chapter names first is told.
func TestPlanOfSeveralFaults(t *testing.T) {
	n := newNode(t, me)
	plans(t, n, 1, -1, []int{3}, 5)
	// An epoch that is less than ahead, with each other fault.
	planRefused(t, n, 0, -1, []int{3}, 4, api.ErrRange)
	planRefused(t, n, 1, me, []int{3}, 4, api.ErrRange)
	planRefused(t, n, 1, 16, []int{3}, 4, api.ErrRange)
	planRefused(t, n, 1, 3, []int{3}, 4, api.ErrRange)
	planRefused(t, n, 1, -1, []int{me}, 4, api.ErrRange)
	planRefused(t, n, 1, -1, []int{16}, 4, api.ErrRange)
	planRefused(t, n, 1, -1, []int{3, 3}, 4, api.ErrClash)
	planRefused(t, n, 1, -1, slices.Repeat([]int{3}, 17), 4, api.ErrClash)
	planRefused(t, n, 1, -1, []int{3}, -1, api.ErrRange)
	// A kid that is there twice, with others.
	planRefused(t, n, 9, -1, []int{3, 3}, 5, api.ErrRange)
	planRefused(t, n, 1, me, []int{3, 3}, 5, api.ErrRange)
	planRefused(t, n, 1, 3, []int{3, 3}, 5, api.ErrRange)
	planRefused(t, n, 1, -1, []int{3, 3}, maxSeq+1, api.ErrRange)
	planRefused(t, n, 1, -1, []int{3, 3}, -1, api.ErrRange)
	// More than there may be, with others.
	planRefused(t, n, 1, -1, numbers(0, 16), 5, api.ErrRange)
	planRefused(t, n, 1, -1, numbers(-1, 15), 5, api.ErrRange)
	planRefused(t, n, 1, -1, append(without(numbers(0, 15), me), 0, 0), 5, api.ErrClash)
	planRefused(t, n, 1, -1, append(without(numbers(0, 15), me), 0, 0), 4, api.ErrClash)
	// Nothing of all this was taken.
	sends(t, n, 1, start(1), 0)
	lets(t, n, to(3, framed(1, me, 5, 1, start(1))))
}

// TestPlanAtTheSameEpoch: from where it comes and to whom it goes is another one; all else is kept.
func TestPlanAtTheSameEpoch(t *testing.T) {
	n := passes(t)
	hearsAll(t, n, 0, 10, 13)
	lets(t, n, on(10, 13)...)
	plans(t, n, 2, 6, []int{8}, 5)
	hearRefused(t, n, 4, from4(14), 0, api.ErrState)
	hearRefused(t, n, 9, saidLost(2, 10), 0, api.ErrState)
	// The Ring: the new kid is told what came ahead.
	hears(t, n, 8, saidLost(2, 10, 11), 0)
	lets(t, n, to(8, framed(2, 12, 5, 2, start(10))))
	// Gaps: what came ahead came, what is lacking is asked for.
	hears(t, n, 6, from4(10), 0)
	lets(t, n)
	ticks(t, n, 0)
	lets(t, n, to(6, saidLost(2, 11, 12)))
	// Orders, Layers, Outs: it goes on.
	hears(t, n, 6, from4(12), 1)
	hears(t, n, 6, from4(11), 1)
	lets(t, n, to(8, framed(2, 12, 5, 2, start(12))), to(8, framed(2, 12, 5, 2, start(11))))
	got(t, n, 1, starts(10, 0, 10, 11, 12, 13)...)
	// The greatest number: what is far from it is left.
	hears(t, n, 6, from4(300), 1)
	lets(t, n)
	// It may begin here from now on.
	plans(t, n, 2, -1, []int{8}, 5)
	hearRefused(t, n, 6, from4(14), 1, api.ErrState)
	sends(t, n, 2, start(14), 1)
	hears(t, n, 8, saidLost(2, 13, 14), 1)
	lets(t, n, to(8, framed(2, me, 5, 1, start(14))), to(8, framed(2, 12, 5, 2, start(13))), to(8, framed(2, me, 5, 1, start(14))))
	got(t, n, 1, starts(10, 4, 14)...)
}

// TestPlanAtALaterEpoch: all is new but what subscribers got, what went out, and when a start was asked for.
func TestPlanAtALaterEpoch(t *testing.T) {
	n := passes(t)
	subs(t, n, 2, 3, 2)
	plans(t, n, 3, 4, nil, 1)
	subs(t, n, 3, 0, 3)
	ticks(t, n, 0)
	hearsAll(t, n, 0, 10, 11, 14)
	hears(t, n, 4, framed(3, 12, 1, 1, start(20)), 0)
	plans(t, n, 2, 4, []int{9}, 6)
	lets(t, n, slices.Concat([]api.Letter{to(4, saidKey(2, 0)), to(4, saidKey(3, 0))}, on(10, 11, 14))...)
	hearRefused(t, n, 4, from4(15), 0, api.ErrState)
	later := func(seq int) []byte { return framed(2, 12, 6, 1, start(seq)) }
	next := func(seq int) api.Letter { return to(9, framed(2, 12, 6, 2, start(seq))) }
	// Nothing is lacking, nothing is kept; that a start was asked for is.
	ticks(t, n, 9)
	hears(t, n, 9, saidLost(2, 10, 11, 14), 9)
	lets(t, n)
	got(t, n, 1, starts(10, 0, 10, 11)...)
	got(t, n, 2, starts(10, 0, 10, 11)...)
	got(t, n, 3, starts(20, 0, 20)...)
	ticks(t, n, 10)
	lets(t, n, to(4, saidKey(2, 0)))
	// A Layer begins with a start, and a row at 0, far away from what came ahead.
	p := start(40000)
	p.Start = false
	hears(t, n, 4, framed(2, 12, 6, 1, p), 10)
	lets(t, n, to(9, framed(2, 12, 6, 2, p)))
	hears(t, n, 4, later(40001), 10)
	hears(t, n, 4, later(40003), 10)
	hears(t, n, 4, later(10), 10)
	lets(t, n, next(40001), next(40003))
	got(t, n, 1, starts(40001, 0, 40001)...)
	got(t, n, 2, starts(40001, 0, 40001)...)
	// The other track goes on.
	hears(t, n, 4, framed(3, 12, 1, 1, start(20)), 10)
	hears(t, n, 4, framed(3, 12, 1, 1, start(21)), 10)
	got(t, n, 3, starts(20, 1, 21)...)
	got(t, n, 1)
	ticks(t, n, 10)
	lets(t, n, to(4, saidLost(2, 40002)))
}

// TestALaterEpochHasNoWays: how packets went at an epoch ahead does not matter.
func TestALaterEpochHasNoWays(t *testing.T) {
	n := passes(t)
	hears(t, n, 4, framed(2, 12, 5, 64, start(10)), 0)
	plans(t, n, 2, 4, []int{9}, 6)
	hears(t, n, 4, framed(2, 1, 6, 7, start(10)), 0)
	hears(t, n, 9, saidLost(2, 10), 0)
	lets(t, n, to(9, framed(2, 1, 6, 8, start(10))), to(9, framed(2, 1, 6, 8, start(10))))
}

// TestTimes: the edges of now, in each call that has one; what is wrong with it is told first of all.
func TestTimes(t *testing.T) {
	calls := map[string]func(n *node.Node, now int) error{
		"Send":                    func(n *node.Node, now int) error { return n.Send(1, start(1), now) },
		"Hear of a frame":         func(n *node.Node, now int) error { return n.Hear(4, from4(1), now) },
		"Hear of Lost":            func(n *node.Node, now int) error { return n.Hear(3, saidLost(1, 1), now) },
		"Hear of Key":             func(n *node.Node, now int) error { return n.Hear(3, saidKey(1, 1), now) },
		"Hear of Rate":            func(n *node.Node, now int) error { return n.Hear(3, saidRate(1, 1), now) },
		"Tick":                    func(n *node.Node, now int) error { return n.Tick(now) },
		"Send of one that is far": func(n *node.Node, now int) error { return n.Send(1, start(9000), now) },
	}
	wrong := map[string]func(n *node.Node, now int) error{
		"Send of a track that is none":        func(n *node.Node, now int) error { return n.Send(0, start(1), now) },
		"Send of a track that is not planned": func(n *node.Node, now int) error { return n.Send(8, start(1), now) },
		"Send of one that begins elsewhere":   func(n *node.Node, now int) error { return n.Send(2, start(1), now) },
		"Send of no packet":                   func(n *node.Node, now int) error { return n.Send(1, api.Packet{Seq: -1}, now) },
		"Hear of nothing":                     func(n *node.Node, now int) error { return n.Hear(4, nil, now) },
		"Hear of a frame that is none":        func(n *node.Node, now int) error { return n.Hear(4, []byte{70}, now) },
		"Hear of a track that is not planned": func(n *node.Node, now int) error { return n.Hear(4, saidKey(8, 0), now) },
		"Hear of somebody":                    func(n *node.Node, now int) error { return n.Hear(14, from4(1), now) },
		"Hear of no kid":                      func(n *node.Node, now int) error { return n.Hear(4, saidKey(2, 0), now) },
	}
	make2 := func() *node.Node {
		n := begins(t)
		plans(t, n, 2, 4, []int{9}, 5)
		sends(t, n, 1, start(0), 0)
		return n
	}
	for name, call := range calls {
		for _, last := range []int{0, 1, 500, maxTime - 1, maxTime} {
			n := make2()
			if err := call(n, last); err != nil {
				t.Errorf("%s at %d = %v", name, last, err)
			}
			for other, then := range calls {
				timesRefused(t, name+", "+other, n, last, then)
			}
			for other, then := range wrong {
				timesRefused(t, name+", "+other, n, last, then)
				for _, now := range []int{last, maxTime} {
					if err := then(n, now); err == nil {
						t.Errorf("%s at %d = nil", other, now)
					}
				}
			}
			for other, then := range calls {
				if err := then(n, last); err != nil {
					t.Errorf("%s, %s again at %d = %v", name, other, last, err)
				}
			}
			if err := call(n, maxTime); err != nil {
				t.Errorf("%s at the end = %v", name, err)
			}
		}
	}
}

// timesRefused asks for the errors of nows that may not be, behind last.
func timesRefused(t *testing.T, name string, n *node.Node, last int, call func(n *node.Node, now int) error) {
	t.Helper()
	for _, now := range badTimes {
		if err := call(n, now); plain.Told(err) != api.ErrRange {
			t.Errorf("%s at %d = %v, want ErrRange", name, now, err)
		}
	}
	for _, now := range []int{last - 1, last / 2, 0} {
		if now >= 0 && now < last {
			if err := call(n, now); plain.Told(err) != api.ErrState {
				t.Errorf("%s at %d = %v, want ErrState", name, now, err)
			}
		}
	}
}

// TestTimeOfAllTracks: it is one time for all of them, and a later epoch does not set it back.
func TestTimeOfAllTracks(t *testing.T) {
	n := begins(t)
	plans(t, n, 2, -1, nil, 1)
	sends(t, n, 1, start(1), 8)
	sendRefused(t, n, 2, start(1), 7, api.ErrState)
	plans(t, n, 1, -1, nil, 6)
	sendRefused(t, n, 1, start(1), 7, api.ErrState)
	tickRefused(t, n, 7, api.ErrState)
	sends(t, n, 2, start(1), 8)
}

func TestSendOfWrongTracks(t *testing.T) {
	n := begins(t)
	plans(t, n, 2, 4, nil, 1)
	for _, track := range badTracks {
		sendRefused(t, n, track, start(1), 0, api.ErrRange)
		sendRefused(t, n, track, api.Packet{Body: make([]byte, 1001)}, 0, api.ErrRange)
	}
	for _, track := range numbers(3, 8) {
		sendRefused(t, n, track, start(1), 0, api.ErrNone)
		sendRefused(t, n, track, api.Packet{Seq: -1}, 0, api.ErrNone)
	}
	sendRefused(t, n, 2, start(1), 0, api.ErrState)
	sendRefused(t, n, 2, api.Packet{Seq: -1}, 0, api.ErrState)
	lets(t, n)
	got(t, n, 1)
}

func TestSendOfWrongPackets(t *testing.T) {
	n := begins(t)
	for _, bad := range badPackets {
		sendRefused(t, n, 1, bad.p, 0, bad.want)
		sendRefused(t, n, 1, bad.p, 9, bad.want)
	}
	lets(t, n)
	// None of them was the first.
	sends(t, n, 1, start(30000), 0)
	got(t, n, 1, starts(30000, 0, 30000)...)
}

// TestSendAtTheEdgesOfPackets: they come as they are.
func TestSendAtTheEdgesOfPackets(t *testing.T) {
	for _, p := range []api.Packet{{}, {Start: true}, {Seq: maxSeq, Time: 1<<32 - 1, Layer: 3, Level: 127, Start: true, Body: make([]byte, 1000)},
		{Seq: 70, Body: []byte{70}}, {Seq: maxSeq, Layer: 2}} {
		n := newNode(t, me)
		plans(t, n, 1, -1, []int{3}, 5)
		subs(t, n, 1, 3, 1)
		sends(t, n, 1, p, 0)
		lets(t, n, to(3, framed(1, me, 5, 1, p)))
		if p.Start {
			p.Seq, p.Time = 0, 0
			got(t, n, 1, p)
		} else {
			got(t, n, 1)
		}
	}
}

// TestSendInARow: to each kid, in their order, and to who subscribes.
func TestSendInARow(t *testing.T) {
	n := begins(t)
	for i, seq := range []int{8, 9, 10} {
		sends(t, n, 1, start(seq), i)
		b := framed(1, me, 5, 1, start(seq))
		lets(t, n, to(3, b), to(9, b))
		got(t, n, 1, starts(8, i, seq)...)
	}
	// What came already is left.
	for _, seq := range []int{8, 9, 10} {
		sends(t, n, 1, start(seq), 4)
	}
	// Also what came ahead of the first one.
	sends(t, n, 1, start(7), 4)
	sends(t, n, 1, start(0), 4)
	lets(t, n)
	got(t, n, 1)
	// All that came since they were asked last, at once.
	sends(t, n, 1, start(11), 4)
	sends(t, n, 1, start(12), 4)
	a, b := framed(1, me, 5, 1, start(11)), framed(1, me, 5, 1, start(12))
	lets(t, n, to(3, a), to(9, a), to(3, b), to(9, b))
	got(t, n, 1, starts(8, 3, 11, 12)...)
}

// TestNumbersThatGoRound: from every first one on, also where it is next to the end of a round.
func TestNumbersThatGoRound(t *testing.T) {
	for _, first := range []int{0, 1, 100, 32767, 32768, 65000, 65534, 65535} {
		n := begins(t)
		row := 0
		for i := range 70000 / 97 {
			seq := (first + 97*i) % 65536
			p := api.Packet{Seq: seq, Start: true}
			sends(t, n, 1, p, 0)
			if i > 0 {
				// They wait for those between.
				got(t, n, 1)
				for j := 96; j > 0; j-- {
					sends(t, n, 1, api.Packet{Seq: (seq - j + 65536) % 65536, Start: true}, 0)
				}
			}
			l, err := n.Got(1)
			if err != nil || len(l) == 0 || l[0].Seq != row%65536 {
				t.Fatalf("first %d, %d-th: Got = %v, %v", first, i, l, err)
			}
			row += len(l)
			if row != 97*i+1 {
				t.Fatalf("first %d, %d-th: %d came", first, i, row)
			}
		}
		if len(n.Out()) != 2*row {
			t.Errorf("first %d: not all went to all kids", first)
		}
	}
}

// TestAroundTheFirst: the first one is its Seq and 65536, so that there are numbers below it: they are left, not
// taken for some that are a round ahead.
func TestAroundTheFirst(t *testing.T) {
	for _, first := range []int{0, 1, 5, 200} {
		n := begins(t)
		sends(t, n, 1, start(first), 0)
		n.Out()
		for _, behind := range []int{1, 2, 64, 200, 201, 32767, 32768} {
			sends(t, n, 1, start((first-behind+65536)%65536), 0)
		}
		// Further away it is nearer ahead, and more than MaxList would be lacking.
		for _, ahead := range []int{202, 300, 32767} {
			sends(t, n, 1, start(first+ahead), 0)
		}
		lets(t, n)
		got(t, n, 1, starts(first, 0, first)...)
		sends(t, n, 1, start(first+1), 0)
		got(t, n, 1, starts(first, 1, first+1)...)
	}
}

// TestHowFarAhead: Gaps takes it where MaxList are lacking, and leaves it where one more would be; an Order takes one less.
func TestHowFarAhead(t *testing.T) {
	for _, c := range []struct {
		ahead       int
		taken, kept bool
	}{{1, true, true}, {2, true, true}, {199, true, true}, {200, true, true}, {201, true, false}, {202, false, false},
		{203, false, false}, {32767, false, false}} {
		n := begins(t)
		sends(t, n, 1, start(1000), 0)
		lets(t, n, to(3, framed(1, me, 5, 1, start(1000))), to(9, framed(1, me, 5, 1, start(1000))))
		got(t, n, 1, starts(1000, 0, 1000)...)
		seq := 1000 + c.ahead
		sends(t, n, 1, start(seq), 0)
		if b := framed(1, me, 5, 1, start(seq)); c.taken {
			lets(t, n, to(3, b), to(9, b))
			hears(t, n, 3, saidLost(1, seq), 0)
			lets(t, n, to(3, b))
		} else {
			lets(t, n)
			hears(t, n, 3, saidLost(1, seq), 0)
			lets(t, n)
		}
		ticks(t, n, 10)
		if c.kept {
			got(t, n, 1, starts(1000, 1, seq)...)
		} else {
			got(t, n, 1)
		}
	}
}

// TestWhatIsLeftDidNotCome: what is too far ahead does not lead astray what comes then.
func TestWhatIsLeftDidNotCome(t *testing.T) {
	n := begins(t)
	sends(t, n, 1, start(1000), 0)
	for _, seq := range []int{31000, 61000, 25000, 55000, 20000} {
		sends(t, n, 1, start(seq), 0)
	}
	sends(t, n, 1, start(1001), 0)
	got(t, n, 1, starts(1000, 0, 1000, 1001)...)
}

// TestHearOfFrames: they go on with one more hop, with all else as it was.
func TestHearOfFrames(t *testing.T) {
	n := passes(t)
	for i, hops := range []int{0, 1, 2, 31, 62, 63} {
		for j, origin := range []int{0, 4, me, 15} {
			seq := 65530 + 4*i + j
			p := start(seq % 65536)
			hears(t, n, 4, framed(2, origin, 5, hops, p), 0)
			b := framed(2, origin, 5, hops+1, p)
			lets(t, n, to(9, b), to(3, b))
			got(t, n, 1, starts(65530, 4*i+j, seq%65536)...)
		}
	}
}

// TestHearOfTooManyHops: it goes to no kid, and not again either, but to who subscribes; and it came.
func TestHearOfTooManyHops(t *testing.T) {
	n := passes(t)
	hears(t, n, 4, framed(2, 12, 5, 64, start(10)), 0)
	lets(t, n)
	hears(t, n, 9, saidLost(2, 10), 0)
	lets(t, n)
	got(t, n, 1, starts(10, 0, 10)...)
	hears(t, n, 4, from4(10), 0)
	lets(t, n)
	got(t, n, 1)
	hears(t, n, 4, framed(2, 12, 5, 63, start(11)), 0)
	hears(t, n, 3, saidLost(2, 10, 11), 0)
	b := framed(2, 12, 5, 64, start(11))
	lets(t, n, to(9, b), to(3, b), to(3, b))
	// One that has more is no frame.
	hearRefused(t, n, 4, framed(2, 12, 5, 65, start(12)), 0, api.ErrRange)
}

// TestHearOfOneThatComesTwice: by whatever way.
func TestHearOfOneThatComesTwice(t *testing.T) {
	n := passes(t)
	hearsAll(t, n, 0, 10, 11)
	lets(t, n, on(10, 11)...)
	got(t, n, 1, starts(10, 0, 10, 11)...)
	other := start(11)
	other.Body = []byte("another")
	for _, b := range [][]byte{from4(11), framed(2, 1, 5, 3, start(11)), framed(2, 12, 5, 1, other), from4(10)} {
		hears(t, n, 4, b, 0)
		lets(t, n)
		got(t, n, 1)
	}
	// The one that came first is kept.
	hears(t, n, 9, saidLost(2, 11), 0)
	lets(t, n, on(11)[0])
}

// TestHearOfFramesFromElsewhere: from a kid, from who is no neighbour, from itself, of another epoch.
func TestHearOfFramesFromElsewhere(t *testing.T) {
	n := passes(t)
	plans(t, n, 1, -1, []int{3}, 5)
	for _, from := range append(without(numbers(-1, 15), 4), badNodes...) {
		hearRefused(t, n, from, from4(10), 0, api.ErrState)
		hearRefused(t, n, from, framed(2, 12, 6, 1, start(10)), 0, api.ErrState)
	}
	for _, epoch := range []int{0, 4, 6, 5 + 256, maxSeq} {
		hearRefused(t, n, 4, framed(2, 12, epoch, 1, start(10)), 0, api.ErrState)
	}
	// Where a track begins no frame comes from anybody.
	for _, from := range append(numbers(-1, 15), badNodes...) {
		hearRefused(t, n, from, framed(1, me, 5, 1, start(10)), 0, api.ErrState)
	}
	for _, track := range numbers(3, 8) {
		hearRefused(t, n, 4, framed(track, 12, 5, 1, start(10)), 0, api.ErrNone)
		hearRefused(t, n, 99, framed(track, 12, 6, 1, start(10)), 0, api.ErrNone)
	}
	lets(t, n)
	got(t, n, 1)
	hears(t, n, 4, from4(10), 0)
	lets(t, n, on(10)...)
}

// TestHearOfFramesThatAreNone: all that begins with byte 70 is read as a frame; its faults are told ahead of others.
func TestHearOfFramesThatAreNone(t *testing.T) {
	n := passes(t)
	body := packed(start(10))
	head := func(track, origin, hops byte) []byte { return []byte{70, track, origin, hops, 0, 5} }
	full := func(track byte) []byte {
		return append(head(track, 12, 1), packed(api.Packet{Body: make([]byte, 1001)})...)
	}
	broken := from4(10)
	broken[9] ^= 1
	for _, c := range []struct {
		b    []byte
		want api.Errno
	}{
		{[]byte{70}, api.ErrShort},
		{[]byte{70, 2, 12}, api.ErrShort},
		{[]byte{70, 2, 12, 1}, api.ErrSum},
		{from4(10)[:len(from4(10))-1], api.ErrSum},
		{append(from4(10), 0), api.ErrSum},
		{broken, api.ErrSum},
		{sealed([]byte{70}), api.ErrShort},
		{sealed(head(2, 12, 1)[:5]), api.ErrShort},
		{sealed(append(head(0, 12, 1), body...)), api.ErrRange},
		{sealed(append(head(9, 12, 1), body...)), api.ErrRange},
		{sealed(append(head(2, 16, 1), body...)), api.ErrRange},
		{sealed(append(head(2, 12, 65), body...)), api.ErrRange},
		{sealed(append(head(2, 12, 255), body...)), api.ErrRange},
		{sealed(head(2, 12, 1)), api.ErrShort},
		{sealed(append(head(2, 12, 1), body[:7]...)), api.ErrShort},
		{sealed(append(head(2, 12, 1), append([]byte{0}, body[1:]...)...)), api.ErrSyntax},
		{sealed(append(head(2, 12, 1), append([]byte{128, 128}, body[2:]...)...)), api.ErrSyntax},
		{sealed(full(2)), api.ErrFull},
		// Of a track that was not planned, and that is none.
		{sealed(full(8)), api.ErrFull},
		{sealed(head(8, 12, 1)), api.ErrShort},
		{sealed(full(9)), api.ErrRange},
	} {
		for _, from := range []int{4, 9, 14, -1, me} {
			hearRefused(t, n, from, c.b, 0, c.want)
			hearRefused(t, n, from, c.b, 20, c.want)
		}
	}
	lets(t, n)
	got(t, n, 1)
	hears(t, n, 4, from4(9), 0)
	got(t, n, 1, starts(9, 0, 9)...)
}

// TestHearOfWhatIsNotSaidBack: all that does not begin with byte 70 is read so.
func TestHearOfWhatIsNotSaidBack(t *testing.T) {
	n := passes(t)
	for _, c := range []struct {
		b    []byte
		want api.Errno
	}{
		{nil, api.ErrShort},
		{[]byte{}, api.ErrShort},
		{[]byte{lost}, api.ErrShort},
		{[]byte{lost, 2}, api.ErrShort},
		{[]byte{lost, 2, 0, 1, 0}, api.ErrShort},
		{[]byte{lost, 2, 0, 1, 0, 0, 0}, api.ErrShort},
		{[]byte{key, 2}, api.ErrShort},
		{[]byte{rate, 2, 0, 0, 0}, api.ErrShort},
		{[]byte{0, 2}, api.ErrSyntax},
		{[]byte{4, 2, 0}, api.ErrSyntax},
		{[]byte{69, 2, 0}, api.ErrSyntax},
		{[]byte{71, 2, 0}, api.ErrSyntax},
		{[]byte{key, 0, 0}, api.ErrSyntax},
		{[]byte{key, 9, 0}, api.ErrSyntax},
		{[]byte{key, 2, 4}, api.ErrSyntax},
		{[]byte{key, 2, 0, 0}, api.ErrSyntax},
		{[]byte{rate, 2, 0, 15, 66, 65}, api.ErrSyntax},
		{[]byte{rate, 2, 0, 0, 0, 0, 0}, api.ErrSyntax},
		{[]byte{lost, 2, 0, 9, 0, 0, 0, 5, 0, 0}, api.ErrSyntax},
		{[]byte{lost, 2, 255, 255, 0, 1}, api.ErrSyntax},
		{[]byte{lost, 9, 0, 9, 0, 0}, api.ErrSyntax},
		{append([]byte{71}, from4(10)[1:]...), api.ErrSyntax},
		{[]byte{key, 8}, api.ErrShort},
	} {
		for _, from := range []int{9, 4, 14, -1, me} {
			hearRefused(t, n, from, c.b, 0, c.want)
			hearRefused(t, n, from, c.b, 20, c.want)
		}
	}
	lets(t, n)
	hears(t, n, 9, saidKey(2, 3), 0)
	lets(t, n, to(4, saidKey(2, 3)))
}

// TestWhoMaySayBack: kids of that track alone.
func TestWhoMaySayBack(t *testing.T) {
	n := passes(t)
	plans(t, n, 1, -1, []int{3, 6}, 5)
	hearsAll(t, n, 0, 10)
	n.Out()
	says := func(track int) [][]byte {
		return [][]byte{saidLost(track, 10), saidKey(track, 0), saidKey(track, 3), saidRate(track, 0), saidRate(track, 1000000)}
	}
	for _, b := range says(2) {
		for _, from := range append(without(numbers(-1, 15), 3, 9), badNodes...) {
			hearRefused(t, n, from, b, 0, api.ErrState)
		}
	}
	for _, b := range says(1) {
		for _, from := range append(without(numbers(-1, 15), 3, 6), badNodes...) {
			hearRefused(t, n, from, b, 0, api.ErrState)
		}
	}
	for _, track := range numbers(3, 8) {
		for _, b := range says(track) {
			for _, from := range []int{3, 4, 9, -1, 99} {
				hearRefused(t, n, from, b, 0, api.ErrNone)
			}
		}
	}
	lets(t, n)
	for _, b := range says(2) {
		hears(t, n, 3, b, 0)
		hears(t, n, 9, b, 0)
	}
	lets(t, n, on(10)[1], on(10)[0], to(4, saidKey(2, 0)), to(4, saidKey(2, 0)), to(4, saidKey(2, 3)), to(4, saidKey(2, 3)))
	// Where it begins nothing goes on.
	for _, b := range says(1) {
		hears(t, n, 3, b, 0)
		hears(t, n, 6, b, 0)
	}
	lets(t, n)
}

// TestLost: what the Ring has goes to that kid again, with the Origin and the Hops with which it went.
func TestLost(t *testing.T) {
	n := passes(t)
	hears(t, n, 9, saidLost(2, 0, 10, 65535), 0)
	lets(t, n)
	hears(t, n, 4, framed(2, 0, 5, 0, start(10)), 0)
	hears(t, n, 4, framed(2, 15, 5, 63, start(11)), 0)
	hears(t, n, 4, framed(2, 4, 5, 30, start(14)), 0)
	n.Out()
	ten, eleven, fourteen := framed(2, 0, 5, 1, start(10)), framed(2, 15, 5, 64, start(11)), framed(2, 4, 5, 31, start(14))
	hears(t, n, 9, saidLost(2, 10), 0)
	lets(t, n, to(9, ten))
	hears(t, n, 3, saidLost(2, 9, 10, 11, 12, 13, 14, 15, 1000), 0)
	lets(t, n, to(3, ten), to(3, eleven), to(3, fourteen))
	hears(t, n, 3, saidLost(2, 12, 13), 0)
	lets(t, n)
	// Each time anew.
	hears(t, n, 9, saidLost(2, 11), 5)
	hears(t, n, 9, saidLost(2, 11), 5)
	lets(t, n, to(9, eleven), to(9, eleven))
	got(t, n, 1, starts(10, 0, 10, 11)...)
	// What came as lost is had from then on.
	hears(t, n, 4, framed(2, 8, 5, 9, start(12)), 5)
	n.Out()
	hears(t, n, 9, saidLost(2, 12), 5)
	lets(t, n, to(9, framed(2, 8, 5, 10, start(12))))
}

// TestLostOfTheLast: the Ring has the last 64 numbers.
func TestLostOfTheLast(t *testing.T) {
	for _, first := range []int{0, 500, 65500} {
		n := begins(t)
		for i := range 100 {
			sends(t, n, 1, start((first+i)%65536), 0)
		}
		n.Out()
		for i := range 100 {
			seq := (first + i) % 65536
			hears(t, n, 9, saidLost(1, seq), 0)
			if i >= 36 {
				lets(t, n, to(9, framed(1, me, 5, 1, start(seq))))
			} else {
				lets(t, n)
			}
		}
	}
}

// TestLostThatGoesRound: it goes in the order in which it is said.
func TestLostThatGoesRound(t *testing.T) {
	n := begins(t)
	for _, seq := range []int{65533, 65534, 65535, 0, 1, 2} {
		sends(t, n, 1, start(seq), 0)
	}
	n.Out()
	hears(t, n, 3, saidLost(1, 0, 2, 3, 65533, 65535), 0)
	var want []api.Letter
	for _, seq := range []int{0, 2, 65533, 65535} {
		want = append(want, to(3, framed(1, me, 5, 1, start(seq))))
	}
	lets(t, n, want...)
}

// TestLostOfWhatIsTooOld: what was lacking and came when the Ring was far beyond it goes on, but not again.
func TestLostOfWhatIsTooOld(t *testing.T) {
	n := passes(t)
	hearsAll(t, n, 0, 1000)
	hearsAll(t, n, 0, numbers(1003, 1065)...)
	n.Out()
	hearsAll(t, n, 0, 1001, 1002)
	lets(t, n, on(1001, 1002)...)
	hears(t, n, 9, saidLost(2, 1001, 1002), 0)
	lets(t, n, on(1002)[0])
	got(t, n, 1, starts(1000, 0, numbers(1000, 1065)...)...)
}

// TestKeyGoesOn: as it is, as often as it comes, whatever subscribers want.
func TestKeyGoesOn(t *testing.T) {
	n := passes(t)
	var want []api.Letter
	for i := range 12 {
		hears(t, n, 9, saidKey(2, i%4), 0)
		want = append(want, to(4, saidKey(2, i%4)))
	}
	lets(t, n, want...)
	// It does not count as asked for here.
	ticks(t, n, 0)
	lets(t, n, to(4, saidKey(2, 0)))
	hears(t, n, 3, saidKey(2, 2), 1)
	lets(t, n, to(4, saidKey(2, 2)))
}

// TestTickAsks: what is lacking, at once, 3 and 6 behind that; 9 behind it is given up.
func TestTickAsks(t *testing.T) {
	n := passes(t)
	hearsAll(t, n, 100, 10, 12, 13, 31)
	lets(t, n, on(10, 12, 13, 31)...)
	got(t, n, 1, starts(10, 0, 10)...)
	lacking := append([]int{11}, numbers(14, 30)...)
	ticks(t, n, 100)
	lets(t, n, to(4, saidLost(2, lacking...)))
	ticks(t, n, 100)
	ticks(t, n, 102)
	lets(t, n)
	ticks(t, n, 103)
	lets(t, n, to(4, saidLost(2, lacking...)))
	hearsAll(t, n, 104, 14, 16)
	lets(t, n, on(14, 16)...)
	ticks(t, n, 105)
	lets(t, n)
	ticks(t, n, 107)
	lets(t, n, to(4, saidLost(2, without(lacking, 14, 16)...)))
	ticks(t, n, 109)
	lets(t, n)
	got(t, n, 1)
	// 12 has waited for 10.
	ticks(t, n, 110)
	got(t, n, 1, starts(10, 1, 12, 13, 14, 16, 31)...)
	lets(t, n)
	// What is given up does not come any more.
	hearsAll(t, n, 110, 11, 15, 30)
	lets(t, n)
	ticks(t, n, 120)
	lets(t, n)
}

// TestTickGivesUp: an Order is told, and does not wait any more.
func TestTickGivesUp(t *testing.T) {
	n := passes(t)
	subs(t, n, 2, 3, 2)
	hearsAll(t, n, 100, 10, 13)
	got(t, n, 1, starts(10, 0, 10)...)
	n.Out()
	for _, now := range []int{100, 103, 106} {
		ticks(t, n, now)
		lets(t, n, to(4, saidLost(2, 11, 12)))
	}
	hearsAll(t, n, 108, 12)
	n.Out()
	ticks(t, n, 108)
	got(t, n, 1)
	// One that came to subscribe in between got nothing yet, and nothing tells it anything.
	subs(t, n, 2, 0, 3)
	ticks(t, n, 109)
	got(t, n, 1, starts(10, 1, 12, 13)...)
	got(t, n, 2, starts(10, 0, 10, 12, 13)...)
	got(t, n, 3)
	// 3 wants a start; what went through to the others was broken, but a start went on there.
	lets(t, n, to(4, saidKey(2, 0)))
	hearsAll(t, n, 109, 11, 14)
	lets(t, n, on(14)...)
	got(t, n, 1, starts(10, 3, 14)...)
	got(t, n, 3, starts(14, 0, 14)...)
}

// TestTickOfATrackThatBeginsHere: nothing is due, nothing is given up; what waits is handed out all the same.
func TestTickOfATrackThatBeginsHere(t *testing.T) {
	n := begins(t)
	sends(t, n, 1, start(10), 100)
	sends(t, n, 1, start(12), 100)
	n.Out()
	for _, now := range []int{100, 103, 106, 109} {
		ticks(t, n, now)
		lets(t, n)
	}
	got(t, n, 1, starts(10, 0, 10)...)
	ticks(t, n, 110)
	got(t, n, 1, starts(10, 1, 12)...)
	// It may still come, and goes to kids: nobody gave it up.
	sends(t, n, 1, start(11), 110)
	b := framed(1, me, 5, 1, start(11))
	lets(t, n, to(3, b), to(9, b))
	got(t, n, 1)
}

// TestTickOfATrackThatBeganHere: what was not due ahead is due when it comes from elsewhere.
func TestTickOfATrackThatBeganHere(t *testing.T) {
	n := begins(t)
	sends(t, n, 1, start(10), 100)
	sends(t, n, 1, start(12), 100)
	for _, now := range []int{100, 103, 106, 109} {
		ticks(t, n, now)
	}
	n.Out()
	plans(t, n, 1, 4, nil, 5)
	ticks(t, n, 109)
	lets(t, n, to(4, saidLost(1, 11)))
}

// TestTickOfSeveralTracks: what is lacking of all tracks, in their order, then the starts, by subscribers.
func TestTickOfSeveralTracks(t *testing.T) {
	n := newNode(t, me)
	for _, track := range []int{8, 3, 1, 5} {
		plans(t, n, track, track+1, nil, 1)
	}
	plans(t, n, 4, -1, nil, 1)
	subs(t, n, 5, 2, 1)
	subs(t, n, 1, 1, 2)
	subs(t, n, 8, 3, 3)
	subs(t, n, 1, 3, 4)
	subs(t, n, 4, 3, 5)
	for _, track := range []int{5, 8, 1} {
		for _, seq := range []int{20, 20 + track, 22 + track} {
			p := start(seq)
			p.Start = false
			hears(t, n, track+1, framed(track, 2, 1, 1, p), 0)
		}
	}
	ticks(t, n, 0)
	lets(t, n, to(2, saidLost(1, 22)), to(6, saidLost(5, 21, 22, 23, 24, 26)), to(9, saidLost(8, append(numbers(21, 27), 29)...)),
		to(6, saidKey(5, 2)), to(2, saidKey(1, 1)), to(9, saidKey(8, 3)))
}

// TestLostGoesRound: what is told as Lost rises by Seq.
func TestLostGoesRound(t *testing.T) {
	n := passes(t)
	hearsAll(t, n, 0, 65530, 3)
	n.Out()
	ticks(t, n, 0)
	lets(t, n, to(4, saidLost(2, 0, 1, 2, 65531, 65532, 65533, 65534, 65535)))
	hearsAll(t, n, 0, 65535, 0)
	n.Out()
	ticks(t, n, 3)
	lets(t, n, to(4, saidLost(2, 1, 2, 65531, 65532, 65533, 65534)))
	hearsAll(t, n, 3, 65531, 65532, 65533, 65534, 1, 2)
	got(t, n, 1, starts(65530, 0, 65530, 65531, 65532, 65533, 65534, 65535, 0, 1, 2, 3)...)
}

// TestLostARoundApart: two that lack and have one Seq are asked for by that, once.
func TestLostARoundApart(t *testing.T) {
	n := newNode(t, me)
	plans(t, n, 2, 4, nil, 5)
	for i := range 65536 + 20 {
		if seq := i % 65536; seq != 7 && seq != 9 {
			hears(t, n, 4, framed(2, 12, 5, 1, api.Packet{Seq: seq}), 0)
		}
	}
	ticks(t, n, 0)
	lets(t, n, to(4, saidLost(2, 7, 9)))
	hears(t, n, 4, framed(2, 12, 5, 1, api.Packet{Seq: 7}), 1)
	ticks(t, n, 3)
	lets(t, n, to(4, saidLost(2, 7, 9)))
}

// TestMostThatMayLack: as many as MaxList are asked for in one letter.
func TestMostThatMayLack(t *testing.T) {
	n := passes(t)
	hearsAll(t, n, 0, 1000, 1201)
	n.Out()
	ticks(t, n, 0)
	lets(t, n, to(4, saidLost(2, numbers(1001, 1200)...)))
	hearsAll(t, n, 0, 1203)
	lets(t, n)
	hearsAll(t, n, 0, 1202)
	lets(t, n, on(1202)...)
	hearsAll(t, n, 0, 1001, 1204)
	lets(t, n, on(1001, 1204)...)
	hearsAll(t, n, 0, 1206)
	lets(t, n)
	hearsAll(t, n, 0, 1002, 1206)
	lets(t, n, on(1002, 1206)...)
}

// TestWhatWaits: 9, and 10, by a Tick, and by what comes.
func TestWhatWaits(t *testing.T) {
	for _, c := range []struct {
		name string
		pass func(n *node.Node, now int)
		want []int
	}{
		{"Tick", func(n *node.Node, now int) { ticks(t, n, now) }, []int{12, 14}},
		{"what comes", func(n *node.Node, now int) { sends(t, n, 1, start(15), now) }, []int{12, 14, 15}},
	} {
		for _, wait := range []int{9, 10, 11, 500} {
			n := begins(t)
			sends(t, n, 1, start(10), 100)
			sends(t, n, 1, start(12), 103)
			sends(t, n, 1, start(14), 103)
			got(t, n, 1, starts(10, 0, 10)...)
			c.pass(n, 103+wait)
			if wait < 10 {
				got(t, n, 1)
			} else {
				got(t, n, 1, starts(10, 1, c.want...)...)
			}
		}
	}
	// What is said back, or comes for another track, lets nothing out.
	n := begins(t)
	plans(t, n, 2, -1, nil, 1)
	sends(t, n, 1, start(10), 100)
	sends(t, n, 1, start(12), 100)
	hears(t, n, 3, saidLost(1, 12), 110)
	sends(t, n, 2, start(1), 110)
	// Nor does what is left.
	sends(t, n, 1, start(10), 110)
	sends(t, n, 1, start(400), 110)
	got(t, n, 1, starts(10, 0, 10)...)
	ticks(t, n, 110)
	got(t, n, 1, starts(10, 1, 12)...)
}

// TestWhatIsTooFarForAnOrder: it is lost on that subscriber, but what has waited is handed out.
func TestWhatIsTooFarForAnOrder(t *testing.T) {
	n := begins(t)
	sends(t, n, 1, start(1000), 100)
	for _, seq := range numbers(1002, 1200) {
		sends(t, n, 1, start(seq), 100)
	}
	got(t, n, 1, starts(1000, 0, 1000)...)
	sends(t, n, 1, start(1201), 109)
	got(t, n, 1)
	subs(t, n, 1, 0, 2)
	sends(t, n, 1, start(1202), 110)
	got(t, n, 1, starts(1000, 1, numbers(1002, 1200)...)...)
	got(t, n, 2, starts(1202, 0, 1202)...)
	sends(t, n, 1, start(1203), 110)
	ticks(t, n, 119)
	got(t, n, 1)
	got(t, n, 2, starts(1202, 1, 1203)...)
	ticks(t, n, 120)
	got(t, n, 1, starts(1000, 200, 1203)...)
}

// TestStartsThatAreWanted: at once, and no more often than each 10, as long as one is wanted.
func TestStartsThatAreWanted(t *testing.T) {
	for _, first := range []int{0, 1, 5, 10, 999_000} {
		n := passes(t)
		ticks(t, n, first)
		lets(t, n, to(4, saidKey(2, 0)))
		for _, now := range []int{first, first + 1, first + 9} {
			ticks(t, n, now)
			lets(t, n)
		}
		ticks(t, n, first+10)
		lets(t, n, to(4, saidKey(2, 0)))
		ticks(t, n, first+19)
		lets(t, n)
		ticks(t, n, first+25)
		lets(t, n, to(4, saidKey(2, 0)))
		ticks(t, n, first+34)
		lets(t, n)
		// It came.
		hearsAll(t, n, first+34, 10)
		n.Out()
		ticks(t, n, first+35)
		ticks(t, n, first+60)
		lets(t, n)
	}
}

// TestStartsWhenSomethingIsGone: what went through is broken then.
func TestStartsWhenSomethingIsGone(t *testing.T) {
	n := passes(t)
	hearsAll(t, n, 100, 10)
	for _, seq := range []int{12, 13} {
		p := start(seq)
		p.Start = false
		hears(t, n, 4, framed(2, 12, 5, 1, p), 100)
	}
	n.Out()
	ticks(t, n, 105)
	lets(t, n, to(4, saidLost(2, 11)))
	ticks(t, n, 109)
	lets(t, n, to(4, saidLost(2, 11)))
	// In the Tick in which it is handed out as gone.
	ticks(t, n, 110)
	lets(t, n, to(4, saidKey(2, 0)))
	got(t, n, 1, starts(10, 0, 10)...)
	ticks(t, n, 119)
	lets(t, n, to(4, saidLost(2, 11)))
	hearsAll(t, n, 119, 14)
	n.Out()
	ticks(t, n, 130)
	lets(t, n)
	got(t, n, 1, starts(10, 1, 14)...)
}

// TestStartsOfSeveral: the first one that wants it is asked for; each track has its own time.
func TestStartsOfSeveral(t *testing.T) {
	n := newNode(t, me)
	plans(t, n, 1, 4, nil, 1)
	plans(t, n, 2, 5, nil, 1)
	subs(t, n, 2, 3, 1)
	subs(t, n, 1, 1, 2)
	subs(t, n, 2, 0, 3)
	ticks(t, n, 0)
	lets(t, n, to(5, saidKey(2, 3)), to(4, saidKey(1, 1)))
	unsubs(t, n, 1)
	// What was asked for stays asked for, by whomever.
	ticks(t, n, 9)
	lets(t, n)
	ticks(t, n, 12)
	lets(t, n, to(4, saidKey(1, 1)), to(5, saidKey(2, 0)))
	unsubs(t, n, 2)
	unsubs(t, n, 3)
	ticks(t, n, 30)
	lets(t, n)
	subs(t, n, 1, 2, 4)
	ticks(t, n, 35)
	lets(t, n, to(4, saidKey(1, 2)))
	subs(t, n, 2, 2, 5)
	ticks(t, n, 40)
	lets(t, n, to(5, saidKey(2, 2)))
	// One of them has what it wants, the other one has not.
	subs(t, n, 1, 0, 6)
	p := start(10)
	p.Layer = 1
	hears(t, n, 4, framed(1, 1, 1, 1, p), 44)
	ticks(t, n, 44)
	lets(t, n)
	ticks(t, n, 45)
	lets(t, n, to(4, saidKey(1, 0)))
}

// TestStartsOfATrackThatBeginsHere: nobody is asked, and so it does not count when it comes from elsewhere.
func TestStartsOfATrackThatBeginsHere(t *testing.T) {
	n := begins(t)
	ticks(t, n, 0)
	ticks(t, n, 20)
	lets(t, n)
	plans(t, n, 1, 4, nil, 5)
	ticks(t, n, 21)
	lets(t, n, to(4, saidKey(1, 0)))
	plans(t, n, 1, 5, nil, 6)
	ticks(t, n, 30)
	lets(t, n)
	ticks(t, n, 31)
	lets(t, n, to(5, saidKey(1, 0)))
}

// TestLayersOfSubscribers: each has its own, up to its most; and its own row.
func TestLayersOfSubscribers(t *testing.T) {
	n := newNode(t, me)
	plans(t, n, 1, -1, nil, 1)
	for most := range 4 {
		subs(t, n, 1, most, most+1)
	}
	row := []api.Packet{
		{Seq: 10, Time: 500, Layer: 0, Start: true},
		{Seq: 11, Time: 900, Layer: 1, Start: true, Body: []byte("one")},
		{Seq: 12, Time: 520, Layer: 0},
		{Seq: 13, Time: 930, Layer: 1},
		{Seq: 14, Time: 7, Layer: 3, Start: true},
		{Seq: 15, Time: 1000, Layer: 2},
		{Seq: 16, Time: 935, Layer: 1},
		{Seq: 17, Time: 3, Layer: 3, Level: 9},
	}
	for i, p := range row {
		sends(t, n, 1, p, i)
	}
	as := func(i, seq, time int) api.Packet {
		p := row[i]
		p.Seq, p.Time = seq, time
		return p
	}
	got(t, n, 1, as(0, 0, 0), as(2, 1, 20))
	got(t, n, 2, as(0, 0, 0), as(1, 1, 1), as(3, 2, 31), as(6, 3, 36))
	got(t, n, 3, as(0, 0, 0), as(1, 1, 1), as(3, 2, 31), as(6, 3, 36))
	got(t, n, 4, as(0, 0, 0), as(1, 1, 1), as(3, 2, 31), as(4, 3, 32), as(7, 4, 28))
}

func TestSubAtItsEdges(t *testing.T) {
	n := newNode(t, me)
	plans(t, n, 1, -1, nil, 1)
	plans(t, n, 8, 4, nil, 1)
	for i, c := range [][2]int{{1, 0}, {1, 3}, {8, 0}, {8, 3}, {8, 1}, {1, 2}} {
		subs(t, n, c[0], c[1], i+1)
	}
	for _, track := range badTracks {
		subRefused(t, n, track, 0, api.ErrRange)
		subRefused(t, n, track, -1, api.ErrRange)
	}
	for _, most := range badLayers {
		for _, track := range []int{1, 8, 2, 0} {
			subRefused(t, n, track, most, api.ErrRange)
		}
	}
	for _, track := range numbers(2, 7) {
		subRefused(t, n, track, 0, api.ErrNone)
	}
	subs(t, n, 1, 0, 7)
}

// TestMostSubscribers: MaxSubs in all, of whatever tracks.
func TestMostSubscribers(t *testing.T) {
	n := newNode(t, me)
	plans(t, n, 1, -1, nil, 1)
	plans(t, n, 2, -1, nil, 1)
	for i := range 20 {
		subs(t, n, 1+i%2, 3, i+1)
	}
	subRefused(t, n, 1, 3, api.ErrFull)
	subRefused(t, n, 2, 3, api.ErrFull)
	// With others at once.
	subRefused(t, n, 3, 3, api.ErrNone)
	subRefused(t, n, 1, 4, api.ErrRange)
	subRefused(t, n, 9, 0, api.ErrRange)
	sends(t, n, 1, start(5), 0)
	for i := range 20 {
		if i%2 == 0 {
			got(t, n, i+1, starts(5, 0, 5)...)
		} else {
			got(t, n, i+1)
		}
	}
	// A number is not given again.
	unsubs(t, n, 4)
	subs(t, n, 1, 3, 21)
	subRefused(t, n, 1, 3, api.ErrFull)
	unsubs(t, n, 21)
	unsubs(t, n, 20)
	subs(t, n, 1, 3, 22)
	subs(t, n, 2, 3, 23)
	subRefused(t, n, 1, 3, api.ErrFull)
}

// TestManySubscribers: also numbers that are greater than any of a Pull are asked a start for.
func TestManySubscribers(t *testing.T) {
	n := newNode(t, me)
	plans(t, n, 1, 4, nil, 1)
	for i := range 300 {
		subs(t, n, 1, i%4, i+1)
		ticks(t, n, 10*i)
		lets(t, n, to(4, saidKey(1, i%4)))
		unsubs(t, n, i+1)
		unsubRefused(t, n, i+1)
		gotRefused(t, n, i+1)
	}
}

func TestUnsub(t *testing.T) {
	n := begins(t)
	subs(t, n, 1, 0, 2)
	sends(t, n, 1, start(10), 0)
	for _, id := range []int{0, -1, 3, 1 << 32, 1<<32 + 1, math.MinInt, math.MaxInt} {
		unsubRefused(t, n, id)
		gotRefused(t, n, id)
	}
	unsubs(t, n, 1)
	unsubRefused(t, n, 1)
	gotRefused(t, n, 1)
	sends(t, n, 1, start(11), 0)
	gotRefused(t, n, 1)
	got(t, n, 2, starts(10, 0, 10, 11)...)
	subs(t, n, 1, 0, 3)
	got(t, n, 3)
	gotRefused(t, n, 1)
	unsubs(t, n, 3)
	unsubs(t, n, 2)
	subs(t, n, 1, 0, 4)
}

// TestOneWhoComesLate: it gets what comes from then on, from the first one on that does.
func TestOneWhoComesLate(t *testing.T) {
	n := passes(t)
	hearsAll(t, n, 0, 10, 13)
	subs(t, n, 2, 0, 2)
	hearsAll(t, n, 0, 11)
	got(t, n, 1, starts(10, 0, 10, 11)...)
	got(t, n, 2, starts(11, 0, 11)...)
	hearsAll(t, n, 1, 12, 14)
	got(t, n, 1, starts(10, 2, 12, 13, 14)...)
	got(t, n, 2, starts(11, 1, 12)...)
	// 13 came ahead of it, and does not come again.
	ticks(t, n, 10)
	got(t, n, 2)
	ticks(t, n, 11)
	got(t, n, 2, starts(11, 2, 14)...)
}

// TestOneTrackKnowsNothingOfAnother: the same Seqs, and other ones, of two tracks.
func TestOneTrackKnowsNothingOfAnother(t *testing.T) {
	n := newNode(t, me)
	plans(t, n, 1, -1, []int{3}, 1)
	plans(t, n, 2, -1, []int{9}, 2)
	subs(t, n, 1, 0, 1)
	subs(t, n, 2, 0, 2)
	for _, seq := range []int{10, 11} {
		sends(t, n, 1, start(seq), 0)
		sends(t, n, 2, start(seq+30000), 0)
		lets(t, n, to(3, framed(1, me, 1, 1, start(seq))), to(9, framed(2, me, 2, 1, start(seq+30000))))
	}
	got(t, n, 1, starts(10, 0, 10, 11)...)
	got(t, n, 2, starts(30010, 0, 30010, 30011)...)
	hears(t, n, 3, saidLost(1, 10, 30010), 0)
	hears(t, n, 9, saidLost(2, 10, 30010), 0)
	lets(t, n, to(3, framed(1, me, 1, 1, start(10))), to(9, framed(2, me, 2, 1, start(30010))))
}
