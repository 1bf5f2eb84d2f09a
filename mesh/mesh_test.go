package mesh_test

import (
	"fmt"
	"math"
	"reflect"
	"slices"
	"testing"

	"choirloft/api"
	"choirloft/mesh"
	"choirloft/plain"
)

const maxTime = 1_000_000

// badTracks: numbers that no track may have, just below and just above, and far away.
var badTracks = []int{0, -1, -2, 9, 10, 256 + 1, 1<<32 + 1, math.MinInt, math.MaxInt}

// badLayers: likewise of what a subscriber wants at most.
var badLayers = []int{-1, -2, 4, 5, 256, 1 << 32, math.MinInt, math.MaxInt}

// badPackets: one for each fault of a packet, and what it is told by.
var badPackets = []struct {
	p    api.Packet
	want api.Errno
}{
	{api.Packet{Seq: -1}, api.ErrRange},
	{api.Packet{Seq: 65536}, api.ErrRange},
	{api.Packet{Time: -1}, api.ErrRange},
	{api.Packet{Time: 1 << 32}, api.ErrRange},
	{api.Packet{Layer: -1}, api.ErrRange},
	{api.Packet{Layer: 4}, api.ErrRange},
	{api.Packet{Level: -1}, api.ErrRange},
	{api.Packet{Level: 128}, api.ErrRange},
	{api.Packet{Body: make([]byte, 1001)}, api.ErrFull},
	{api.Packet{Seq: -1, Body: make([]byte, 1001)}, api.ErrRange},
}

// badNodes: numbers that no node of n may have.
func badNodes(n int) []int {
	return []int{-1, -2, n, n + 1, 16, 17, 256, 1 << 32, math.MinInt, math.MaxInt}
}

// edge of the Cost 1.
func edge(a, b int) api.Edge {
	return api.Edge{A: a, B: b, Cost: 1}
}

// chain of n nodes: 0, 1, 2 and so on.
func chain(n int) []api.Edge {
	var l []api.Edge
	for i := 1; i < n; i++ {
		l = append(l, edge(i-1, i))
	}
	return l
}

// star of n nodes: all others are next to 0.
func star(n int) []api.Edge {
	var l []api.Edge
	for i := 1; i < n; i++ {
		l = append(l, edge(i, 0))
	}
	return l
}

// round is a chain whose ends are next to each other.
func round(n int) []api.Edge {
	return append(chain(n), edge(n-1, 0))
}

// every two of n nodes.
func every(n int) []api.Edge {
	var l []api.Edge
	for a := range n {
		for b := range a {
			l = append(l, edge(a, b))
		}
	}
	return l
}

func newMesh(t *testing.T, n int, edges []api.Edge) *mesh.Mesh {
	t.Helper()
	m, err := mesh.New(n, edges)
	if m == nil || err != nil {
		t.Fatalf("New(%d, %v) = %v, %v", n, edges, m, err)
	}
	return m
}

func newRefused(t *testing.T, n int, edges []api.Edge, want api.Errno) {
	t.Helper()
	if m, err := mesh.New(n, edges); m != nil || plain.Told(err) != want {
		t.Errorf("New(%d, %v) = %v, %v, want %v", n, edges, m, err, want)
	}
}

func publishes(t *testing.T, m *mesh.Mesh, track, node int) {
	t.Helper()
	if err := m.Publish(track, node); err != nil {
		t.Fatalf("Publish(%d, %d) = %v", track, node, err)
	}
}

func publishRefused(t *testing.T, m *mesh.Mesh, track, node int, want api.Errno) {
	t.Helper()
	if err := m.Publish(track, node); plain.Told(err) != want {
		t.Errorf("Publish(%d, %d) = %v, want %v", track, node, err, want)
	}
}

func subs(t *testing.T, m *mesh.Mesh, track, node, most, want int) {
	t.Helper()
	if id, err := m.Sub(track, node, most); id != want || err != nil {
		t.Fatalf("Sub(%d, %d, %d) = %d, %v, want %d", track, node, most, id, err, want)
	}
}

func subRefused(t *testing.T, m *mesh.Mesh, track, node, most int, want api.Errno) {
	t.Helper()
	if id, err := m.Sub(track, node, most); id != 0 || plain.Told(err) != want {
		t.Errorf("Sub(%d, %d, %d) = %d, %v, want %v", track, node, most, id, err, want)
	}
}

func sends(t *testing.T, m *mesh.Mesh, track int, l ...api.Packet) {
	t.Helper()
	for _, p := range l {
		if err := m.Send(track, p); err != nil {
			t.Errorf("Send(%d, Seq %d) = %v", track, p.Seq, err)
		}
	}
}

func sendRefused(t *testing.T, m *mesh.Mesh, track int, p api.Packet, want api.Errno) {
	t.Helper()
	if err := m.Send(track, p); plain.Told(err) != want {
		t.Errorf("Send(%d, Seq %d) = %v, want %v", track, p.Seq, err, want)
	}
}

// lands each of some, one after the other.
func lands(t *testing.T, m *mesh.Mesh, ats ...int) {
	t.Helper()
	for _, at := range ats {
		if err := m.Land(at); err != nil {
			t.Errorf("Land(%d) = %v", at, err)
		}
	}
}

func loses(t *testing.T, m *mesh.Mesh, ats ...int) {
	t.Helper()
	for _, at := range ats {
		if err := m.Lose(at); err != nil {
			t.Errorf("Lose(%d) = %v", at, err)
		}
	}
}

func doubles(t *testing.T, m *mesh.Mesh, ats ...int) {
	t.Helper()
	for _, at := range ats {
		if err := m.Twice(at); err != nil {
			t.Errorf("Twice(%d) = %v", at, err)
		}
	}
}

func ticks(t *testing.T, m *mesh.Mesh, by int) {
	t.Helper()
	if err := m.Tick(by); err != nil {
		t.Errorf("Tick(%d) = %v", by, err)
	}
}

func tickRefused(t *testing.T, m *mesh.Mesh, by int) {
	t.Helper()
	if err := m.Tick(by); plain.Told(err) != api.ErrRange {
		t.Errorf("Tick(%d) = %v, want ErrRange", by, err)
	}
}

// tickTo lets time go on to a now, in great steps.
func tickTo(t *testing.T, m *mesh.Mesh, now int) {
	t.Helper()
	for m.Now() < now {
		ticks(t, m, min(1000, now-m.Now()))
	}
}

func flying(t *testing.T, m *mesh.Mesh, want int) {
	t.Helper()
	if l := m.Flying(); l != want {
		t.Errorf("Flying = %d, want %d", l, want)
	}
}

func isNow(t *testing.T, m *mesh.Mesh, want int) {
	t.Helper()
	if now := m.Now(); now != want {
		t.Errorf("Now = %d, want %d", now, want)
	}
}

// calms asks how many rounds there are, and what time it is and how many fly behind them.
func calms(t *testing.T, m *mesh.Mesh, rounds, now, left int) {
	t.Helper()
	if r := m.Calm(); r != rounds {
		t.Errorf("Calm = %d, want %d", r, rounds)
	}
	isNow(t, m, now)
	flying(t, m, left)
}

// got asks for what a subscriber got, and that it got nothing when it is asked again at once.
func got(t *testing.T, m *mesh.Mesh, sub int, want ...api.Packet) {
	t.Helper()
	if l, err := m.Got(sub); !samePackets(l, want) || err != nil {
		t.Errorf("Got(%d) = %v, %v, want %v", sub, l, err, want)
	}
	if l, err := m.Got(sub); len(l) != 0 || err != nil {
		t.Errorf("Got(%d), asked again = %v, %v", sub, l, err)
	}
}

func gotRefused(t *testing.T, m *mesh.Mesh, sub int) {
	t.Helper()
	if l, err := m.Got(sub); len(l) != 0 || plain.Told(err) != api.ErrNone {
		t.Errorf("Got(%d) = %v, %v, want ErrNone", sub, l, err)
	}
}

func samePackets(a, b []api.Packet) bool {
	return slices.EqualFunc(a, b, samePacket)
}

// samePacket: an empty Body and none are the same.
func samePacket(x, y api.Packet) bool {
	bodies := slices.Equal(x.Body, y.Body)
	x.Body, y.Body = nil, nil
	return bodies && reflect.DeepEqual(x, y)
}

// start is a packet with which a layer may begin, of layer 0: each of a row of them goes through.
func start(seq int) api.Packet {
	return api.Packet{Seq: seq, Time: 100 * seq, Level: seq % 128, Start: true, Body: []byte{byte(seq >> 8), byte(seq), 70}}
}

// starts of Seqs.
func starts(seqs ...int) []api.Packet {
	var l []api.Packet
	for _, seq := range seqs {
		l = append(l, start(seq))
	}
	return l
}

// rowed: starts of Seqs as a subscriber gets them, from the first-th of its row on (the one of the Seq zero is the first).
func rowed(zero, first int, seqs ...int) []api.Packet {
	l := starts(seqs...)
	for i := range l {
		l[i].Seq, l[i].Time = (first+i)%65536, (l[i].Time-100*zero)&(1<<32-1)
	}
	return l
}

// numbers from first to last.
func numbers(first, last int) []int {
	var l []int
	for i := first; i <= last; i++ {
		l = append(l, i)
	}
	return l
}

// TestNew: all counts of nodes that may be, with and without edges. Nothing flies at first, and it is 0.
func TestNew(t *testing.T) {
	for n := 1; n <= 16; n++ {
		for _, edges := range [][]api.Edge{nil, {}, chain(n), star(n), every(n)} {
			m := newMesh(t, n, edges)
			flying(t, m, 0)
			isNow(t, m, 0)
			gotRefused(t, m, 1)
		}
	}
	newMesh(t, 2, []api.Edge{{A: 1, B: 0, Cost: maxTime}})
	newMesh(t, 3, []api.Edge{{A: 1, B: 0, Cost: 1}, {A: 2, B: 1, Cost: 7}, {A: 0, B: 2, Cost: maxTime - 1}})
}

// TestNewRefused: each fault of edges, and of two the one that is named first.
func TestNewRefused(t *testing.T) {
	clash := []api.Edge{edge(0, 1), edge(1, 0)}
	many := slices.Repeat([]api.Edge{edge(0, 1)}, 201)
	for _, n := range []int{0, -1, -16, 17, 18, 256, 1<<32 + 1, math.MinInt, math.MaxInt} {
		for _, edges := range [][]api.Edge{nil, chain(2), clash, many, {edge(-1, 0)}} {
			newRefused(t, n, edges, api.ErrRange)
		}
	}
	newRefused(t, 2, many, api.ErrFull)
	newRefused(t, 2, append([]api.Edge{edge(0, 5)}, many...), api.ErrFull)
	newRefused(t, 2, many[:200], api.ErrClash)
	newRefused(t, 16, append(every(16), edge(0, 15)), api.ErrClash)
	for _, bad := range []api.Edge{edge(-1, 0), edge(0, -1), edge(3, 0), edge(0, 3), edge(16, 0), edge(1, 1), edge(math.MinInt, 0),
		edge(0, math.MaxInt), {A: 0, B: 1}, {A: 0, B: 1, Cost: -1}, {A: 0, B: 1, Cost: maxTime + 1}, {A: 0, B: 1, Cost: math.MaxInt}, {}} {
		newRefused(t, 3, []api.Edge{bad}, api.ErrRange)
		newRefused(t, 3, []api.Edge{edge(1, 2), bad}, api.ErrRange)
		newRefused(t, 3, append([]api.Edge{bad}, clash...), api.ErrRange)
		newRefused(t, 3, append(slices.Clone(clash), bad), api.ErrClash)
	}
	newRefused(t, 3, []api.Edge{edge(0, 1), {A: 0, B: 1, Cost: 9}}, api.ErrClash)
	newRefused(t, 3, []api.Edge{edge(0, 1), edge(1, 2), {A: 1, B: 0, Cost: 9}}, api.ErrClash)
	// What is wrong with an edge goes ahead of what is wrong with it and another one.
	newRefused(t, 3, []api.Edge{edge(0, 1), {A: 0, B: 1, Cost: 0}}, api.ErrRange)
}

func TestPublishRanges(t *testing.T) {
	for _, n := range []int{1, 2, 5, 16} {
		for node := range n {
			m := newMesh(t, n, chain(n))
			for _, track := range badTracks {
				publishRefused(t, m, track, node, api.ErrRange)
			}
			for track := 1; track <= 8; track++ {
				for _, bad := range badNodes(n) {
					publishRefused(t, m, track, bad, api.ErrRange)
				}
				subRefused(t, m, track, node, 0, api.ErrNone)
				publishes(t, m, track, node)
				subs(t, m, track, node, 0, track)
			}
			flying(t, m, 0)
			isNow(t, m, 0)
		}
	}
}

func TestPublishOfTwoFaults(t *testing.T) {
	m := newMesh(t, 3, chain(3))
	publishes(t, m, 2, 1)
	for _, node := range badNodes(3) {
		for _, track := range badTracks {
			publishRefused(t, m, track, node, api.ErrRange)
		}
		publishRefused(t, m, 2, node, api.ErrRange)
	}
	for _, track := range badTracks {
		publishRefused(t, m, track, 1, api.ErrRange)
	}
}

// TestPublishTwice: a track begins but once, there or elsewhere, also where its first place does not lead to.
func TestPublishTwice(t *testing.T) {
	m := newMesh(t, 5, []api.Edge{edge(0, 1), edge(1, 2), edge(3, 4)})
	publishes(t, m, 1, 0)
	publishes(t, m, 8, 3)
	for node := range 5 {
		publishRefused(t, m, 1, node, api.ErrClash)
		publishRefused(t, m, 8, node, api.ErrClash)
	}
	// It is all as it was: 1 does not come to 3, and 8 begins at 3.
	subRefused(t, m, 1, 3, 0, api.ErrNone)
	subRefused(t, m, 8, 0, 0, api.ErrNone)
	subs(t, m, 1, 2, 0, 1)
	subs(t, m, 8, 4, 0, 2)
	sends(t, m, 8, start(3))
	sends(t, m, 1, start(9))
	flying(t, m, 2)
	lands(t, m, 0)
	flying(t, m, 1)
	lands(t, m, 0, 0)
	flying(t, m, 0)
	got(t, m, 1, rowed(9, 0, 9)...)
	got(t, m, 2, rowed(3, 0, 3)...)
}

// unreached, in place of a parent: no way leads to the node.
const unreached = -2

// plans: nodes, edges, a root, and of each node its parent.
var plans = []struct {
	name    string
	n       int
	edges   []api.Edge
	root    int
	parents []int
}{
	{"one node", 1, nil, 0, []int{-1}},
	{"a chain from its end", 4, chain(4), 0, []int{-1, 0, 1, 2}},
	{"a chain from its other end", 4, chain(4), 3, []int{1, 2, 3, -1}},
	{"a chain from within", 5, chain(5), 2, []int{1, 2, -1, 2, 3}},
	{"a star from its middle", 5, star(5), 0, []int{-1, 0, 0, 0, 0}},
	{"a star from a ray", 5, star(5), 3, []int{3, 0, 0, -1, 0}},
	{"a ring of an odd number", 5, round(5), 0, []int{-1, 0, 1, 4, 0}},
	{"a ring of an even number", 6, round(6), 1, []int{1, -1, 1, 2, 3, 0}},
	{"no edges", 3, nil, 1, []int{unreached, -1, unreached}},
	{"two parts, the first", 5, []api.Edge{edge(0, 1), edge(2, 3), edge(4, 3)}, 1, []int{1, -1, unreached, unreached, unreached}},
	{"two parts, the second", 5, []api.Edge{edge(0, 1), edge(2, 3), edge(4, 3)}, 4, []int{unreached, unreached, 3, 4, -1}},
	{"a long edge that nobody takes", 3, []api.Edge{{A: 0, B: 2, Cost: 10}, {A: 0, B: 1, Cost: 4}, {A: 1, B: 2, Cost: 5}}, 0, []int{-1, 0, 1}},
	{"a long edge that is as good, from the less node", 3, []api.Edge{{A: 0, B: 2, Cost: 9}, {A: 0, B: 1, Cost: 4}, {A: 1, B: 2, Cost: 5}}, 0, []int{-1, 0, 0}},
	{"a long edge that is as good, from the greater node", 3, []api.Edge{{A: 0, B: 2, Cost: 9}, {A: 0, B: 1, Cost: 4}, {A: 1, B: 2, Cost: 5}}, 2, []int{1, 2, -1}},
	{"all next to all", 16, every(16), 9, []int{9, 9, 9, 9, 9, 9, 9, 9, 9, -1, 9, 9, 9, 9, 9, 9}},
	{"the greatest Costs", 16, longChain(), 15, []int{1, 2, 3, 4, 5, 6, 7, 8, 9, 10, 11, 12, 13, 14, 15, -1}},
}

func longChain() []api.Edge {
	l := chain(16)
	for i := range l {
		l[i].Cost = maxTime
	}
	return l
}

// TestWhoIsPlanned: a packet goes from each node to those whose parent it is, rising, and nowhere else.
func TestWhoIsPlanned(t *testing.T) {
	for _, c := range plans {
		t.Run(c.name, func(t *testing.T) {
			m := newMesh(t, c.n, c.edges)
			publishes(t, m, 3, c.root)
			sub := make([]int, c.n) // of each node; 0: none
			count := 0
			for node, parent := range c.parents {
				if parent == unreached {
					subRefused(t, m, 3, node, 0, api.ErrNone)
					continue
				}
				count++
				sub[node] = count
				subs(t, m, 3, node, 0, count)
			}
			sends(t, m, 3, start(500))
			queue := []int{c.root}
			for len(queue) > 0 {
				here := queue[0]
				queue = queue[1:]
				for node, parent := range c.parents {
					if parent == here {
						queue = append(queue, node)
					}
				}
				flying(t, m, len(queue))
				for node, s := range sub {
					if node == here {
						got(t, m, s, rowed(500, 0, 500)...)
					} else if s > 0 {
						got(t, m, s)
					}
				}
				if len(queue) > 0 {
					lands(t, m, 0)
				}
			}
			flying(t, m, 0)
		})
	}
}

// TestWayUp: what is said back goes from parent to parent, up to where the track begins.
func TestWayUp(t *testing.T) {
	for _, c := range plans {
		for node, parent := range c.parents {
			if parent == unreached {
				continue
			}
			m := newMesh(t, c.n, c.edges)
			publishes(t, m, 3, c.root)
			subs(t, m, 3, node, 2, 1)
			ticks(t, m, 1)
			for at := node; at != c.root; at = c.parents[at] {
				if m.Flying() != 1 {
					t.Fatalf("%s: from %d, at %d: Flying = %d", c.name, node, at, m.Flying())
				}
				lands(t, m, 0)
			}
			flying(t, m, 0)
		}
	}
}

// TestSeveralTracks: they begin at several nodes, and one goes against the other on the same edge.
func TestSeveralTracks(t *testing.T) {
	m := newMesh(t, 4, chain(4))
	publishes(t, m, 1, 0)
	publishes(t, m, 8, 3)
	publishes(t, m, 4, 1)
	subs(t, m, 1, 3, 0, 1)
	subs(t, m, 8, 0, 0, 2)
	subs(t, m, 4, 0, 0, 3)
	subs(t, m, 4, 3, 0, 4)
	sends(t, m, 8, start(80))
	sends(t, m, 1, start(10))
	sends(t, m, 4, start(40))
	sends(t, m, 1, start(11))
	flying(t, m, 5) // 8 to 2; 1 to 1; 4 to 0 and to 2; 1 to 1
	lands(t, m, 2)
	got(t, m, 3, rowed(40, 0, 40)...)
	flying(t, m, 4) // 8 to 2; 1 to 1; 4 to 2; 1 to 1
	lands(t, m, 2)
	flying(t, m, 4) // 8 to 2; 1 to 1; 1 to 1; 4 to 3
	lands(t, m, 3)
	got(t, m, 4, rowed(40, 0, 40)...)
	lands(t, m, 0, 0, 0) // they are behind all then: 8 to 1, 1 to 2, 1 to 2
	flying(t, m, 3)
	lands(t, m, 0, 0, 0) // 8 to 0, 1 to 3, 1 to 3
	flying(t, m, 3)
	got(t, m, 1)
	got(t, m, 2)
	lands(t, m, 0)
	got(t, m, 2, rowed(80, 0, 80)...)
	lands(t, m, 0)
	got(t, m, 1, rowed(10, 0, 10)...)
	lands(t, m, 0)
	got(t, m, 1, rowed(10, 1, 11)...)
	flying(t, m, 0)
}

func TestSubRanges(t *testing.T) {
	m := newMesh(t, 3, chain(2))
	for track := 1; track <= 7; track++ {
		publishes(t, m, track, 0)
	}
	for _, track := range badTracks {
		subRefused(t, m, track, 0, 0, api.ErrRange)
	}
	for _, node := range badNodes(3) {
		subRefused(t, m, 1, node, 0, api.ErrRange)
	}
	for _, most := range badLayers {
		subRefused(t, m, 1, 0, most, api.ErrRange)
	}
	// A track that begins nowhere, and one that does not come to that node.
	for most := range 4 {
		for node := range 3 {
			subRefused(t, m, 8, node, most, api.ErrNone)
		}
		subRefused(t, m, 1, 2, most, api.ErrNone)
	}
	count := 0
	for track := 1; track <= 7; track++ {
		for node := range 2 {
			for _, most := range []int{0, 3} {
				count++
				subs(t, m, track, node, most, count)
			}
		}
	}
	flying(t, m, 0)
}

func TestSubOfTwoFaults(t *testing.T) {
	m := newMesh(t, 3, chain(2))
	publishes(t, m, 1, 0)
	for _, track := range badTracks {
		for _, node := range badNodes(3) {
			subRefused(t, m, track, node, 0, api.ErrRange)
			subRefused(t, m, track, node, 4, api.ErrRange)
		}
		for _, most := range badLayers {
			subRefused(t, m, track, 0, most, api.ErrRange)
		}
	}
	for _, node := range badNodes(3) {
		subRefused(t, m, 8, node, 0, api.ErrRange)
		for _, most := range badLayers {
			subRefused(t, m, 1, node, most, api.ErrRange)
			subRefused(t, m, 8, node, most, api.ErrRange)
		}
	}
	for _, most := range badLayers {
		subRefused(t, m, 8, 0, most, api.ErrRange)
		subRefused(t, m, 1, 2, most, api.ErrRange)
	}
	subs(t, m, 1, 1, 0, 1)
}

// TestMaxSubs: at each node, of all tracks together; who is refused has no number.
func TestMaxSubs(t *testing.T) {
	m := newMesh(t, 16, chain(15))
	publishes(t, m, 1, 0)
	publishes(t, m, 2, 14)
	subs(t, m, 1, 7, 0, 1)
	for i := range 20 {
		subs(t, m, 1+i%2, 3, i%4, 2+i)
	}
	for range 3 {
		subRefused(t, m, 1, 3, 0, api.ErrFull)
		subRefused(t, m, 2, 3, 3, api.ErrFull)
	}
	subRefused(t, m, 1, 3, 4, api.ErrRange)
	subRefused(t, m, 9, 3, 0, api.ErrRange)
	subRefused(t, m, 8, 3, 0, api.ErrNone)
	subs(t, m, 1, 0, 0, 22)
	subs(t, m, 2, 14, 0, 23)
	there := map[int]int{0: 1, 3: 20, 7: 1, 14: 1}
	count := 23
	for node := range 15 {
		for range 20 - there[node] {
			count++
			subs(t, m, 2, node, 1, count)
		}
		subRefused(t, m, 1, node, 0, api.ErrFull)
	}
	subRefused(t, m, 1, 15, 0, api.ErrNone)
	got(t, m, 300)
	gotRefused(t, m, 301)
	// Each number is of who was told it.
	sends(t, m, 1, start(5))
	got(t, m, 22, rowed(5, 0, 5)...)
	got(t, m, 23)
	lands(t, m, 0, 0)
	got(t, m, 2)
	lands(t, m, 0)
	for i := range 20 {
		if i%2 == 0 {
			got(t, m, 2+i, rowed(5, 0, 5)...)
		} else {
			got(t, m, 2+i)
		}
	}
	got(t, m, 1)
	lands(t, m, 0, 0, 0, 0)
	got(t, m, 1, rowed(5, 0, 5)...)
}

// TestLateSub: it gets what comes from then on, also where a track was published only then.
func TestLateSub(t *testing.T) {
	m := newMesh(t, 2, chain(2))
	publishes(t, m, 1, 0)
	subs(t, m, 1, 1, 0, 1)
	sends(t, m, 1, start(1))
	lands(t, m, 0)
	subs(t, m, 1, 1, 0, 2)
	sends(t, m, 1, start(2))
	lands(t, m, 0)
	got(t, m, 1, rowed(1, 0, 1, 2)...)
	got(t, m, 2, rowed(2, 0, 2)...)
	ticks(t, m, 7)
	publishes(t, m, 2, 1)
	subs(t, m, 2, 0, 0, 3)
	sends(t, m, 2, start(3))
	lands(t, m, 0)
	got(t, m, 3, rowed(3, 0, 3)...)
}

func TestSendRefused(t *testing.T) {
	m := newMesh(t, 3, chain(3))
	publishes(t, m, 1, 1)
	publishes(t, m, 8, 2)
	for _, track := range badTracks {
		sendRefused(t, m, track, start(1), api.ErrRange)
		for _, bad := range badPackets {
			sendRefused(t, m, track, bad.p, api.ErrRange)
		}
	}
	for track := 2; track <= 7; track++ {
		sendRefused(t, m, track, start(1), api.ErrNone)
		for _, bad := range badPackets {
			sendRefused(t, m, track, bad.p, api.ErrNone)
		}
	}
	for _, track := range []int{1, 8} {
		for _, bad := range badPackets {
			sendRefused(t, m, track, bad.p, bad.want)
		}
	}
	flying(t, m, 0)
	sends(t, m, 1, api.Packet{}, api.Packet{Seq: 1, Time: 1<<32 - 1, Layer: 3, Level: 127, Start: true, Body: make([]byte, 1000)})
	flying(t, m, 4)
	sends(t, m, 8, api.Packet{Seq: 65535})
	flying(t, m, 5)
}

// TestSendGoesBehind: to all kids, rising, behind all that flies.
func TestSendGoesBehind(t *testing.T) {
	m := newMesh(t, 4, star(4))
	publishes(t, m, 1, 0)
	for node := 1; node < 4; node++ {
		subs(t, m, 1, node, 0, node)
	}
	sends(t, m, 1, starts(20, 21)...)
	flying(t, m, 6)
	for at := range 6 {
		lands(t, m, 0)
		flying(t, m, 5-at)
		for node := 1; node < 4; node++ {
			if node == 1+at%3 {
				got(t, m, node, rowed(20, at/3, 20+at/3)...)
			} else {
				got(t, m, node)
			}
		}
	}
}

// TestSendTwice: a packet that came already does not go on, and is no error; nor is one that is too far ahead.
func TestSendTwice(t *testing.T) {
	m := newMesh(t, 2, chain(2))
	publishes(t, m, 1, 0)
	subs(t, m, 1, 0, 0, 1)
	sends(t, m, 1, start(9), start(9))
	flying(t, m, 1)
	sends(t, m, 1, start(9+202))
	flying(t, m, 1)
	sends(t, m, 1, start(9+201))
	flying(t, m, 2)
	got(t, m, 1, rowed(9, 0, 9)...)
}

// ofAt calls Land, Lose or Twice.
var ofAt = map[string]func(m *mesh.Mesh, at int) error{
	"Land":  (*mesh.Mesh).Land,
	"Lose":  (*mesh.Mesh).Lose,
	"Twice": (*mesh.Mesh).Twice,
}

// TestPlacesOfWhatFlies: from 0 to one less than how many fly.
func TestPlacesOfWhatFlies(t *testing.T) {
	for name, call := range ofAt {
		for many := range 6 {
			for _, at := range []int{-1, -2, 0, many - 1, many, many + 1, 1 << 32, math.MinInt, math.MaxInt} {
				m := newMesh(t, 2, chain(2))
				publishes(t, m, 1, 0)
				sends(t, m, 1, starts(numbers(100, 99+many)...)...)
				flying(t, m, many)
				want, left := api.OK, many-1
				if name == "Twice" {
					left = many + 1
				}
				if at < 0 || at >= many {
					want, left = api.ErrRange, many
				}
				if err := call(m, at); plain.Told(err) != want {
					t.Errorf("%s(%d), where %d fly = %v, want %v", name, at, many, err, want)
				}
				flying(t, m, left)
			}
		}
	}
}

// TestLandAnyOf: the at-th lands, and the others fly on in their order.
func TestLandAnyOf(t *testing.T) {
	for at := range 7 {
		m := newMesh(t, 8, star(8))
		publishes(t, m, 1, 0)
		for node := 1; node < 8; node++ {
			subs(t, m, 1, node, 0, node)
		}
		sends(t, m, 1, start(1))
		lands(t, m, at)
		flying(t, m, 6)
		for node := 1; node < 8; node++ {
			if node == 1+at {
				got(t, m, node, rowed(1, 0, 1)...)
			} else {
				got(t, m, node)
			}
		}
		for node := 1; node < 8; node++ {
			if node != 1+at {
				lands(t, m, 0)
				got(t, m, node, rowed(1, 0, 1)...)
			}
		}
		flying(t, m, 0)
	}
}

// TestLoseAnyOf: the at-th does not come, and the others fly on in their order.
func TestLoseAnyOf(t *testing.T) {
	for at := range 7 {
		m := newMesh(t, 8, star(8))
		publishes(t, m, 1, 0)
		for node := 1; node < 8; node++ {
			subs(t, m, 1, node, 0, node)
		}
		sends(t, m, 1, start(1))
		loses(t, m, at)
		flying(t, m, 6)
		for node := 1; node < 8; node++ {
			if node != 1+at {
				lands(t, m, 0)
				got(t, m, node, rowed(1, 0, 1)...)
			}
		}
		flying(t, m, 0)
		got(t, m, 1+at)
	}
}

// TestTwiceAnyOf: the at-th flies where it flew, and once more behind all.
func TestTwiceAnyOf(t *testing.T) {
	for at := range 7 {
		m := newMesh(t, 8, star(8))
		publishes(t, m, 1, 0)
		for node := 1; node < 8; node++ {
			subs(t, m, 1, node, 0, node)
		}
		sends(t, m, 1, start(1))
		doubles(t, m, at)
		flying(t, m, 8)
		loses(t, m, at)
		for node := 1; node < 8; node++ {
			if node != 1+at {
				lands(t, m, 0)
				got(t, m, node, rowed(1, 0, 1)...)
			}
		}
		flying(t, m, 1)
		got(t, m, 1+at)
		lands(t, m, 0)
		got(t, m, 1+at, rowed(1, 0, 1)...)
		flying(t, m, 0)
	}
}

// TestTwiceIsHeardOnce: what lands once more is nothing new, and does not go on.
func TestTwiceIsHeardOnce(t *testing.T) {
	m := newMesh(t, 3, chain(3))
	publishes(t, m, 1, 0)
	subs(t, m, 1, 1, 0, 1)
	sends(t, m, 1, start(1))
	doubles(t, m, 0, 1, 0)
	flying(t, m, 4)
	lands(t, m, 3)
	flying(t, m, 4) // three to 1, and one to 2
	lands(t, m, 0)
	flying(t, m, 3)
	lands(t, m, 0, 0)
	flying(t, m, 1)
	got(t, m, 1, rowed(1, 0, 1)...)
	lands(t, m, 0)
	flying(t, m, 0)
}

// TestTwiceOfMany: to 1000 at most; Send may let more of them fly.
func TestTwiceOfMany(t *testing.T) {
	m := newMesh(t, 2, chain(2))
	publishes(t, m, 1, 0)
	refused := func(at int, want api.Errno) {
		t.Helper()
		ahead := m.Flying()
		if err := m.Twice(at); plain.Told(err) != want {
			t.Errorf("Twice(%d), where %d fly = %v, want %v", at, ahead, err, want)
		}
		flying(t, m, ahead)
	}
	sends(t, m, 1, starts(numbers(1, 998)...)...)
	doubles(t, m, 0, 998)
	for many := 1000; many < 1003; many++ {
		flying(t, m, many)
		for _, at := range []int{0, 1, 998, 999, many - 1} {
			refused(at, api.ErrFull)
		}
		for _, at := range []int{-1, many, many + 1, math.MinInt, math.MaxInt} {
			refused(at, api.ErrRange)
		}
		sends(t, m, 1, start(many-1))
	}
	flying(t, m, 1003)
	loses(t, m, 0, 1001, 500)
	refused(0, api.ErrFull)
	loses(t, m, 7)
	flying(t, m, 999)
	doubles(t, m, 998)
	refused(0, api.ErrFull)
	lands(t, m, 999)
	flying(t, m, 999)
}

// TestWhatLandsLetsOut: it flies behind all that flies.
func TestWhatLandsLetsOut(t *testing.T) {
	m := newMesh(t, 5, []api.Edge{edge(0, 1), edge(0, 2), edge(2, 3), edge(2, 4)})
	publishes(t, m, 1, 0)
	for node := range 5 {
		subs(t, m, 1, node, 0, 1+node)
	}
	sends(t, m, 1, start(1))
	got(t, m, 1, rowed(1, 0, 1)...)
	flying(t, m, 2) // to 1, to 2
	lands(t, m, 1)
	got(t, m, 3, rowed(1, 0, 1)...)
	flying(t, m, 3) // to 1, to 3, to 4
	sends(t, m, 1, start(2))
	flying(t, m, 5) // to 1, to 3, to 4, to 1, to 2
	lands(t, m, 1)
	got(t, m, 4, rowed(1, 0, 1)...)
	lands(t, m, 1)
	got(t, m, 5, rowed(1, 0, 1)...)
	flying(t, m, 3) // to 1, to 1, to 2
	lands(t, m, 2, 3)
	got(t, m, 5, rowed(1, 1, 2)...)
	got(t, m, 4)
	lands(t, m, 2)
	got(t, m, 4, rowed(1, 1, 2)...)
	lands(t, m, 0)
	got(t, m, 2, rowed(1, 0, 1)...)
	lands(t, m, 0)
	got(t, m, 2, rowed(1, 1, 2)...)
	flying(t, m, 0)
}

// TestLandingThatIsLeft: a packet that is too far ahead of all that came is left where it lands, and flies no more.
func TestLandingThatIsLeft(t *testing.T) {
	m := newMesh(t, 3, chain(3))
	publishes(t, m, 1, 0)
	subs(t, m, 1, 1, 0, 1)
	sends(t, m, 1, starts(numbers(1, 204)...)...)
	flying(t, m, 204)
	lands(t, m, 0)
	flying(t, m, 204) // 1 went on to 2
	lands(t, m, 201)
	flying(t, m, 203) // 203 would make 201 lacking
	lands(t, m, 200)
	flying(t, m, 203) // 202 makes 200 lacking, and went on to 2
	got(t, m, 1, rowed(1, 0, 1)...)
	// They are asked for, but of those that are kept, the last 64, alone: 141 to 201.
	ticks(t, m, 1)
	flying(t, m, 204)
	lands(t, m, 203)
	flying(t, m, 203+201-140)
}

// TestLandingAtItsTime: what waited for the lost one waits for 10, from when it landed.
func TestLandingAtItsTime(t *testing.T) {
	for _, wait := range []int{9, 10} {
		m := newMesh(t, 2, chain(2))
		publishes(t, m, 1, 0)
		subs(t, m, 1, 1, 0, 1)
		sends(t, m, 1, starts(1, 2, 3)...)
		tickTo(t, m, 50)
		lands(t, m, 0)
		loses(t, m, 0)
		lands(t, m, 0)
		got(t, m, 1, rowed(1, 0, 1)...)
		ticks(t, m, wait)
		if wait == 10 {
			got(t, m, 1, rowed(1, 1, 3)...)
		} else {
			got(t, m, 1)
		}
		flying(t, m, 2) // a start was wanted at 1, ahead of all that landed; and 2 is asked for
	}
}

func TestTickRanges(t *testing.T) {
	m := newMesh(t, 2, chain(2))
	for _, by := range []int{0, -1, -1000, 1001, 1002, maxTime, 1 << 32, math.MinInt, math.MaxInt, math.MaxInt - 1} {
		tickRefused(t, m, by)
		isNow(t, m, 0)
	}
	ticks(t, m, 1)
	isNow(t, m, 1)
	ticks(t, m, 1000)
	isNow(t, m, 1001)
	for _, by := range []int{0, -1, 1001, math.MinInt, math.MaxInt, math.MaxInt - 1000} {
		tickRefused(t, m, by)
		isNow(t, m, 1001)
	}
	ticks(t, m, 999)
	isNow(t, m, 2000)
}

// TestTickToTheEnd: to MaxTime, and not beyond; all else goes on there.
func TestTickToTheEnd(t *testing.T) {
	m := newMesh(t, 2, chain(2))
	publishes(t, m, 1, 0)
	tickTo(t, m, maxTime-1000)
	tickRefused(t, m, 1001)
	ticks(t, m, 998)
	for _, by := range []int{3, 4, 1000, 1001, 0, math.MaxInt} {
		tickRefused(t, m, by)
		isNow(t, m, maxTime-2)
	}
	subs(t, m, 1, 1, 0, 1)
	ticks(t, m, 2)
	isNow(t, m, maxTime)
	flying(t, m, 1)
	for _, by := range []int{1, 2, 3, 1000, 1001, 0, -1, math.MaxInt} {
		tickRefused(t, m, by)
		isNow(t, m, maxTime)
		flying(t, m, 1)
	}
	lands(t, m, 0)
	sends(t, m, 1, start(1))
	lands(t, m, 0)
	got(t, m, 1, rowed(1, 0, 1)...)
	publishes(t, m, 2, 1)
	subs(t, m, 2, 0, 0, 2)
}

// TestTickJustTo: from far below straight to MaxTime.
func TestTickJustTo(t *testing.T) {
	m := newMesh(t, 1, nil)
	tickTo(t, m, maxTime-1000)
	ticks(t, m, 1000)
	isNow(t, m, maxTime)
	tickRefused(t, m, 1)
}

// TestTickByNumber: what nodes let out flies by their numbers, behind all that flies.
func TestTickByNumber(t *testing.T) {
	m := newMesh(t, 5, chain(5))
	publishes(t, m, 1, 0)
	for node := 4; node >= 1; node-- {
		subs(t, m, 1, node, 0, 5-node)
	}
	sends(t, m, 1, start(9))
	ticks(t, m, 1)
	// The packet to 1, and a Key from each of 1 to 4: from node there are node landings to 0.
	flying(t, m, 5)
	loses(t, m, 0)
	lands(t, m, 0)
	flying(t, m, 3)
	lands(t, m, 0, 0, 0)
	flying(t, m, 3) // from 2, now to 0; from 3 to 1; from 4 to 2
	lands(t, m, 0)
	flying(t, m, 2)
	lands(t, m, 0, 0)
	flying(t, m, 2)
	lands(t, m, 0)
	flying(t, m, 1)
	lands(t, m, 0)
	flying(t, m, 1)
	lands(t, m, 0)
	flying(t, m, 0)
}

// TestTickOfEachNode: what was lost on a way is asked for at its end, each 3, three times.
func TestTickOfEachNode(t *testing.T) {
	m := newMesh(t, 3, star(3))
	publishes(t, m, 1, 0)
	subs(t, m, 1, 2, 0, 1)
	sends(t, m, 1, starts(1, 2, 3)...) // to 1, to 2, to 1, to 2, to 1, to 2
	loses(t, m, 3)
	lands(t, m, 0, 0, 0, 0, 0)
	flying(t, m, 0)
	for _, asked := range []int{1, 0, 0, 1, 0, 0, 1, 0, 0} {
		ticks(t, m, 1)
		flying(t, m, asked)
		if asked > 0 {
			loses(t, m, 0)
		}
	}
	got(t, m, 1, rowed(1, 0, 1)...)
	ticks(t, m, 1)
	flying(t, m, 0)
	got(t, m, 1, rowed(1, 1, 3)...)
}

// TestLostComesAgain: what lands as Lost lets the packet fly again, to who lacks it alone.
func TestLostComesAgain(t *testing.T) {
	m := newMesh(t, 3, star(3))
	publishes(t, m, 1, 0)
	subs(t, m, 1, 1, 0, 1)
	subs(t, m, 1, 2, 0, 2)
	sends(t, m, 1, starts(1, 2, 3)...) // to 1, to 2, to 1, to 2, to 1, to 2
	loses(t, m, 3)
	lands(t, m, 0, 0, 0, 0, 0)
	got(t, m, 1, rowed(1, 0, 1, 2, 3)...)
	got(t, m, 2, rowed(1, 0, 1)...)
	ticks(t, m, 1)
	lands(t, m, 0)
	flying(t, m, 1)
	lands(t, m, 0)
	flying(t, m, 0)
	got(t, m, 1)
	got(t, m, 2, rowed(1, 1, 2, 3)...)
}

// TestKeyGoesUp: it goes over all nodes between, and tells nothing where the track begins.
func TestKeyGoesUp(t *testing.T) {
	m := newMesh(t, 4, chain(4))
	publishes(t, m, 1, 0)
	subs(t, m, 1, 0, 0, 1) // where it begins nobody is asked
	subs(t, m, 1, 3, 0, 2)
	ticks(t, m, 1)
	flying(t, m, 1)
	doubles(t, m, 0)
	loses(t, m, 1)
	lands(t, m, 0, 0)
	flying(t, m, 1)
	lands(t, m, 0)
	flying(t, m, 0)
	ticks(t, m, 9)
	flying(t, m, 0)
	ticks(t, m, 1)
	flying(t, m, 1)
}

func TestGot(t *testing.T) {
	m := newMesh(t, 2, chain(2))
	for _, sub := range []int{0, 1, 2, -1, 1 << 32, math.MinInt, math.MaxInt} {
		gotRefused(t, m, sub)
	}
	publishes(t, m, 1, 0)
	gotRefused(t, m, 1)
	subs(t, m, 1, 0, 0, 1)
	subs(t, m, 1, 1, 0, 2)
	subs(t, m, 1, 0, 0, 3)
	for _, sub := range []int{0, -1, -2, 4, 5, 1<<32 + 1, math.MinInt, math.MaxInt} {
		gotRefused(t, m, sub)
	}
	for sub := 1; sub <= 3; sub++ {
		got(t, m, sub)
	}
	sends(t, m, 1, starts(30, 31)...)
	lands(t, m, 0)
	got(t, m, 2, rowed(30, 0, 30)...)
	got(t, m, 3, rowed(30, 0, 30, 31)...)
	sends(t, m, 1, start(32))
	lands(t, m, 0, 0)
	got(t, m, 1, rowed(30, 0, 30, 31, 32)...)
	got(t, m, 2, rowed(30, 1, 31, 32)...)
	got(t, m, 3, rowed(30, 2, 32)...)
	for _, sub := range []int{0, 4} {
		gotRefused(t, m, sub)
	}
}

// TestGotOfLayers: each subscriber has what it wants at most.
func TestGotOfLayers(t *testing.T) {
	m := newMesh(t, 2, chain(2))
	publishes(t, m, 1, 0)
	for most := range 4 {
		subs(t, m, 1, 1, most, 1+most)
	}
	for layer := range 4 {
		p := start(10 + layer)
		p.Layer = layer
		sends(t, m, 1, p)
	}
	lands(t, m, 0, 0, 0, 0)
	for most := range 4 {
		l, err := m.Got(1 + most)
		if len(l) != 1+most || err != nil || l[most].Layer != most {
			t.Errorf("Got(%d) = %v, %v", 1+most, l, err)
		}
	}
}

func TestCalmOfNothing(t *testing.T) {
	for _, n := range []int{1, 3, 16} {
		m := newMesh(t, n, chain(n))
		calms(t, m, 2, 6, 0)
		publishes(t, m, 1, 0)
		calms(t, m, 2, 12, 0)
		ticks(t, m, 1)
		calms(t, m, 2, 19, 0)
	}
}

// TestCalmLandsAll: what flies, and what that lets fly, in one round; then come two in which nothing landed.
func TestCalmLandsAll(t *testing.T) {
	for _, n := range []int{2, 3, 16} {
		m := newMesh(t, n, chain(n))
		publishes(t, m, 1, 0)
		subs(t, m, 1, n-1, 0, 1)
		sends(t, m, 1, starts(1, 2, 3)...)
		calms(t, m, 3, 9, 0)
		got(t, m, 1, rowed(1, 0, 1, 2, 3)...)
		sends(t, m, 1, start(4))
		doubles(t, m, 0, 0)
		calms(t, m, 3, 18, 0)
		got(t, m, 1, rowed(1, 3, 4)...)
		calms(t, m, 2, 24, 0)
	}
}

// TestCalmInOrder: one after the other, from the first that flies on.
func TestCalmInOrder(t *testing.T) {
	m := newMesh(t, 2, chain(2))
	publishes(t, m, 1, 0)
	subs(t, m, 1, 1, 0, 1)
	// 5 is the first that lands: nothing ahead of it is lacking, and 4 is too late.
	sends(t, m, 1, starts(3, 4, 5)...)
	doubles(t, m, 1)
	loses(t, m, 0, 0)
	calms(t, m, 3, 9, 0)
	got(t, m, 1, rowed(5, 0, 5)...)
}

// TestCalmAsksForLost: a Tick asks, the next round brings it.
func TestCalmAsksForLost(t *testing.T) {
	m := newMesh(t, 3, chain(3))
	publishes(t, m, 1, 0)
	subs(t, m, 1, 1, 0, 1)
	subs(t, m, 1, 2, 0, 2)
	sends(t, m, 1, starts(1, 2, 3)...)
	loses(t, m, 1)
	calms(t, m, 4, 12, 0)
	got(t, m, 1, rowed(1, 0, 1, 2, 3)...)
	got(t, m, 2, rowed(1, 0, 1, 2, 3)...)
	// And behind it as well: then the first round has nothing to land.
	sends(t, m, 1, starts(4, 5)...)
	loses(t, m, 0)
	lands(t, m, 0, 0)
	flying(t, m, 0)
	calms(t, m, 4, 24, 0)
	got(t, m, 1, rowed(1, 3, 4, 5)...)
	got(t, m, 2, rowed(1, 3, 4, 5)...)
}

// TestCalmWithSomethingLeft: the last Tick may let something fly.
func TestCalmWithSomethingLeft(t *testing.T) {
	for now, left := range map[int]int{4: 0, 5: 1, 6: 1, 7: 1} {
		m := newMesh(t, 2, chain(2))
		publishes(t, m, 1, 0)
		subs(t, m, 1, 1, 0, 1)
		ticks(t, m, 1)
		loses(t, m, 0) // a start was asked for at 1, and may be asked for again at 11
		tickTo(t, m, now)
		calms(t, m, 2, now+6, left)
	}
	// From 8 on the Tick of the first round asks: it lands in the second one.
	m := newMesh(t, 2, chain(2))
	publishes(t, m, 1, 0)
	subs(t, m, 1, 1, 0, 1)
	ticks(t, m, 1)
	loses(t, m, 0)
	tickTo(t, m, 8)
	calms(t, m, 4, 20, 0)
}

// restless lets a start of one track be asked for each 12, and one of another track 6 later, as time goes on by 3.
func restless(t *testing.T) *mesh.Mesh {
	t.Helper()
	m := newMesh(t, 2, chain(2))
	publishes(t, m, 1, 0)
	publishes(t, m, 2, 0)
	subs(t, m, 1, 1, 0, 1)
	ticks(t, m, 3)
	loses(t, m, 0)
	ticks(t, m, 3)
	subs(t, m, 2, 1, 0, 2)
	ticks(t, m, 3)
	flying(t, m, 1)
	return m
}

// TestCalmIsNotForever: where there are never two such rounds, 60.
func TestCalmIsNotForever(t *testing.T) {
	m := restless(t)
	calms(t, m, 60, 9+180, 1)
	calms(t, m, 60, 9+360, 1)
	// With a packet on both tracks it comes to an end.
	sends(t, m, 1, start(1))
	sends(t, m, 2, start(1))
	calms(t, m, 3, 9+369, 0)
}

// TestCalmAtTheEnd: a Tick that cannot be ends it, and that round counts, as all has landed in it.
func TestCalmAtTheEnd(t *testing.T) {
	for before, want := range map[int]struct{ rounds, left int }{0: {1, 0}, 1: {1, 1}, 2: {1, 2}, 3: {2, 0}, 4: {2, 1}, 5: {2, 2}, 6: {3, 0}, 8: {3, 2}, 9: {3, 0}, 10: {3, 1}} {
		m := newMesh(t, 3, chain(3))
		publishes(t, m, 1, 0)
		tickTo(t, m, maxTime-before)
		subs(t, m, 1, 2, 0, 1)
		sends(t, m, 1, start(1))
		calms(t, m, want.rounds, maxTime-want.left, 0)
		got(t, m, 1, rowed(1, 0, 1)...)
	}
	for before, rounds := range map[int]int{0: 1, 1: 1, 2: 1, 3: 2, 4: 2, 5: 2, 6: 2, 7: 2} {
		m := newMesh(t, 3, chain(3))
		tickTo(t, m, maxTime-before)
		calms(t, m, rounds, min(maxTime-before+6, maxTime-before%3), 0)
	}
}

// TestCalmEndsAmongMany: long ahead of 60, and not calm.
func TestCalmEndsAmongMany(t *testing.T) {
	m := restless(t)
	for m.Now() < maxTime-180 {
		if rounds := m.Calm(); rounds != 60 {
			t.Fatalf("Calm = %d at %d", rounds, m.Now())
		}
	}
	// It is at 9 and some times 180: 91 are left, and so 30 rounds with a Tick, and one without.
	isNow(t, m, maxTime-91)
	calms(t, m, 31, maxTime-1, 0)
	calms(t, m, 1, maxTime-1, 0)
}

// TestNoneIsLostForGood: whatever is lost between the first and the last packet comes at last, in order, once.
func TestNoneIsLostForGood(t *testing.T) {
	for _, c := range plans {
		for keep := 1; keep <= 4; keep++ {
			m := newMesh(t, c.n, c.edges)
			publishes(t, m, 5, c.root)
			count := 0
			for node, parent := range c.parents {
				if parent != unreached {
					count++
					subs(t, m, 5, node, 3, count)
				}
			}
			sends(t, m, 5, start(65530))
			land(t, m)
			for seq := 65531; seq <= 65560; seq++ {
				sends(t, m, 5, start(seq%65536))
				for i := 0; m.Flying() > 0; i++ {
					switch {
					case (seq+i)%keep == 0:
						loses(t, m, m.Flying()-1)
					case (seq+i)%7 == 0:
						doubles(t, m, 0)
						lands(t, m, m.Flying()-1)
						lands(t, m, 0)
					default:
						lands(t, m, 0)
					}
				}
			}
			sends(t, m, 5, start(65561%65536))
			m.Calm()
			for sub := 1; sub <= count; sub++ {
				l, err := m.Got(sub)
				if len(l) != 32 || err != nil {
					t.Fatalf("%s: %d got %d, %v", c.name, sub, len(l), err)
				}
				for i, p := range l {
					want := start((65530 + i) % 65536)
					want.Seq, want.Time = i, (want.Time-100*65530)&(1<<32-1)
					if !samePacket(p, want) {
						t.Errorf("%s: %d got %v as the %d-th, want %v", c.name, sub, p, i, want)
					}
				}
			}
		}
	}
}

// land lets all land.
func land(t *testing.T, m *mesh.Mesh) {
	t.Helper()
	for m.Flying() > 0 {
		lands(t, m, 0)
	}
}

// TestNeverPanics: all numbers at all calls, whatever was ahead.
func TestNeverPanics(t *testing.T) {
	all := []int{math.MinInt, -maxTime, -1, 0, 1, 2, 3, 8, 15, 16, 20, 999, 1000, 1001, maxTime, 1 << 40, math.MaxInt}
	m := newMesh(t, 16, every(16))
	for _, a := range all {
		for _, b := range all {
			_ = m.Publish(a, b)
			_ = m.Send(a, api.Packet{Seq: b, Time: b, Layer: b, Level: b})
			_ = m.Send(1, api.Packet{Seq: a & 65535, Layer: b & 3})
			for _, c := range all {
				_, _ = m.Sub(a, b, c)
			}
			_, _ = m.Got(b)
			_, _ = m.Land(b), m.Lose(b)
			_, _ = m.Twice(b), m.Tick(b)
		}
		if rounds := m.Calm(); rounds < 1 || rounds > 60 {
			t.Errorf("Calm = %d", rounds)
		}
		_, _ = mesh.New(a, nil)
		_, _ = mesh.New(3, []api.Edge{{A: a, B: 1, Cost: 1}, {A: 1, B: a, Cost: a}})
	}
	if s := fmt.Sprint(m.Now() >= 0 && m.Now() <= maxTime, m.Flying() >= 0); s != "true true" {
		t.Errorf("Now = %d, Flying = %d", m.Now(), m.Flying())
	}
}
