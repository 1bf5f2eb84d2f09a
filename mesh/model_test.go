package mesh_test

import (
	"fmt"
	"math/rand"
	"slices"
	"testing"

	"choirloft/api"
	"choirloft/mesh"
	"choirloft/node"
	"choirloft/plain"
)

// model of the chapter, clause by clause, with nodes of the project: it asks all nodes for letters behind each call, by
// number, and finds the ways by trying all of them, edge by edge.
type model struct {
	n       int
	edges   []api.Edge
	nodes   []*node.Node
	roots   map[int]int
	reached map[[2]int]bool // a track comes to a node
	now     int
	subs    [][2]int // a node, and the number there
	air     []letter
}

type letter struct {
	from, to int
	body     []byte
}

// newModel is of edges that may be.
func newModel(n int, edges []api.Edge) *model {
	m := &model{n: n, edges: edges, roots: map[int]int{}, reached: map[[2]int]bool{}}
	for id := range n {
		loft, _ := node.New(id)
		m.nodes = append(m.nodes, loft)
	}
	return m
}

// ways gives of each node how long the least way from root is (-1: none), and who comes ahead of it on one.
func (m *model) ways(root int) (dist, parents []int) {
	dist, parents = slices.Repeat([]int{-1}, m.n), slices.Repeat([]int{-1}, m.n)
	dist[root] = 0
	both := slices.Clone(m.edges)
	for _, e := range m.edges {
		both = append(both, api.Edge{A: e.B, B: e.A, Cost: e.Cost})
	}
	for range m.n {
		for _, e := range both {
			if way := dist[e.A] + e.Cost; dist[e.A] >= 0 && (dist[e.B] < 0 || way < dist[e.B]) {
				dist[e.B] = way
			}
		}
	}
	for _, e := range both {
		if dist[e.A] >= 0 && dist[e.A]+e.Cost == dist[e.B] && (parents[e.B] < 0 || e.A < parents[e.B]) {
			parents[e.B] = e.A
		}
	}
	return dist, parents
}

func (m *model) publish(track, at int) api.Errno {
	if track < 1 || track > 8 || at < 0 || at >= m.n {
		return api.ErrRange
	}
	if _, begun := m.roots[track]; begun {
		return api.ErrClash
	}
	dist, parents := m.ways(at)
	for id := range m.n {
		var kids []int
		for kid, parent := range parents {
			if parent == id {
				kids = append(kids, kid)
			}
		}
		if dist[id] >= 0 {
			m.reached[[2]int{track, id}] = true
			if err := m.nodes[id].Plan(track, parents[id], kids, 1); err != nil {
				panic(err)
			}
		}
	}
	m.roots[track] = at
	return api.OK
}

func (m *model) sub(track, at, most int) (int, api.Errno) {
	switch {
	case track < 1 || track > 8 || at < 0 || at >= m.n || most < 0 || most > 3:
		return 0, api.ErrRange
	case !m.reached[[2]int{track, at}]:
		return 0, api.ErrNone
	}
	id, err := m.nodes[at].Sub(track, most)
	if err != nil {
		return 0, plain.Told(err)
	}
	m.subs = append(m.subs, [2]int{at, id})
	return len(m.subs), api.OK
}

func (m *model) send(track int, p api.Packet) api.Errno {
	if track < 1 || track > 8 {
		return api.ErrRange
	}
	root, begun := m.roots[track]
	if !begun {
		return api.ErrNone
	}
	err := m.nodes[root].Send(track, p, m.now)
	m.collect()
	return plain.Told(err)
}

// collect lets fly what all nodes let out: but for a Tick, one of them at most does.
func (m *model) collect() {
	for id, loft := range m.nodes {
		for _, l := range loft.Out() {
			m.air = append(m.air, letter{id, l.To, slices.Clone(l.Body)})
		}
	}
}

// gone takes the at-th out.
func (m *model) gone(at int) (letter, api.Errno) {
	if at < 0 || at >= len(m.air) {
		return letter{}, api.ErrRange
	}
	l := m.air[at]
	m.air = slices.Concat(m.air[:at], m.air[at+1:])
	return l, api.OK
}

func (m *model) land(at int) api.Errno {
	l, e := m.gone(at)
	if e == api.OK {
		_ = m.nodes[l.to].Hear(l.from, l.body, m.now)
		m.collect()
	}
	return e
}

func (m *model) twice(at int) api.Errno {
	switch {
	case at < 0 || at >= len(m.air):
		return api.ErrRange
	case len(m.air) >= 1000:
		return api.ErrFull
	}
	m.air = append(m.air, m.air[at])
	return api.OK
}

func (m *model) tick(by int) api.Errno {
	if by < 1 || by > 1000 || m.now+by > maxTime {
		return api.ErrRange
	}
	m.now += by
	for _, loft := range m.nodes {
		if err := loft.Tick(m.now); err != nil {
			panic(err)
		}
	}
	m.collect()
	return api.OK
}

func (m *model) gotBy(sub int) ([]api.Packet, api.Errno) {
	if sub < 1 || sub > len(m.subs) {
		return nil, api.ErrNone
	}
	s := m.subs[sub-1]
	l, err := m.nodes[s[0]].Got(s[1])
	return l, plain.Told(err)
}

func (m *model) calm() int {
	var landed []int // in each round
	for len(landed) < 60 {
		count := 0
		for len(m.air) > 0 {
			m.land(0)
			count++
		}
		landed = append(landed, count)
		if m.tick(3) != api.OK {
			break
		}
		if last := len(landed) - 1; last > 0 && landed[last] == 0 && landed[last-1] == 0 {
			break
		}
	}
	return len(landed)
}

// both a Mesh and its model.
type both struct {
	mesh  *mesh.Mesh
	model *model
}

func newBoth(n int, edges []api.Edge) both {
	m, err := mesh.New(n, edges)
	if err != nil {
		panic(err)
	}
	return both{m, newModel(n, edges)}
}

// A move is a call of both, and what they answer, as texts.
type move func(b both) (answer, want string)

// told is what a call answers, but for the error, and that.
func told(e error, rest ...any) string {
	return fmt.Sprint(plain.Told(e), rest)
}

func wanted(e api.Errno, rest ...any) string {
	return fmt.Sprint(e, rest)
}

func publishMove(track, at int) move {
	return func(b both) (string, string) {
		return told(b.mesh.Publish(track, at)), wanted(b.model.publish(track, at))
	}
}

func subMove(track, at, most int) move {
	return func(b both) (string, string) {
		id, err := b.mesh.Sub(track, at, most)
		want, e := b.model.sub(track, at, most)
		return told(err, id), wanted(e, want)
	}
}

func sendMove(track int, p api.Packet) move {
	return func(b both) (string, string) {
		return told(b.mesh.Send(track, p)), wanted(b.model.send(track, p))
	}
}

func landMove(at int) move {
	return func(b both) (string, string) { return told(b.mesh.Land(at)), wanted(b.model.land(at)) }
}

func loseMove(at int) move {
	return func(b both) (string, string) {
		_, e := b.model.gone(at)
		return told(b.mesh.Lose(at)), wanted(e)
	}
}

func twiceMove(at int) move {
	return func(b both) (string, string) { return told(b.mesh.Twice(at)), wanted(b.model.twice(at)) }
}

func tickMove(by int) move {
	return func(b both) (string, string) { return told(b.mesh.Tick(by)), wanted(b.model.tick(by)) }
}

func gotMove(sub int) move {
	return func(b both) (string, string) {
		l, err := b.mesh.Got(sub)
		want, e := b.model.gotBy(sub)
		return told(err, l), wanted(e, want)
	}
}

func calmMove() move {
	return func(b both) (string, string) { return fmt.Sprint(b.mesh.Calm()), fmt.Sprint(b.model.calm()) }
}

// fits plays a move, and tells what does not fit.
func (b both) fits(mv move) string {
	answer, want := mv(b)
	answer += fmt.Sprint(" ", b.mesh.Flying(), " fly at ", b.mesh.Now())
	want += fmt.Sprint(" ", len(b.model.air), " fly at ", b.model.now)
	if answer != want {
		return answer + ", want " + want
	}
	return ""
}

// atEnd asks both for all that is left: what each got, ahead of a Calm and behind it.
func (b both) atEnd() string {
	for range 2 {
		for sub := range len(b.model.subs) + 2 {
			if bad := b.fits(gotMove(sub)); bad != "" {
				return fmt.Sprint("Got(", sub, ") at the end = ", bad)
			}
		}
		if bad := b.fits(calmMove()); bad != "" {
			return "Calm at the end = " + bad
		}
	}
	return ""
}

// TestAllShortRows: all rows of four moves of some kinds, behind a beginning.
func TestAllShortRows(t *testing.T) {
	kinds := []move{
		publishMove(2, 2), subMove(1, 2, 0), subMove(2, 0, 1), sendMove(1, start(1)), sendMove(1, start(3)), sendMove(2, start(7)),
		landMove(0), landMove(1), loseMove(0), loseMove(1), twiceMove(0), tickMove(1), tickMove(10), gotMove(1), calmMove(),
	}
	row := make([]int, 4)
	for {
		b := newBoth(3, chain(3))
		for _, mv := range []move{publishMove(1, 0), subMove(1, 1, 0), sendMove(1, start(0))} {
			b.fits(mv)
		}
		for i, kind := range row {
			if bad := b.fits(kinds[kind]); bad != "" {
				t.Fatalf("row %v at %d: %s", row, i, bad)
			}
		}
		if bad := b.atEnd(); bad != "" {
			t.Fatalf("row %v: %s", row, bad)
		}
		at := 0
		for at < len(row) && row[at] == len(kinds)-1 {
			row[at] = 0
			at++
		}
		if at == len(row) {
			return
		}
		row[at]++
	}
}

// someEdges by lot: each two nodes have one, or not.
func someEdges(lot *rand.Rand, n int) []api.Edge {
	var l []api.Edge
	odds := 1 + lot.Intn(4)
	for _, e := range every(n) {
		if lot.Intn(4) < odds {
			e.Cost = 1 + lot.Intn(5)
			if lot.Intn(2) == 0 {
				e.A, e.B = e.B, e.A
			}
			l = append(l, e)
		}
	}
	lot.Shuffle(len(l), func(i, j int) { l[i], l[j] = l[j], l[i] })
	return l
}

// someMove by lot, with a fault now and then. seqs has the last Seq of each track.
func someMove(lot *rand.Rand, b both, seqs map[int]int) (string, move) {
	n, air := b.model.n, len(b.model.air)
	number := func(low, high int) int {
		if lot.Intn(40) == 0 {
			return []int{low - 1, high + 1}[lot.Intn(2)]
		}
		return low + lot.Intn(high-low+1)
	}
	track, at := number(1, 8), number(0, max(air-1, 0))
	if lot.Intn(3) > 0 {
		at = min(at, 2)
	}
	switch kind := lot.Intn(100); {
	case kind < 4:
		to := number(0, n-1)
		return fmt.Sprint("Publish ", track, " ", to), publishMove(track, to)
	case kind < 9:
		to, most := number(0, n-1), number(0, 3)
		return fmt.Sprint("Sub ", track, " ", to, " ", most), subMove(track, to, most)
	case kind < 34:
		p := start((seqs[track] + []int{1, 1, 1, 1, 1, 1, 0, 2, 3, -1, 90, 65535}[lot.Intn(12)]) & 65535)
		p.Layer, p.Start = number(0, 3), lot.Intn(3) > 0
		seqs[track] = p.Seq
		return fmt.Sprint("Send ", track, " ", p), sendMove(track, p)
	case kind < 70:
		return fmt.Sprint("Land ", at), landMove(at)
	case kind < 78:
		return fmt.Sprint("Lose ", at), loseMove(at)
	case kind < 82:
		return fmt.Sprint("Twice ", at), twiceMove(at)
	case kind < 91:
		by := number(1, []int{2, 5, 30, 1000}[lot.Intn(4)])
		return fmt.Sprint("Tick ", by), tickMove(by)
	case kind < 99:
		sub := number(1, max(len(b.model.subs), 1))
		return fmt.Sprint("Got ", sub), gotMove(sub)
	}
	return "Calm", calmMove()
}

// TestLongRows: by lot, of all moves.
func TestLongRows(t *testing.T) {
	for seed := range int64(400) {
		lot := rand.New(rand.NewSource(seed))
		n := 1 + lot.Intn(16)
		if lot.Intn(2) == 0 {
			n = 2 + lot.Intn(3)
		}
		edges := someEdges(lot, n)
		b := newBoth(n, edges)
		seqs := map[int]int{1: 65530, 2: 5, 3: 32760}
		for track := 1 + lot.Intn(8); track > 0; track-- {
			at := lot.Intn(n)
			b.fits(publishMove(track, at))
			b.fits(subMove(track, lot.Intn(n), lot.Intn(4)))
		}
		for i := range 300 {
			name, mv := someMove(lot, b, seqs)
			if bad := b.fits(mv); bad != "" {
				t.Fatalf("seed %d, %d nodes, %v: at %d: %s = %s", seed, n, edges, i, name, bad)
			}
		}
		if bad := b.atEnd(); bad != "" {
			t.Fatalf("seed %d, %d nodes, %v: %s", seed, n, edges, bad)
		}
	}
}

// TestCrowdedRows: by lot, where close to 1000 fly.
func TestCrowdedRows(t *testing.T) {
	for seed := range int64(10) {
		lot := rand.New(rand.NewSource(seed))
		b := newBoth(3, round(3))
		b.fits(publishMove(1, 0))
		for at := range 3 {
			b.fits(subMove(1, at, at))
		}
		seqs := map[int]int{}
		for range 495 {
			seqs[1]++
			b.fits(sendMove(1, start(seqs[1])))
		}
		for i := range 200 {
			at := lot.Intn(len(b.model.air) + 1)
			mv := []move{landMove(at), loseMove(at), twiceMove(at), twiceMove(at), twiceMove(at), tickMove(1)}[lot.Intn(6)]
			if bad := b.fits(mv); bad != "" {
				t.Fatalf("seed %d, at %d: %s", seed, i, bad)
			}
		}
		if bad := b.atEnd(); bad != "" {
			t.Fatalf("seed %d: %s", seed, bad)
		}
	}
}

// TestRowsAtTheEnd: by lot, close to MaxTime.
func TestRowsAtTheEnd(t *testing.T) {
	for seed := range int64(40) {
		lot := rand.New(rand.NewSource(seed))
		b := newBoth(3, chain(3))
		b.fits(publishMove(1, 0))
		b.fits(publishMove(2, 2))
		left := lot.Intn(60)
		for b.model.now < maxTime-left {
			b.fits(tickMove(min(1000, maxTime-left-b.model.now)))
		}
		seqs := map[int]int{}
		for i := range 60 {
			name, mv := someMove(lot, b, seqs)
			if bad := b.fits(mv); bad != "" {
				t.Fatalf("seed %d, at %d: %s = %s", seed, i, name, bad)
			}
		}
		if bad := b.atEnd(); bad != "" {
			t.Fatalf("seed %d: %s", seed, bad)
		}
	}
}
