package mesh_test

import (
	"fmt"
	"math"
	"slices"
	"testing"

	"choirloft/api"
	"choirloft/mesh"
	"choirloft/plain"
)

// call of a Mesh: what it answers, and how many fly at which time behind it, as a text; and its error.
type call func(m *mesh.Mesh) (string, error)

func seen(m *mesh.Mesh, err error, rest ...any) (string, error) {
	return fmt.Sprint(rest, err, m.Flying(), m.Now()), err
}

func publishCall(track, node int) call {
	return func(m *mesh.Mesh) (string, error) { return seen(m, m.Publish(track, node)) }
}

func subCall(track, node, most int) call {
	return func(m *mesh.Mesh) (string, error) {
		id, err := m.Sub(track, node, most)
		return seen(m, err, id)
	}
}

func sendCall(track int, p api.Packet) call {
	return func(m *mesh.Mesh) (string, error) { return seen(m, m.Send(track, p)) }
}

func landCall(at int) call {
	return func(m *mesh.Mesh) (string, error) { return seen(m, m.Land(at)) }
}

func loseCall(at int) call {
	return func(m *mesh.Mesh) (string, error) { return seen(m, m.Lose(at)) }
}

func twiceCall(at int) call {
	return func(m *mesh.Mesh) (string, error) { return seen(m, m.Twice(at)) }
}

func tickCall(by int) call {
	return func(m *mesh.Mesh) (string, error) { return seen(m, m.Tick(by)) }
}

func gotCall(sub int) call {
	return func(m *mesh.Mesh) (string, error) {
		l, err := m.Got(sub)
		return seen(m, err, l)
	}
}

func calmCall() call {
	return func(m *mesh.Mesh) (string, error) { return seen(m, nil, m.Calm()) }
}

// lifeOf is a Mesh of five nodes: a chain of four with a short cut, and one that no edge reaches.
func lifeOf(t *testing.T) *mesh.Mesh {
	t.Helper()
	return newMesh(t, 5, []api.Edge{{A: 0, B: 1, Cost: 2}, {A: 1, B: 2, Cost: 2}, {A: 3, B: 2, Cost: 1}, {A: 0, B: 2, Cost: 5}})
}

// life is a row of calls, none of which tells an error, with a bit of everything.
func life() []call {
	other := start(3)
	other.Layer, other.Start = 1, false
	return []call{
		publishCall(1, 0), publishCall(2, 3), publishCall(3, 4),
		subCall(1, 3, 0), subCall(2, 0, 3), subCall(1, 1, 1), subCall(3, 4, 0),
		sendCall(1, start(0)), sendCall(1, start(1)), sendCall(2, start(65535)), sendCall(3, start(7)),
		tickCall(1), landCall(0), landCall(0), loseCall(1), twiceCall(0), landCall(1),
		sendCall(1, start(2)), sendCall(1, other), sendCall(2, start(0)), landCall(2), loseCall(0), gotCall(1), gotCall(4),
		tickCall(3), landCall(3), landCall(0), twiceCall(1), landCall(1), gotCall(3), tickCall(11),
		calmCall(), gotCall(2), sendCall(1, start(5)), sendCall(1, start(6)), loseCall(0), subCall(1, 2, 0), tickCall(1000),
	}
}

// ends asks a Mesh for all that may be asked.
func ends() []call {
	return []call{
		landCall(0), twiceCall(0), tickCall(2), gotCall(1), gotCall(2), gotCall(3), gotCall(4), gotCall(5),
		publishCall(4, 2), subCall(4, 0, 0), sendCall(4, start(1)), sendCall(1, start(4)), sendCall(2, start(2)), calmCall(),
		gotCall(1), gotCall(2), gotCall(3), gotCall(4), gotCall(5), gotCall(6), calmCall(),
	}
}

// play plays calls on a Mesh, and gives what they answer.
func play(t *testing.T, m *mesh.Mesh, calls []call) []string {
	t.Helper()
	var answers []string
	for i, c := range calls {
		answer, err := c(m)
		if err != nil {
			t.Fatalf("call %d answers %v", i, err)
		}
		answers = append(answers, answer)
	}
	return answers
}

// wrong calls: they tell an error wherever in a life they stand, and what that is at its end.
func wrong() map[string]struct {
	call call
	want api.Errno
} {
	l := map[string]struct {
		call call
		want api.Errno
	}{}
	add := func(c call, want api.Errno, name ...any) {
		l[fmt.Sprint(name...)] = struct {
			call call
			want api.Errno
		}{c, want}
	}
	for _, track := range []int{0, 9} {
		add(publishCall(track, 0), api.ErrRange, "Publish of track ", track)
		add(subCall(track, 0, 0), api.ErrRange, "Sub of track ", track)
		add(sendCall(track, start(9)), api.ErrRange, "Send of track ", track)
	}
	for _, node := range []int{-1, 5, 16} {
		add(publishCall(5, node), api.ErrRange, "Publish at ", node)
		add(publishCall(1, node), api.ErrRange, "Publish again at ", node)
		add(subCall(1, node, 0), api.ErrRange, "Sub at ", node)
	}
	for _, most := range []int{-1, 4} {
		add(subCall(1, 0, most), api.ErrRange, "Sub up to ", most)
		add(subCall(6, 0, most), api.ErrRange, "Sub of a track that begins nowhere, up to ", most)
	}
	add(subCall(6, 0, 0), api.ErrNone, "Sub of a track that begins nowhere")
	add(subCall(1, 4, 0), api.ErrNone, "Sub of a track that does not come there")
	add(sendCall(6, start(9)), api.ErrNone, "Send of a track that begins nowhere")
	add(sendCall(6, api.Packet{Seq: -1}), api.ErrNone, "Send of a packet that is none, of a track that begins nowhere")
	for i, bad := range badPackets {
		add(sendCall(1, bad.p), bad.want, "Send of the bad packet ", i)
	}
	for _, at := range []int{-1, 99, 1000, math.MinInt, math.MaxInt} {
		add(landCall(at), api.ErrRange, "Land ", at)
		add(loseCall(at), api.ErrRange, "Lose ", at)
		add(twiceCall(at), api.ErrRange, "Twice ", at)
	}
	for _, by := range []int{0, -1, 1001, math.MinInt, math.MaxInt} {
		add(tickCall(by), api.ErrRange, "Tick ", by)
	}
	for _, sub := range []int{0, -1, 99, math.MaxInt} {
		add(gotCall(sub), api.ErrNone, "Got ", sub)
	}
	return l
}

// TestBehindAnError: all is answered as if that call had not been, wherever it stands.
func TestBehindAnError(t *testing.T) {
	calls := append(life(), ends()...)
	want := play(t, lifeOf(t), calls)
	for name, w := range wrong() {
		for at := range len(calls) + 1 {
			m := lifeOf(t)
			answers := play(t, m, calls[:at])
			for range 2 {
				_, err := w.call(m)
				if e := plain.Told(err); e == api.OK || at == len(life()) && e != w.want {
					t.Errorf("%s behind %d calls = %v, want %v", name, at, err, w.want)
				}
			}
			if answers = append(answers, play(t, m, calls[at:])...); !slices.Equal(answers, want) {
				t.Errorf("%s behind %d calls makes a difference", name, at)
			}
		}
	}
}

// TestBehindErrorsOfTheirPlace: errors that only some places have.
func TestBehindErrorsOfTheirPlace(t *testing.T) {
	calls := append(life(), ends()...)
	want := play(t, lifeOf(t), calls)
	for at := 3; at <= len(calls); at++ {
		m := lifeOf(t)
		answers := play(t, m, calls[:at])
		for track := 1; track <= 3; track++ {
			for node := range 5 {
				publishRefused(t, m, track, node, api.ErrClash)
			}
		}
		for _, call := range ofAt {
			if err := call(m, m.Flying()); plain.Told(err) != api.ErrRange {
				t.Errorf("behind %d calls what flies behind all = %v", at, err)
			}
		}
		if answers = append(answers, play(t, m, calls[at:])...); !slices.Equal(answers, want) {
			t.Errorf("behind %d calls errors make a difference", at)
		}
	}
}

// TestBehindFull: at a node where MaxSubs are, and where 1000 fly.
func TestBehindFull(t *testing.T) {
	full := func(refused bool) []string {
		m := newMesh(t, 2, chain(2))
		publishes(t, m, 1, 0)
		for i := range 20 {
			subs(t, m, 1, 1, 0, 1+i)
		}
		sends(t, m, 1, starts(numbers(1, 1000)...)...)
		if refused {
			subRefused(t, m, 1, 1, 0, api.ErrFull)
			for _, at := range []int{0, 500, 999} {
				if err := m.Twice(at); plain.Told(err) != api.ErrFull {
					t.Errorf("Twice(%d) = %v, want ErrFull", at, err)
				}
			}
		}
		return play(t, m, []call{landCall(0), twiceCall(998), subCall(1, 0, 0), landCall(999), loseCall(1), tickCall(1), gotCall(1), calmCall(), gotCall(20), gotCall(21)})
	}
	if answers, want := full(true), full(false); !slices.Equal(answers, want) {
		t.Errorf("answers %v, want %v", answers, want)
	}
}

// TestBehindTheEnd: where time cannot go on.
func TestBehindTheEnd(t *testing.T) {
	late := func(refused bool) []string {
		m := newMesh(t, 2, chain(2))
		publishes(t, m, 1, 0)
		tickTo(t, m, maxTime-13)
		subs(t, m, 1, 1, 0, 1)
		sends(t, m, 1, starts(1, 2, 3)...)
		loses(t, m, 1)
		ticks(t, m, 1)
		if refused {
			for _, by := range []int{13, 14, 1000} {
				tickRefused(t, m, by)
			}
		}
		return play(t, m, []call{landCall(0), landCall(0), tickCall(1), gotCall(1), tickCall(11), gotCall(1), calmCall(), gotCall(1)})
	}
	if answers, want := late(true), late(false); !slices.Equal(answers, want) {
		t.Errorf("answers %v, want %v", answers, want)
	}
}

// TestTwoMeshes: they do not know of each other, though they are of the same edges and are told the same.
func TestTwoMeshes(t *testing.T) {
	calls := append(life(), ends()...)
	want := play(t, lifeOf(t), calls)
	a, b := lifeOf(t), lifeOf(t)
	var ofA, ofB []string
	for i, c := range calls {
		ofA = append(ofA, play(t, a, []call{c})...)
		if i%2 == 1 {
			ofB = append(ofB, play(t, b, calls[i-1:i+1])...)
		}
	}
	ofB = append(ofB, play(t, b, calls[len(ofB):])...)
	if !slices.Equal(ofA, want) || !slices.Equal(ofB, want) {
		t.Errorf("one answers %v, the other one %v, want %v", ofA, ofB, want)
	}
}

// TestTheSameAgain: what a Mesh answers hangs on its calls alone.
func TestTheSameAgain(t *testing.T) {
	calls := append(life(), ends()...)
	want := play(t, lifeOf(t), calls)
	for range 50 {
		if answers := play(t, lifeOf(t), calls); !slices.Equal(answers, want) {
			t.Fatalf("answers %v, want %v", answers, want)
		}
	}
}

// roomy is a list with memory behind its length, and that memory.
func roomy[E any](l []E, filler E) (list, behind []E) {
	all := append(slices.Clone(l), slices.Repeat([]E{filler}, 40)...)
	return all[:len(l)], all[len(l):]
}

// TestEdgesAreNotKept: nor written, nor read or written behind their length.
func TestEdgesAreNotKept(t *testing.T) {
	filler := edge(0, 3)
	edges, behind := roomy(chain(4), filler)
	m := newMesh(t, 4, edges)
	asTheyWere := func(want []api.Edge) {
		t.Helper()
		if !slices.Equal(edges, want) || !slices.Equal(behind, slices.Repeat([]api.Edge{filler}, 40)) {
			t.Errorf("edges are %v, and behind them %v", edges, behind)
		}
	}
	asTheyWere(chain(4))
	copy(edges, []api.Edge{{A: 9, B: 9}, edge(0, 1), edge(0, 1)})
	publishes(t, m, 1, 0)
	subs(t, m, 1, 3, 0, 1)
	sends(t, m, 1, start(1))
	for range 3 {
		flying(t, m, 1)
		lands(t, m, 0)
	}
	got(t, m, 1, rowed(1, 0, 1)...)
	asTheyWere([]api.Edge{{A: 9, B: 9}, edge(0, 1), edge(0, 1)})
	newRefused(t, 4, edges, api.ErrRange)
	newRefused(t, 4, edges[1:], api.ErrClash)
	asTheyWere([]api.Edge{{A: 9, B: 9}, edge(0, 1), edge(0, 1)})
}

// TestEdgesOfTwo: two Meshes of one list, which is another one in between.
func TestEdgesOfTwo(t *testing.T) {
	edges := chain(3)
	a := newMesh(t, 3, edges)
	edges[0].B = 2
	b := newMesh(t, 3, edges)
	edges[0], edges[1] = api.Edge{}, api.Edge{}
	for _, m := range []*mesh.Mesh{a, b} {
		publishes(t, m, 1, 0)
		sends(t, m, 1, start(1))
		flying(t, m, 1)
	}
	subs(t, a, 1, 1, 0, 1)
	subs(t, b, 1, 1, 0, 1)
	lands(t, a, 0)
	lands(t, b, 0)
	got(t, a, 1, rowed(1, 0, 1)...) // next to 0
	got(t, b, 1)                    // behind 2
	lands(t, b, 0)
	got(t, b, 1, rowed(1, 0, 1)...)
}

// TestBodiesAreNotKept: nor written, nor read or written behind their length, also of a packet that is refused.
func TestBodiesAreNotKept(t *testing.T) {
	m := newMesh(t, 2, chain(2))
	publishes(t, m, 1, 0)
	subs(t, m, 1, 0, 0, 1)
	subs(t, m, 1, 1, 0, 2)
	for seq := 1; seq <= 3; seq++ {
		p := start(seq)
		was := slices.Clone(p.Body)
		body, behind := roomy(p.Body, 70)
		p.Body = body
		sends(t, m, 1, p)
		sendRefused(t, m, 2, p, api.ErrNone)
		p.Level = 128
		sendRefused(t, m, 1, p, api.ErrRange)
		if !slices.Equal(body, was) || !slices.Equal(behind, slices.Repeat([]byte{70}, 40)) {
			t.Errorf("%v became %v, and behind it %v", was, body, behind)
		}
		for i := range body {
			body[i] ^= 255
		}
	}
	loses(t, m, 1)
	doubles(t, m, 1)
	m.Calm()
	got(t, m, 1, rowed(1, 0, 1, 2, 3)...)
	got(t, m, 2, rowed(1, 0, 1, 2, 3)...)
}

// TestWhatComesOutIsTheCallers: no two lists share memory, nor does any with what is kept, or flies.
func TestWhatComesOutIsTheCallers(t *testing.T) {
	m := newMesh(t, 3, chain(3))
	publishes(t, m, 1, 0)
	for sub := 1; sub <= 6; sub++ {
		subs(t, m, 1, (sub-1)%3, 0, sub)
	}
	sends(t, m, 1, starts(1, 2, 3)...)
	doubles(t, m, 0)
	lands(t, m, 0, 0, 0)
	flying(t, m, 4) // 1 once more to 1; 1, 2 and 3 to 2
	loses(t, m, 2)
	lands(t, m, 1, 1)
	var lists [][]byte
	for sub := 1; sub <= 6; sub++ {
		l, err := m.Got(sub)
		if len(l) == 0 || err != nil {
			t.Fatalf("Got(%d) = %v, %v", sub, l, err)
		}
		for _, p := range l {
			lists = append(lists, p.Body)
		}
		for i := range l[:cap(l)] {
			l[:cap(l)][i] = api.Packet{Seq: 99}
		}
	}
	shareNothing(t, lists)
	// What is kept and what flies is as it was: 2 comes again, and 3 has waited.
	sends(t, m, 1, start(4))
	m.Calm()
	for sub := 1; sub <= 6; sub++ {
		if (sub-1)%3 == 2 {
			got(t, m, sub, rowed(1, 1, 2, 3, 4)...)
		} else {
			got(t, m, sub, rowed(1, 3, 4)...)
		}
	}
}

// shareNothing writes over each list, with what lies behind its length, and looks at all others.
func shareNothing(t *testing.T, lists [][]byte) {
	t.Helper()
	for i, l := range lists {
		var ahead [][]byte
		for _, other := range lists {
			ahead = append(ahead, slices.Clone(other))
		}
		for j := range l[:cap(l)] {
			l[:cap(l)][j] ^= 255
		}
		for j, other := range lists {
			if j != i && !slices.Equal(other, ahead[j]) {
				t.Errorf("list %d shares memory with list %d", j, i)
			}
		}
	}
}
