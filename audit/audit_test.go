package audit_test

import (
	"bytes"
	"slices"
	"testing"

	"choirloft/api"
	"choirloft/audit"
	"choirloft/mesh"
	"choirloft/plain"
)

const maxTime, mostListed = 1_000_000, 1000

type packets = []api.Packet

// voice is a packet that is like others of its letter alone.
func voice(letter byte) api.Packet {
	return api.Packet{Layer: 1, Level: 5, Start: true, Body: []byte{letter, 0, 255}}
}

// voices are packets by their letters, with Seqs that go on from a first one.
func voices(first int, letters string) packets {
	var l packets
	for i := range len(letters) {
		p := voice(letters[i])
		p.Seq, p.Time = (first+i)%65536, i*20
		l = append(l, p)
	}
	return l
}

// row of n packets, no two of which are alike, with Seqs that go on from a first one.
func row(first, n int) packets {
	l := make(packets, n)
	for i := range l {
		l[i] = api.Packet{Seq: (first + i) % 65536, Time: 7 * i, Layer: i % 4, Level: i % 128, Start: i%3 == 0,
			Body: []byte{byte(i / 256), byte(i)}}
	}
	return l
}

// with is a list with one of its things another one.
func with[T any](l []T, place int, x T) []T {
	l = slices.Clone(l)
	l[place] = x
	return l
}

// every of a list whose place is a multiple.
func every(l packets, step int) packets {
	var some packets
	for i := 0; i < len(l); i += step {
		some = append(some, l[i])
	}
	return some
}

// places: the first, the one behind it, one in the midst, the one ahead of the last, and the last.
func places(n int) []int {
	return []int{0, 1, n / 2, n - 2, n - 1}
}

func rowIs(t *testing.T, l packets, place int, want api.Errno) {
	t.Helper()
	got, err := audit.Row(l)
	if got != place || plain.Told(err) != want || (err == nil) != (want == api.OK) {
		t.Errorf("Row of %d packets, %s = %d, %v, want %d, %v", len(l), brief(l), got, err, place, want)
	}
}

func checkIs(t *testing.T, sent, got packets, place int, want api.Errno) {
	t.Helper()
	at, err := audit.Check(sent, got)
	if at != place || plain.Told(err) != want || (err == nil) != (want == api.OK) {
		t.Errorf("Check(%s, %s) = %d, %v, want %d, %v", brief(sent), brief(got), at, err, place, want)
	}
}

// passes: Check has nothing against what was got, and Holes are these.
func passes(t *testing.T, sent, got packets, want ...int) {
	t.Helper()
	checkIs(t, sent, got, 0, api.OK)
	holes, err := audit.Holes(sent, got)
	if !slices.Equal(holes, want) || err != nil {
		t.Errorf("Holes(%s, %s) = %v, %v, want %v", brief(sent), brief(got), holes, err, want)
	}
}

// refused: Check tells an error at a place, and Holes tells it, too, with nothing beside it.
func refused(t *testing.T, sent, got packets, place int, want api.Errno) {
	t.Helper()
	checkIs(t, sent, got, place, want)
	holes, err := audit.Holes(sent, got)
	if len(holes) > 0 || plain.Told(err) != want {
		t.Errorf("Holes(%s, %s) = %v, %v, want %v", brief(sent), brief(got), holes, err, want)
	}
}

func delayIs(t *testing.T, sent, got []int, least, most int, want api.Errno) {
	t.Helper()
	low, high, err := audit.Delay(sent, got)
	if low != least || high != most || plain.Told(err) != want || (err == nil) != (want == api.OK) {
		t.Errorf("Delay(%v, %v) = %d, %d, %v, want %d, %d, %v", briefly(sent), briefly(got), low, high, err, least, most, want)
	}
}

// TestOfAMesh: what comes through lofts, with something lost and something twice, is what was sent.
func TestOfAMesh(t *testing.T) {
	m, err := mesh.New(3, []api.Edge{{A: 0, B: 1, Cost: 1}, {A: 1, B: 2, Cost: 1}})
	if err != nil {
		t.Fatal(err)
	}
	tell := func(err error) {
		t.Helper()
		if err != nil {
			t.Fatal(err)
		}
	}
	tell(m.Publish(1, 0))
	sub, err := m.Sub(1, 2, 1)
	tell(err)
	sent := voices(65533, "abcdef")
	for _, p := range sent {
		tell(m.Send(1, p))
	}
	tell(m.Twice(3))
	tell(m.Lose(2))
	m.Calm()
	got, err := m.Got(sub)
	tell(err)
	if len(got) != len(sent) {
		t.Fatalf("Got %d packets, want %d", len(got), len(sent))
	}
	rowIs(t, got, 0, api.OK)
	passes(t, sent, got, 0, 0, 0, 0, 0)
}

// TestOneListBothWays: a list may be handed in as both.
func TestOneListBothWays(t *testing.T) {
	l := row(65000, mostListed)
	passes(t, l, l, make([]int, mostListed-1)...)
	times := []int{0, 5, maxTime}
	delayIs(t, times, times, 0, 0, api.OK)
}

// guarded is a copy of a list with more behind its length: nobody may read or write that.
func guarded[T any](l []T, odd T) []T {
	return append(slices.Clone(l), odd, odd)[:len(l)]
}

// guardedPackets is a copy of packets, the Body of each, too, with more behind all lengths.
func guardedPackets(l packets) packets {
	l = guarded(l, voice('a'))
	for i := range l {
		l[i].Body = guarded(l[i].Body, 77)
	}
	return l
}

func samePacket(p, q api.Packet) bool {
	return p.Seq == q.Seq && p.Time == q.Time && p.Layer == q.Layer && p.Level == q.Level && p.Start == q.Start &&
		bytes.Equal(p.Body, q.Body)
}

// untouched: guarded packets are as they were, with what is behind all lengths.
func untouched(l, was packets) bool {
	for _, p := range l {
		if !bytes.Equal(p.Body[:len(p.Body)+2][len(p.Body):], []byte{77, 77}) {
			return false
		}
	}
	odd := voice('a')
	return slices.EqualFunc(l[:len(l)+2], append(slices.Clone(was), odd, odd), samePacket)
}

// TestNothingHandedInIsChanged, with an error or without.
func TestNothingHandedInIsChanged(t *testing.T) {
	lists := []packets{nil, voices(0, "a"), voices(65535, "abc"), voices(7, "cbabc"), row(5, 20), every(row(5, 20), 2),
		row(9, mostListed), row(9, mostListed+1), {{Seq: -1}, {Body: make([]byte, 1001)}}}
	for _, sent := range lists {
		for _, got := range lists {
			a, b := guardedPackets(sent), guardedPackets(got)
			audit.Row(b)
			audit.Check(a, b)
			audit.Holes(a, b)
			if !untouched(a, sent) || !untouched(b, got) {
				t.Errorf("%s and %s were changed", brief(sent), brief(got))
			}
		}
	}
	times := [][]int{nil, {3}, {9, 4, 6}, {10, 4, 7}, {-1, 5, 6}, {0, maxTime + 1, 0}, make([]int, mostListed), make([]int, mostListed+1)}
	for _, sent := range times {
		for _, got := range times {
			a, b := guarded(sent, 77), guarded(got, 77)
			audit.Delay(a, b)
			for _, pair := range [][2][]int{{a, sent}, {b, got}} {
				if l, was := pair[0], pair[1]; !slices.Equal(l[:len(l)+2], append(slices.Clone(was), 77, 77)) {
					t.Errorf("%v was changed by Delay: %v", briefly(was), briefly(l))
				}
			}
		}
	}
}

// TestWhatIsBehindIsNotRead: more than a list's length tells stands in its memory.
func TestWhatIsBehindIsNotRead(t *testing.T) {
	sent := voices(0, "abcd")
	refused(t, sent[:2], voices(0, "ac"), 1, api.ErrNone)
	passes(t, sent, voices(0, "adx")[:2], 2)
	rowIs(t, append(voices(5, "ab"), voice('x'))[:2], 0, api.OK)
	long := row(0, mostListed+1)
	rowIs(t, long[:mostListed], 0, api.OK)
	delayIs(t, []int{4, 5, 6}[:2], []int{5, 7, -1}[:2], 1, 2, api.OK)
	one := voice('a')
	one.Body = []byte("voices")[:5]
	other := voice('a')
	other.Body = []byte("voice!")[:5]
	passes(t, packets{one}, packets{other})
}

// TestHolesAreTheCallers: who writes into an answer changes neither another one nor what was handed in.
func TestHolesAreTheCallers(t *testing.T) {
	sent, got := voices(0, "abcdef"), voices(0, "acf")
	sentWas, gotWas := voices(0, "abcdef"), voices(0, "acf")
	want := []int{1, 2}
	first, err := audit.Holes(sent, got)
	if !slices.Equal(first, want) || err != nil {
		t.Fatalf("Holes = %v, %v", first, err)
	}
	second, _ := audit.Holes(sent, got)
	first = first[:cap(first)]
	for i := range first {
		first[i] = -9
	}
	third, _ := audit.Holes(sent, got)
	if !slices.Equal(second, want) || !slices.Equal(third, want) {
		t.Errorf("answers share memory: %v, %v", second, third)
	}
	if !slices.EqualFunc(sent, sentWas, samePacket) || !slices.EqualFunc(got, gotWas, samePacket) {
		t.Errorf("what was handed in has changed: %v, %v", sent, got)
	}
}

// TestNothingIsKept: what was handed in is the caller's again, and an answer hangs on the call's own lists alone.
func TestNothingIsKept(t *testing.T) {
	sent, got := voices(0, "abcdef"), voices(0, "acf")
	holes, _ := audit.Holes(sent, got)
	for _, l := range []packets{sent, got} {
		for i := range l {
			l[i].Body[0] = 'z'
			l[i].Seq = 3
		}
	}
	if !slices.Equal(holes, []int{1, 2}) {
		t.Errorf("Holes have become %v", holes)
	}
	passes(t, sent, got, 0, 0)
	rowIs(t, got, 1, api.ErrShape)
	refused(t, sent, voices(0, "abc"), 0, api.ErrNone)
	passes(t, voices(0, "abcdef"), voices(0, "acf"), 1, 2)
	from, to := []int{4, 5}, []int{4, 9}
	delayIs(t, from, to, 0, 4, api.OK)
	from[0], to[1] = 3, 5
	delayIs(t, from, to, 0, 1, api.OK)
	delayIs(t, []int{7}, []int{8}, 1, 1, api.OK)
}
