package mesh

import (
	"slices"
	"testing"

	"choirloft/api"
	"choirloft/frame"
	"choirloft/pack"
)

// TestWhatFlies: frames of the epoch 1, from whom, and to whom, with where they began and how many hops.
func TestWhatFlies(t *testing.T) {
	m, err := New(4, []api.Edge{{A: 3, B: 2, Cost: 1}, {A: 2, B: 0, Cost: 1}, {A: 2, B: 1, Cost: 1}})
	if err != nil {
		t.Fatal(err)
	}
	if err := m.Publish(6, 3); err != nil {
		t.Fatal(err)
	}
	p := api.Packet{Seq: 9, Time: 8, Layer: 2, Level: 7, Start: true, Body: []byte("voice")}
	body, err := pack.Encode(p)
	if err != nil {
		t.Fatal(err)
	}
	flies := func(i, from, to, hops int) {
		t.Helper()
		want, err := frame.Encode(api.Frame{Track: 6, Origin: 3, Epoch: 1, Hops: hops, Body: body})
		if err != nil {
			t.Fatal(err)
		}
		if f := m.flying[i]; f.from != from || f.To != to || !slices.Equal(f.Body, want) {
			t.Errorf("as %d flies %v, want %v from %d to %d", i, f, want, from, to)
		}
	}
	if err := m.Send(6, p); err != nil {
		t.Fatal(err)
	}
	flies(0, 3, 2, 1)
	if err := m.Twice(0); err != nil {
		t.Fatal(err)
	}
	flies(1, 3, 2, 1)
	if err := m.Land(0); err != nil {
		t.Fatal(err)
	}
	flies(0, 3, 2, 1)
	flies(1, 2, 0, 2)
	flies(2, 2, 1, 2)
}

// TestLandingThatIsNotHeard: whatever a node has against it, it flies no more, without an error, and changes nothing.
func TestLandingThatIsNotHeard(t *testing.T) {
	body, err := pack.Encode(api.Packet{Seq: 9, Start: true})
	if err != nil {
		t.Fatal(err)
	}
	framed := func(track, epoch int) []byte {
		b, err := frame.Encode(api.Frame{Track: track, Epoch: epoch, Hops: 1, Body: body})
		if err != nil {
			t.Fatal(err)
		}
		return b
	}
	broken := framed(1, 1)
	broken[7] ^= 1
	for name, f := range map[string]flight{
		"nothing":           {from: 0, Letter: api.Letter{To: 1}},
		"no Kind":           {from: 0, Letter: api.Letter{To: 1, Body: []byte{9, 1, 1}}},
		"a broken frame":    {from: 0, Letter: api.Letter{To: 1, Body: broken}},
		"another epoch":     {from: 0, Letter: api.Letter{To: 1, Body: framed(1, 2)}},
		"no such track":     {from: 0, Letter: api.Letter{To: 1, Body: framed(2, 1)}},
		"from no parent":    {from: 2, Letter: api.Letter{To: 1, Body: framed(1, 1)}},
		"where it begins":   {from: 1, Letter: api.Letter{To: 0, Body: framed(1, 1)}},
		"a Key from no kid": {from: 0, Letter: api.Letter{To: 1, Body: []byte{api.Key, 1, 0}}},
	} {
		m, err := New(3, []api.Edge{{A: 0, B: 1, Cost: 1}, {A: 1, B: 2, Cost: 1}})
		if err != nil {
			t.Fatal(err)
		}
		if err := m.Publish(1, 0); err != nil {
			t.Fatal(err)
		}
		if _, err := m.Sub(1, 1, 0); err != nil {
			t.Fatal(err)
		}
		m.flying.add(f)
		if err := m.Land(0); err != nil || m.Flying() != 0 {
			t.Errorf("%s: Land = %v, and %d fly", name, err, m.Flying())
		}
		if l, err := m.Got(1); len(l) != 0 || err != nil {
			t.Errorf("%s: Got = %v, %v", name, l, err)
		}
		m.flying.add(f)
		if rounds := m.Calm(); rounds != 4 || m.Now() != 12 {
			// It landed in the first round, and in the second one the Key that the first Tick let out.
			t.Errorf("%s: Calm = %d, and it is %d", name, rounds, m.Now())
		}
	}
}

// TestNothingIsHeldOn: what landed or was lost is not kept, so that its bytes are let go of.
func TestNothingIsHeldOn(t *testing.T) {
	for _, at := range []int{0, 1, 2} {
		all := flights{}
		for i := range 3 {
			all.add(flight{from: i, Letter: api.Letter{To: 9, Body: []byte{byte(i)}}})
		}
		memory := all[:3]
		f, err := all.take(at)
		if err != nil || f.from != at || len(all) != 2 {
			t.Fatalf("take(%d) = %v, %v, and %d are left", at, f, err, len(all))
		}
		held := 0
		for _, f := range memory {
			if f.Body != nil {
				held++
			}
		}
		if held != 2 {
			t.Errorf("behind take(%d) there are %d", at, held)
		}
	}
}
