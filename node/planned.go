package node

import (
	"maps"
	"slices"

	"choirloft/api"
	"choirloft/frame"
	"choirloft/gaps"
	"choirloft/pack"
	"choirloft/ring"
	"choirloft/serial"
)

const (
	again = 3 // each so long what is lacking is asked for
	tries = 3 // so often
	round = api.MaxSeq + 1
)

// planned is what is known of a track.
type planned struct {
	track, epoch int
	parent       int
	kids         []int
	gaps         *gaps.Gaps
	ring         *ring.Ring
	ways         map[int]way // of all that the Ring has
}

// way is how a packet goes on from here.
type way struct {
	origin, hops int
}

// newPlanned is a track of which nothing came yet, at an epoch.
func newPlanned(track, epoch int) (*planned, error) {
	lacking, err := gaps.New(again, tries)
	if err != nil {
		return nil, err
	}
	kept, err := ring.New(api.MaxRing)
	if err != nil {
		return nil, err
	}
	return &planned{track: track, epoch: epoch, gaps: lacking, ring: kept, ways: make(map[int]way)}, nil
}

// numberOf gives the number of a Seq: the nearest one to the greatest that came. The first of all has room below it,
// so that what is a little older has a number, too.
func (t *planned) numberOf(seq int) int {
	// The Ring has kept all that was above everything ahead of it, so that the greatest of all is its Top.
	greatest := t.ring.Top()
	if greatest < 0 {
		return round + seq
	}
	// Neither of them can be out of range: what came is up to MaxLong, and a Seq was checked.
	number, _ := serial.Unwrap(greatest, seq)
	return number
}

// keep keeps a packet, with its way, to be told again, unless it is too old for that.
func (t *planned) keep(number int, p api.Packet, w way) {
	if kept, err := t.ring.Put(number, p); err != nil || !kept {
		return
	}
	t.ways[number] = w
	low := t.ring.Low()
	maps.DeleteFunc(t.ways, func(old int, _ way) bool { return old < low })
}

// frameOf gives the bytes of a packet as it goes to kids.
func (t *planned) frameOf(p api.Packet, w way) ([]byte, error) {
	body, err := pack.Encode(p)
	if err != nil {
		return nil, err
	}
	return frame.Encode(api.Frame{Track: t.track, Origin: w.origin, Epoch: t.epoch, Hops: w.hops, Body: body})
}

// seqsOf gives the Seqs of numbers, rising: where numbers go round, theirs is another order. Numbers that are a round
// apart have the same one.
func seqsOf(numbers []int) []int {
	var seqs []int
	for _, number := range numbers {
		seqs = append(seqs, number%round)
	}
	slices.Sort(seqs)
	return slices.Compact(seqs)
}
