package audit_test

import (
	"math"
	"slices"
	"testing"

	"choirloft/api"
)

// flaw makes a packet one that chapter 3's Check tells something of.
type flaw struct {
	name string
	make func(p *api.Packet)
	want api.Errno
}

func flaws() []flaw {
	return []flaw{
		{"Seq -1", func(p *api.Packet) { p.Seq = -1 }, api.ErrRange},
		{"Seq 65536", func(p *api.Packet) { p.Seq = 65536 }, api.ErrRange},
		{"Seq a round on", func(p *api.Packet) { p.Seq += 65536 }, api.ErrRange},
		{"Seq a round back", func(p *api.Packet) { p.Seq -= 65536 }, api.ErrRange},
		{"least Seq", func(p *api.Packet) { p.Seq = math.MinInt }, api.ErrRange},
		{"greatest Seq", func(p *api.Packet) { p.Seq = math.MaxInt }, api.ErrRange},
		{"Time -1", func(p *api.Packet) { p.Time = -1 }, api.ErrRange},
		{"Time 2^32", func(p *api.Packet) { p.Time = 1 << 32 }, api.ErrRange},
		{"Layer -1", func(p *api.Packet) { p.Layer = -1 }, api.ErrRange},
		{"Layer 4", func(p *api.Packet) { p.Layer = 4 }, api.ErrRange},
		{"Level -1", func(p *api.Packet) { p.Level = -1 }, api.ErrRange},
		{"Level 128", func(p *api.Packet) { p.Level = 128 }, api.ErrRange},
		{"Body of 1001", func(p *api.Packet) { p.Body = make([]byte, 1001) }, api.ErrFull},
		{"Body of 1001 and Level 128", func(p *api.Packet) { p.Body, p.Level = make([]byte, 1001), 128 }, api.ErrRange},
	}
}

// flawed is a row with a flaw at a place.
func flawed(l packets, place int, f flaw) packets {
	p := l[place]
	f.make(&p)
	return with(l, place, p)
}

// broken is a row that is off by a number at a place, and goes on from there.
func broken(l packets, place, by int) packets {
	l = slices.Clone(l)
	for i := place; i < len(l); i++ {
		l[i].Seq = (l[i].Seq + by + 65536) % 65536
	}
	return l
}

// modelRow is the chapter's Row, a list of faults first, of which the first is told.
func modelRow(l packets) (int, api.Errno) {
	if len(l) >= 1001 {
		return 0, api.ErrFull
	}
	told := make([]api.Errno, len(l))
	for i, p := range l {
		if i > 0 && p.Seq != l[i-1].Seq+1 && (p.Seq != 0 || l[i-1].Seq != 65535) {
			told[i] = api.ErrShape
		}
		if len(p.Body) > 1000 {
			told[i] = api.ErrFull
		}
		if p.Seq < 0 || p.Seq > 65535 || p.Time < 0 || p.Time > 1<<32-1 || p.Layer < 0 || p.Layer > 3 || p.Level < 0 || p.Level > 127 {
			told[i] = api.ErrRange
		}
	}
	for i, e := range told {
		if e != api.OK {
			return i, e
		}
	}
	return 0, api.OK
}

func TestRowOfPacketsThatGoOn(t *testing.T) {
	rowIs(t, nil, 0, api.OK)
	rowIs(t, packets{}, 0, api.OK)
	for _, first := range []int{0, 1, 255, 256, 32767, 64535, 64536, 64537, 65000, 65534, 65535} {
		for _, n := range []int{1, 2, 3, 100, 999, 1000} {
			rowIs(t, row(first, n), 0, api.OK)
		}
	}
}

// TestRowAsksForNothingElse: all else may go up and down, from one edge to the other.
func TestRowAsksForNothingElse(t *testing.T) {
	rowIs(t, packets{
		{Seq: 65534, Time: 1<<32 - 1, Layer: 3, Level: 127, Start: true, Body: make([]byte, 1000)},
		{Seq: 65535},
		{Seq: 0, Time: 1<<32 - 1, Layer: 3, Level: 127, Start: true, Body: make([]byte, 1000)},
		{Seq: 1, Time: 1<<32 - 1, Layer: 3, Level: 127, Start: true, Body: make([]byte, 1000)},
		{Seq: 2, Time: 5, Body: []byte{}},
	}, 0, api.OK)
}

func TestRowOfTooMany(t *testing.T) {
	for _, n := range []int{1001, 1002, 2000, 65537} {
		rowIs(t, row(0, n), 0, api.ErrFull)
		rowIs(t, make(packets, n), 0, api.ErrFull)
	}
}

// TestRowOfTwo: of every Seq, what may stand behind it.
func TestRowOfTwo(t *testing.T) {
	for seq := range 65536 {
		rowIs(t, packets{{Seq: seq}, {Seq: (seq + 1) % 65536}}, 0, api.OK)
		for _, by := range []int{0, 2, 3, 255, 256, 257, 32767, 32768, 32769, 65279, 65534, 65535} {
			rowIs(t, packets{{Seq: seq}, {Seq: (seq + by) % 65536}}, 1, api.ErrShape)
		}
	}
}

// TestRowThatDoesNotGoOn: it stays, goes back, or leaves out, at each place but the first.
func TestRowThatDoesNotGoOn(t *testing.T) {
	for _, first := range []int{0, 700, 65535, 65500, 64600} {
		for _, n := range []int{2, 3, 10, 100, 1000} {
			for _, place := range places(n) {
				if place == 0 {
					continue
				}
				for _, by := range []int{-1, -2, 1, 2, 32768} {
					l := broken(row(first, n), place, by)
					rowIs(t, l, place, api.ErrShape)
					if place < n-1 {
						rowIs(t, broken(l, n-1, 1), place, api.ErrShape)
					}
				}
			}
		}
	}
}

// TestRowOfOneThatIsOff: the one behind it goes on from the one ahead of it, or does not.
func TestRowOfOneThatIsOff(t *testing.T) {
	l := row(65530, 20)
	for place := range l {
		p := l[place]
		p.Seq = (p.Seq + 5) % 65536
		rowIs(t, with(l, place, p), max(place, 1), api.ErrShape)
	}
}

// TestRowOfPacketsThatAreNone, at each place: what chapter 3 says of them is told, with the place.
func TestRowOfPacketsThatAreNone(t *testing.T) {
	for _, f := range flaws() {
		for _, n := range []int{1, 2, 5, 1000} {
			for _, place := range places(n) {
				if place < 0 || place >= n {
					continue
				}
				rowIs(t, flawed(row(65534, n), place, f), place, f.want)
			}
		}
	}
}

// TestRowOfTooManyWithOtherFaults: that there are too many is told first of all.
func TestRowOfTooManyWithOtherFaults(t *testing.T) {
	for _, f := range flaws() {
		for _, place := range places(1001) {
			rowIs(t, flawed(row(3, 1001), place, f), 0, api.ErrFull)
			rowIs(t, broken(row(3, 1001), place, 1), 0, api.ErrFull)
		}
	}
}

// TestRowOfSeveralFaults: at one place what chapter 3 says goes first, at several the first place.
func TestRowOfSeveralFaults(t *testing.T) {
	l := row(65533, 8)
	for _, f := range flaws() {
		for place := 1; place < 8; place++ {
			rowIs(t, flawed(broken(l, place, 1), place, f), place, f.want)
			for other := 1; other < place; other++ {
				rowIs(t, flawed(broken(l, other, 1), place, f), other, api.ErrShape)
				rowIs(t, broken(flawed(l, other, f), place, 1), other, f.want)
			}
			rowIs(t, broken(flawed(l, 0, f), place, 1), 0, f.want)
		}
	}
	for _, first := range flaws() {
		for _, second := range flaws() {
			rowIs(t, flawed(flawed(l, 2, first), 6, second), 2, first.want)
		}
	}
}

// TestRowOfAllShortRows holds Row against the model, with all rows of up to four packets of several kinds.
func TestRowOfAllShortRows(t *testing.T) {
	kinds := packets{{Seq: 0}, {Seq: 1}, {Seq: 2}, {Seq: 65535}, {Seq: 65534}, {Seq: 65536}, {Seq: -1},
		{Seq: 0, Level: 128}, {Seq: 1, Body: make([]byte, 1001)}, {Seq: 2, Time: -1, Body: make([]byte, 1001)}}
	rows := []packets{nil}
	for len(rows) > 0 {
		l := rows[0]
		rows = rows[1:]
		place, want := modelRow(l)
		rowIs(t, l, place, want)
		if len(l) == 4 {
			continue
		}
		for _, p := range kinds {
			rows = append(rows, append(slices.Clone(l), p))
		}
	}
}
