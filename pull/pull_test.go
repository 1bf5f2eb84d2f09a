package pull_test

import (
	"math"
	"math/rand"
	"slices"
	"testing"

	"choirloft/api"
	"choirloft/plain"
	"choirloft/pull"
)

const maxTime, maxList, maxTrack, maxLayer = 1_000_000, 200, 8, 3

// badWhos: numbers that nobody may have, just below 0 and just above MaxList, and far away.
var badWhos = []int{-1, -2, -maxList, math.MinInt, math.MinInt + 1,
	maxList + 1, maxList + 2, 2 * maxList, 1 << 32, 1<<32 + 1, math.MaxInt - 1, math.MaxInt}

// badTracks: likewise of tracks.
var badTracks = []int{0, -1, -2, -maxTrack, math.MinInt, math.MinInt + 1,
	maxTrack + 1, maxTrack + 2, 2 * maxTrack, 256 + 1, 1 << 32, 1<<32 + 1, math.MaxInt - 1, math.MaxInt}

// badLayers: likewise of layers.
var badLayers = []int{-1, -2, -maxLayer, math.MinInt, math.MinInt + 1,
	maxLayer + 1, maxLayer + 2, 256, 1 << 32, 1<<32 + 1, math.MaxInt - 1, math.MaxInt}

// badTimes: likewise of nows.
var badTimes = []int{-1, -2, -maxTime, math.MinInt, math.MinInt + 1,
	maxTime + 1, maxTime + 2, 2 * maxTime, 1 << 32, 1<<32 + 1, math.MaxInt - 1, math.MaxInt}

func newPull(t *testing.T, throttle int) *pull.Pull {
	t.Helper()
	p, err := pull.New(throttle)
	if p == nil || err != nil {
		t.Fatalf("New(%d) = %v, %v", throttle, p, err)
	}
	return p
}

func wants(t *testing.T, p *pull.Pull, who, track, layer int) {
	t.Helper()
	if err := p.Want(who, track, layer); err != nil {
		t.Errorf("Want(%d, %d, %d) = %v", who, track, layer, err)
	}
}

func wantRefused(t *testing.T, p *pull.Pull, who, track, layer int) {
	t.Helper()
	if err := p.Want(who, track, layer); plain.Told(err) != api.ErrRange {
		t.Errorf("Want(%d, %d, %d) = %v", who, track, layer, err)
	}
}

func drops(t *testing.T, p *pull.Pull, who, track int) {
	t.Helper()
	if err := p.Drop(who, track); err != nil {
		t.Errorf("Drop(%d, %d) = %v", who, track, err)
	}
}

func dropRefused(t *testing.T, p *pull.Pull, who, track int, want api.Errno) {
	t.Helper()
	if err := p.Drop(who, track); plain.Told(err) != want {
		t.Errorf("Drop(%d, %d) = %v, want %v", who, track, err, want)
	}
}

func needs(t *testing.T, p *pull.Pull, track, want int) {
	t.Helper()
	if got := p.Need(track); got != want {
		t.Errorf("Need(%d) = %d, want %d", track, got, want)
	}
}

func who(t *testing.T, p *pull.Pull, track int, want ...int) {
	t.Helper()
	if got := p.Who(track); !slices.Equal(got, want) {
		t.Errorf("Who(%d) = %v, want %v", track, got, want)
	}
}

// only tells that a track is wanted by somebody, and that all others are not.
func only(t *testing.T, p *pull.Pull, track, need int, want ...int) {
	t.Helper()
	for other := 1; other <= maxTrack; other++ {
		if other == track {
			needs(t, p, track, need)
			who(t, p, track, want...)
			continue
		}
		needs(t, p, other, -1)
		who(t, p, other)
	}
}

// need is an answer of Changed.
func need(track, layer int) api.Want {
	return api.Want{Who: 0, Track: track, Layer: layer}
}

func changed(t *testing.T, p *pull.Pull, want ...api.Want) {
	t.Helper()
	if got := p.Changed(); !slices.Equal(got, want) {
		t.Errorf("Changed = %v, want %v", got, want)
	}
}

func asks(t *testing.T, p *pull.Pull, track, now int, want bool) {
	t.Helper()
	if got, err := p.Ask(track, now); got != want || err != nil {
		t.Errorf("Ask(%d, %d) = %v, %v, want %v", track, now, got, err, want)
	}
}

func askRefused(t *testing.T, p *pull.Pull, track, now int, want api.Errno) {
	t.Helper()
	if got, err := p.Ask(track, now); got || plain.Told(err) != want {
		t.Errorf("Ask(%d, %d) = %v, %v, want %v", track, now, got, err, want)
	}
}

// model is the chapter's P1 and P2: all that was wanted, dropped, asked for and told stands in rows, and what holds
// is found anew in every call.
type model struct {
	throttle int
	clock    int
	wanted   []api.Want // with -1 as Layer where it was dropped
	asked    [][2]int   // track and time, of what was answered true
	told     []api.Want
}

func isWho(who int) bool {
	return 0 <= who && who <= 200
}

func isTrack(track int) bool {
	return 1 <= track && track <= 8
}

// layer is what somebody wants of a track, -1 where that is nothing.
func (m *model) layer(who, track int) int {
	for _, w := range slices.Backward(m.wanted) {
		if w.Who == who && w.Track == track {
			return w.Layer
		}
	}
	return -1
}

func (m *model) want(who, track, layer int) api.Errno {
	if !isWho(who) || !isTrack(track) || layer < 0 || 3 < layer {
		return api.ErrRange
	}
	m.wanted = append(m.wanted, api.Want{Who: who, Track: track, Layer: layer})
	return api.OK
}

func (m *model) drop(who, track int) api.Errno {
	if !isWho(who) || !isTrack(track) {
		return api.ErrRange
	}
	if m.layer(who, track) == -1 {
		return api.ErrNone
	}
	m.wanted = append(m.wanted, api.Want{Who: who, Track: track, Layer: -1})
	return api.OK
}

func (m *model) who(track int) (l []int) {
	for _, w := range m.wanted {
		if m.layer(w.Who, track) != -1 && !slices.Contains(l, w.Who) {
			l = append(l, w.Who)
		}
	}
	slices.Sort(l)
	return l
}

func (m *model) need(track int) int {
	most := -1
	for _, who := range m.who(track) {
		most = max(most, m.layer(who, track))
	}
	return most
}

func (m *model) changed() (l []api.Want) {
	for track := 1; track <= 8; track++ {
		last := -1
		for _, w := range m.told {
			if w.Track == track {
				last = w.Layer
			}
		}
		if now := m.need(track); now != last {
			l = append(l, need(track, now))
		}
	}
	m.told = append(m.told, l...)
	return l
}

func (m *model) ask(track, now int) (bool, api.Errno) {
	switch {
	case !isTrack(track) || now < 0 || 1000000 < now:
		return false, api.ErrRange
	case now < m.clock:
		return false, api.ErrState
	case m.need(track) == -1:
		return false, api.ErrNone
	}
	m.clock = now
	for _, a := range m.asked {
		if a[0] == track && a[1]+m.throttle > now {
			return false, api.OK
		}
	}
	m.asked = append(m.asked, [2]int{track, now})
	return true, api.OK
}

func TestNewAtItsEdges(t *testing.T) {
	for _, throttle := range []int{1, 2, 3, 65535, 65536, maxTime - 1, maxTime} {
		p := newPull(t, throttle)
		only(t, p, 0, 0)
		changed(t, p)
		for track := 1; track <= maxTrack; track++ {
			askRefused(t, p, track, 0, api.ErrNone)
			dropRefused(t, p, 0, track, api.ErrNone)
		}
	}
}

func TestNewOfWrongNumbers(t *testing.T) {
	for _, throttle := range append([]int{0}, badTimes...) {
		if p, err := pull.New(throttle); p != nil || plain.Told(err) != api.ErrRange {
			t.Errorf("New(%d) = %v, %v", throttle, p, err)
		}
	}
}

// TestWantAtItsEdges: everybody, every track, every layer.
func TestWantAtItsEdges(t *testing.T) {
	for one := 0; one <= maxList; one++ {
		for track := 1; track <= maxTrack; track++ {
			for layer := 0; layer <= maxLayer; layer++ {
				p := newPull(t, 1)
				wants(t, p, one, track, layer)
				only(t, p, track, layer, one)
				changed(t, p, need(track, layer))
				drops(t, p, one, track)
				only(t, p, 0, 0)
				changed(t, p, need(track, -1))
			}
		}
	}
}

// TestWantOfWrongNumbers: one of them wrong, two, and all; nothing is changed then.
func TestWantOfWrongNumbers(t *testing.T) {
	p := newPull(t, 1)
	wants(t, p, 7, 2, 1)
	for _, one := range append([]int{0, 7, maxList}, badWhos...) {
		for _, track := range append([]int{1, 2, maxTrack}, badTracks...) {
			for _, layer := range append([]int{0, 2, maxLayer}, badLayers...) {
				if slices.Contains(badWhos, one) || slices.Contains(badTracks, track) || slices.Contains(badLayers, layer) {
					wantRefused(t, p, one, track, layer)
				}
			}
		}
	}
	only(t, p, 2, 1, 7)
	changed(t, p, need(2, 1))
	changed(t, p)
}

// TestWantInPlaceOfAnother: a layer that is greater, lesser and the same.
func TestWantInPlaceOfAnother(t *testing.T) {
	for first := 0; first <= maxLayer; first++ {
		for second := 0; second <= maxLayer; second++ {
			p := newPull(t, 1)
			wants(t, p, 9, 4, first)
			wants(t, p, 9, 4, second)
			only(t, p, 4, second, 9)
			changed(t, p, need(4, second))
			// There is one that it wants, not two.
			drops(t, p, 9, 4)
			only(t, p, 0, 0)
			dropRefused(t, p, 9, 4, api.ErrNone)
		}
	}
}

func TestOneWantsSeveralTracks(t *testing.T) {
	p := newPull(t, 1)
	for track := 1; track <= maxTrack; track++ {
		wants(t, p, 5, track, track%4)
	}
	for track := 1; track <= maxTrack; track++ {
		needs(t, p, track, track%4)
		who(t, p, track, 5)
	}
	changed(t, p, need(1, 1), need(2, 2), need(3, 3), need(4, 0), need(5, 1), need(6, 2), need(7, 3), need(8, 0))
	// Another layer of one track, and no other: those of the others stay.
	wants(t, p, 5, 3, 0)
	drops(t, p, 5, 6)
	for track := 1; track <= maxTrack; track++ {
		switch track {
		case 3:
			needs(t, p, 3, 0)
			who(t, p, 3, 5)
		case 6:
			needs(t, p, 6, -1)
			who(t, p, 6)
		default:
			needs(t, p, track, track%4)
			who(t, p, track, 5)
		}
	}
	changed(t, p, need(3, 0), need(6, -1))
}

func TestSeveralWantOneTrack(t *testing.T) {
	p := newPull(t, 1)
	wants(t, p, 3, 8, 1)
	wants(t, p, 0, 8, 2)
	wants(t, p, maxList, 8, 0)
	wants(t, p, 4, 8, 2)
	only(t, p, 8, 2, 0, 3, 4, maxList)
	changed(t, p, need(8, 2))
	// What one wants in place of another layer does not touch what the others want.
	wants(t, p, 0, 8, 0)
	only(t, p, 8, 2, 0, 3, 4, maxList)
	wants(t, p, 4, 8, 0)
	only(t, p, 8, 1, 0, 3, 4, maxList)
	wants(t, p, maxList, 8, 3)
	only(t, p, 8, 3, 0, 3, 4, maxList)
}

// TestEverybodyWants: all there may be, of all tracks.
func TestEverybodyWants(t *testing.T) {
	p := newPull(t, 1)
	var all []int
	for one := maxList; one >= 0; one-- {
		for track := 1; track <= maxTrack; track++ {
			wants(t, p, one, track, (one+track)%4)
		}
		all = append([]int{one}, all...)
	}
	for track := 1; track <= maxTrack; track++ {
		needs(t, p, track, maxLayer)
		who(t, p, track, all...)
	}
	for _, one := range all {
		for track := 1; track <= maxTrack; track++ {
			drops(t, p, one, track)
			who(t, p, track, all[one+1:]...)
		}
	}
	only(t, p, 0, 0)
	changed(t, p)
}

func TestDrop(t *testing.T) {
	p := newPull(t, 1)
	wants(t, p, 0, 1, 2)
	wants(t, p, 1, 1, 3)
	wants(t, p, 2, 8, 0)
	// By one who wants another track alone, by one who wants none.
	dropRefused(t, p, 2, 1, api.ErrNone)
	dropRefused(t, p, 0, 8, api.ErrNone)
	dropRefused(t, p, 0, 2, api.ErrNone)
	dropRefused(t, p, 3, 1, api.ErrNone)
	dropRefused(t, p, maxList, maxTrack, api.ErrNone)
	who(t, p, 1, 0, 1)
	who(t, p, 8, 2)

	drops(t, p, 0, 1)
	who(t, p, 1, 1)
	needs(t, p, 1, 3)
	// By one who dropped it already.
	dropRefused(t, p, 0, 1, api.ErrNone)
	who(t, p, 1, 1)
	// A layer of 0 is one, too.
	drops(t, p, 2, 8)
	dropRefused(t, p, 2, 8, api.ErrNone)
	only(t, p, 1, 3, 1)

	// What was dropped may be wanted again, and dropped again.
	wants(t, p, 0, 1, 0)
	only(t, p, 1, 3, 0, 1)
	drops(t, p, 0, 1)
	dropRefused(t, p, 0, 1, api.ErrNone)
	drops(t, p, 1, 1)
	only(t, p, 0, 0)
}

// TestDropOfWrongNumbers: one wrong, or both, also of one who wants nothing: ErrRange is ahead of ErrNone.
func TestDropOfWrongNumbers(t *testing.T) {
	p := newPull(t, 1)
	for range 2 {
		for _, one := range append([]int{0, 1, 7, maxList}, badWhos...) {
			for _, track := range badTracks {
				dropRefused(t, p, one, track, api.ErrRange)
			}
		}
		for _, one := range badWhos {
			for track := 1; track <= maxTrack; track++ {
				dropRefused(t, p, one, track, api.ErrRange)
			}
		}
		// And once more with something wanted at the edges.
		for _, one := range []int{0, maxList} {
			wants(t, p, one, 1, 1)
			wants(t, p, one, maxTrack, 2)
		}
	}
	needs(t, p, 1, 1)
	needs(t, p, maxTrack, 2)
	who(t, p, 1, 0, maxList)
	who(t, p, maxTrack, 0, maxList)
}

func TestNeed(t *testing.T) {
	p := newPull(t, 1)
	needs(t, p, 3, -1)
	wants(t, p, 10, 3, 0)
	needs(t, p, 3, 0)
	wants(t, p, 11, 3, 2)
	needs(t, p, 3, 2)
	wants(t, p, 12, 3, 1)
	needs(t, p, 3, 2)
	// The one who wants most wants less, and drops it.
	wants(t, p, 11, 3, 0)
	needs(t, p, 3, 1)
	drops(t, p, 12, 3)
	needs(t, p, 3, 0)
	drops(t, p, 10, 3)
	needs(t, p, 3, 0)
	drops(t, p, 11, 3)
	needs(t, p, 3, -1)
	// One of two who want most drops it: the other one stays.
	wants(t, p, 10, 3, 3)
	wants(t, p, 11, 3, 3)
	drops(t, p, 10, 3)
	needs(t, p, 3, 3)
}

// TestNoSuchTrack: nobody wants one that there is none of, whatever others are wanted.
func TestNoSuchTrack(t *testing.T) {
	p := newPull(t, 1)
	for range 2 {
		for _, track := range badTracks {
			needs(t, p, track, -1)
			who(t, p, track)
		}
		for track := 1; track <= maxTrack; track++ {
			wants(t, p, 0, track, 3)
			wants(t, p, maxList, track, 0)
		}
	}
}

// TestWhoRises: in whatever order they came.
func TestWhoRises(t *testing.T) {
	all := []int{0, 1, 2, 9, 10, 11, 64, 99, 100, 128, maxList - 1, maxList}
	random := rand.New(rand.NewSource(1))
	for range 200 {
		p := newPull(t, 1)
		for _, place := range random.Perm(len(all)) {
			wants(t, p, all[place], 6, random.Intn(4))
		}
		who(t, p, 6, all...)
		gone := random.Intn(len(all))
		drops(t, p, all[gone], 6)
		who(t, p, 6, slices.Concat(all[:gone], all[gone+1:])...)
		wants(t, p, all[gone], 6, 0)
		who(t, p, 6, all...)
	}
}

func TestChanged(t *testing.T) {
	p := newPull(t, 1)
	changed(t, p)
	changed(t, p)
	wants(t, p, 4, 2, 1)
	changed(t, p, need(2, 1))
	changed(t, p)
	// What changes nothing of what is needed.
	wants(t, p, 4, 2, 1)
	wants(t, p, 5, 2, 0)
	wants(t, p, 6, 2, 1)
	drops(t, p, 4, 2)
	changed(t, p)
	// Greater, less, and nobody again.
	wants(t, p, 5, 2, 3)
	changed(t, p, need(2, 3))
	wants(t, p, 5, 2, 2)
	changed(t, p, need(2, 2))
	drops(t, p, 5, 2)
	changed(t, p, need(2, 1))
	drops(t, p, 6, 2)
	changed(t, p, need(2, -1))
	changed(t, p)
	wants(t, p, 6, 2, 0)
	changed(t, p, need(2, 0))
	changed(t, p)
}

// TestChangedAndBack: what went away and came back to what it was between two calls is none.
func TestChangedAndBack(t *testing.T) {
	p := newPull(t, 1)
	wants(t, p, 4, 2, 1)
	drops(t, p, 4, 2)
	changed(t, p)
	wants(t, p, 4, 2, 1)
	changed(t, p, need(2, 1))
	drops(t, p, 4, 2)
	wants(t, p, 9, 2, 1)
	changed(t, p)
	wants(t, p, 9, 2, 3)
	wants(t, p, 9, 2, 0)
	wants(t, p, 9, 2, 1)
	changed(t, p)
	// The last one counts, once, over several.
	wants(t, p, 9, 2, 3)
	wants(t, p, 9, 2, 0)
	wants(t, p, 9, 2, 2)
	changed(t, p, need(2, 2))
	changed(t, p)
}

func TestChangedOfSeveralTracks(t *testing.T) {
	p := newPull(t, 1)
	for _, track := range []int{8, 3, 5, 1} {
		wants(t, p, 20-track, track, track%4)
	}
	changed(t, p, need(1, 1), need(3, 3), need(5, 1), need(8, 0))
	changed(t, p)
	wants(t, p, 1, 8, 2)
	wants(t, p, 1, 2, 0)
	drops(t, p, 17, 3)
	wants(t, p, 1, 5, 1)
	changed(t, p, need(2, 0), need(3, -1), need(8, 2))
	changed(t, p)
}

// TestOtherCallsLeaveChanged: neither Need nor Who nor Ask tells what Changed has to tell.
func TestOtherCallsLeaveChanged(t *testing.T) {
	p := newPull(t, 3)
	wants(t, p, 2, 7, 2)
	needs(t, p, 7, 2)
	who(t, p, 7, 2)
	asks(t, p, 7, 0, true)
	asks(t, p, 7, 1, false)
	changed(t, p, need(7, 2))
	asks(t, p, 7, 3, true)
	changed(t, p)
}

// TestAskAgain: at first at any time, not at once, not one short of throttle later, just throttle later, and more.
func TestAskAgain(t *testing.T) {
	for _, throttle := range []int{1, 2, 3, 10, maxTime / 2, maxTime - 1, maxTime} {
		for _, start := range []int{0, 1, 9, throttle - 1, throttle, maxTime - 1, maxTime} {
			for _, later := range []int{0, 1, throttle / 2, throttle - 1, throttle, throttle + 1, 2*throttle - 1, 2 * throttle, 5 * throttle} {
				if start+later > maxTime {
					continue
				}
				p := newPull(t, throttle)
				wants(t, p, 1, 5, 0)
				asks(t, p, 5, start, true)
				asks(t, p, 5, start, false)
				asks(t, p, 5, start+later, later >= throttle)
			}
		}
	}
}

// TestFalseDoesNotMakeItLonger: however often it was asked between, it is throttle from the last true on.
func TestFalseDoesNotMakeItLonger(t *testing.T) {
	for _, throttle := range []int{1, 2, 3, 7} {
		p := newPull(t, throttle)
		wants(t, p, 1, 5, 2)
		for now := range 40 {
			asks(t, p, 5, now, now%throttle == 0)
			asks(t, p, 5, now, false)
		}
	}
	// Nor does it count from when it would have been let through, but from when it was.
	p := newPull(t, 10)
	wants(t, p, 1, 5, 2)
	asks(t, p, 5, 3, true)
	asks(t, p, 5, 17, true)
	asks(t, p, 5, 23, false)
	asks(t, p, 5, 26, false)
	asks(t, p, 5, 27, true)
	asks(t, p, 5, 36, false)
	asks(t, p, 5, 37, true)
}

// TestEachTrackIsAskedForItself: one of which a start was asked for does not hold another one back.
func TestEachTrackIsAskedForItself(t *testing.T) {
	p := newPull(t, maxTrack+2)
	for track := 1; track <= maxTrack; track++ {
		wants(t, p, 1, track, 0)
	}
	for track := 1; track <= maxTrack; track++ {
		asks(t, p, track, track, true)
		for other := 1; other < track; other++ {
			asks(t, p, other, track, false)
		}
	}
	for track := 1; track <= maxTrack; track++ {
		now := track + maxTrack + 2
		for other := track + 1; other <= maxTrack; other++ {
			asks(t, p, other, now, false)
		}
		asks(t, p, track, now, true)
	}
}

// TestAskWhoeverWants: it is throttle of the track, not of one who wants it, nor of a layer.
func TestAskWhoeverWants(t *testing.T) {
	p := newPull(t, 5)
	wants(t, p, 1, 3, 0)
	asks(t, p, 3, 10, true)
	wants(t, p, 2, 3, 3)
	asks(t, p, 3, 12, false)
	drops(t, p, 1, 3)
	asks(t, p, 3, 14, false)
	wants(t, p, 2, 3, 1)
	asks(t, p, 3, 14, false)
	changed(t, p, need(3, 1))
	asks(t, p, 3, 14, false)
	asks(t, p, 3, 15, true)
}

// TestAskBehindDrop: a track that was dropped by all is refused; that it was asked for holds when it is wanted again.
func TestAskBehindDrop(t *testing.T) {
	p := newPull(t, 5)
	wants(t, p, 1, 3, 0)
	wants(t, p, 2, 3, 1)
	wants(t, p, 1, 4, 1)
	asks(t, p, 3, 10, true)
	drops(t, p, 1, 3)
	asks(t, p, 3, 11, false)
	drops(t, p, 2, 3)
	askRefused(t, p, 3, 11, api.ErrNone)
	askRefused(t, p, 3, 15, api.ErrNone)
	askRefused(t, p, 3, 900, api.ErrNone)
	wants(t, p, 7, 3, 2)
	asks(t, p, 3, 14, false)
	asks(t, p, 3, 15, true)

	// What was refused while nobody wanted it was not asked for.
	drops(t, p, 7, 3)
	askRefused(t, p, 3, 20, api.ErrNone)
	wants(t, p, 7, 3, 0)
	asks(t, p, 3, 20, true)
}

func TestAskOfWhatNobodyWants(t *testing.T) {
	p := newPull(t, 2)
	for track := 1; track <= maxTrack; track++ {
		for other := 1; other <= maxTrack; other++ {
			if other != track {
				wants(t, p, 6, other, 3)
			}
		}
		askRefused(t, p, track, 0, api.ErrNone)
		askRefused(t, p, track, maxTime, api.ErrNone)
		for other := 1; other <= maxTrack; other++ {
			if other != track {
				drops(t, p, 6, other)
			}
		}
	}
}

func TestAskAtTheEdgesOfTime(t *testing.T) {
	p := newPull(t, maxTime)
	wants(t, p, 6, 1, 3)
	wants(t, p, 6, 2, 3)
	refuse := func() {
		t.Helper()
		for _, now := range badTimes {
			askRefused(t, p, 1, now, api.ErrRange)
			askRefused(t, p, 2, now, api.ErrRange)
		}
	}
	refuse()
	asks(t, p, 1, 0, true)
	refuse()
	asks(t, p, 1, maxTime-1, false)
	asks(t, p, 1, maxTime, true)
	asks(t, p, 1, maxTime, false)
	asks(t, p, 2, maxTime, true)
	refuse()
	askRefused(t, p, 1, maxTime-1, api.ErrState)
	askRefused(t, p, 2, 0, api.ErrState)
}

// TestNowGoesBack: each call that was answered moves the clock of all tracks, by whatever it answers.
func TestNowGoesBack(t *testing.T) {
	p := newPull(t, 100)
	behind := func(last int) {
		t.Helper()
		for _, now := range []int{last - 1, last / 2, 0} {
			for track := 1; track <= maxTrack; track++ {
				askRefused(t, p, track, now, api.ErrState)
			}
		}
	}
	wants(t, p, 6, 1, 3)
	wants(t, p, 6, 2, 0)
	asks(t, p, 1, 10, true)
	behind(10)
	asks(t, p, 1, 20, false)
	behind(20)
	asks(t, p, 2, 30, true)
	behind(30)
	asks(t, p, 2, 40, false)
	behind(40)
	// Nor do other calls set it back.
	drops(t, p, 6, 1)
	wants(t, p, 6, 1, 1)
	changed(t, p, need(1, 1), need(2, 0))
	behind(40)
	asks(t, p, 1, 40, false)
	asks(t, p, 1, 110, true)
	behind(110)
}

// TestFaultsDoNotMoveTheClock: less than in a call that told an error may be, and what it asked for it did not.
func TestFaultsDoNotMoveTheClock(t *testing.T) {
	p := newPull(t, 5)
	wants(t, p, 6, 1, 3)
	refuse := func() {
		t.Helper()
		askRefused(t, p, 2, 500, api.ErrNone)
		askRefused(t, p, maxTrack, maxTime, api.ErrNone)
		for _, track := range badTracks {
			askRefused(t, p, track, 500, api.ErrRange)
		}
		for _, now := range badTimes {
			askRefused(t, p, 1, now, api.ErrRange)
		}
	}
	refuse()
	asks(t, p, 1, 0, true)
	refuse()
	asks(t, p, 1, 4, false)
	askRefused(t, p, 1, 3, api.ErrState)
	refuse()
	asks(t, p, 1, 5, true)
	askRefused(t, p, 1, 4, api.ErrState)
	refuse()
	asks(t, p, 1, 9, false)
	asks(t, p, 1, 10, true)
}

// TestAskOfTwoFaults: ErrRange, of track or now, then ErrState, then ErrNone.
func TestAskOfTwoFaults(t *testing.T) {
	p := newPull(t, 5)
	wants(t, p, 6, 1, 3)
	asks(t, p, 1, 100, true)
	for _, track := range badTracks {
		for _, now := range append([]int{0, 50, 99, 100, 101, maxTime}, badTimes...) {
			askRefused(t, p, track, now, api.ErrRange)
		}
	}
	for track := 1; track <= maxTrack; track++ {
		for _, now := range badTimes {
			askRefused(t, p, track, now, api.ErrRange)
		}
		for _, now := range []int{0, 50, 99} {
			askRefused(t, p, track, now, api.ErrState)
		}
		if track > 1 {
			askRefused(t, p, track, 100, api.ErrNone)
			askRefused(t, p, track, 101, api.ErrNone)
		}
	}
	asks(t, p, 1, 104, false)
	asks(t, p, 1, 105, true)
}

// TestRefusedCallsChangeNothing: not what is wanted, nor what is told, nor what was asked for, nor the clock.
func TestRefusedCallsChangeNothing(t *testing.T) {
	p := newPull(t, 5)
	refuse := func() {
		t.Helper()
		wantRefused(t, p, -1, 1, 3)
		wantRefused(t, p, maxList+1, 1, 3)
		wantRefused(t, p, 3, 0, 3)
		wantRefused(t, p, 3, maxTrack+1, 3)
		wantRefused(t, p, 3, 1, -1)
		wantRefused(t, p, 3, 1, maxLayer+1)
		dropRefused(t, p, -1, 1, api.ErrRange)
		dropRefused(t, p, maxList+1, 1, api.ErrRange)
		dropRefused(t, p, 3, 0, api.ErrRange)
		dropRefused(t, p, 3, maxTrack+1, api.ErrRange)
		dropRefused(t, p, 3, 2, api.ErrNone)
		dropRefused(t, p, 4, 1, api.ErrNone)
		askRefused(t, p, 0, 700, api.ErrRange)
		askRefused(t, p, maxTrack+1, 700, api.ErrRange)
		askRefused(t, p, 1, -1, api.ErrRange)
		askRefused(t, p, 1, maxTime+1, api.ErrRange)
		askRefused(t, p, 2, 700, api.ErrNone)
	}
	refuse()
	changed(t, p)
	wants(t, p, 3, 1, 1)
	refuse()
	only(t, p, 1, 1, 3)
	changed(t, p, need(1, 1))
	refuse()
	changed(t, p)
	asks(t, p, 1, 10, true)
	refuse()
	askRefused(t, p, 1, 9, api.ErrState)
	asks(t, p, 1, 14, false)
	refuse()
	asks(t, p, 1, 15, true)
	refuse()
	only(t, p, 1, 1, 3)
	drops(t, p, 3, 1)
	changed(t, p, need(1, -1))
}

// call is one of Want, Drop, Changed and Ask, by its first letter.
type call struct {
	kind    byte
	a, b, c int
}

// play asks both, and holds the answers against each other.
func (c call) play(t *testing.T, p *pull.Pull, m *model) {
	t.Helper()
	switch c.kind {
	case 'W':
		no := m.want(c.a, c.b, c.c)
		if err := p.Want(c.a, c.b, c.c); plain.Told(err) != no {
			t.Errorf("Want(%d, %d, %d) = %v, want %v", c.a, c.b, c.c, err, no)
		}
	case 'D':
		no := m.drop(c.a, c.b)
		if err := p.Drop(c.a, c.b); plain.Told(err) != no {
			t.Errorf("Drop(%d, %d) = %v, want %v", c.a, c.b, err, no)
		}
	case 'A':
		want, no := m.ask(c.a, c.b)
		if got, err := p.Ask(c.a, c.b); got != want || plain.Told(err) != no {
			t.Errorf("Ask(%d, %d) = %v, %v, want %v, %v", c.a, c.b, got, err, want, no)
		}
	default:
		changed(t, p, m.changed()...)
	}
}

// TestAllShortRows: all rows of up to five calls of some kinds, against the model.
func TestAllShortRows(t *testing.T) {
	calls := []call{
		{'W', 0, 1, 0}, {'W', 0, 1, 2}, {'W', 1, 1, 1}, {'W', 0, 2, 1},
		{'D', 0, 1, 0}, {'D', 1, 1, 0}, {kind: 'C'},
		{'A', 1, 0, 0}, {'A', 1, 1, 0}, {'A', 1, 2, 0}, {'A', 2, 2, 0},
	}
	var row func(made []call, more int)
	row = func(made []call, more int) {
		if more > 0 {
			for _, c := range calls {
				row(append(made[:len(made):len(made)], c), more-1)
			}
			return
		}
		p, m := newPull(t, 2), &model{throttle: 2}
		for _, c := range made {
			c.play(t, p, m)
		}
		for track := 1; track <= 2; track++ {
			needs(t, p, track, m.need(track))
			who(t, p, track, m.who(track)...)
		}
		if t.Failed() {
			t.Fatalf("behind %v", made)
		}
	}
	for length := range 6 {
		row(nil, length)
	}
}

// one gives any of a list.
func one(random *rand.Rand, l []int) int {
	return l[random.Intn(len(l))]
}

// lot is a call of some kind, with wrong numbers now and then.
func (m *model) lot(random *rand.Rand) call {
	some := func(good, bad []int) int {
		if random.Intn(40) == 0 {
			return one(random, bad)
		}
		return one(random, good)
	}
	someone := some([]int{0, 1, 2, 100, maxList - 1, maxList}, badWhos)
	track := some([]int{1, 1, 2, 5, 7, 8}, badTracks)
	switch random.Intn(9) {
	case 0, 1:
		return call{'W', someone, track, some([]int{0, 1, 2, 3}, badLayers)}
	case 2, 3, 4:
		return call{'D', someone, track, 0}
	case 5:
		return call{kind: 'C'}
	}
	clock := m.clock
	return call{'A', track, some([]int{clock, clock, clock + 1, clock + 2, clock - 1, clock + m.throttle}, badTimes), 0}
}

// TestAsTheModel: long rows of all calls, and each time what is needed, by whom.
func TestAsTheModel(t *testing.T) {
	random := rand.New(rand.NewSource(1))
	for range 300 {
		throttle := one(random, []int{1, 2, 3, 4, 9, maxTime - 1, maxTime})
		p, m := newPull(t, throttle), &model{throttle: throttle}
		start := one(random, []int{0, 0, 500, maxTime - 40, maxTime})
		for _, c := range []call{{'W', 1, 1, 1}, {'A', 1, start, 0}, {'D', 1, 1, 0}} {
			c.play(t, p, m)
		}
		for i := range 120 {
			c := m.lot(random)
			c.play(t, p, m)
			for track := 0; track <= maxTrack+1; track++ {
				needs(t, p, track, m.need(track))
				who(t, p, track, m.who(track)...)
			}
			if t.Failed() {
				t.Fatalf("call %d: %c %d %d %d, throttle %d", i, c.kind, c.a, c.b, c.c, throttle)
			}
		}
	}
}

// TestPullsAreApart: what is wanted, told and asked for of one is not of another.
func TestPullsAreApart(t *testing.T) {
	a, b := newPull(t, 5), newPull(t, 7)
	wants(t, a, 1, 3, 2)
	only(t, b, 0, 0)
	changed(t, b)
	changed(t, a, need(3, 2))
	dropRefused(t, b, 1, 3, api.ErrNone)
	askRefused(t, b, 3, 50, api.ErrNone)
	asks(t, a, 3, 50, true)
	wants(t, b, 2, 3, 1)
	only(t, a, 3, 2, 1)
	only(t, b, 3, 1, 2)
	changed(t, a)
	changed(t, b, need(3, 1))
	asks(t, b, 3, 49, true)
	asks(t, b, 3, 55, false)
	asks(t, a, 3, 55, true)
	asks(t, b, 3, 56, true)
	drops(t, b, 2, 3)
	only(t, a, 3, 2, 1)
	only(t, b, 0, 0)
}

// TestMemoryIsApart: who writes into what was answered changes nothing, neither here nor in another answer.
func TestMemoryIsApart(t *testing.T) {
	p := newPull(t, 5)
	for someone := range 5 {
		wants(t, p, someone, 3, someone%3)
		wants(t, p, someone, someone+4, 1)
	}
	spoil := func(l []int) {
		l = l[:cap(l)]
		for i := range l {
			l[i] = -77
		}
	}
	spoilWants := func(l []api.Want) {
		l = l[:cap(l)]
		for i := range l {
			l[i] = api.Want{Who: -77, Track: -77, Layer: -77}
		}
	}
	spoil(p.Who(3))
	who(t, p, 3, 0, 1, 2, 3, 4)
	needs(t, p, 3, 2)
	first, second := p.Who(3), p.Who(3)
	spoil(first)
	if !slices.Equal(second, []int{0, 1, 2, 3, 4}) {
		t.Errorf("two answers share memory: %v", second)
	}

	told := p.Changed()
	kept := slices.Clone(told)
	wants(t, p, 9, 4, 3)
	wants(t, p, 9, 2, 0)
	later := p.Changed()
	if !slices.Equal(told, kept) || !slices.Equal(later, []api.Want{need(2, 0), need(4, 3)}) {
		t.Errorf("Changed = %v, then %v", told, later)
	}
	spoilWants(told)
	if !slices.Equal(later, []api.Want{need(2, 0), need(4, 3)}) {
		t.Errorf("two answers share memory: %v", later)
	}
	spoilWants(later)
	changed(t, p)
	who(t, p, 4, 0, 9)
	drops(t, p, 9, 4)
	changed(t, p, need(4, 1))
}
