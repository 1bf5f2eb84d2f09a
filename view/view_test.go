package view_test

import (
	"math"
	"math/rand"
	"slices"
	"testing"

	"choirloft/api"
	"choirloft/plain"
	"choirloft/view"
)

const maxNodes, maxTime = 16, 1_000_000

type crew = []api.Member

func up(node, version int) api.Member {
	return api.Member{Node: node, Version: version, Up: true}
}

func down(node, version int) api.Member {
	return api.Member{Node: node, Version: version}
}

// badNodes: numbers that no Node may have, just below 0 and just above 15, and far away.
var badNodes = []int{-1, -2, -maxNodes, math.MinInt, math.MinInt + 1,
	maxNodes, maxNodes + 1, 2 * maxNodes, 1 << 32, math.MaxInt - 1, math.MaxInt}

// badVersions: likewise of Versions.
var badVersions = []int{0, -1, -maxTime, math.MinInt, math.MinInt + 1,
	maxTime + 1, maxTime + 2, 1 << 32, math.MaxInt - 1, math.MaxInt}

// all is a view of all nodes, with Versions of their own.
func all() crew {
	var l crew
	for node := range maxNodes {
		l = append(l, api.Member{Node: node, Version: node + 1, Up: node%3 != 0})
	}
	return l
}

// with is a list with one of its members another one.
func with(l crew, place int, m api.Member) crew {
	l = slices.Clone(l)
	l[place] = m
	return l
}

// badView is a list that is no view, and what is told of it.
type badView struct {
	l    crew
	want api.Errno
}

func badViews() []badView {
	return []badView{
		{append(all(), up(15, 1)), api.ErrFull},
		{append(all(), up(16, 1)), api.ErrFull},
		{append(crew{up(0, 1)}, all()...), api.ErrFull},
		{append(crew{up(-1, 0)}, all()...), api.ErrFull},
		{make(crew, maxNodes+1), api.ErrFull},
		{make(crew, 300), api.ErrFull},
		{slices.Repeat(crew{down(4, 9)}, maxNodes+1), api.ErrFull},
		{make(crew, maxNodes), api.ErrRange},
		{crew{{}}, api.ErrRange},
		{crew{up(-1, 1)}, api.ErrRange},
		{crew{down(16, 1)}, api.ErrRange},
		{crew{up(0, 0)}, api.ErrRange},
		{crew{down(15, maxTime+1)}, api.ErrRange},
		{crew{up(16, maxTime+1)}, api.ErrRange},
		{crew{up(3, 1), up(16, 1)}, api.ErrRange},
		{crew{up(3, 1), up(-1, 1)}, api.ErrRange},
		{crew{up(3, 1), up(2, 0)}, api.ErrRange},
		{crew{up(3, 1), up(3, maxTime+1)}, api.ErrRange},
		{crew{up(3, 1), up(4, 0), up(3, 1)}, api.ErrRange},
		{with(all(), 15, up(15, 0)), api.ErrRange},
		{with(all(), 15, up(16, 1)), api.ErrRange},
		{with(all(), 0, up(-1, 1)), api.ErrRange},
		{crew{up(3, 1), up(3, 1)}, api.ErrShape},
		{crew{up(0, 1), down(0, 2)}, api.ErrShape},
		{crew{up(15, 1), down(15, 1)}, api.ErrShape},
		{crew{up(3, 1), up(2, 1)}, api.ErrShape},
		{crew{up(1, 1), up(0, 1)}, api.ErrShape},
		{crew{up(3, 1), up(5, 1), up(4, 1)}, api.ErrShape},
		{crew{up(3, 1), up(5, 1), up(3, 1)}, api.ErrShape},
		{crew{up(3, 1), up(2, 1), up(4, 0)}, api.ErrShape},
		{crew{up(3, 1), up(3, 1), up(16, 1)}, api.ErrShape},
		{with(all(), 15, up(14, 1)), api.ErrShape},
		{with(all(), 15, up(0, 1)), api.ErrShape},
		{with(all(), 1, down(0, 1)), api.ErrShape},
	}
}

// goodViews are views of many kinds.
func goodViews() []crew {
	return []crew{
		nil,
		{},
		{up(0, 1)},
		{down(0, maxTime)},
		{up(15, maxTime)},
		{down(15, 1)},
		{down(7, 500)},
		{up(0, maxTime), up(15, maxTime)},
		{up(0, 2), down(1, 1)},
		{down(2, 3), up(5, 3), down(9, 4), up(14, 1)},
		{up(1, 9), up(2, 8), up(3, 7), up(13, 6)},
		all()[1:],
		all()[:15],
		all(),
		with(all(), 8, down(8, maxTime)),
	}
}

func check(t *testing.T, l crew, want api.Errno) {
	t.Helper()
	if err := view.Check(l); plain.Told(err) != want || (err == nil) != (want == api.OK) {
		t.Errorf("Check(%v) = %v, want %v", l, err, want)
	}
}

// merges asks Merge both ways.
func merges(t *testing.T, a, b, want crew) {
	t.Helper()
	if got, err := view.Merge(a, b); !slices.Equal(got, want) || err != nil {
		t.Errorf("Merge(%v, %v) = %v, %v, want %v", a, b, got, err, want)
	}
	if got, err := view.Merge(b, a); !slices.Equal(got, want) || err != nil {
		t.Errorf("Merge(%v, %v) = %v, %v, want %v", b, a, got, err, want)
	}
}

func bumps(t *testing.T, l crew, node int, up bool, want crew) {
	t.Helper()
	if got, err := view.Bump(l, node, up); !slices.Equal(got, want) || err != nil {
		t.Errorf("Bump(%v, %d, %v) = %v, %v, want %v", l, node, up, got, err, want)
	}
}

func bumpRefused(t *testing.T, l crew, node int, want api.Errno) {
	t.Helper()
	for _, up := range []bool{false, true} {
		if got, err := view.Bump(l, node, up); got != nil || plain.Told(err) != want {
			t.Errorf("Bump(%v, %d, %v) = %v, %v, want %v", l, node, up, got, err, want)
		}
	}
}

func alive(t *testing.T, l crew, want ...int) {
	t.Helper()
	if got, err := view.Alive(l); !slices.Equal(got, want) || err != nil {
		t.Errorf("Alive(%v) = %v, %v, want %v", l, got, err, want)
	}
}

func newer(t *testing.T, a, b crew, want ...api.Member) {
	t.Helper()
	if got, err := view.Newer(a, b); !slices.Equal(got, want) || err != nil {
		t.Errorf("Newer(%v, %v) = %v, %v, want %v", a, b, got, err, want)
	}
}

// bothRefused asks Merge and Newer.
func bothRefused(t *testing.T, a, b crew, want api.Errno) {
	t.Helper()
	if got, err := view.Merge(a, b); got != nil || plain.Told(err) != want {
		t.Errorf("Merge(%v, %v) = %v, %v, want %v", a, b, got, err, want)
	}
	if got, err := view.Newer(a, b); got != nil || plain.Told(err) != want {
		t.Errorf("Newer(%v, %v) = %v, %v, want %v", a, b, got, err, want)
	}
}

// mustMerge is Merge of views that may be.
func mustMerge(t *testing.T, a, b crew) crew {
	l, err := view.Merge(a, b)
	if err != nil {
		t.Fatalf("Merge(%v, %v): %v", a, b, err)
	}
	return l
}

// modelCheck is the chapter's Check, with each member held against all that are ahead of it.
func modelCheck(l crew) api.Errno {
	if len(l) >= 17 {
		return api.ErrFull
	}
	for i, m := range l {
		if m.Node < 0 || m.Node > 15 || m.Version < 1 || m.Version > 1000000 {
			return api.ErrRange
		}
		for _, ahead := range l[:i] {
			if ahead.Node >= m.Node {
				return api.ErrShape
			}
		}
	}
	return api.OK
}

// modelMerge is the chapter's Merge of any number of views: node by node, of all that is told of it.
func modelMerge(views ...crew) crew {
	var merged crew
	for node := range 16 {
		var told crew
		for _, m := range slices.Concat(views...) {
			if m.Node == node {
				told = append(told, m)
			}
		}
		if len(told) == 0 {
			continue
		}
		best := 0
		for _, m := range told {
			best = max(best, m.Version)
		}
		isUp := true
		for _, m := range told {
			isUp = isUp && (m.Version < best || m.Up)
		}
		merged = append(merged, api.Member{Node: node, Version: best, Up: isUp})
	}
	return merged
}

// modelNewer is what the chapter says of it, word for word.
func modelNewer(a, b crew) crew {
	var l crew
	merged := modelMerge(a, b)
	for _, m := range b {
		if slices.Contains(merged, m) && !slices.Contains(a, m) {
			l = append(l, m)
		}
	}
	return l
}

func modelAlive(l crew) []int {
	var nodes []int
	for node := range 16 {
		if slices.ContainsFunc(l, func(m api.Member) bool { return m.Node == node && m.Up }) {
			nodes = append(nodes, node)
		}
	}
	return nodes
}

func modelBump(l crew, node int, up bool) (crew, api.Errno) {
	version := 0
	bumped := crew{}
	for _, m := range l {
		if m.Node == node {
			version = m.Version
			continue
		}
		bumped = append(bumped, m)
	}
	if node < 0 || node > 15 {
		return nil, api.ErrRange
	}
	if version == 1000000 {
		return nil, api.ErrFull
	}
	bumped = append(bumped, api.Member{Node: node, Version: version + 1, Up: up})
	slices.SortFunc(bumped, func(a, b api.Member) int { return a.Node - b.Node })
	return bumped, api.OK
}

// asModel holds all that may be asked of two views against the model.
func asModel(t *testing.T, a, b crew) {
	if got, err := view.Merge(a, b); !slices.Equal(got, modelMerge(a, b)) || err != nil {
		t.Fatalf("Merge(%v, %v) = %v, %v, want %v", a, b, got, err, modelMerge(a, b))
	}
	if got, err := view.Newer(a, b); !slices.Equal(got, modelNewer(a, b)) || err != nil {
		t.Fatalf("Newer(%v, %v) = %v, %v, want %v", a, b, got, err, modelNewer(a, b))
	}
	if got, err := view.Alive(a); !slices.Equal(got, modelAlive(a)) || err != nil {
		t.Fatalf("Alive(%v) = %v, %v, want %v", a, got, err, modelAlive(a))
	}
}

// bumpAsModel holds Bump of all nodes, and of those just beside them, against the model.
func bumpAsModel(t *testing.T, l crew) {
	for node := -1; node <= maxNodes; node++ {
		for _, up := range []bool{false, true} {
			want, wrong := modelBump(l, node, up)
			if got, err := view.Bump(l, node, up); !slices.Equal(got, want) || plain.Told(err) != wrong {
				t.Fatalf("Bump(%v, %d, %v) = %v, %v, want %v, %v", l, node, up, got, err, want, wrong)
			}
		}
	}
}

// kinds is all that may be told of a node with one of these Versions. The first is nothing.
func kinds(node int, versions ...int) []crew {
	l := []crew{nil}
	for _, version := range versions {
		l = append(l, crew{up(node, version)}, crew{down(node, version)})
	}
	return l
}

// allViews is all views of these nodes, which rise, with these Versions.
func allViews(nodes []int, versions ...int) []crew {
	views := []crew{nil}
	for _, node := range nodes {
		var longer []crew
		for _, v := range views {
			for _, k := range kinds(node, versions...) {
				longer = append(longer, slices.Concat(v, k))
			}
		}
		views = longer
	}
	return views
}

// byLot is a view by lot, with few Versions, so that they are often equal.
func byLot(lot *rand.Rand) crew {
	var l crew
	share := 1 + lot.Intn(4)
	for node := range maxNodes {
		if lot.Intn(4) >= share {
			continue
		}
		version := 1 + lot.Intn(3)
		if lot.Intn(6) == 0 {
			version = maxTime - lot.Intn(2)
		}
		l = append(l, api.Member{Node: node, Version: version, Up: lot.Intn(2) == 0})
	}
	return l
}

func TestCheckOfViews(t *testing.T) {
	for _, l := range goodViews() {
		check(t, l, api.OK)
	}
	for many := range maxNodes + 1 {
		check(t, all()[:many], api.OK)
		check(t, all()[maxNodes-many:], api.OK)
	}
}

func TestCheckAtItsEdges(t *testing.T) {
	for _, isUp := range []bool{false, true} {
		for _, node := range []int{0, 1, 14, 15} {
			for _, version := range []int{1, 2, maxTime - 1, maxTime} {
				check(t, crew{{Node: node, Version: version, Up: isUp}}, api.OK)
			}
			for _, version := range badVersions {
				check(t, crew{{Node: node, Version: version, Up: isUp}}, api.ErrRange)
			}
		}
		for _, node := range badNodes {
			for _, version := range []int{1, 2, maxTime - 1, maxTime} {
				check(t, crew{{Node: node, Version: version, Up: isUp}}, api.ErrRange)
			}
			for _, version := range badVersions {
				check(t, crew{{Node: node, Version: version, Up: isUp}}, api.ErrRange)
			}
		}
	}
}

func TestCheckOfNoViews(t *testing.T) {
	for _, bad := range badViews() {
		check(t, bad.l, bad.want)
	}
}

// TestCheckOfTooMany: however many there are too many, and whatever else is wrong.
func TestCheckOfTooMany(t *testing.T) {
	for _, many := range []int{17, 18, 31, 32, 33, 200, 65536} {
		check(t, make(crew, many), api.ErrFull)
		check(t, slices.Repeat(crew{up(3, 3)}, many), api.ErrFull)
		check(t, slices.Repeat(crew{down(16, 3)}, many), api.ErrFull)
	}
}

// TestCheckAtEachPlace: a fault in any one member of 16 is seen.
func TestCheckAtEachPlace(t *testing.T) {
	for place := range maxNodes {
		m := all()[place]
		for _, node := range badNodes {
			check(t, with(all(), place, up(node, m.Version)), api.ErrRange)
		}
		for _, version := range badVersions {
			check(t, with(all(), place, up(place, version)), api.ErrRange)
		}
		for node := range maxNodes {
			want := api.ErrShape
			if node == place {
				want = api.OK
			}
			check(t, with(all(), place, up(node, m.Version)), want)
		}
	}
}

// TestCheckTellsTheFirst: member by member, so that what is wrong with one ahead is told, of either kind.
func TestCheckTellsTheFirst(t *testing.T) {
	check(t, crew{up(5, 1), up(4, 1), up(6, 0)}, api.ErrShape)
	check(t, crew{up(5, 0), up(4, 1), up(6, 1)}, api.ErrRange)
	check(t, crew{up(5, 1), up(6, 0), up(6, 1)}, api.ErrRange)
	check(t, crew{up(5, 1), up(5, 1), up(16, 1)}, api.ErrShape)
	check(t, crew{up(16, 1), up(5, 1), up(5, 1)}, api.ErrRange)
	check(t, crew{up(5, 1), up(4, 0)}, api.ErrRange)
	check(t, crew{up(5, 1), down(-1, 1)}, api.ErrRange)
	check(t, append(crew{up(5, 0)}, all()...), api.ErrFull)
	check(t, append(crew{up(5, 1)}, all()...), api.ErrFull)
}

// TestCheckOfAllShortRows: all rows of up to three members of some kinds, against the model.
func TestCheckOfAllShortRows(t *testing.T) {
	var some crew
	for _, node := range []int{-1, 0, 1, 8, 15, 16} {
		for _, version := range []int{0, 1, maxTime, maxTime + 1} {
			some = append(some, api.Member{Node: node, Version: version, Up: len(some)%2 == 0})
		}
	}
	ask := func(l crew) {
		if err := view.Check(l); plain.Told(err) != modelCheck(l) {
			t.Fatalf("Check(%v) = %v, want %v", l, err, modelCheck(l))
		}
	}
	for _, a := range some {
		ask(crew{a})
		for _, b := range some {
			ask(crew{a, b})
			for _, c := range some {
				ask(crew{a, b, c})
			}
		}
	}
}

// TestMergeOfOneNode: the greater Version, of either side; of equal ones one that is not Up.
func TestMergeOfOneNode(t *testing.T) {
	for node := range maxNodes {
		for _, v := range [][2]int{{1, 2}, {1, maxTime}, {maxTime - 1, maxTime}, {7, 9}} {
			less, more := v[0], v[1]
			for _, ups := range [][2]bool{{true, true}, {true, false}, {false, true}, {false, false}} {
				a := crew{{Node: node, Version: less, Up: ups[0]}}
				b := crew{{Node: node, Version: more, Up: ups[1]}}
				merges(t, a, b, b)
			}
			merges(t, crew{up(node, less)}, crew{up(node, less)}, crew{up(node, less)})
			merges(t, crew{down(node, less)}, crew{down(node, less)}, crew{down(node, less)})
			merges(t, crew{up(node, less)}, crew{down(node, less)}, crew{down(node, less)})
			merges(t, crew{up(node, more)}, crew{down(node, more)}, crew{down(node, more)})
		}
	}
}

// TestMergeOfWhatOneSideHas: ahead of all others, between them, behind them.
func TestMergeOfWhatOneSideHas(t *testing.T) {
	l := crew{up(4, 2), down(9, 3)}
	merges(t, l, crew{down(0, 7)}, crew{down(0, 7), up(4, 2), down(9, 3)})
	merges(t, l, crew{up(3, 7)}, crew{up(3, 7), up(4, 2), down(9, 3)})
	merges(t, l, crew{up(5, 7)}, crew{up(4, 2), up(5, 7), down(9, 3)})
	merges(t, l, crew{down(8, 7)}, crew{up(4, 2), down(8, 7), down(9, 3)})
	merges(t, l, crew{up(10, 7)}, crew{up(4, 2), down(9, 3), up(10, 7)})
	merges(t, l, crew{down(15, 1)}, crew{up(4, 2), down(9, 3), down(15, 1)})
	merges(t, l, crew{up(0, 1), up(6, maxTime), up(15, 2)},
		crew{up(0, 1), up(4, 2), up(6, maxTime), down(9, 3), up(15, 2)})
	merges(t, l, crew{up(3, 1), up(9, 4), up(12, 2)}, crew{up(3, 1), up(4, 2), up(9, 4), up(12, 2)})
}

func TestMergeWithNobody(t *testing.T) {
	for _, l := range goodViews() {
		merges(t, l, nil, l)
		merges(t, l, crew{}, l)
	}
	merges(t, nil, nil, nil)
}

// TestMergeOfAll: up to 16 members come together, however they are shared out.
func TestMergeOfAll(t *testing.T) {
	merges(t, all(), all(), all())
	for split := range maxNodes + 1 {
		merges(t, all()[:split], all()[split:], all())
		merges(t, all(), all()[split:], all())
	}
	var even, odd crew
	for _, m := range all() {
		if m.Node%2 == 0 {
			even = append(even, m)
		} else {
			odd = append(odd, m)
		}
	}
	merges(t, even, odd, all())
	for node := range maxNodes {
		merges(t, all(), crew{down(node, maxTime)}, with(all(), node, down(node, maxTime)))
		merges(t, all(), crew{down(node, node+1)}, with(all(), node, down(node, node+1)))
		merges(t, all(), crew{up(node, node+1)}, all())
		merges(t, all(), crew{up(node, node+2)}, with(all(), node, up(node, node+2)))
	}
}

// TestBumpOfOneThatIsThere: one Version on, and Up as told, whatever it was.
func TestBumpOfOneThatIsThere(t *testing.T) {
	for _, was := range []bool{false, true} {
		for _, isUp := range []bool{false, true} {
			for _, version := range []int{1, 2, 500, maxTime - 2, maxTime - 1} {
				for node := range maxNodes {
					l := with(all(), node, api.Member{Node: node, Version: version, Up: was})
					want := api.Member{Node: node, Version: version + 1, Up: isUp}
					bumps(t, l, node, isUp, with(all(), node, want))
					bumps(t, l[node:node+1], node, isUp, crew{want})
				}
			}
		}
	}
}

// TestBumpOfOneThatIsNot: ahead of all others, between them, behind them.
func TestBumpOfOneThatIsNot(t *testing.T) {
	l := crew{up(4, 2), down(9, 3)}
	bumps(t, l, 0, true, crew{up(0, 1), up(4, 2), down(9, 3)})
	bumps(t, l, 3, false, crew{down(3, 1), up(4, 2), down(9, 3)})
	bumps(t, l, 5, true, crew{up(4, 2), up(5, 1), down(9, 3)})
	bumps(t, l, 8, false, crew{up(4, 2), down(8, 1), down(9, 3)})
	bumps(t, l, 10, false, crew{up(4, 2), down(9, 3), down(10, 1)})
	bumps(t, l, 15, true, crew{up(4, 2), down(9, 3), up(15, 1)})
	for node := range maxNodes {
		for _, isUp := range []bool{false, true} {
			one := api.Member{Node: node, Version: 1, Up: isUp}
			bumps(t, nil, node, isUp, crew{one})
			bumps(t, crew{}, node, isUp, crew{one})
			bumps(t, slices.Delete(all(), node, node+1), node, isUp, with(all(), node, one))
		}
	}
}

// TestBumpAtTheLastVersion: there is no one behind MaxTime, of this node. That of others does not matter.
func TestBumpAtTheLastVersion(t *testing.T) {
	for _, was := range []bool{false, true} {
		for node := range maxNodes {
			m := api.Member{Node: node, Version: maxTime, Up: was}
			bumpRefused(t, crew{m}, node, api.ErrFull)
			bumpRefused(t, with(all(), node, m), node, api.ErrFull)
			m.Version--
			bumps(t, crew{m}, node, true, crew{up(node, maxTime)})
			bumps(t, crew{m}, node, false, crew{down(node, maxTime)})
		}
	}
	l := crew{up(4, maxTime), down(9, maxTime)}
	bumps(t, l, 5, true, crew{up(4, maxTime), up(5, 1), down(9, maxTime)})
	bumps(t, append(l, up(10, 6)), 10, false, crew{up(4, maxTime), down(9, maxTime), down(10, 7)})
	bumpRefused(t, l, 9, api.ErrFull)
}

func TestBumpOfNoNode(t *testing.T) {
	for _, l := range goodViews() {
		for _, node := range badNodes {
			bumpRefused(t, l, node, api.ErrRange)
		}
	}
}

// TestBumpInNoView: what is wrong with the view is told, whatever the node is.
func TestBumpInNoView(t *testing.T) {
	for _, bad := range badViews() {
		for node := range maxNodes {
			bumpRefused(t, bad.l, node, bad.want)
		}
		for _, node := range badNodes {
			bumpRefused(t, bad.l, node, bad.want)
		}
	}
	bumpRefused(t, crew{up(2, maxTime), up(3, 0)}, 2, api.ErrRange)
	bumpRefused(t, crew{up(2, maxTime), up(2, maxTime)}, 2, api.ErrShape)
	bumpRefused(t, slices.Repeat(crew{up(2, maxTime)}, 17), 2, api.ErrFull)
}

// TestBumpIsOver: what was bumped is newer than what was there, on any other side.
func TestBumpIsOver(t *testing.T) {
	for _, l := range goodViews() {
		for node := range maxNodes {
			for _, isUp := range []bool{false, true} {
				bumped, err := view.Bump(l, node, isUp)
				if err != nil {
					continue
				}
				merges(t, l, bumped, bumped)
				place := slices.IndexFunc(bumped, func(m api.Member) bool { return m.Node == node })
				newer(t, l, bumped, bumped[place])
				newer(t, bumped, l)
			}
		}
	}
}

func TestAlive(t *testing.T) {
	alive(t, nil)
	alive(t, crew{})
	alive(t, crew{up(0, 1)}, 0)
	alive(t, crew{down(0, 1)})
	alive(t, crew{up(15, maxTime)}, 15)
	alive(t, crew{down(2, 1), down(5, 1), down(15, maxTime)})
	alive(t, crew{up(2, 1), up(5, 1), up(15, maxTime)}, 2, 5, 15)
	alive(t, crew{down(0, 9), up(2, 1), down(5, 1), up(6, 2), down(15, maxTime)}, 2, 6)
	alive(t, crew{up(0, 9), down(2, 1), down(5, 1), up(15, maxTime)}, 0, 15)
	alive(t, all(), 1, 2, 4, 5, 7, 8, 10, 11, 13, 14)

	var every, nobody crew
	var nodes []int
	for node := range maxNodes {
		every, nobody, nodes = append(every, up(node, 3)), append(nobody, down(node, 3)), append(nodes, node)
		alive(t, every, nodes...)
		alive(t, nobody)
	}
}

func TestAliveOfNoView(t *testing.T) {
	for _, bad := range badViews() {
		if got, err := view.Alive(bad.l); got != nil || plain.Told(err) != bad.want {
			t.Errorf("Alive(%v) = %v, %v, want %v", bad.l, got, err, bad.want)
		}
	}
}

func TestNewer(t *testing.T) {
	l := crew{up(4, 2), down(9, 3)}
	// Both are the same.
	newer(t, l, l)
	newer(t, l, slices.Clone(l))
	newer(t, nil, nil)
	newer(t, all(), all())
	// a lacks something.
	newer(t, nil, l, l...)
	newer(t, crew{}, all(), all()...)
	newer(t, l[:1], l, l[1])
	newer(t, l[1:], l, l[0])
	newer(t, l, crew{up(0, 1), up(4, 2), down(6, 1), down(9, 3), up(15, 5)}, up(0, 1), down(6, 1), up(15, 5))
	// b lacks something.
	newer(t, l, nil)
	newer(t, l, l[:1])
	newer(t, l, l[1:])
	newer(t, all(), l)
	// b is older.
	newer(t, l, crew{up(4, 1), down(9, 2)})
	newer(t, l, crew{down(4, 1), up(9, 1)})
	newer(t, crew{up(4, maxTime)}, crew{down(4, maxTime-1)})
	// b is newer.
	newer(t, l, crew{up(4, 3), up(9, 4)}, up(4, 3), up(9, 4))
	newer(t, l, crew{down(4, 3), down(9, maxTime)}, down(4, 3), down(9, maxTime))
	newer(t, l, crew{up(4, 3), up(9, 2)}, up(4, 3))
	newer(t, l, crew{up(4, 1), up(9, 4)}, up(9, 4))
	// They differ in Up alone.
	newer(t, crew{up(4, 2)}, crew{down(4, 2)}, down(4, 2))
	newer(t, crew{down(4, 2)}, crew{up(4, 2)})
	newer(t, crew{up(0, 1), down(15, maxTime)}, crew{down(0, 1), up(15, maxTime)}, down(0, 1))
	newer(t, crew{down(0, 1), up(15, maxTime)}, crew{up(0, 1), down(15, maxTime)}, down(15, maxTime))
}

// TestNewerIsWhatMergeTakes: laid over a, it makes what Merge makes, and behind that nothing is newer any more.
func TestNewerIsWhatMergeTakes(t *testing.T) {
	for _, a := range goodViews() {
		for _, b := range goodViews() {
			got, err := view.Newer(a, b)
			if err != nil {
				t.Errorf("Newer(%v, %v): %v", a, b, err)
			}
			merged := mustMerge(t, a, b)
			merges(t, a, got, merged)
			newer(t, merged, a)
			newer(t, merged, b)
		}
	}
}

// TestMergeAndNewerOfNoViews: a's fault is told ahead of b's.
func TestMergeAndNewerOfNoViews(t *testing.T) {
	for _, bad := range badViews() {
		for _, good := range goodViews() {
			bothRefused(t, bad.l, good, bad.want)
			bothRefused(t, good, bad.l, bad.want)
		}
		for _, other := range badViews() {
			bothRefused(t, bad.l, other.l, bad.want)
			bothRefused(t, other.l, bad.l, other.want)
		}
	}
}

// TestAllSmallViews: all pairs of views of three nodes, against the model.
func TestAllSmallViews(t *testing.T) {
	views := allViews([]int{0, 8, 15}, 1, maxTime)
	for _, a := range views {
		bumpAsModel(t, a)
		for _, b := range views {
			asModel(t, a, b)
		}
	}
}

// TestViewsByLot: views of up to 16 nodes, against the model.
func TestViewsByLot(t *testing.T) {
	lot := rand.New(rand.NewSource(11))
	for range 4000 {
		a, b := byLot(lot), byLot(lot)
		asModel(t, a, b)
		bumpAsModel(t, a)
	}
}

// TestMergeHowever: of all triples of views of two nodes, in any order, taken together either way.
func TestMergeHowever(t *testing.T) {
	views := allViews([]int{3, 4}, 1, 2)
	for _, a := range views {
		for _, b := range views {
			ab := mustMerge(t, a, b)
			if !slices.Equal(mustMerge(t, b, a), ab) {
				t.Fatalf("Merge of %v and %v hangs on their order", a, b)
			}
			if !slices.Equal(mustMerge(t, ab, a), ab) || !slices.Equal(mustMerge(t, b, ab), ab) {
				t.Fatalf("Merge of %v and %v is another one with one of them twice", a, b)
			}
			for _, c := range views {
				want := mustMerge(t, ab, c)
				if !slices.Equal(mustMerge(t, a, mustMerge(t, b, c)), want) ||
					!slices.Equal(mustMerge(t, mustMerge(t, a, c), b), want) {
					t.Fatalf("Merge of %v, %v and %v hangs on how they are taken together", a, b, c)
				}
			}
		}
	}
}

func TestMergeTwice(t *testing.T) {
	for _, l := range append(allViews([]int{0, 8, 15}, 1, maxTime), goodViews()...) {
		merges(t, l, l, l)
		merges(t, l, slices.Clone(l), l)
	}
}

// TestMergeOfManyInAnyOrder: rows of views by lot, some of them twice, taken together two by two, by lot, again and
// again: it is always the same, and that of the model.
func TestMergeOfManyInAnyOrder(t *testing.T) {
	lot := rand.New(rand.NewSource(12))
	for range 150 {
		views := make([]crew, 1+lot.Intn(8))
		for i := range views {
			views[i] = byLot(lot)
		}
		want := modelMerge(views...)
		for range 12 {
			heap := slices.Clone(views)
			for range lot.Intn(5) {
				heap = append(heap, views[lot.Intn(len(views))])
			}
			for len(heap) > 1 {
				lot.Shuffle(len(heap), func(i, j int) { heap[i], heap[j] = heap[j], heap[i] })
				heap[1] = mustMerge(t, heap[0], heap[1])
				heap = heap[1:]
			}
			if !slices.Equal(heap[0], want) {
				t.Fatalf("Merge of %v = %v, want %v", views, heap[0], want)
			}
		}
	}
}

// TestMergeInAllOrders: all orders of four views, one behind the other.
func TestMergeInAllOrders(t *testing.T) {
	views := []crew{
		{up(1, 2), down(5, 1), up(9, 3)},
		{down(1, 2), up(5, 1), up(6, 1)},
		{down(1, 1), up(5, 2), down(9, 3), up(15, maxTime)},
		{up(0, 1), down(5, 2), up(9, 4), down(15, maxTime)},
	}
	want := crew{up(0, 1), down(1, 2), down(5, 2), up(6, 1), up(9, 4), down(15, maxTime)}
	orders := 0
	for order := range 256 {
		places := []int{order & 3, order >> 2 & 3, order >> 4 & 3, order >> 6 & 3}
		rising := slices.Sorted(slices.Values(places))
		if !slices.Equal(rising, []int{0, 1, 2, 3}) {
			continue
		}
		orders++
		var merged crew
		for _, place := range places {
			merged = mustMerge(t, merged, views[place])
		}
		if !slices.Equal(merged, want) {
			t.Errorf("in the order %v: %v, want %v", places, merged, want)
		}
	}
	if orders != 24 {
		t.Errorf("%d orders were tried", orders)
	}
}

// guarded is a list with room behind it, in which there is something that may be neither read nor written.
func guarded(l crew) crew {
	room := make(crew, len(l)+20)
	for i := range room {
		room[i] = up(-7, i)
	}
	copy(room, l)
	return room[:len(l)]
}

// untouched tells whether a guarded list, and what is behind it, is as it was.
func untouched(l, was crew) bool {
	return slices.Equal(l, was) && slices.Equal(l[:cap(l)], guarded(was)[:cap(l)])
}

// writeInto changes all of a list, and what may lie behind it.
func writeInto(l crew) {
	l = l[:cap(l)]
	for i := range l {
		l[i] = up(-9, -9)
	}
}

// TestNothingHandedInIsChanged by any call, whether it tells an error or not, nor is what stands behind it; and what
// comes out shares no memory with it.
func TestNothingHandedInIsChanged(t *testing.T) {
	var lists []crew
	lists = append(lists, goodViews()...)
	for _, bad := range badViews() {
		lists = append(lists, bad.l)
	}
	for _, first := range lists {
		for _, second := range lists {
			a, b := guarded(first), guarded(second)
			_ = view.Check(a)
			merged, _ := view.Merge(a, b)
			writeInto(merged)
			later, _ := view.Newer(a, b)
			writeInto(later)
			nodes, _ := view.Alive(a)
			_ = append(nodes, 5)
			for node := -1; node <= maxNodes; node++ {
				bumped, _ := view.Bump(a, node, node%2 == 0)
				writeInto(bumped)
			}
			if !untouched(a, first) || !untouched(b, second) {
				t.Fatalf("%v and %v are not as they were: %v, %v", first, second, a[:cap(a)], b[:cap(b)])
			}
		}
	}
}

// TestWhatComesOutIsKept: writing into what was handed in does not change it.
func TestWhatComesOutIsKept(t *testing.T) {
	for _, first := range goodViews() {
		for _, second := range goodViews() {
			a, b := guarded(first), guarded(second)
			merged, _ := view.Merge(a, b)
			later, _ := view.Newer(a, b)
			nodes, _ := view.Alive(a)
			bumped, _ := view.Bump(a, 6, true)
			writeInto(a)
			writeInto(b)
			want, _ := modelBump(first, 6, true)
			if !slices.Equal(merged, modelMerge(first, second)) || !slices.Equal(later, modelNewer(first, second)) ||
				!slices.Equal(nodes, modelAlive(first)) || !slices.Equal(bumped, want) {
				t.Fatalf("of %v and %v: %v, %v, %v, %v", first, second, merged, later, nodes, bumped)
			}
		}
	}
}

// TestOneListBothWays: a list may be handed in as both views, and the answers are lists of their own.
func TestOneListBothWays(t *testing.T) {
	a := guarded(all())
	one := mustMerge(t, a, a)
	two := mustMerge(t, a, a)
	writeInto(one)
	if !slices.Equal(two, all()) || !untouched(a, all()) {
		t.Errorf("answers share memory: %v, %v", two, a)
	}
	x, _ := view.Bump(a, 3, true)
	y, _ := view.Bump(a, 3, true)
	writeInto(x)
	if !slices.Equal(y, with(all(), 3, up(3, 5))) {
		t.Errorf("answers share memory: %v", y)
	}
	x, _ = view.Newer(nil, a)
	y, _ = view.Newer(nil, a)
	writeInto(x)
	if !slices.Equal(y, all()) || !untouched(a, all()) {
		t.Errorf("answers share memory: %v, %v", y, a)
	}
}
