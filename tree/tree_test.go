package tree_test

import (
	"math"
	"math/rand"
	"slices"
	"testing"

	"choirloft/api"
	"choirloft/plain"
	"choirloft/tree"
)

const maxNodes, maxList, maxTime = 16, 200, 1_000_000

type roads = []api.Edge

func edge(a, b, cost int) api.Edge {
	return api.Edge{A: a, B: b, Cost: cost}
}

// badCounts: numbers of nodes that there may not be, just beside those that there may be, and far away.
var badCounts = []int{0, -1, -maxNodes, math.MinInt, math.MinInt + 1,
	maxNodes + 1, maxNodes + 2, 2 * maxNodes, 1 << 32, math.MaxInt - 1, math.MaxInt}

// badCosts: likewise of Costs.
var badCosts = []int{0, -1, -maxTime, math.MinInt, math.MinInt + 1,
	maxTime + 1, maxTime + 2, 1 << 32, math.MaxInt - 1, math.MaxInt}

// beside: numbers that are none of n nodes.
func beside(n int) []int {
	return []int{-1, -2, -n - 1, math.MinInt, math.MinInt + 1, n, n + 1, 2*n + 1, 1 << 32, math.MaxInt - 1, math.MaxInt}
}

// notParents: numbers that are no parent among n.
func notParents(n int) []int {
	return slices.DeleteFunc(beside(n), func(parent int) bool { return parent == -1 })
}

// row joins each of n nodes to the next one.
func row(n, cost int) roads {
	var l roads
	for node := 1; node < n; node++ {
		l = append(l, edge(node-1, node, cost))
	}
	return l
}

// whole joins all pairs of n nodes, now this way and now that, by Costs that differ.
func whole(n int) roads {
	var l roads
	for a := range n {
		for b := range a {
			e := edge(a, b, 1+(a*7+b*3)%11)
			if (a+b)%2 == 0 {
				e.A, e.B = e.B, e.A
			}
			l = append(l, e)
		}
	}
	return l
}

// chain: each of n nodes has the one ahead of it as its parent.
func chain(n int) []int {
	var parents []int
	for node := range n {
		parents = append(parents, node-1)
	}
	return parents
}

// with is a list with one of its things another one.
func with[T any](l []T, place int, x T) []T {
	l = slices.Clone(l)
	l[place] = x
	return l
}

// badRoads are edges of n nodes with a fault, and what is told of it.
type badRoads struct {
	n    int
	l    roads
	want api.Errno
}

func allBadRoads() []badRoads {
	return []badRoads{
		{0, nil, api.ErrRange},
		{-1, nil, api.ErrRange},
		{17, nil, api.ErrRange},
		{17, row(17, 1), api.ErrRange},
		{0, make(roads, maxList+1), api.ErrRange},
		{17, make(roads, maxList+1), api.ErrRange},
		{0, roads{edge(0, 1, 1), edge(0, 1, 1)}, api.ErrRange},
		{1, make(roads, maxList+1), api.ErrFull},
		{16, make(roads, maxList+1), api.ErrFull},
		{16, slices.Repeat(roads{edge(0, 1, 1)}, maxList+1), api.ErrFull},
		{16, append(whole(16), slices.Repeat(roads{edge(3, 4, 5)}, 81)...), api.ErrFull},
		{16, make(roads, maxList), api.ErrRange},
		{16, slices.Repeat(roads{edge(0, 1, 1)}, maxList), api.ErrClash},
		{16, append(whole(16), slices.Repeat(roads{edge(3, 4, 5)}, 80)...), api.ErrClash},
		{1, roads{edge(0, 0, 1)}, api.ErrRange},
		{1, roads{edge(0, 1, 1)}, api.ErrRange},
		{2, roads{edge(-1, 0, 1)}, api.ErrRange},
		{2, roads{edge(0, -1, 1)}, api.ErrRange},
		{2, roads{edge(2, 0, 1)}, api.ErrRange},
		{2, roads{edge(0, 2, 1)}, api.ErrRange},
		{2, roads{edge(1, 1, 1)}, api.ErrRange},
		{2, roads{edge(0, 1, 0)}, api.ErrRange},
		{2, roads{edge(0, 1, maxTime+1)}, api.ErrRange},
		{15, roads{edge(0, 15, 1)}, api.ErrRange},
		{16, roads{edge(16, 0, 1)}, api.ErrRange},
		{2, roads{edge(0, 1, 4), edge(0, 1, 4)}, api.ErrClash},
		{2, roads{edge(0, 1, 4), edge(1, 0, 4)}, api.ErrClash},
		{2, roads{edge(1, 0, 4), edge(0, 1, 9)}, api.ErrClash},
		{5, append(row(5, 2), edge(3, 2, 7)), api.ErrClash},
		{16, append(whole(16), edge(0, 15, 1)), api.ErrClash},
		{16, append(whole(16), edge(15, 0, 1)), api.ErrClash},
		// Two faults in one edge.
		{2, roads{edge(2, 2, 0)}, api.ErrRange},
		{2, roads{edge(0, 1, 4), edge(0, 1, 0)}, api.ErrRange},
		{2, roads{edge(0, 1, 4), edge(1, 0, maxTime+1)}, api.ErrRange},
		// Faults in two edges: what is wrong with the first is told.
		{3, roads{edge(0, 1, 4), edge(1, 0, 4), edge(0, 3, 4)}, api.ErrClash},
		{3, roads{edge(0, 1, 4), edge(0, 1, 5), edge(1, 2, 0)}, api.ErrClash},
		{3, roads{edge(0, 1, 4), edge(1, 2, 0), edge(1, 0, 4)}, api.ErrRange},
		{3, roads{edge(0, 3, 4), edge(0, 1, 4), edge(1, 0, 4)}, api.ErrRange},
		{3, roads{edge(0, 3, 4), edge(0, 3, 4)}, api.ErrRange},
	}
}

// badParents are parents with a fault, and what is told of it.
type badParents struct {
	l    []int
	want api.Errno
}

func allBadParents() []badParents {
	return []badParents{
		{chain(17), api.ErrFull},
		{make([]int, 17), api.ErrFull},
		{slices.Repeat([]int{-1}, 17), api.ErrFull},
		{slices.Repeat([]int{-2}, 300), api.ErrFull},
		{[]int{-2}, api.ErrRange},
		{[]int{1}, api.ErrRange},
		{[]int{-1, 2}, api.ErrRange},
		{[]int{-2, 0}, api.ErrRange},
		{[]int{-1, 0, 3}, api.ErrRange},
		{with(chain(16), 15, 16), api.ErrRange},
		{with(chain(16), 0, -2), api.ErrRange},
		{[]int{65536}, api.ErrRange},
		{[]int{0}, api.ErrShape},
		{[]int{-1, 1}, api.ErrShape},
		{[]int{1, 0}, api.ErrShape},
		{[]int{-1, 2, 1}, api.ErrShape},
		{[]int{1, 2, 0}, api.ErrShape},
		{[]int{1, 1}, api.ErrShape},
		{[]int{-1, 0, 3, 2, 2}, api.ErrShape},
		{[]int{-1, 3, 1, 3}, api.ErrShape},
		{with(chain(16), 0, 15), api.ErrShape},
		{with(chain(16), 0, 0), api.ErrShape},
		{with(chain(16), 15, 15), api.ErrShape},
		{with(chain(16), 14, 15), api.ErrShape},
		{make([]int, 16), api.ErrShape},
		// Both at once: ErrRange is named ahead of ErrShape, wherever they stand.
		{[]int{0, 2}, api.ErrRange},
		{[]int{0, -2}, api.ErrRange},
		{[]int{-2, 1}, api.ErrRange},
		{[]int{1, 0, 3}, api.ErrRange},
		{[]int{3, 2, 1}, api.ErrRange},
		{with(make([]int, 16), 15, 16), api.ErrRange},
	}
}

// goodParents are parents that may be, of many kinds.
func goodParents() [][]int {
	return [][]int{
		{},
		{-1},
		{-1, -1},
		{-1, 0},
		{1, -1},
		{-1, 0, 0},
		{2, 2, -1},
		{1, 2, -1},
		{-1, 0, -1, 2},
		{4, 4, 4, 4, -1},
		{3, 0, -1, 2, 0, 2},
		chain(15),
		chain(16),
		slices.Repeat([]int{-1}, 16),
		with(make([]int, 16), 0, -1),
		{1, 2, 3, 4, 5, 6, 7, 8, 9, 10, 11, 12, 13, 14, 15, -1},
		{-1, 0, 0, 1, 1, 2, 2, 3, 3, 4, 4, 5, 5, 6, 6, 7},
	}
}

func check(t *testing.T, n int, l roads, want api.Errno) {
	t.Helper()
	if err := tree.Check(n, l); plain.Told(err) != want || (err == nil) != (want == api.OK) {
		t.Errorf("Check(%d, %v) = %v, want %v", n, l, err, want)
	}
}

func builds(t *testing.T, n int, l roads, root int, parents, dist []int) {
	t.Helper()
	p, d, err := tree.Build(n, l, root)
	if !slices.Equal(p, parents) || !slices.Equal(d, dist) || err != nil {
		t.Fatalf("Build(%d, %v, %d) = %v, %v, %v, want %v, %v", n, l, root, p, d, err, parents, dist)
	}
}

func buildRefused(t *testing.T, n int, l roads, root int, want api.Errno) {
	t.Helper()
	if p, d, err := tree.Build(n, l, root); p != nil || d != nil || plain.Told(err) != want {
		t.Errorf("Build(%d, %v, %d) = %v, %v, %v, want %v", n, l, root, p, d, err, want)
	}
}

func kids(t *testing.T, parents []int, node int, want ...int) {
	t.Helper()
	if got, err := tree.Kids(parents, node); !slices.Equal(got, want) || err != nil {
		t.Errorf("Kids(%v, %d) = %v, %v, want %v", parents, node, got, err, want)
	}
}

func path(t *testing.T, parents []int, node int, want ...int) {
	t.Helper()
	if got, err := tree.Path(parents, node); !slices.Equal(got, want) || err != nil {
		t.Errorf("Path(%v, %d) = %v, %v, want %v", parents, node, got, err, want)
	}
}

// bothRefused asks Kids and Path.
func bothRefused(t *testing.T, parents []int, node int, want api.Errno) {
	t.Helper()
	if got, err := tree.Kids(parents, node); got != nil || plain.Told(err) != want {
		t.Errorf("Kids(%v, %d) = %v, %v, want %v", parents, node, got, err, want)
	}
	if got, err := tree.Path(parents, node); got != nil || plain.Told(err) != want {
		t.Errorf("Path(%v, %d) = %v, %v, want %v", parents, node, got, err, want)
	}
}

func costs(t *testing.T, n int, l roads, parents []int, want int) {
	t.Helper()
	if got, err := tree.Cost(n, l, parents); got != want || err != nil {
		t.Errorf("Cost(%d, %v, %v) = %d, %v, want %d", n, l, parents, got, err, want)
	}
}

func costRefused(t *testing.T, n int, l roads, parents []int, want api.Errno) {
	t.Helper()
	if got, err := tree.Cost(n, l, parents); got != 0 || plain.Told(err) != want {
		t.Errorf("Cost(%d, %v, %v) = %d, %v, want %v", n, l, parents, got, err, want)
	}
}

// modelCheck is the chapter's Check, with the pairs that were there as keys, the lesser node ahead.
func modelCheck(n int, l roads) api.Errno {
	if n <= 0 || n >= 17 {
		return api.ErrRange
	}
	if len(l) >= 201 {
		return api.ErrFull
	}
	there := map[[2]int]bool{}
	for _, e := range l {
		two := [2]int{min(e.A, e.B), max(e.A, e.B)}
		if two[0] < 0 || two[1] >= n || two[0] == two[1] || e.Cost <= 0 || e.Cost > 1000000 {
			return api.ErrRange
		}
		if there[two] {
			return api.ErrClash
		}
		there[two] = true
	}
	return api.OK
}

// bothWays is each edge as one from A to B, and as one from B to A.
func bothWays(l roads) roads {
	var both roads
	for _, e := range l {
		both = append(both, e, edge(e.B, e.A, e.Cost))
	}
	return both
}

// allWays goes all ways from a root that come to no node twice, and keeps of each node the least of those that come
// to it over each other node: what the chapter says, without any cleverness.
func allWays(n int, l roads, root int) (parents, dist []int) {
	over := make([]map[int]int, n)
	for node := range over {
		over[node] = map[int]int{}
	}
	var walk func(at, sum int, been []int)
	walk = func(at, sum int, been []int) {
		been = append(slices.Clone(been), at)
		for _, e := range bothWays(l) {
			if e.A != at || slices.Contains(been, e.B) {
				continue
			}
			if least, there := over[e.B][at]; !there || sum+e.Cost < least {
				over[e.B][at] = sum + e.Cost
			}
			walk(e.B, sum+e.Cost, been)
		}
	}
	walk(root, 0, nil)
	for node := range n {
		parent, least := -1, -1
		for from := range n {
			if sum, there := over[node][from]; there && (least < 0 || sum < least) {
				parent, least = from, sum
			}
		}
		if node == root {
			least = 0
		}
		parents, dist = append(parents, parent), append(dist, least)
	}
	return parents, dist
}

// modelBuild asks each edge again and again whether it makes a way less, until none does.
func modelBuild(n int, l roads, root int) (parents, dist []int) {
	const far = math.MaxInt / 4
	dist = slices.Repeat([]int{far}, n)
	dist[root] = 0
	for changed := true; changed; {
		changed = false
		for _, e := range bothWays(l) {
			if dist[e.A]+e.Cost < dist[e.B] {
				dist[e.B] = dist[e.A] + e.Cost
				changed = true
			}
		}
	}
	parents = slices.Repeat([]int{n}, n)
	for _, e := range bothWays(l) {
		if dist[e.B] < far && dist[e.A]+e.Cost == dist[e.B] {
			parents[e.B] = min(parents[e.B], e.A)
		}
	}
	for node := range n {
		if parents[node] == n {
			parents[node] = -1
		}
		if dist[node] >= far {
			dist[node] = -1
		}
	}
	return parents, dist
}

// modelParents settles nodes from the top down: those that are never reached are in a ring, or below one.
func modelParents(parents []int) api.Errno {
	n := len(parents)
	if n >= 17 {
		return api.ErrFull
	}
	for _, parent := range parents {
		if parent <= -2 || parent >= n {
			return api.ErrRange
		}
	}
	settled := map[int]bool{-1: true}
	for range n {
		for node, parent := range parents {
			if settled[parent] {
				settled[node] = true
			}
		}
	}
	if len(settled) != n+1 {
		return api.ErrShape
	}
	return api.OK
}

func modelKids(parents []int, node int) []int {
	var l []int
	for kid := range parents {
		if parents[kid] == node {
			l = append(l, kid)
		}
	}
	return l
}

func modelPath(parents []int, node int) []int {
	if node == -1 {
		return nil
	}
	return append(modelPath(parents, parents[node]), node)
}

// modelCost goes by the edges, and not by the nodes: each is that of at most one node and its parent.
func modelCost(n int, l roads, parents []int) (int, api.Errno) {
	if wrong := modelCheck(n, l); wrong != api.OK {
		return 0, wrong
	}
	if wrong := modelParents(parents); wrong != api.OK {
		return 0, wrong
	}
	if len(parents) != n {
		return 0, api.ErrShape
	}
	sum, need := 0, 0
	for _, parent := range parents {
		if parent >= 0 {
			need++
		}
	}
	for _, e := range l {
		if parents[e.A] == e.B || parents[e.B] == e.A {
			sum += e.Cost
			need--
		}
	}
	if need > 0 {
		return 0, api.ErrNone
	}
	return sum, api.OK
}

// parentsAsModel holds all that may be asked of parents against the model, of all nodes and of those beside them.
func parentsAsModel(t *testing.T, parents []int) {
	t.Helper()
	wrong := modelParents(parents)
	for node := -2; node <= len(parents)+1; node++ {
		switch {
		case wrong != api.OK:
			bothRefused(t, parents, node, wrong)
		case node < 0 || node >= len(parents):
			bothRefused(t, parents, node, api.ErrRange)
		default:
			kids(t, parents, node, modelKids(parents, node)...)
			path(t, parents, node, modelPath(parents, node)...)
		}
	}
}

func costAsModel(t *testing.T, n int, l roads, parents []int) {
	t.Helper()
	want, wrong := modelCost(n, l, parents)
	if got, err := tree.Cost(n, l, parents); got != want || plain.Told(err) != wrong {
		t.Fatalf("Cost(%d, %v, %v) = %d, %v, want %d, %v", n, l, parents, got, err, want, wrong)
	}
}

// allRows is all rows of so many numbers from low to high.
func allRows(many, low, high int) [][]int {
	rows := [][]int{nil}
	for range many {
		var longer [][]int
		for _, r := range rows {
			for x := low; x <= high; x++ {
				longer = append(longer, append(slices.Clone(r), x))
			}
		}
		rows = longer
	}
	return rows
}

// allRoads is all edges between n nodes, each of them not there or with a Cost up to most.
func allRoads(n, most int) []roads {
	var pairs roads
	for b := range n {
		for a := range b {
			pairs = append(pairs, edge(a, b, 0))
		}
	}
	var all []roads
	for _, r := range allRows(len(pairs), 0, most) {
		var l roads
		for i, cost := range r {
			if cost > 0 {
				l = append(l, edge(pairs[i].A, pairs[i].B, cost))
			}
		}
		all = append(all, l)
	}
	return all
}

// byLot is edges by lot, in any order, either way, with few Costs or with many.
func byLot(lot *rand.Rand, n int) roads {
	var l roads
	share, most := 1+lot.Intn(8), []int{1, 2, 4, 20, maxTime}[lot.Intn(5)]
	for a := range n {
		for b := range n {
			if b > a && lot.Intn(8) < share {
				l = append(l, edge(a, b, 1+lot.Intn(most)))
			}
		}
	}
	return shuffled(lot, l)
}

// shuffled is the same edges in another order, some of them the other way round.
func shuffled(lot *rand.Rand, l roads) roads {
	l = slices.Clone(l)
	lot.Shuffle(len(l), func(i, j int) { l[i], l[j] = l[j], l[i] })
	for i := range l {
		if lot.Intn(2) == 0 {
			l[i].A, l[i].B = l[i].B, l[i].A
		}
	}
	return l
}

// forestByLot is parents by lot that may be, the top of them anywhere.
func forestByLot(lot *rand.Rand, n int) []int {
	names := lot.Perm(n)
	parents := make([]int, n)
	for i, node := range names {
		parents[node] = -1
		if i > 0 && lot.Intn(8) > 0 {
			parents[node] = names[lot.Intn(i)]
		}
	}
	return parents
}

func TestCheckOfEdges(t *testing.T) {
	for n := 1; n <= maxNodes; n++ {
		check(t, n, nil, api.OK)
		check(t, n, roads{}, api.OK)
		check(t, n, row(n, 1), api.OK)
		check(t, n, row(n, maxTime), api.OK)
		check(t, n, whole(n), api.OK)
	}
	check(t, 4, roads{edge(0, 1, 3), edge(3, 1, 3), edge(2, 0, 9)}, api.OK)
	check(t, 4, roads{edge(0, 1, 3), edge(2, 3, 3)}, api.OK)
	check(t, 4, roads{edge(0, 2, 3), edge(2, 1, 3), edge(1, 0, 3)}, api.OK)
}

func TestCheckOfNoCountOfNodes(t *testing.T) {
	for _, n := range badCounts {
		check(t, n, nil, api.ErrRange)
		check(t, n, row(4, 1), api.ErrRange)
		check(t, n, make(roads, maxList+1), api.ErrRange)
		check(t, n, roads{edge(0, 1, 1), edge(0, 1, 1)}, api.ErrRange)
	}
}

// TestCheckOfTooMany: however many there are too many, and whatever else is wrong; MaxList of them are not, but as
// 16 nodes have 120 pairs some other thing is wrong with them.
func TestCheckOfTooMany(t *testing.T) {
	for _, many := range []int{201, 202, 256, 400, 65536} {
		for _, n := range []int{1, 2, 15, 16} {
			check(t, n, make(roads, many), api.ErrFull)
			check(t, n, slices.Repeat(roads{edge(0, 1, 1)}, many), api.ErrFull)
		}
	}
	for _, many := range []int{2, 120, 121, 199, 200} {
		check(t, 16, make(roads, many), api.ErrRange)
		check(t, 16, slices.Repeat(roads{edge(0, 1, 1)}, many), api.ErrClash)
	}
	check(t, 16, whole(16), api.OK)
	check(t, 16, append(whole(16), slices.Repeat(roads{edge(16, 0, 1)}, 80)...), api.ErrRange)
	check(t, 16, append(whole(16), slices.Repeat(roads{edge(1, 0, 1)}, 80)...), api.ErrClash)
	check(t, 16, append(whole(16), slices.Repeat(roads{edge(1, 0, 1)}, 81)...), api.ErrFull)
}

func TestCheckOfOneEdge(t *testing.T) {
	for n := 2; n <= maxNodes; n++ {
		for _, cost := range []int{1, 2, maxTime - 1, maxTime} {
			check(t, n, roads{edge(0, n-1, cost)}, api.OK)
			check(t, n, roads{edge(n-1, 0, cost)}, api.OK)
			for node := range n {
				check(t, n, roads{edge(node, node, cost)}, api.ErrRange)
			}
			for _, node := range beside(n) {
				check(t, n, roads{edge(0, node, cost)}, api.ErrRange)
				check(t, n, roads{edge(node, 0, cost)}, api.ErrRange)
				check(t, n, roads{edge(n-1, node, cost)}, api.ErrRange)
				check(t, n, roads{edge(node, n-1, cost)}, api.ErrRange)
				check(t, n, roads{edge(node, node, cost)}, api.ErrRange)
			}
		}
		for _, cost := range badCosts {
			check(t, n, roads{edge(0, n-1, cost)}, api.ErrRange)
			check(t, n, roads{edge(n-1, 0, cost)}, api.ErrRange)
			check(t, n, roads{edge(n, 0, cost)}, api.ErrRange)
			check(t, n, roads{edge(0, 0, cost)}, api.ErrRange)
		}
	}
	check(t, 1, roads{edge(0, 0, 1)}, api.ErrRange)
	check(t, 1, roads{edge(0, 1, 1)}, api.ErrRange)
	check(t, 1, roads{edge(-1, 0, 1)}, api.ErrRange)
}

func TestCheckOfFaults(t *testing.T) {
	for _, bad := range allBadRoads() {
		check(t, bad.n, bad.l, bad.want)
	}
}

// TestCheckAtEachPlace: a fault in any one edge of 120 is seen, and any two that are of the same pair.
func TestCheckAtEachPlace(t *testing.T) {
	l := whole(16)
	for place, e := range l {
		check(t, 16, with(l, place, edge(-1, e.B, e.Cost)), api.ErrRange)
		check(t, 16, with(l, place, edge(e.A, 16, e.Cost)), api.ErrRange)
		check(t, 16, with(l, place, edge(e.A, e.A, e.Cost)), api.ErrRange)
		check(t, 16, with(l, place, edge(e.A, e.B, 0)), api.ErrRange)
		check(t, 16, with(l, place, edge(e.A, e.B, maxTime+1)), api.ErrRange)
		check(t, 16, with(l, place, edge(e.B, e.A, maxTime)), api.OK)
		for other, o := range l {
			if other != place {
				check(t, 16, with(l, place, edge(o.A, o.B, e.Cost)), api.ErrClash)
				check(t, 16, with(l, place, edge(o.B, o.A, o.Cost)), api.ErrClash)
			}
		}
	}
}

// TestCheckOfAllShortRows: all rows of up to three edges of some kinds, against the model.
func TestCheckOfAllShortRows(t *testing.T) {
	var some roads
	for a := -1; a <= 3; a++ {
		for b := -1; b <= 3; b++ {
			some = append(some, edge(a, b, 1+len(some)))
		}
	}
	some = append(some, edge(0, 1, 0), edge(1, 0, maxTime+1), edge(2, 1, maxTime), edge(3, 3, 0))
	ask := func(l roads) {
		for n := range 4 {
			if err := tree.Check(n, l); plain.Told(err) != modelCheck(n, l) {
				t.Fatalf("Check(%d, %v) = %v, want %v", n, l, err, modelCheck(n, l))
			}
		}
	}
	for _, a := range some {
		ask(roads{a})
		for _, b := range some {
			ask(roads{a, b})
			for _, c := range some {
				ask(roads{a, b, c})
			}
		}
	}
}

func TestBuildOfOneNode(t *testing.T) {
	builds(t, 1, nil, 0, []int{-1}, []int{0})
	builds(t, 1, roads{}, 0, []int{-1}, []int{0})
}

func TestBuildOfTwoNodes(t *testing.T) {
	for _, cost := range []int{1, 2, maxTime - 1, maxTime} {
		for _, l := range []roads{{edge(0, 1, cost)}, {edge(1, 0, cost)}} {
			builds(t, 2, l, 0, []int{-1, 0}, []int{0, cost})
			builds(t, 2, l, 1, []int{1, -1}, []int{cost, 0})
		}
	}
}

// TestBuildWithoutWays: to a node that no edge leads to, and to nodes that are joined to each other alone.
func TestBuildWithoutWays(t *testing.T) {
	builds(t, 3, nil, 1, []int{-1, -1, -1}, []int{-1, 0, -1})
	builds(t, 3, roads{edge(0, 2, 4)}, 0, []int{-1, -1, 0}, []int{0, -1, 4})
	builds(t, 3, roads{edge(0, 2, 4)}, 1, []int{-1, -1, -1}, []int{-1, 0, -1})
	builds(t, 5, roads{edge(1, 2, 1), edge(4, 3, 1), edge(0, 1, 1)}, 0, []int{-1, 0, 1, -1, -1}, []int{0, 1, 2, -1, -1})
	builds(t, 5, roads{edge(1, 2, 1), edge(4, 3, 1), edge(0, 1, 1)}, 4, []int{-1, -1, -1, 4, -1}, []int{-1, -1, -1, 1, 0})
	for n := 1; n <= maxNodes; n++ {
		for root := range n {
			nobody := slices.Repeat([]int{-1}, n)
			builds(t, n, nil, root, nobody, with(nobody, root, 0))
		}
	}
}

// TestBuildOfARow: the longest way that there is, at the least and at the greatest Costs.
func TestBuildOfARow(t *testing.T) {
	for _, cost := range []int{1, 7, maxTime} {
		for n := 1; n <= maxNodes; n++ {
			for root := range n {
				var parents, dist []int
				for node := range n {
					switch {
					case node < root:
						parents, dist = append(parents, node+1), append(dist, (root-node)*cost)
					case node > root:
						parents, dist = append(parents, node-1), append(dist, (node-root)*cost)
					default:
						parents, dist = append(parents, -1), append(dist, 0)
					}
				}
				builds(t, n, row(n, cost), root, parents, dist)
			}
		}
	}
}

// TestBuildOfWaysAsLong: of two that are next to a node and both on a least way to it the lesser is its parent,
// whichever edge stands first, however far from the root it is, and whichever of them comes first.
func TestBuildOfWaysAsLong(t *testing.T) {
	square := roads{edge(0, 1, 1), edge(0, 2, 1), edge(1, 3, 1), edge(2, 3, 1)}
	builds(t, 4, square, 0, []int{-1, 0, 0, 1}, []int{0, 1, 1, 2})
	builds(t, 4, square, 1, []int{1, -1, 0, 1}, []int{1, 0, 2, 1})
	builds(t, 4, square, 3, []int{1, 3, 3, -1}, []int{2, 1, 1, 0})
	slices.Reverse(square)
	builds(t, 4, square, 0, []int{-1, 0, 0, 1}, []int{0, 1, 1, 2})
	builds(t, 4, square, 3, []int{1, 3, 3, -1}, []int{2, 1, 1, 0})

	// To 3 over 1, far from the root and near to 3, or over 2.
	builds(t, 4, roads{edge(0, 1, 5), edge(1, 3, 1), edge(0, 2, 1), edge(2, 3, 5)}, 0, []int{-1, 0, 0, 1}, []int{0, 5, 1, 6})
	builds(t, 4, roads{edge(0, 1, 1), edge(1, 3, 5), edge(0, 2, 5), edge(2, 3, 1)}, 0, []int{-1, 0, 0, 1}, []int{0, 1, 5, 6})
	// To 1 from the root 2 itself, or over the lesser 0; and from the root 0 itself, or over the greater 2.
	builds(t, 3, roads{edge(2, 1, 2), edge(2, 0, 1), edge(0, 1, 1)}, 2, []int{2, 0, -1}, []int{1, 2, 0})
	builds(t, 3, roads{edge(0, 1, 2), edge(0, 2, 1), edge(2, 1, 1)}, 0, []int{-1, 0, 0}, []int{0, 2, 1})
	// A lesser node that is next to it, on a way that is longer by one, is not its parent.
	builds(t, 4, roads{edge(3, 0, 1), edge(0, 2, 2), edge(3, 1, 1), edge(1, 2, 1)}, 3, []int{3, 3, 1, -1}, []int{1, 1, 2, 0})
	// A lesser node that is on a least way, but not next to it, is not either.
	builds(t, 4, roads{edge(3, 0, 1), edge(0, 2, 1), edge(2, 1, 1)}, 3, []int{3, 2, 0, -1}, []int{1, 3, 2, 0})
}

// TestBuildOfLongWays: many edges of little Cost against one of a great one.
func TestBuildOfLongWays(t *testing.T) {
	for n := 3; n <= maxNodes; n++ {
		around := append(row(n, 1), edge(n-1, 0, n))
		_, dist := modelBuild(n, row(n, 1), 0)
		builds(t, n, around, 0, chain(n), dist)
		around[n-1].Cost = n - 1
		builds(t, n, around, 0, with(chain(n), n-1, 0), dist)
		around[n-1].Cost = maxTime
		builds(t, n, around, 0, chain(n), dist)
	}
	builds(t, 16, append(row(16, 66_666), edge(15, 0, maxTime)), 0, chain(16), []int{0, 66_666, 133_332, 199_998, 266_664,
		333_330, 399_996, 466_662, 533_328, 599_994, 666_660, 733_326, 799_992, 866_658, 933_324, 999_990})
	builds(t, 3, roads{edge(0, 1, maxTime), edge(0, 2, 1), edge(2, 1, 1)}, 0, []int{-1, 2, 0}, []int{0, 2, 1})
	builds(t, 3, roads{edge(0, 1, maxTime), edge(1, 2, maxTime)}, 0, []int{-1, 0, 1}, []int{0, maxTime, 2 * maxTime})
}

func TestBuildOfNoRoot(t *testing.T) {
	for n := 1; n <= maxNodes; n++ {
		for _, root := range beside(n) {
			buildRefused(t, n, nil, root, api.ErrRange)
			buildRefused(t, n, whole(n), root, api.ErrRange)
		}
	}
}

// TestBuildOfFaults: what is wrong with the edges is told, whatever the root is.
func TestBuildOfFaults(t *testing.T) {
	for _, bad := range allBadRoads() {
		for root := range maxNodes {
			buildRefused(t, bad.n, bad.l, root, bad.want)
		}
		for _, root := range append(beside(maxNodes), bad.n, bad.n-1) {
			buildRefused(t, bad.n, bad.l, root, bad.want)
		}
	}
	for _, n := range badCounts {
		buildRefused(t, n, nil, 0, api.ErrRange)
		buildRefused(t, n, make(roads, maxList+1), n, api.ErrRange)
	}
}

// TestBuildOfAllSmallRoads: all edges between up to four nodes, against all ways that there are.
func TestBuildOfAllSmallRoads(t *testing.T) {
	for n := 1; n <= 4; n++ {
		for _, l := range allRoads(n, 4) {
			for root := range n {
				parents, dist := allWays(n, l, root)
				builds(t, n, l, root, parents, dist)
			}
		}
	}
}

func TestBuildByLotOfAllWays(t *testing.T) {
	lot := rand.New(rand.NewSource(12))
	for range 600 {
		n := 5 + lot.Intn(2)
		l := byLot(lot, n)
		for root := range n {
			parents, dist := allWays(n, l, root)
			builds(t, n, l, root, parents, dist)
		}
	}
}

func TestBuildByLot(t *testing.T) {
	lot := rand.New(rand.NewSource(13))
	for range 1500 {
		n := 1 + lot.Intn(maxNodes)
		l := byLot(lot, n)
		for root := range n {
			parents, dist := modelBuild(n, l, root)
			builds(t, n, l, root, parents, dist)
		}
	}
}

// TestBuildInAnyOrder: the order of the edges does not matter, nor which of its two nodes an edge names first.
func TestBuildInAnyOrder(t *testing.T) {
	lot := rand.New(rand.NewSource(14))
	for range 200 {
		n := 1 + lot.Intn(maxNodes)
		l := byLot(lot, n)
		root := lot.Intn(n)
		parents, dist, _ := tree.Build(n, l, root)
		for range 10 {
			builds(t, n, shuffled(lot, l), root, parents, dist)
		}
	}
}

// TestBuildGoesTogether with Path and Cost: a node's path begins at the root and its Costs are its dist.
func TestBuildGoesTogether(t *testing.T) {
	lot := rand.New(rand.NewSource(15))
	for range 200 {
		n := 1 + lot.Intn(maxNodes)
		l := byLot(lot, n)
		root := lot.Intn(n)
		parents, dist, _ := tree.Build(n, l, root)
		costAsModel(t, n, l, parents)
		for node := range n {
			way, err := tree.Path(parents, node)
			if err != nil || dist[node] >= 0 && way[0] != root || dist[node] < 0 && len(way) != 1 {
				t.Fatalf("Path(%v, %d) = %v, %v, root %d", parents, node, way, err, root)
			}
			alone := slices.Repeat([]int{-1}, n)
			for i := 1; i < len(way); i++ {
				alone[way[i]] = way[i-1]
			}
			costs(t, n, l, alone, max(dist[node], 0))
		}
	}
}

func TestKids(t *testing.T) {
	kids(t, []int{-1}, 0)
	kids(t, []int{-1, 0}, 0, 1)
	kids(t, []int{-1, 0}, 1)
	kids(t, []int{1, -1}, 1, 0)
	kids(t, []int{-1, -1, -1}, 1)
	l := []int{3, 0, -1, 2, 0, 2}
	kids(t, l, 0, 1, 4)
	kids(t, l, 1)
	kids(t, l, 2, 3, 5)
	kids(t, l, 3, 0)
	kids(t, l, 4)
	kids(t, l, 5)
	star := with(make([]int, 16), 0, -1)
	kids(t, star, 0, 1, 2, 3, 4, 5, 6, 7, 8, 9, 10, 11, 12, 13, 14, 15)
	kids(t, star, 15)
	last := with(slices.Repeat([]int{15}, 16), 15, -1)
	kids(t, last, 15, 0, 1, 2, 3, 4, 5, 6, 7, 8, 9, 10, 11, 12, 13, 14)
	kids(t, chain(16), 14, 15)
	kids(t, chain(16), 15)
}

func TestPath(t *testing.T) {
	path(t, []int{-1}, 0, 0)
	path(t, []int{-1, 0}, 0, 0)
	path(t, []int{-1, 0}, 1, 0, 1)
	path(t, []int{1, -1}, 0, 1, 0)
	path(t, []int{-1, -1, -1}, 2, 2)
	l := []int{3, 0, -1, 2, 0, 2}
	path(t, l, 0, 2, 3, 0)
	path(t, l, 1, 2, 3, 0, 1)
	path(t, l, 2, 2)
	path(t, l, 3, 2, 3)
	path(t, l, 4, 2, 3, 0, 4)
	path(t, l, 5, 2, 5)
	path(t, chain(16), 15, 0, 1, 2, 3, 4, 5, 6, 7, 8, 9, 10, 11, 12, 13, 14, 15)
	path(t, chain(16), 0, 0)
	up := []int{1, 2, 3, 4, 5, 6, 7, 8, 9, 10, 11, 12, 13, 14, 15, -1}
	path(t, up, 0, 15, 14, 13, 12, 11, 10, 9, 8, 7, 6, 5, 4, 3, 2, 1, 0)
	path(t, up, 15, 15)
}

func TestKidsAndPathOfNoNode(t *testing.T) {
	for _, parents := range goodParents() {
		for _, node := range beside(len(parents)) {
			bothRefused(t, parents, node, api.ErrRange)
		}
	}
	bothRefused(t, nil, 0, api.ErrRange)
	bothRefused(t, nil, -1, api.ErrRange)
	bothRefused(t, []int{}, 0, api.ErrRange)
}

// TestKidsAndPathOfFaults: what is wrong with the parents is told, be the node one of them or not.
func TestKidsAndPathOfFaults(t *testing.T) {
	for _, bad := range allBadParents() {
		for node := range maxNodes + 1 {
			bothRefused(t, bad.l, node, bad.want)
		}
		for _, node := range append(beside(len(bad.l)), beside(maxNodes)...) {
			bothRefused(t, bad.l, node, bad.want)
		}
	}
}

// TestParentsAtEachPlace: a fault in any one parent of 16 is seen.
func TestParentsAtEachPlace(t *testing.T) {
	for _, n := range []int{1, 2, 15, 16} {
		for place := range n {
			for _, parent := range notParents(n) {
				bothRefused(t, with(chain(n), place, parent), 0, api.ErrRange)
				bothRefused(t, with(slices.Repeat([]int{-1}, n), place, parent), n-1, api.ErrRange)
			}
			parentsAsModel(t, with(chain(n), place, -1))
			for parent := range n {
				parentsAsModel(t, with(chain(n), place, parent))
			}
		}
	}
}

// TestParentsOfTooMany: however many there are too many, and whatever else is wrong.
func TestParentsOfTooMany(t *testing.T) {
	for _, many := range []int{17, 18, 31, 32, 33, 200, 65536} {
		for _, parent := range []int{-2, -1, 0, 16, many} {
			bothRefused(t, slices.Repeat([]int{parent}, many), 0, api.ErrFull)
			bothRefused(t, slices.Repeat([]int{parent}, many), -1, api.ErrFull)
			costRefused(t, 16, row(16, 1), slices.Repeat([]int{parent}, many), api.ErrFull)
		}
	}
}

// TestAllSmallParents: all rows of up to five parents, and of numbers just beside them, against the model.
func TestAllSmallParents(t *testing.T) {
	for many := range 5 {
		for _, parents := range allRows(many, -2, many) {
			parentsAsModel(t, parents)
		}
	}
	for _, parents := range allRows(5, -1, 4) {
		parentsAsModel(t, parents)
	}
}

func TestParentsByLot(t *testing.T) {
	lot := rand.New(rand.NewSource(16))
	for range 1500 {
		n := 1 + lot.Intn(maxNodes)
		parents := forestByLot(lot, n)
		parentsAsModel(t, parents)
		parentsAsModel(t, with(parents, lot.Intn(n), lot.Intn(n+2)-1))
	}
}

func TestCost(t *testing.T) {
	costs(t, 1, nil, []int{-1}, 0)
	costs(t, 2, roads{edge(0, 1, 3)}, []int{-1, -1}, 0)
	for _, cost := range []int{1, 2, maxTime} {
		costs(t, 2, roads{edge(0, 1, cost)}, []int{-1, 0}, cost)
		costs(t, 2, roads{edge(1, 0, cost)}, []int{-1, 0}, cost)
		costs(t, 2, roads{edge(0, 1, cost)}, []int{1, -1}, cost)
		costs(t, 2, roads{edge(1, 0, cost)}, []int{1, -1}, cost)
		costs(t, 16, row(16, cost), chain(16), 15*cost)
	}
	l := roads{edge(0, 1, 1), edge(2, 0, 10), edge(1, 2, 100), edge(3, 2, 1000), edge(4, 3, 10000)}
	costs(t, 5, l, []int{-1, 0, 0, 2, 3}, 11011)
	costs(t, 5, l, []int{-1, 0, 1, 2, 3}, 11101)
	costs(t, 5, l, []int{2, 2, 3, 4, -1}, 11110)
	costs(t, 5, l, []int{-1, 2, -1, -1, 3}, 10100)
	costs(t, 5, l, []int{-1, -1, -1, -1, -1}, 0)
}

func TestCostWithoutAnEdge(t *testing.T) {
	costRefused(t, 2, nil, []int{-1, 0}, api.ErrNone)
	costRefused(t, 2, nil, []int{1, -1}, api.ErrNone)
	costRefused(t, 3, roads{edge(0, 1, 4)}, []int{-1, 0, 0}, api.ErrNone)
	costRefused(t, 3, roads{edge(0, 1, 4)}, []int{2, 0, -1}, api.ErrNone)
	for node := 1; node < maxNodes; node++ {
		costRefused(t, 16, slices.Delete(row(16, 3), node-1, node), chain(16), api.ErrNone)
		costs(t, 16, slices.Delete(row(16, 3), node-1, node), with(chain(16), node, -1), 42)
	}
}

// TestCostOfOtherParents: there are more of them than n, or fewer, with edges between them or without.
func TestCostOfOtherParents(t *testing.T) {
	for n := 1; n <= maxNodes; n++ {
		for many := range maxNodes + 1 {
			if many != n {
				costRefused(t, n, whole(n), chain(many), api.ErrShape)
				costRefused(t, n, nil, chain(many), api.ErrShape)
				costRefused(t, n, nil, slices.Repeat([]int{-1}, many), api.ErrShape)
			}
		}
		costRefused(t, n, whole(n), nil, api.ErrShape)
	}
}

// TestCostOfFaults: of the edges, then of the parents, then that they are not n, then that there is no such edge.
func TestCostOfFaults(t *testing.T) {
	for _, bad := range allBadRoads() {
		for _, parents := range goodParents() {
			costRefused(t, bad.n, bad.l, parents, bad.want)
		}
		for _, ill := range allBadParents() {
			costRefused(t, bad.n, bad.l, ill.l, bad.want)
		}
	}
	for _, ill := range allBadParents() {
		for n := 1; n <= maxNodes; n++ {
			costRefused(t, n, whole(n), ill.l, ill.want)
			costRefused(t, n, nil, ill.l, ill.want)
		}
	}
	for _, n := range badCounts {
		costRefused(t, n, nil, nil, api.ErrRange)
		costRefused(t, n, make(roads, maxList+1), make([]int, 17), api.ErrRange)
	}
	costRefused(t, 2, make(roads, maxList+1), []int{-2, 0}, api.ErrFull)
	costRefused(t, 2, roads{edge(0, 1, 1), edge(1, 0, 1)}, []int{-2, 0}, api.ErrClash)
	// [1 2 -1] is not 2 parents, while 2 of those are none of 2.
	costRefused(t, 2, roads{edge(0, 1, 1)}, []int{1, 2, -1}, api.ErrShape)
	costRefused(t, 2, roads{edge(0, 1, 1)}, []int{1, 2}, api.ErrRange)
}

// TestAllSmallCosts: all parents of three nodes, and of numbers just beside them, on all edges, against the model.
func TestAllSmallCosts(t *testing.T) {
	for many := range 5 {
		for _, parents := range allRows(many, -2, many) {
			for _, l := range allRoads(3, 2) {
				costAsModel(t, 3, l, parents)
			}
		}
	}
}

func TestCostByLot(t *testing.T) {
	lot := rand.New(rand.NewSource(17))
	for range 2000 {
		n := 1 + lot.Intn(maxNodes)
		parents := forestByLot(lot, n)
		l := byLot(lot, n)
		costAsModel(t, n, l, parents)
		costAsModel(t, n, shuffled(lot, whole(n)), parents)
		root := lot.Intn(n)
		built, _, _ := tree.Build(n, l, root)
		costAsModel(t, n, l, built)
		costAsModel(t, n, l, with(built, lot.Intn(n), lot.Intn(n+1)-1))
	}
}

// guarded is a list with room behind it, in which there is something that may be neither read nor written.
func guarded[T any](l []T, odd T) []T {
	room := slices.Repeat([]T{odd}, len(l)+20)
	copy(room, l)
	return room[:len(l)]
}

// untouched tells whether a guarded list, and what is behind it, is as it was.
func untouched[T comparable](l, was []T, odd T) bool {
	return slices.Equal(l[:cap(l)], guarded(was, odd)[:cap(l)])
}

// writeInto changes all of a list, and what may lie behind it.
func writeInto[T any](l []T, odd T) {
	l = l[:cap(l)]
	for i := range l {
		l[i] = odd
	}
}

var oddEdge = edge(1, 0, 77)

const oddNode = 0

// TestNothingHandedInIsChanged by any call, whether it tells an error or not, nor is what stands behind it; and what
// comes out shares no memory with it.
func TestNothingHandedInIsChanged(t *testing.T) {
	edges := []badRoads{{1, nil, api.OK}, {5, row(5, 2), api.OK}, {6, whole(6), api.OK}, {16, whole(16), api.OK}}
	edges = append(edges, allBadRoads()...)
	parents := goodParents()
	for _, bad := range allBadParents() {
		parents = append(parents, bad.l)
	}
	for _, e := range edges {
		for _, p := range parents {
			l, up := guarded(e.l, oddEdge), guarded(p, oddNode)
			_ = tree.Check(e.n, l)
			for node := -1; node <= maxNodes; node++ {
				built, dist, _ := tree.Build(e.n, l, node)
				writeInto(built, -9)
				writeInto(dist, -9)
				below, _ := tree.Kids(up, node)
				writeInto(below, -9)
				way, _ := tree.Path(up, node)
				writeInto(way, -9)
			}
			_, _ = tree.Cost(e.n, l, up)
			if !untouched(l, e.l, oddEdge) || !untouched(up, p, oddNode) {
				t.Fatalf("%v and %v are not as they were: %v, %v", e.l, p, l[:cap(l)], up[:cap(up)])
			}
		}
	}
}

// TestWhatComesOutIsKept: writing into what was handed in, or into the other list of an answer, does not change it.
func TestWhatComesOutIsKept(t *testing.T) {
	lot := rand.New(rand.NewSource(18))
	for range 300 {
		n := 1 + lot.Intn(maxNodes)
		was, forest, root := byLot(lot, n), forestByLot(lot, n), lot.Intn(n)
		l, up := guarded(was, oddEdge), guarded(forest, oddNode)
		parents, dist, _ := tree.Build(n, l, root)
		other, far, _ := tree.Build(n, l, root)
		below, _ := tree.Kids(up, root)
		way, _ := tree.Path(up, root)
		writeInto(l, oddEdge)
		writeInto(up, -9)
		writeInto(parents, -9)
		writeInto(far, -9)
		wantParents, wantDist := modelBuild(n, was, root)
		if !slices.Equal(other, wantParents) || !slices.Equal(dist, wantDist) ||
			!slices.Equal(below, modelKids(forest, root)) || !slices.Equal(way, modelPath(forest, root)) {
			t.Fatalf("of %v and %v: %v, %v, %v, %v", was, forest, other, dist, below, way)
		}
	}
}

// TestAnswersHangOnNothingElse: the same calls, with others between, are answered the same.
func TestAnswersHangOnNothingElse(t *testing.T) {
	l := whole(7)
	parents, dist, _ := tree.Build(7, l, 3)
	sum, _ := tree.Cost(7, l, parents)
	_, _, _ = tree.Build(16, whole(16), 9)
	_, _, _ = tree.Build(7, append(l, l[0]), 3)
	_, _ = tree.Cost(16, row(16, 5), chain(16))
	_, _ = tree.Kids([]int{0}, 0)
	builds(t, 7, l, 3, parents, dist)
	costs(t, 7, l, parents, sum)
}
