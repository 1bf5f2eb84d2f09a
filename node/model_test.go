package node_test

import (
	"fmt"
	"maps"
	"math/rand"
	"slices"
	"testing"

	"choirloft/api"
	"choirloft/back"
	"choirloft/frame"
	"choirloft/node"
	"choirloft/pack"
	"choirloft/plain"
)

// model of the chapter, clause by clause, with those that it leans on: it keeps all that ever came, and finds what
// is asked from that. Bytes alone are read by the project's packages.
type model struct {
	id, now int
	tracks  map[int]*modelTrack
	subs    map[int]*modelSub
	lastSub int
	asked   map[int]int // when a start of a track was asked for last
	letters []api.Letter
}

type modelTrack struct {
	parent, epoch int
	kids          []int
	greatest      int // -1: nothing came
	came          map[int]modelPacket
	lacking       map[int][]int // when each was asked for
}

type modelPacket struct {
	p            api.Packet
	origin, hops int // as it goes on
}

type modelSub struct {
	track, most int
	next        int // -1: nothing was pushed
	kept        map[int]modelItem
	layer       int // -1: none yet
	broken      bool
	went        []api.Packet // in this epoch, as they went out
	own         api.Packet   // the last of them, as it came
	got         []api.Packet
}

type modelItem struct {
	gone  bool
	p     api.Packet
	since int
}

func newModel(id int) *model {
	return &model{id: id, tracks: map[int]*modelTrack{}, subs: map[int]*modelSub{}, asked: map[int]int{}}
}

func (m *model) plan(track, parent int, kids []int, epoch int) api.Errno {
	if track < 1 || track > 8 || parent < -1 || parent > 15 || parent == m.id || epoch < 0 || epoch > 65535 {
		return api.ErrRange
	}
	for _, kid := range kids {
		if kid < 0 || kid > 15 || kid == m.id || kid == parent {
			return api.ErrRange
		}
	}
	for i, kid := range kids {
		if slices.Contains(kids[:i], kid) {
			return api.ErrClash
		}
	}
	if len(kids) > 16 {
		return api.ErrFull
	}
	t := m.tracks[track]
	if t != nil && epoch < t.epoch {
		return api.ErrState
	}
	if t == nil || epoch > t.epoch {
		t = &modelTrack{epoch: epoch, greatest: -1, came: map[int]modelPacket{}, lacking: map[int][]int{}}
		m.tracks[track] = t
		for _, s := range m.subs {
			if s.track == track {
				s.begin()
			}
		}
	}
	t.parent, t.kids = parent, slices.Clone(kids)
	return api.OK
}

func (s *modelSub) begin() {
	s.next, s.kept, s.layer, s.broken, s.went = -1, map[int]modelItem{}, -1, false, nil
}

func (m *model) sub(track, most int) (int, api.Errno) {
	switch {
	case track < 1 || track > 8 || most < 0 || most > 3:
		return 0, api.ErrRange
	case m.tracks[track] == nil:
		return 0, api.ErrNone
	case len(m.subs) == 20:
		return 0, api.ErrFull
	}
	m.lastSub++
	s := &modelSub{track: track, most: most}
	s.begin()
	m.subs[m.lastSub] = s
	return m.lastSub, api.OK
}

func (m *model) unsub(id int) api.Errno {
	if m.subs[id] == nil {
		return api.ErrNone
	}
	delete(m.subs, id)
	return api.OK
}

func (m *model) gotBy(id int) ([]api.Packet, api.Errno) {
	s := m.subs[id]
	if s == nil {
		return nil, api.ErrNone
	}
	l := s.got
	s.got = nil
	return l, api.OK
}

func (m *model) out() []api.Letter {
	l := m.letters
	m.letters = nil
	return l
}

func (m *model) write(to int, b []byte) {
	m.letters = append(m.letters, api.Letter{To: to, Body: b})
}

func (m *model) time(now int) api.Errno {
	switch {
	case now < 0 || now > maxTime:
		return api.ErrRange
	case now < m.now:
		return api.ErrState
	}
	return api.OK
}

func (m *model) send(track int, p api.Packet, now int) api.Errno {
	if e := m.time(now); e != api.OK {
		return e
	}
	if track < 1 || track > 8 {
		return api.ErrRange
	}
	t := m.tracks[track]
	if t == nil {
		return api.ErrNone
	}
	if t.parent != -1 {
		return api.ErrState
	}
	if err := pack.Check(p); err != nil {
		return plain.Told(err)
	}
	m.now = now
	m.take(track, modelPacket{p, m.id, 1})
	return api.OK
}

func (m *model) hear(from int, b []byte, now int) api.Errno {
	if e := m.time(now); e != api.OK {
		return e
	}
	if len(b) > 0 && b[0] == 70 {
		return m.hearFrame(from, b, now)
	}
	return m.hearBack(from, b, now)
}

func (m *model) hearFrame(from int, b []byte, now int) api.Errno {
	f, err := frame.Read(b)
	if err != nil {
		return plain.Told(err)
	}
	t := m.tracks[f.Track]
	if t == nil {
		return api.ErrNone
	}
	if t.parent == -1 || t.parent != from || t.epoch != f.Epoch {
		return api.ErrState
	}
	p, err := pack.Read(f.Body)
	if err != nil {
		return plain.Told(err)
	}
	m.now = now
	m.take(f.Track, modelPacket{p, f.Origin, f.Hops + 1})
	return api.OK
}

func (m *model) hearBack(from int, b []byte, now int) api.Errno {
	said, err := back.Read(b)
	if err != nil {
		return plain.Told(err)
	}
	t := m.tracks[said.Track]
	if t == nil {
		return api.ErrNone
	}
	if !slices.Contains(t.kids, from) {
		return api.ErrState
	}
	m.now = now
	if said.Kind == key && t.parent != -1 {
		m.write(t.parent, slices.Clone(b))
	}
	for _, seq := range said.Lost {
		number := t.unwrap(seq)
		if c, came := t.came[number]; came && number > t.greatest-64 {
			m.pass(said.Track, from, c)
		}
	}
	return api.OK
}

// unwrap tries all that there may be.
func (t *modelTrack) unwrap(seq int) int {
	if t.greatest < 0 {
		return seq + 65536
	}
	nearest := -1
	for number := seq; number < t.greatest+2*65536; number += 65536 {
		if nearest < 0 || distance(number, t.greatest) < distance(nearest, t.greatest) {
			nearest = number
		}
	}
	return nearest
}

func distance(a, b int) int {
	return max(a-b, b-a)
}

func (m *model) take(track int, c modelPacket) {
	t := m.tracks[track]
	number := t.unwrap(c.p.Seq)
	if !t.isNew(number) {
		return
	}
	t.came[number] = c
	for _, kid := range t.kids {
		m.pass(track, kid, c)
	}
	for _, s := range m.subs {
		if s.track == track {
			s.push(number, c.p, m.now)
			s.pop(m.now)
		}
	}
}

func (t *modelTrack) isNew(number int) bool {
	if t.greatest < 0 {
		t.greatest = number
		return true
	}
	if number > t.greatest {
		if len(t.lacking)+number-t.greatest-1 > 200 {
			return false
		}
		for i := t.greatest + 1; i < number; i++ {
			t.lacking[i] = nil
		}
		t.greatest = number
		return true
	}
	_, lacked := t.lacking[number]
	delete(t.lacking, number)
	return lacked
}

func (m *model) pass(track, kid int, c modelPacket) {
	if c.hops <= 64 {
		m.write(kid, framed(track, c.origin, m.tracks[track].epoch, c.hops, c.p))
	}
}

func (s *modelSub) push(number int, p api.Packet, now int) {
	if s.next < 0 {
		s.next = number
	}
	s.keep(number, modelItem{p: p, since: now})
}

func (s *modelSub) keep(number int, item modelItem) {
	_, there := s.kept[number]
	if !there && number >= s.next && number < s.next+200 {
		s.kept[number] = item
	}
}

func (s *modelSub) pop(now int) {
	for {
		item, there := s.kept[s.next]
		if !there {
			if !s.anyLate(now) {
				return
			}
			item = modelItem{gone: true}
		}
		delete(s.kept, s.next)
		s.next++
		if s.goes(item) {
			s.put(item.p)
		}
	}
}

func (s *modelSub) anyLate(now int) bool {
	for _, item := range s.kept {
		if now-item.since >= 10 {
			return true
		}
	}
	return false
}

func (s *modelSub) goes(item modelItem) bool {
	p := item.p
	switch {
	case item.gone:
		s.broken = s.broken || s.layer != -1
		return false
	case p.Layer > s.most:
		return false
	case p.Start && (p.Layer >= s.layer || s.broken):
		s.layer, s.broken = p.Layer, false
		return true
	case p.Start:
		return false
	}
	return p.Layer == s.layer && !s.broken
}

func (s *modelSub) put(p api.Packet) {
	own := p
	p.Body = slices.Clone(p.Body)
	p.Seq, p.Time = len(s.went)%65536, 0
	if len(s.went) > 0 {
		p.Time = s.went[len(s.went)-1].Time + 1
		if own.Layer == s.own.Layer {
			p.Time += own.Time - s.own.Time - 1
		}
		p.Time = (p.Time%(1<<32) + 1<<32) % (1 << 32)
	}
	s.own = own
	s.went = append(s.went, p)
	s.got = append(s.got, p)
}

func (m *model) tick(now int) api.Errno {
	if e := m.time(now); e != api.OK {
		return e
	}
	m.now = now
	for track := 1; track <= 8; track++ {
		if t := m.tracks[track]; t != nil && t.parent != -1 {
			m.ask(track, t)
		}
	}
	ids := slices.Sorted(maps.Keys(m.subs))
	for _, id := range ids {
		m.subs[id].pop(now)
	}
	for _, id := range ids {
		s := m.subs[id]
		parent := m.tracks[s.track].parent
		last, asked := m.asked[s.track]
		if (s.layer == -1 || s.broken) && parent != -1 && (!asked || now-last >= 10) {
			m.asked[s.track] = now
			m.write(parent, saidKey(s.track, s.most))
		}
	}
	return api.OK
}

func (m *model) ask(track int, t *modelTrack) {
	var due, over []int
	for _, number := range slices.Sorted(maps.Keys(t.lacking)) {
		asked := t.lacking[number]
		switch {
		case len(asked) > 0 && m.now-asked[len(asked)-1] < 3:
		case len(asked) == 3:
			over = append(over, number)
			delete(t.lacking, number)
		default:
			due = append(due, number%65536)
			t.lacking[number] = append(asked, m.now)
		}
	}
	if slices.Sort(due); len(due) > 0 {
		m.write(t.parent, saidLost(track, slices.Compact(due)...))
	}
	for _, s := range m.subs {
		if s.track == track && s.next >= 0 {
			for _, number := range over {
				s.keep(number, modelItem{gone: true, since: m.now})
			}
		}
	}
}

// both plays calls on a node and on the model. What is handed to the node, and what it answers, is written over at
// once, so that a node that kept it, or shared it, would go astray.
type both struct {
	t *testing.T
	n *node.Node
	m *model
	// The calls up to now.
	row []string
}

func newBoth(t *testing.T, id int) *both {
	t.Helper()
	return &both{t: t, n: newNode(t, id), m: newModel(id)}
}

func (b *both) called(what string, args ...any) {
	b.row = append(b.row, fmt.Sprintf(what, args...))
}

func (b *both) fail(is, want any) {
	b.t.Helper()
	b.t.Fatalf("%v\nanswers %v, want %v", b.row[max(0, len(b.row)-60):], is, want)
}

func (b *both) told(err error, want api.Errno) {
	b.t.Helper()
	if plain.Told(err) != want {
		b.fail(err, want)
	}
}

func (b *both) plan(track, parent int, kids []int, epoch int) {
	b.t.Helper()
	b.called("Plan(%d, %d, %v, %d)", track, parent, kids, epoch)
	handed := slices.Clone(kids)
	err := b.n.Plan(track, parent, handed, epoch)
	if !slices.Equal(handed, kids) {
		b.fail(handed, kids)
	}
	for i := range handed {
		handed[i] = 14
	}
	b.told(err, b.m.plan(track, parent, kids, epoch))
}

func (b *both) sub(track, most int) {
	b.t.Helper()
	b.called("Sub(%d, %d)", track, most)
	id, err := b.n.Sub(track, most)
	want, e := b.m.sub(track, most)
	if id != want {
		b.fail(id, want)
	}
	b.told(err, e)
}

func (b *both) unsub(id int) {
	b.t.Helper()
	b.called("Unsub(%d)", id)
	b.told(b.n.Unsub(id), b.m.unsub(id))
}

func (b *both) send(track int, p api.Packet, now int) {
	b.t.Helper()
	b.called("Send(%d, %v, %d)", track, p, now)
	handed := p
	handed.Body = slices.Clone(p.Body)
	err := b.n.Send(track, handed, now)
	if !slices.Equal(handed.Body, p.Body) {
		b.fail(handed, p)
	}
	scribble(handed.Body)
	b.told(err, b.m.send(track, p, now))
}

func (b *both) hear(from int, bytes []byte, now int) {
	b.t.Helper()
	b.called("Hear(%d, %v, %d)", from, bytes, now)
	handed := slices.Clone(bytes)
	err := b.n.Hear(from, handed, now)
	if !slices.Equal(handed, bytes) {
		b.fail(handed, bytes)
	}
	scribble(handed)
	b.told(err, b.m.hear(from, bytes, now))
}

func (b *both) tick(now int) {
	b.t.Helper()
	b.called("Tick(%d)", now)
	b.told(b.n.Tick(now), b.m.tick(now))
}

func (b *both) out() {
	b.t.Helper()
	b.called("Out")
	l, want := b.n.Out(), b.m.out()
	if !sameLetters(l, want) {
		b.fail(l, want)
	}
	for i := range l {
		scribble(l[i].Body)
		l[i].To = 14
	}
}

func (b *both) got(id int) {
	b.t.Helper()
	b.called("Got(%d)", id)
	l, err := b.n.Got(id)
	want, e := b.m.gotBy(id)
	if !samePackets(l, want) {
		b.fail(l, want)
	}
	b.told(err, e)
	for i := range l {
		scribble(l[i].Body)
		l[i].Seq = -1
	}
}

// all asks for all that may be asked.
func (b *both) all() {
	b.t.Helper()
	b.out()
	for id := range b.m.lastSub + 2 {
		b.got(id)
	}
}

// scribble over bytes, and over what lies behind their length.
func scribble(b []byte) {
	b = b[:cap(b)]
	for i := range b {
		b[i] = 238
	}
}

// TestAllShortRows: all rows of four calls of some kinds, held against the model.
func TestAllShortRows(t *testing.T) {
	noStart := func(seq int) api.Packet { return api.Packet{Seq: seq, Time: 3 * seq, Body: []byte{1}} }
	now := 0
	calls := []func(b *both){
		func(b *both) { b.hear(4, framed(2, 12, 5, 1, start(65534)), now) },
		func(b *both) { b.hear(4, framed(2, 12, 5, 63, noStart(65535)), now) },
		func(b *both) { b.hear(4, framed(2, 1, 5, 64, start(0)), now) },
		func(b *both) { b.hear(4, framed(2, 12, 5, 1, noStart(1)), now) },
		func(b *both) { b.send(1, start(65535), now) },
		func(b *both) { b.send(1, start(1), now) },
		func(b *both) { b.hear(9, saidLost(2, 0, 1, 65534, 65535), now) },
		func(b *both) { b.hear(3, saidLost(1, 1, 65535), now) },
		func(b *both) { b.tick(now) },
		func(b *both) { now += 3; b.tick(now) },
		func(b *both) { now += 10; b.tick(now) },
		func(b *both) { b.sub(2, 0) },
		func(b *both) { b.unsub(1) },
		func(b *both) { b.plan(2, 4, []int{3, 9}, 5) },
		func(b *both) { b.plan(2, -1, []int{9}, 5); b.send(2, start(1), now) },
		func(b *both) { b.plan(2, 4, []int{9}, 6) },
		func(b *both) { b.hear(4, framed(2, 12, 6, 1, start(65535)), now) },
	}
	const long = 4
	row := make([]int, long)
	for {
		now = 0
		b := newBoth(t, me)
		b.plan(1, -1, []int{3}, 5)
		b.plan(2, 4, []int{9, 3}, 5)
		b.sub(2, 1)
		b.sub(1, 0)
		for _, i := range row {
			calls[i](b)
		}
		b.all()
		now += 4
		b.tick(now)
		b.all()
		at := 0
		for ; at < long; at++ {
			row[at]++
			if row[at] < len(calls) {
				break
			}
			row[at] = 0
		}
		if at == long {
			return
		}
	}
}

// lot plays calls by lot.
type lot struct {
	*both
	r    *rand.Rand
	now  int
	seqs [9]int // near which of them the packets of a track are
	wild int    // how far they are away from that, at most
}

// seq of a track: mostly the next one, or one that is near.
func (l *lot) seq(track int) int {
	if l.r.Intn(4) > 0 {
		l.seqs[track]++
		return l.seqs[track] % 65536
	}
	if l.r.Intn(20) == 0 {
		return l.r.Intn(65536)
	}
	if l.r.Intn(12) == 0 {
		l.seqs[track] += l.r.Intn(l.wild)
	}
	return (l.seqs[track] + 65536 - l.r.Intn(2*l.wild) + l.r.Intn(5)) % 65536
}

func (l *lot) packet(track int) api.Packet {
	p := api.Packet{Seq: l.seq(track), Time: l.r.Intn(1 << 32), Layer: l.r.Intn(4) * l.r.Intn(2), Level: l.r.Intn(128), Start: l.r.Intn(3) == 0}
	p.Body = make([]byte, l.r.Intn(4))
	l.r.Read(p.Body)
	if l.r.Intn(60) == 0 {
		p = badPackets[l.r.Intn(len(badPackets))].p
	}
	return p
}

// track of the first few, seldom one that is not planned, or that is none.
func (l *lot) track() int {
	if l.r.Intn(25) == 0 {
		return l.r.Intn(12) - 1
	}
	return 1 + l.r.Intn(3)
}

// when: mostly a little later, seldom a now that may not be.
func (l *lot) when() int {
	switch l.r.Intn(40) {
	case 0:
		return badTimes[l.r.Intn(len(badTimes))]
	case 1:
		return l.now - 1
	case 2:
		l.now += l.r.Intn(25)
	case 3, 4, 5, 6, 7, 8, 9, 10:
		l.now += l.r.Intn(3)
	}
	return l.now
}

// epoch of a track, now and then another one.
func (l *lot) epoch(track int) int {
	epoch := l.r.Intn(3)
	if t := l.m.tracks[track]; t != nil {
		epoch = t.epoch
		if l.r.Intn(15) == 0 {
			epoch += l.r.Intn(3) - 1
		}
	}
	return epoch
}

func (l *lot) node() int {
	if l.r.Intn(30) == 0 {
		return l.r.Intn(20) - 2
	}
	return l.r.Intn(5)
}

// parent of a track, now and then somebody else.
func (l *lot) parent(track int) int {
	if t := l.m.tracks[track]; t != nil && l.r.Intn(15) > 0 {
		return t.parent
	}
	return l.node()
}

// kid of a track, now and then somebody else.
func (l *lot) kid(track int) int {
	if t := l.m.tracks[track]; t != nil && len(t.kids) > 0 && l.r.Intn(15) > 0 {
		return t.kids[l.r.Intn(len(t.kids))]
	}
	return l.node()
}

func (l *lot) playPlan() {
	track := l.track()
	parent := l.node()
	if l.r.Intn(3) == 0 {
		parent = -1
	}
	kids := l.r.Perm(5)[:l.r.Intn(4)]
	if l.r.Intn(4) > 0 {
		kids = slices.DeleteFunc(kids, func(kid int) bool { return kid == parent || kid == l.m.id })
	}
	if l.r.Intn(20) == 0 {
		kids = append(kids, l.node())
	}
	l.plan(track, parent, kids, l.epoch(track))
}

func (l *lot) playFrame() {
	track := l.track()
	hops := l.r.Intn(4)
	if l.r.Intn(10) == 0 {
		hops = 61 + l.r.Intn(6)
	}
	b := framed(track, l.r.Intn(16), l.epoch(track), hops, l.packet(max(0, min(track, 8))))
	if l.r.Intn(60) == 0 {
		b = b[:l.r.Intn(len(b))]
	}
	l.hear(l.parent(track), b, l.when())
}

func (l *lot) playBack() {
	track := l.track()
	var b []byte
	switch l.r.Intn(6) {
	case 0:
		b = saidKey(track, l.r.Intn(5))
	case 1:
		b = saidRate(track, l.r.Intn(1100000))
	default:
		var seqs []int
		for range 1 + l.r.Intn(6) {
			seqs = append(seqs, (l.seqs[max(0, min(track, 8))]+65536+3-l.r.Intn(70))%65536)
		}
		slices.Sort(seqs)
		b = saidLost(track, slices.Compact(seqs)...)
	}
	if l.r.Intn(40) == 0 {
		b = b[:l.r.Intn(len(b))]
	}
	l.hear(l.kid(track), b, l.when())
}

func (l *lot) play() {
	switch k := l.r.Intn(100); {
	case k < 2:
		l.playPlan()
	case k < 5:
		l.sub(l.track(), l.r.Intn(6)-1)
	case k < 7:
		l.unsub(l.r.Intn(l.m.lastSub + 2))
	case k < 30:
		track := l.track()
		l.send(track, l.packet(max(0, min(track, 8))), l.when())
	case k < 65:
		l.playFrame()
	case k < 75:
		l.playBack()
	case k < 90:
		l.tick(l.when())
	case k < 94:
		l.out()
	default:
		l.got(l.r.Intn(l.m.lastSub + 2))
	}
}

// TestLongRowsByLot: held against the model, with faults among them.
func TestLongRowsByLot(t *testing.T) {
	for seed := range 400 {
		r := rand.New(rand.NewSource(int64(seed)))
		l := &lot{both: newBoth(t, r.Intn(5)), r: r, wild: []int{3, 10, 80, 250}[seed%4]}
		for i := range l.seqs {
			l.seqs[i] = []int{r.Intn(65536), 65500, 0}[r.Intn(3)]
		}
		for track := 1; track <= 3; track++ {
			l.playPlan()
		}
		for range 600 {
			l.play()
		}
		l.all()
		l.tick(l.now + 10)
		l.all()
	}
}

// TestARowWithGapsByLot: one track that loses much of what comes, with subscribers, held against the model.
func TestARowWithGapsByLot(t *testing.T) {
	for seed := range 150 {
		r := rand.New(rand.NewSource(int64(seed)))
		b := newBoth(t, me)
		b.plan(2, 4, []int{9}, 5)
		for most := range 3 {
			b.sub(2, most)
		}
		first, now := r.Intn(65536), 0
		for i := range 500 {
			now += r.Intn(2)
			for range 1 + r.Intn(2) {
				seq := (first + i - r.Intn(1+r.Intn(12))) & 65535
				p := api.Packet{Seq: seq, Time: 10 * seq, Layer: seq % 3 * (seq % 2), Start: seq%5 == 0}
				b.hear(4, framed(2, 4, 5, 1, p), now)
			}
			if r.Intn(3) == 0 {
				b.tick(now)
			}
			if r.Intn(30) == 0 {
				b.all()
			}
			if r.Intn(200) == 0 {
				first += 190 + r.Intn(15)
			}
		}
		b.all()
	}
}
