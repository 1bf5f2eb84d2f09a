package voice_test

import (
	"math"
	"math/rand"
	"slices"
	"testing"

	"choirloft/api"
	"choirloft/plain"
	"choirloft/voice"
)

const maxList, maxSubs, maxLevel = 200, 20, 127

// badManys: numbers of which no Top is, just below 1 and just above MaxSubs, and far away.
var badManys = []int{0, -1, -2, -maxSubs, math.MinInt, math.MinInt + 1,
	maxSubs + 1, maxSubs + 2, 2 * maxSubs, maxList, 256 + 1, 1 << 32, 1<<32 + 1, math.MaxInt - 1, math.MaxInt}

// badWhos: numbers that nobody may have, likewise.
var badWhos = []int{-1, -2, -maxList, math.MinInt, math.MinInt + 1,
	maxList + 1, maxList + 2, 2 * maxList, 256, 1 << 32, 1<<32 + 1, math.MaxInt - 1, math.MaxInt}

// badLevels: likewise of Levels.
var badLevels = []int{-1, -2, -maxLevel, -128, math.MinInt, math.MinInt + 1,
	maxLevel + 1, maxLevel + 2, 255, 256, 1 << 32, 1<<32 + 1, 1 << 60, math.MaxInt - 1, math.MaxInt}

// round is what Hear takes.
type round []api.Voice

// of makes a round of Whos and Levels, one behind the other.
func of(l ...int) round {
	var r round
	for i := 0; i < len(l); i += 2 {
		r = append(r, api.Voice{Who: l[i], Level: l[i+1]})
	}
	return r
}

// row makes a round in which those from first on up to last have one Level.
func row(first, last, level int) round {
	var r round
	for who := first; who <= last; who++ {
		r = append(r, api.Voice{Who: who, Level: level})
	}
	return r
}

func newVoices(t *testing.T, many int) *voice.Voices {
	t.Helper()
	v, err := voice.New(many)
	if v == nil || err != nil {
		t.Fatalf("New(%d) = %v, %v", many, v, err)
	}
	return v
}

func hears(t *testing.T, v *voice.Voices, r round) {
	t.Helper()
	if err := v.Hear(r); err != nil {
		t.Errorf("Hear(%v) = %v", r, err)
	}
}

// hearRefused tells that a round is refused, and that all is answered behind it as if it had not been.
func hearRefused(t *testing.T, v *voice.Voices, r round, want api.Errno) {
	t.Helper()
	speaker, top, quiet := v.Speaker(), v.Top(), v.Quiet()
	if err := v.Hear(r); plain.Told(err) != want {
		t.Errorf("Hear(%v) = %v, want %v", r, err, want)
	}
	speaks(t, v, speaker)
	tops(t, v, top)
	quiets(t, v, quiet...)
}

func speaks(t *testing.T, v *voice.Voices, want int) {
	t.Helper()
	if got := v.Speaker(); got != want {
		t.Errorf("Speaker = %d, want %d", got, want)
	}
}

func tops(t *testing.T, v *voice.Voices, want round) {
	t.Helper()
	if got := v.Top(); !slices.Equal(got, want) {
		t.Errorf("Top = %v, want %v", got, want)
	}
}

func quiets(t *testing.T, v *voice.Voices, want ...int) {
	t.Helper()
	if got := v.Quiet(); !slices.Equal(got, want) {
		t.Errorf("Quiet = %v, want %v", got, want)
	}
}

// model is the chapter's V1 and V2: everybody has a place, and what is answered is looked for there.
type model struct {
	many    int
	scores  [201]int // 0: none
	speaker int
}

func newModel(many int) *model {
	return &model{many: many, speaker: -1}
}

// eighth gives the least number that is not below an eighth of a score.
func eighth(score int) int {
	n := 0
	for 8*n < score {
		n++
	}
	return n
}

func (m *model) hear(r round) api.Errno {
	if len(r) > 200 {
		return api.ErrFull
	}
	for i, one := range r {
		if one.Who < 0 || 200 < one.Who || one.Level < 0 || 127 < one.Level {
			return api.ErrRange
		}
		for _, ahead := range r[:i] {
			if ahead.Who == one.Who {
				return api.ErrClash
			}
		}
	}
	next, some := m.scores, 0
	for who := range next {
		next[who] -= eighth(next[who])
		for _, one := range r {
			if one.Who == who {
				next[who] += 16 * one.Level
			}
		}
		if next[who] != 0 {
			some++
		}
	}
	if some > 200 {
		return api.ErrFull
	}
	m.scores = next
	m.choose()
	return api.OK
}

func (m *model) choose() {
	if m.speaker != -1 && m.scores[m.speaker] == 0 {
		m.speaker = -1
	}
	greatest := m.greatest(nil)
	switch {
	case greatest == -1:
	case m.speaker == -1:
		m.speaker = greatest
	case m.scores[greatest]-m.scores[m.speaker] > 200:
		m.speaker = greatest
	}
}

// greatest gives who has the greatest score, but for some, -1 where nobody has one.
func (m *model) greatest(but round) int {
	best, most := -1, 0
	for who, score := range m.scores {
		in := slices.ContainsFunc(but, func(one api.Voice) bool { return one.Who == who })
		if score > most && !in {
			best, most = who, score
		}
	}
	return best
}

func (m *model) top() (l round) {
	for len(l) < m.many {
		who := m.greatest(l)
		if who == -1 {
			break
		}
		l = append(l, api.Voice{Who: who, Level: m.scores[who]})
	}
	return l
}

func (m *model) quiet() (l []int) {
	top := m.top()
	for who, score := range m.scores {
		in := slices.ContainsFunc(top, func(one api.Voice) bool { return one.Who == who })
		if score > 0 && !in {
			l = append(l, who)
		}
	}
	return l
}

// asModel hears a round on both sides, and holds all answers against each other.
func asModel(t *testing.T, v *voice.Voices, m *model, r round) {
	t.Helper()
	want := m.hear(r)
	if err := v.Hear(r); plain.Told(err) != want {
		t.Errorf("Hear(%v) = %v, want %v", r, err, want)
	}
	sameAs(t, v, m)
}

func sameAs(t *testing.T, v *voice.Voices, m *model) {
	t.Helper()
	speaks(t, v, m.speaker)
	tops(t, v, m.top())
	quiets(t, v, m.quiet()...)
}

func TestNewAtItsEdges(t *testing.T) {
	for many := 1; many <= maxSubs; many++ {
		v := newVoices(t, many)
		speaks(t, v, -1)
		tops(t, v, nil)
		quiets(t, v)
	}
}

func TestNewOfWrongNumbers(t *testing.T) {
	for _, many := range badManys {
		if v, err := voice.New(many); v != nil || plain.Told(err) != api.ErrRange {
			t.Errorf("New(%d) = %v, %v", many, v, err)
		}
	}
}

// TestHearNobody: at first, and behind a round.
func TestHearNobody(t *testing.T) {
	for _, r := range []round{nil, {}} {
		v := newVoices(t, 1)
		hears(t, v, r)
		speaks(t, v, -1)
		tops(t, v, nil)
		quiets(t, v)
		hears(t, v, of(7, 4))
		tops(t, v, of(7, 64))
		hears(t, v, r)
		speaks(t, v, 7)
		tops(t, v, of(7, 56))
		quiets(t, v)
	}
}

// TestHearOne: everybody, at every Level.
func TestHearOne(t *testing.T) {
	for who := 0; who <= maxList; who++ {
		for level := 0; level <= maxLevel; level++ {
			v := newVoices(t, 1)
			hears(t, v, of(who, level))
			quiets(t, v)
			if level == 0 {
				speaks(t, v, -1)
				tops(t, v, nil)
				continue
			}
			speaks(t, v, who)
			tops(t, v, of(who, 16*level))
		}
	}
}

// TestEighths: of a score of which an eighth is a whole number, and of those of which it is not, down to 0.
func TestEighths(t *testing.T) {
	v := newVoices(t, 1)
	hears(t, v, of(3, 4))
	for _, score := range []int{64, 56, 49, 42, 36, 31, 27, 23, 20, 17, 14, 12, 10, 8, 7, 6, 5, 4, 3, 2, 1} {
		tops(t, v, of(3, score))
		speaks(t, v, 3)
		hears(t, v, nil)
	}
	tops(t, v, nil)
	speaks(t, v, -1)
}

// TestOfAllThatAreHeardAhead: who is in the round and was heard ahead, who is not in it, who is in it with Level 0,
// who is new, and who is new with Level 0.
func TestOfAllThatAreHeardAhead(t *testing.T) {
	v := newVoices(t, maxSubs)
	hears(t, v, of(1, 10, 2, 11, 3, 12))
	tops(t, v, of(3, 192, 2, 176, 1, 160))
	hears(t, v, of(1, 5, 3, 0, 4, 2, 5, 0))
	tops(t, v, of(1, 220, 3, 168, 2, 154, 4, 32))
	quiets(t, v)
	// 220 and 154 have no eighth that is a whole number: 28 and 20 go off.
	hears(t, v, of(2, 127, 5, 1))
	tops(t, v, of(2, 2166, 1, 192, 3, 147, 4, 28, 5, 16))
}

// TestWhoComesToNothing is forgotten, and begins anew when it is heard again.
func TestWhoComesToNothing(t *testing.T) {
	v := newVoices(t, 1)
	hears(t, v, of(9, 1, 4, 127))
	for range 20 {
		if slices.Contains(v.Quiet(), 9) {
			hears(t, v, of(9, 0, 4, 127))
		}
	}
	quiets(t, v)
	hears(t, v, of(9, 2))
	quiets(t, v, 9)
	for range 200 {
		hears(t, v, nil)
	}
	tops(t, v, nil)
	quiets(t, v)
	speaks(t, v, -1)
	hears(t, v, of(9, 3))
	tops(t, v, of(9, 48))
	speaks(t, v, 9)
}

// TestTheLastOfAScore: 1 is gone in the next round, but not where it is in it.
func TestTheLastOfAScore(t *testing.T) {
	for _, last := range []struct {
		r    round
		want round
	}{{nil, nil}, {of(6, 0), nil}, {of(6, 1), of(6, 16)}, {of(6, 127), of(6, 2032)}, {of(5, 0), nil}} {
		v := newVoices(t, 1)
		hears(t, v, of(6, 1))
		for v.Top()[0].Level > 1 {
			hears(t, v, nil)
		}
		speaks(t, v, 6)
		hears(t, v, last.r)
		tops(t, v, last.want)
		quiets(t, v)
		if last.want == nil {
			speaks(t, v, -1)
		} else {
			speaks(t, v, 6)
		}
	}
}

// TestTheGreatestScore: who is always heard as loud as can be comes no further than to a score of which an eighth,
// rounded up, is 16 times 127.
func TestTheGreatestScore(t *testing.T) {
	v, m := newVoices(t, 1), newModel(1)
	for range 200 {
		asModel(t, v, m, of(200, 127))
	}
	tops(t, v, of(200, 16249))
	hears(t, v, nil)
	tops(t, v, of(200, 14217))
}

func TestHearAsManyAsThereMayBe(t *testing.T) {
	for _, first := range []int{0, 1} {
		for _, level := range []int{1, maxLevel} {
			v := newVoices(t, maxSubs)
			hears(t, v, row(first, first+maxList-1, level))
			speaks(t, v, first)
			tops(t, v, row(first, first+maxSubs-1, 16*level))
			var quiet []int
			for who := first + maxSubs; who < first+maxList; who++ {
				quiet = append(quiet, who)
			}
			quiets(t, v, quiet...)
		}
	}
}

// TestHearTooMany: one more, whatever they are; that is told ahead of what is wrong with one of them.
func TestHearTooMany(t *testing.T) {
	v := newVoices(t, 2)
	hears(t, v, of(1, 2, 3, 4, 5, 6))
	for _, r := range []round{
		row(0, maxList, 1),
		row(0, maxList, 0),
		make(round, maxList+1),
		append(of(-1, 0), row(0, maxList-1, 1)...),
		append(of(0, -1), row(1, maxList, 1)...),
		append(row(0, maxList-1, 1), of(0, 1)...),
		append(row(0, maxList-1, 1), of(maxList, 128)...),
		row(0, 2*maxList, maxLevel+1),
		make(round, 5000),
	} {
		hearRefused(t, v, r, api.ErrFull)
	}
	// One less is told by what is wrong with it.
	hearRefused(t, v, make(round, maxList), api.ErrClash)
	hearRefused(t, v, append(row(0, maxList-2, 1), of(maxList, 128)...), api.ErrRange)
	hears(t, v, row(0, maxList-1, 0))
}

// TestMoreScoresThanThereMayBe: as many as may have scores have them, and another one comes.
func TestMoreScoresThanThereMayBe(t *testing.T) {
	for other := 0; other <= maxList; other += 50 {
		v, m := newVoices(t, 3), newModel(3)
		r := slices.Delete(row(0, maxList, 1), other, other+1)
		asModel(t, v, m, r)
		for _, more := range []round{
			of(other, 1), of(other, maxLevel), of((other+1)%201, 5, other, 5), of(other, 5, (other+1)%201, 0),
		} {
			hearRefused(t, v, more, api.ErrFull)
			sameAs(t, v, m)
		}
		// One with Level 0 would have no score.
		asModel(t, v, m, of(other, 0))
		asModel(t, v, m, r)
		hearRefused(t, v, of(other, 1), api.ErrFull)
		sameAs(t, v, m)
	}
}

// TestRoomIsMade: who comes to 0 in a round does not count in it.
func TestRoomIsMade(t *testing.T) {
	v, m := newVoices(t, 1), newModel(1)
	asModel(t, v, m, row(0, maxList-1, 1))
	for m.scores[0] > 2 {
		hearRefused(t, v, of(maxList, 1), api.ErrFull)
		asModel(t, v, m, nil)
	}
	// All have 2, and 1 behind this.
	hearRefused(t, v, of(maxList, 1), api.ErrFull)
	asModel(t, v, m, row(0, maxList-2, 1))
	if m.scores[maxList-1] != 1 {
		t.Fatalf("the last one has %d", m.scores[maxList-1])
	}
	// Where the last one is in the round it stays, and there is no room.
	hearRefused(t, v, of(maxList-1, 1, maxList, 1), api.ErrFull)
	hearRefused(t, v, of(maxList, 1, maxList-1, 1), api.ErrFull)
	// Where it is in it with Level 0 it goes.
	hears(t, v, of(maxList-1, 0, maxList, 1))
	m.hear(of(maxList, 1))
	sameAs(t, v, m)
	tops(t, v, of(maxList, 16)) // the others have 14
	if quiet := v.Quiet(); len(quiet) != maxList-1 || slices.Contains(quiet, maxList-1) {
		t.Errorf("Quiet = %v", quiet)
	}
}

// TestAllGoAtOnce: as many as may have scores come to 0 in the round in which another one is heard; and all but one of
// them are heard in it, too.
func TestAllGoAtOnce(t *testing.T) {
	last := func() *voice.Voices {
		v := newVoices(t, maxSubs)
		hears(t, v, row(0, maxList-1, 1))
		for v.Top()[0].Level > 1 {
			hears(t, v, nil)
		}
		speaks(t, v, 0)
		return v
	}
	v := last()
	hears(t, v, of(maxList, 1))
	speaks(t, v, maxList)
	tops(t, v, of(maxList, 16))
	quiets(t, v)

	v = last()
	hears(t, v, row(1, maxList, 1))
	speaks(t, v, 1)
	tops(t, v, row(1, maxSubs, 16))
	if quiet := v.Quiet(); len(quiet) != maxList-maxSubs {
		t.Errorf("Quiet = %v", quiet)
	}
}

func TestHearOfWrongNumbers(t *testing.T) {
	v := newVoices(t, 2)
	hears(t, v, of(0, 20, 1, 30, 2, 40))
	for _, who := range badWhos {
		hearRefused(t, v, of(who, 0), api.ErrRange)
		hearRefused(t, v, of(who, maxLevel), api.ErrRange)
		hearRefused(t, v, of(0, 1, 1, 1, who, 1), api.ErrRange)
		hearRefused(t, v, of(0, 1, who, 1, 1, 1), api.ErrRange)
		for _, level := range badLevels {
			hearRefused(t, v, of(who, level), api.ErrRange)
		}
	}
	for _, level := range badLevels {
		hearRefused(t, v, of(0, level), api.ErrRange)
		hearRefused(t, v, of(maxList, level), api.ErrRange)
		hearRefused(t, v, of(0, 1, 1, 1, 2, level), api.ErrRange)
		hearRefused(t, v, of(0, 1, 1, level, 2, 1), api.ErrRange)
	}
	hearRefused(t, v, append(row(0, maxList-2, 1), of(maxList+1, 1)...), api.ErrRange)
	hearRefused(t, v, append(row(0, maxList-2, 1), of(maxList, -1)...), api.ErrRange)
}

// TestHearSomebodyTwice: beside each other, with others between, at the same Level and at others.
func TestHearSomebodyTwice(t *testing.T) {
	v := newVoices(t, 2)
	hears(t, v, of(0, 20, 1, 30, 2, 40))
	for _, who := range []int{0, 1, 7, maxList} {
		for _, first := range []int{0, 1, maxLevel} {
			for _, second := range []int{0, 1, maxLevel} {
				hearRefused(t, v, of(who, first, who, second), api.ErrClash)
				hearRefused(t, v, of(who, first, 2, 5, who, second), api.ErrClash)
				hearRefused(t, v, of(3, 0, who, first, who, second, 2, 5), api.ErrClash)
			}
		}
	}
	hearRefused(t, v, append(row(0, maxList-2, 1), of(0, 1)...), api.ErrClash)
	hearRefused(t, v, append(row(0, maxList-2, 0), of(maxList-2, 0)...), api.ErrClash)
	// In two rounds somebody may be.
	hears(t, v, of(7, 1))
	hears(t, v, of(7, 1))
	quiets(t, v, 0, 7)
}

// TestTwoFaults: voice by voice, and of one voice what is named first.
func TestTwoFaults(t *testing.T) {
	v := newVoices(t, 2)
	hears(t, v, of(0, 20, 1, 30, 2, 40))
	for _, two := range []struct {
		r    round
		want api.Errno
	}{
		{of(5, 1, 5, 128), api.ErrRange},       // both in one voice
		{of(5, 1, 5, -1), api.ErrRange},        // likewise
		{of(5, 1, 5, 1, -1, 1), api.ErrClash},  // the clash is ahead
		{of(5, 1, 5, 1, 6, 128), api.ErrClash}, // likewise
		{of(5, 1, -1, 1, 5, 1), api.ErrRange},  // the clash is behind
		{of(5, 1, 6, 128, 5, 1), api.ErrRange}, // likewise
		{of(-1, 1, -1, 1), api.ErrRange},       // twice the same that nobody may have
		{of(5, 128, 5, 128), api.ErrRange},     // the first one has a fault
		{of(5, 128, 5, 1), api.ErrRange},       // likewise
	} {
		hearRefused(t, v, two.r, two.want)
	}
	// More than may have scores is told behind both.
	full := newVoices(t, 2)
	hears(t, full, row(0, maxList-1, 10))
	hearRefused(t, full, of(maxList, 1), api.ErrFull)
	hearRefused(t, full, of(maxList, 1, -1, 1), api.ErrRange)
	hearRefused(t, full, of(maxList, 1, 0, 128), api.ErrRange)
	hearRefused(t, full, of(maxList, 1, maxList, 1), api.ErrClash)
	hearRefused(t, full, of(maxList, 1, 0, 1, 0, 1), api.ErrClash)
	hearRefused(t, full, of(0, 1, 0, 1, maxList, 1), api.ErrClash)
}

// TestFirstSpeaker: the greatest score, of equal ones the least Who, wherever they stand in the round.
func TestFirstSpeaker(t *testing.T) {
	for _, first := range []struct {
		r    round
		want int
	}{
		{of(4, 1), 4},
		{of(0, 1), 0},
		{of(4, 0), -1},
		{of(4, 0, 6, 0), -1},
		{of(4, 0, 6, 1), 6},
		{of(4, 1, 6, 2), 6},
		{of(6, 2, 4, 1), 6},
		{of(4, 2, 6, 1), 4},
		{of(6, 5, 4, 5), 4},
		{of(4, 5, 6, 5), 4},
		{of(9, 5, 6, 7, 3, 5, 8, 7, 2, 5), 6},
		{of(maxList, maxLevel, 0, maxLevel), 0},
	} {
		v := newVoices(t, 1)
		hears(t, v, first.r)
		speaks(t, v, first.want)
	}
}

// TestNobodySpeaksUntilSomebodyIsHeard: rounds without a score leave it at -1.
func TestNobodySpeaksUntilSomebodyIsHeard(t *testing.T) {
	v := newVoices(t, 1)
	for _, r := range []round{nil, of(3, 0), of(3, 0, 2, 0)} {
		hears(t, v, r)
		speaks(t, v, -1)
	}
	hears(t, v, of(3, 0, 2, 1))
	speaks(t, v, 2)
}

// TestAnotherOneJustAbove: 200 above is not enough, whether its Who is greater or less; one more is.
func TestAnotherOneJustAbove(t *testing.T) {
	for _, other := range []int{0, 8, maxList} {
		v := newVoices(t, 1)
		hears(t, v, of(5, 4))
		hears(t, v, of(other, 16)) // 64 less 8, and 256
		tops(t, v, of(other, 256))
		speaks(t, v, 5)

		v = newVoices(t, 1)
		hears(t, v, of(5, 4))
		for range 6 {
			hears(t, v, nil)
		}
		hears(t, v, of(other, 14)) // 27 less 4, and 224
		tops(t, v, of(other, 224))
		quiets(t, v, 5)
		speaks(t, v, other)

		// 27 less 4, and 208: 185 above.
		v = newVoices(t, 1)
		hears(t, v, of(5, 4))
		for range 6 {
			hears(t, v, nil)
		}
		hears(t, v, of(other, 13))
		tops(t, v, of(other, 208))
		speaks(t, v, 5)
	}
}

// TestAboveButNotTheGreatest: the greatest takes the place, though others are more than 200 above as well.
func TestAboveButNotTheGreatest(t *testing.T) {
	v := newVoices(t, 4)
	hears(t, v, of(5, 1))
	speaks(t, v, 5)
	hears(t, v, of(1, 20, 3, 21, 9, 20))
	tops(t, v, of(3, 336, 1, 320, 9, 320, 5, 14))
	speaks(t, v, 3)

	v = newVoices(t, 4)
	hears(t, v, of(5, 1))
	hears(t, v, of(9, 20, 3, 20, 7, 20))
	speaks(t, v, 3)

	// One is above the speaker, but none far enough.
	v = newVoices(t, 4)
	hears(t, v, of(5, 10))
	hears(t, v, of(2, 11, 3, 12))
	tops(t, v, of(3, 192, 2, 176, 5, 140))
	speaks(t, v, 5)
}

// TestEqualOnesDoNotTakeThePlace: of equal ones the least Who begins, but who speaks goes on.
func TestEqualOnesDoNotTakeThePlace(t *testing.T) {
	v := newVoices(t, 2)
	hears(t, v, of(5, 2))
	hears(t, v, of(5, 0, 3, 1))
	hears(t, v, of(5, 2, 3, 3))
	speaks(t, v, 5)
	v = newVoices(t, 2)
	hears(t, v, of(5, 8))
	hears(t, v, of(3, 7)) // 112 both
	tops(t, v, of(3, 112, 5, 112))
	speaks(t, v, 5)
}

// TestSpeakerIsForgotten: where somebody else is there it speaks at once, however little it has; where nobody is,
// nobody does, until somebody is heard.
func TestSpeakerIsForgotten(t *testing.T) {
	// Down to 1.
	quiet := func() *voice.Voices {
		v := newVoices(t, 3)
		hears(t, v, of(5, 1))
		for v.Top()[0].Level > 1 {
			hears(t, v, nil)
		}
		speaks(t, v, 5)
		return v
	}
	for _, last := range []struct {
		r    round
		want int
	}{
		{nil, -1},
		{of(5, 0), -1},
		{of(2, 0), -1},
		{of(2, 1), 2},
		{of(9, 1), 9},
		{of(9, 1, 2, 1), 2},
		{of(9, 2, 2, 1), 9},
		{of(5, 0, 2, 1), 2},
		{of(5, 1, 2, 1), 5},
		{of(5, 1, 2, 13), 5},  // 192 above
		{of(5, 1, 2, 14), 2},  // 208 above
		{of(2, 127, 5, 0), 2}, // forgotten, and far below
	} {
		v := quiet()
		hears(t, v, last.r)
		speaks(t, v, last.want)
	}
	v := quiet()
	hears(t, v, nil)
	hears(t, v, nil)
	speaks(t, v, -1)
	hears(t, v, of(9, 1, 8, 1))
	speaks(t, v, 8)
	// Who spoke once has no claim.
	hears(t, v, of(5, 12))
	tops(t, v, of(5, 192, 8, 14, 9, 14))
	speaks(t, v, 8)
}

// TestAnotherOneLastsLonger: it was in Quiet beside the speaker, and speaks when that is forgotten.
func TestAnotherOneLastsLonger(t *testing.T) {
	v := newVoices(t, 1)
	hears(t, v, of(5, 1))
	hears(t, v, of(7, 12, 3, 12)) // 14, and 192 both
	for range 50 {
		top := v.Top()[0].Who
		if top != 3 {
			t.Fatalf("Top = %v", v.Top())
		}
		if slices.Contains(v.Quiet(), 5) {
			speaks(t, v, 5)
		} else {
			speaks(t, v, 3)
		}
		if len(v.Quiet()) == 1 {
			break
		}
		hears(t, v, nil)
	}
	quiets(t, v, 7)
	speaks(t, v, 3)
}

// TestTop: fewer than many have scores, just many, and more.
func TestTop(t *testing.T) {
	r := of(8, 3, 2, 5, 6, 5, 4, 1, 0, 0, 1, 2)
	sorted := of(2, 80, 6, 80, 8, 48, 1, 32, 4, 16)
	for many := 1; many <= 7; many++ {
		v := newVoices(t, many)
		hears(t, v, r)
		tops(t, v, sorted[:min(many, 5)])
	}
	v := newVoices(t, maxSubs)
	hears(t, v, row(1, maxSubs-1, 3))
	tops(t, v, row(1, maxSubs-1, 48))
	v = newVoices(t, maxSubs)
	hears(t, v, row(1, maxSubs, 3))
	tops(t, v, row(1, maxSubs, 48))
	quiets(t, v)
	v = newVoices(t, maxSubs)
	hears(t, v, row(1, maxSubs+1, 3))
	tops(t, v, row(1, maxSubs, 48))
	quiets(t, v, maxSubs+1)
}

// TestTopOfEquals: the edge of Top is between equal ones, whichever stands first in the round.
func TestTopOfEquals(t *testing.T) {
	r := of(30, 7, 10, 7, 20, 7, 40, 9, 50, 7)
	for range 5 {
		r = append(r[1:len(r):len(r)], r[0])
		v := newVoices(t, 3)
		hears(t, v, r)
		tops(t, v, of(40, 144, 10, 112, 20, 112))
		quiets(t, v, 30, 50)
	}
}

// TestSpeakerNeedNotBeInTop: it goes on in Quiet.
func TestSpeakerNeedNotBeInTop(t *testing.T) {
	v := newVoices(t, 1)
	hears(t, v, of(5, 10))
	hears(t, v, of(3, 12))
	tops(t, v, of(3, 192))
	quiets(t, v, 5)
	speaks(t, v, 5)
}

// TestQuiet: none, one, several; they rise, though their scores do not.
func TestQuiet(t *testing.T) {
	r := of(8, 3, 2, 1, 6, 5, 4, 9, 0, 0, 1, 2)
	for many, want := range map[int][]int{1: {1, 2, 6, 8}, 2: {1, 2, 8}, 3: {1, 2}, 4: {2}, 5: nil, 6: nil, 20: nil} {
		v := newVoices(t, many)
		hears(t, v, r)
		quiets(t, v, want...)
		speaks(t, v, 4)
	}
	v := newVoices(t, 1)
	hears(t, v, of(maxList, 1, 0, 2, 100, 3, 50, 4))
	quiets(t, v, 0, 100, maxList)
}

// TestManyHangsNotOnScores: Speaker is the same whatever Top has.
func TestManyHangsNotOnScores(t *testing.T) {
	random := rand.New(rand.NewSource(15))
	var all []*voice.Voices
	for many := 1; many <= maxSubs; many++ {
		all = append(all, newVoices(t, many))
	}
	whole := all[maxSubs-1]
	for range 200 {
		r := lot(random, 20)
		for _, v := range all {
			hears(t, v, r)
		}
		for i, v := range all {
			speaks(t, v, whole.Speaker())
			top := whole.Top()
			tops(t, v, top[:min(i+1, len(top))])
		}
	}
}

// TestAskingChangesNothing: what is answered is answered again.
func TestAskingChangesNothing(t *testing.T) {
	v := newVoices(t, 2)
	hears(t, v, of(3, 4, 2, 6, 9, 5))
	for range 3 {
		speaks(t, v, 2)
		tops(t, v, of(2, 96, 9, 80))
		quiets(t, v, 3)
	}
	hears(t, v, nil)
	tops(t, v, of(2, 84, 9, 70))
}

// TestOrderOfARound: it does not matter.
func TestOrderOfARound(t *testing.T) {
	random := rand.New(rand.NewSource(3))
	for range 50 {
		v, m := newVoices(t, 5), newModel(5)
		for range 20 {
			r := lot(random, 12)
			m.hear(r)
			random.Shuffle(len(r), func(i, j int) { r[i], r[j] = r[j], r[i] })
			hears(t, v, r)
			sameAs(t, v, m)
		}
	}
}

// lot makes a round of some of the first ones.
func lot(random *rand.Rand, most int) round {
	levels := []int{0, 1, 2, 5, 12, 13, 14, 60, 126, 127}
	var r round
	for who := range most {
		switch random.Intn(5) {
		case 0:
			r = append(r, api.Voice{Who: who, Level: levels[random.Intn(len(levels))]})
		case 1:
			r = append(r, api.Voice{Who: who, Level: random.Intn(maxLevel + 1)})
		}
	}
	random.Shuffle(len(r), func(i, j int) { r[i], r[j] = r[j], r[i] })
	return r
}

// rounds gives all rounds of the first n, each of which is not in it or has one of some Levels.
func rounds(n int, levels ...int) []round {
	if n == 0 {
		return []round{nil}
	}
	var l []round
	for _, r := range rounds(n-1, levels...) {
		l = append(l, r)
		for _, level := range levels {
			l = append(l, append(slices.Clone(r), api.Voice{Who: n - 1, Level: level}))
		}
	}
	return l
}

// TestAllShortRows: all rows of three rounds of up to three voices, and of four rounds of up to two, of some Levels.
func TestAllShortRows(t *testing.T) {
	play := func(many int, all []round, length int) {
		row := make([]round, length)
		var fill func(at int)
		fill = func(at int) {
			if at < length {
				for _, r := range all {
					row[at] = r
					fill(at + 1)
				}
				return
			}
			v, m := newVoices(t, many), newModel(many)
			for _, r := range row {
				m.hear(r)
				hears(t, v, r)
			}
			sameAs(t, v, m)
		}
		fill(0)
	}
	play(1, rounds(3, 0, 1), 3)
	play(2, rounds(3, 1, 15), 3)
	play(1, rounds(2, 1, 14, 127), 3)
	play(1, rounds(2, 0, 13), 4)
}

// TestAsTheModel: long rows by lot, of few and of all, with faults among them.
func TestAsTheModel(t *testing.T) {
	for seed := range 120 {
		random := rand.New(rand.NewSource(int64(seed)))
		many := 1 + random.Intn(maxSubs)
		most := []int{2, 3, 5, 30, 201}[seed%5]
		v, m := newVoices(t, many), newModel(many)
		for range 40 {
			r := lot(random, most)
			switch random.Intn(8) {
			case 0:
				r = nil
			case 1:
				r = append(r, api.Voice{Who: badWhos[random.Intn(len(badWhos))], Level: 1})
			case 2:
				r = append(r, api.Voice{Who: random.Intn(most), Level: 1}) // maybe there
			case 3:
				r = append(of(maxList, badLevels[random.Intn(len(badLevels))]), r...)
			}
			asModel(t, v, m, r)
		}
		for range random.Intn(60) {
			asModel(t, v, m, nil)
		}
		asModel(t, v, m, lot(random, most))
	}
}

// TestFullByLot: all but a few are heard, so that rounds are refused for want of room.
func TestFullByLot(t *testing.T) {
	refused := 0
	for seed := range 20 {
		random := rand.New(rand.NewSource(int64(seed)))
		v, m := newVoices(t, 1), newModel(1)
		for range 40 {
			r := row(0, maxList, random.Intn(2))
			from := random.Intn(len(r))
			r = slices.Delete(r, from, min(len(r), from+1+random.Intn(3)))
			before := *m
			if m.hear(r) == api.ErrFull {
				refused++
			}
			*m = before
			asModel(t, v, m, r)
		}
	}
	if refused == 0 {
		t.Error("no round was refused")
	}
}

// TestRefusedRoundsChangeNothing: with refused rounds between, all goes as without them.
func TestRefusedRoundsChangeNothing(t *testing.T) {
	random := rand.New(rand.NewSource(1))
	bad := []struct {
		r    round
		want api.Errno
	}{
		{of(-1, 5), api.ErrRange},
		{of(0, 128), api.ErrRange},
		{of(1, 127, 2, 127, maxList+1, 0), api.ErrRange},
		{of(3, 9, 4, -1), api.ErrRange},
		{of(0, 127, 0, 127), api.ErrClash},
		{row(0, maxList, 127), api.ErrFull},
	}
	for range 50 {
		v, apart := newVoices(t, 3), newVoices(t, 3)
		for range 30 {
			b := bad[random.Intn(len(bad))]
			hearRefused(t, v, b.r, b.want)
			r := lot(random, 6)
			hears(t, v, r)
			hears(t, apart, r)
			speaks(t, v, apart.Speaker())
			tops(t, v, apart.Top())
			quiets(t, v, apart.Quiet()...)
		}
	}
}

// TestVoicesAreApart: two do not know of each other, though they hear one list.
func TestVoicesAreApart(t *testing.T) {
	a, b := newVoices(t, 1), newVoices(t, 2)
	r := of(3, 4, 2, 6)
	hears(t, a, r)
	speaks(t, b, -1)
	tops(t, b, nil)
	quiets(t, b)
	hears(t, b, r)
	hears(t, b, of(7, 127))
	speaks(t, a, 2)
	tops(t, a, of(2, 96))
	quiets(t, a, 3)
	speaks(t, b, 7)
	tops(t, b, of(7, 2032, 2, 84))
	quiets(t, b, 3)
}

// TestListsAreLeft: no list that is handed in is changed, nor what lies behind its length.
func TestListsAreLeft(t *testing.T) {
	for _, r := range []round{
		of(9, 5, 3, 7, 5, 0), of(9, 5, -1, 7), of(9, 5, 9, 7), of(9, 5, 3, 128), row(0, maxList-1, 3), row(0, maxList, 3), nil,
	} {
		whole := append(slices.Clone(r), of(77, 88, -5, 1000)...)
		was := slices.Clone(whole)
		v := newVoices(t, 1)
		hears(t, v, of(9, 1, 8, 2))
		err := v.Hear(whole[:len(r)])
		v.Speaker()
		v.Top()
		v.Quiet()
		if !slices.Equal(whole, was) {
			t.Errorf("Hear(%v) = %v made %v of %v", r, err, whole, was)
		}
		hears(t, v, of(9, 1, 8, 2))
		if !slices.Equal(whole, was) {
			t.Errorf("a later Hear made %v of %v", whole, was)
		}
	}
}

// TestListsAreNotKept: what is written into a list behind the call is not seen.
func TestListsAreNotKept(t *testing.T) {
	v := newVoices(t, 2)
	r := of(9, 5, 3, 7, 5, 6)
	hears(t, v, r)
	for i := range r {
		r[i] = api.Voice{Who: 100 + i, Level: 127}
	}
	speaks(t, v, 3)
	tops(t, v, of(3, 112, 5, 96))
	quiets(t, v, 9)
	hears(t, v, nil)
	tops(t, v, of(3, 98, 5, 84))
}

// spoil writes into all memory that a list has.
func spoil[T any](l []T, bad T) {
	l = l[:cap(l)]
	for i := range l {
		l[i] = bad
	}
}

// TestMemoryIsApart: what comes out is the caller's.
func TestMemoryIsApart(t *testing.T) {
	v := newVoices(t, 2)
	hears(t, v, of(9, 5, 3, 7, 5, 6, 1, 4))
	top, quiet := v.Top(), v.Quiet()
	again, still := v.Top(), v.Quiet()
	spoil(top, api.Voice{Who: -7, Level: -7})
	spoil(quiet, -7)
	want := of(3, 112, 5, 96)
	if !slices.Equal(again, want) || !slices.Equal(still, []int{1, 9}) {
		t.Errorf("another answer is %v and %v", again, still)
	}
	tops(t, v, want)
	quiets(t, v, 1, 9)
	speaks(t, v, 3)
	// A later round does not change what came out.
	hears(t, v, of(200, 127, 0, 126))
	if !slices.Equal(again, want) || !slices.Equal(still, []int{1, 9}) {
		t.Errorf("what came out is %v and %v", again, still)
	}
	tops(t, v, of(200, 2032, 0, 2016))
	quiets(t, v, 1, 3, 5, 9)
}

// TestWhatLiesBehindIsNotRead: the same list with other things behind its length is the same round.
func TestWhatLiesBehindIsNotRead(t *testing.T) {
	for _, behind := range []round{nil, of(3, 127), of(-1, 0), row(0, 2*maxList, 9)} {
		whole := append(of(3, 4, 5, 6), behind...)
		v := newVoices(t, 5)
		hears(t, v, whole[:2])
		tops(t, v, of(5, 96, 3, 64))
	}
}
