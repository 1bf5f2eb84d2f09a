package back_test

import (
	"bytes"
	"math"
	"math/rand"
	"reflect"
	"slices"
	"testing"

	"choirloft/api"
	"choirloft/back"
	"choirloft/plain"
)

const maxSeq, maxList = 65535, 200

// outside: numbers that are not from least to most, just outside and far outside.
func outside(least, most int) []int {
	l := []int{least - 1, least - 2, most + 1, most + 2, least + 256, least + 65536, least - 65536, least + 1<<32, least - 1<<32,
		math.MinInt, math.MinInt + 1, math.MaxInt - 1, math.MaxInt}
	return slices.DeleteFunc(l, func(n int) bool { return n >= least && n <= most })
}

func upFrom(first, count, by int) []int {
	l := make([]int, count)
	for i := range l {
		l[i] = first + i*by
	}
	return l
}

// couples: a Base and a Mask, and so on.
func couples(words ...int) []api.Pair {
	var pairs []api.Pair
	for i := 0; i+1 < len(words); i += 2 {
		pairs = append(pairs, api.Pair{Base: words[i], Mask: words[i+1]})
	}
	return pairs
}

func repeated(p api.Pair, count int) []api.Pair {
	return slices.Repeat([]api.Pair{p}, count)
}

// told is which numbers are there, one by one.
func told(numbers []int) *[maxSeq + 1]bool {
	var there [maxSeq + 1]bool
	for _, n := range numbers {
		there[n] = true
	}
	return &there
}

// modelPairs is the chapter's B1, word for word: the least that is not told yet, and what is there of the 16 behind it.
func modelPairs(numbers []int) []api.Pair {
	left, there := told(numbers), told(numbers)
	var pairs []api.Pair
	for base := range left {
		if !left[base] {
			continue
		}
		p := api.Pair{Base: base}
		for i, bit := 0, 1; i <= 15; i, bit = i+1, bit*2 {
			if base+i+1 <= maxSeq && there[base+i+1] {
				p.Mask += bit
				left[base+i+1] = false
			}
		}
		pairs = append(pairs, p)
	}
	return pairs
}

// modelNumbers is the chapter's B1: those of pairs that have no fault.
func modelNumbers(pairs []api.Pair) []int {
	var there [maxSeq + 1]bool
	for _, p := range pairs {
		there[p.Base] = true
		for i, rest := 0, p.Mask; rest > 0; i, rest = i+1, rest/2 {
			if rest%2 == 1 {
				there[p.Base+i+1] = true
			}
		}
	}
	var numbers []int
	for n, is := range there {
		if is {
			numbers = append(numbers, n)
		}
	}
	return numbers
}

// modelBytes is the chapter's B2: what Encode writes, by division.
func modelBytes(b api.Back) []byte {
	out := []byte{byte(b.Kind), byte(b.Track)}
	switch b.Kind {
	case 1:
		for _, p := range modelPairs(b.Lost) {
			out = append(out, byte(p.Base/256), byte(p.Base%256), byte(p.Mask/256), byte(p.Mask%256))
		}
	case 2:
		out = append(out, byte(b.Value))
	case 3:
		out = append(out, byte(b.Value/16777216), byte(b.Value/65536%256), byte(b.Value/256%256), byte(b.Value%256))
	}
	return out
}

// modelRead is the chapter's B2 of bytes, without what Encode does: pairs are those that it writes if each
// Base is beyond the reach of the one ahead, none goes beyond MaxSeq, and they tell at most MaxList numbers.
func modelRead(b []byte) (api.Back, api.Errno) {
	if len(b) < 2 {
		return api.Back{}, api.ErrShort
	}
	said := api.Back{Kind: int(b[0]), Track: int(b[1])}
	good := said.Track >= 1 && said.Track <= 8
	switch said.Kind {
	case 1:
		if len(b) < 6 || len(b)%4 != 2 {
			return api.Back{}, api.ErrShort
		}
		last := -17
		for i := 2; i < len(b); i += 4 {
			base := int(b[i])*256 + int(b[i+1])
			good = good && base > last+16
			last = base
			said.Lost = append(said.Lost, base)
			for bit := range 16 {
				if (int(b[i+2])*256+int(b[i+3]))>>bit%2 == 1 {
					said.Lost = append(said.Lost, base+bit+1)
				}
			}
		}
		good = good && slices.Max(said.Lost) <= 65535 && len(said.Lost) <= 200
	case 2:
		if len(b) < 3 {
			return api.Back{}, api.ErrShort
		}
		said.Value = int(b[2])
		good = good && len(b) == 3 && said.Value <= 3
	case 3:
		if len(b) < 6 {
			return api.Back{}, api.ErrShort
		}
		said.Value = ((int(b[2])*256+int(b[3]))*256+int(b[4]))*256 + int(b[5])
		good = good && len(b) == 6 && said.Value <= 1000000
	default:
		good = false
	}
	if !good {
		return api.Back{}, api.ErrSyntax
	}
	return said, api.OK
}

func same(a, b api.Back) bool {
	return a.Kind == b.Kind && a.Track == b.Track && a.Value == b.Value && slices.Equal(a.Lost, b.Lost)
}

func wantPairs(t *testing.T, numbers []int, want []api.Pair) {
	t.Helper()
	if got, err := back.Pairs(numbers); !slices.Equal(got, want) || err != nil {
		t.Errorf("Pairs(%v) = %v, %v, want %v", numbers, got, err, want)
	}
}

func wantNumbers(t *testing.T, pairs []api.Pair, want []int) {
	t.Helper()
	if got, err := back.Numbers(pairs); !slices.Equal(got, want) || err != nil {
		t.Errorf("Numbers(%v) = %v, %v, want %v", pairs, got, err, want)
	}
}

func noPairs(t *testing.T, numbers []int, want api.Errno) {
	t.Helper()
	if got, err := back.Pairs(numbers); got != nil || plain.Told(err) != want {
		t.Errorf("Pairs(%v) = %v, %v, want %v", numbers, got, err, want)
	}
}

func noNumbers(t *testing.T, pairs []api.Pair, want api.Errno) {
	t.Helper()
	if got, err := back.Numbers(pairs); got != nil || plain.Told(err) != want {
		t.Errorf("Numbers(%v) = %v, %v, want %v", pairs, got, err, want)
	}
}

// taken: Encode writes it as the model, and Read reads it again.
func taken(t *testing.T, b api.Back) {
	t.Helper()
	want := modelBytes(b)
	if got, err := back.Encode(b); !bytes.Equal(got, want) || err != nil {
		t.Errorf("Encode(%v) = %v, %v, want %v", b, got, err, want)
	}
	if got, err := back.Read(want); !same(got, b) || err != nil {
		t.Errorf("Read(%v) = %v, %v, want %v", want, got, err, b)
	}
}

func refused(t *testing.T, b api.Back, want api.Errno) {
	t.Helper()
	if got, err := back.Encode(b); got != nil || plain.Told(err) != want {
		t.Errorf("Encode(%v) = %v, %v, want %v", b, got, err, want)
	}
}

func unread(t *testing.T, b []byte, want api.Errno) {
	t.Helper()
	if got, err := back.Read(b); !reflect.DeepEqual(got, api.Back{}) || plain.Told(err) != want {
		t.Errorf("Read(%v) = %v, %v, want %v", b, got, err, want)
	}
}

func TestPairsKnown(t *testing.T) {
	cases := []struct {
		numbers []int
		want    []api.Pair
	}{
		{nil, nil},
		{[]int{}, nil},
		{[]int{0}, couples(0, 0)},
		{[]int{1}, couples(1, 0)},
		{[]int{65534}, couples(65534, 0)},
		{[]int{65535}, couples(65535, 0)},
		{[]int{7, 8}, couples(7, 1)},
		{[]int{7, 22}, couples(7, 1<<14)},
		{[]int{7, 23}, couples(7, 1<<15)},
		{[]int{7, 24}, couples(7, 0, 24, 0)},
		{[]int{7, 8, 23}, couples(7, 1<<15|1)},
		{[]int{7, 23, 24}, couples(7, 1<<15, 24, 0)},
		{[]int{7, 23, 39}, couples(7, 1<<15, 39, 0)},
		{[]int{7, 24, 40, 41}, couples(7, 0, 24, 1<<15, 41, 0)},
		{[]int{40, 5, 7, 5, 6, 40, 5}, couples(5, 3, 40, 0)},
		{[]int{9, 9, 9}, couples(9, 0)},
		{[]int{65534, 65535}, couples(65534, 1)},
		{[]int{65519, 65535}, couples(65519, 1<<15)},
		{[]int{65518, 65535}, couples(65518, 0, 65535, 0)},
		{[]int{65535, 0}, couples(0, 0, 65535, 0)},
		{[]int{0, 1, 65535, 65534}, couples(0, 1, 65534, 1)},
		{upFrom(100, 17, 1), couples(100, 65535)},
		{upFrom(100, 18, 1), couples(100, 65535, 117, 0)},
		{upFrom(65519, 17, 1), couples(65519, 65535)},
	}
	for _, c := range cases {
		wantPairs(t, c.numbers, c.want)
		slices.Reverse(c.numbers)
		wantPairs(t, c.numbers, c.want)
	}
}

// TestPairsOfTwo: every distance that one pair can tell, and those that it can't.
func TestPairsOfTwo(t *testing.T) {
	for _, base := range []int{0, 1, 15, 16, 17, 32767, 32768, 65518, 65519, 65520, 65534} {
		for by := 1; by <= 40 && base+by <= maxSeq; by++ {
			want := []api.Pair{{Base: base}, {Base: base + by}}
			if by <= 16 {
				want = []api.Pair{{Base: base, Mask: 1 << (by - 1)}}
			}
			wantPairs(t, []int{base, base + by}, want)
			wantPairs(t, []int{base + by, base, base + by}, want)
		}
	}
}

func TestPairsInTheirMost(t *testing.T) {
	for _, by := range []int{0, 1, 2, 16, 17, 300} {
		for _, count := range []int{maxList - 1, maxList} {
			l := upFrom(3, count, by)
			wantPairs(t, l, modelPairs(l))
		}
		// As many are too many even if they are only one, told often.
		noPairs(t, upFrom(3, maxList+1, by), api.ErrFull)
		noPairs(t, upFrom(3, maxList+2, by), api.ErrFull)
	}
	noPairs(t, make([]int, 1<<20), api.ErrFull)
}

func TestPairsOfWrongNumbers(t *testing.T) {
	for _, n := range outside(0, maxSeq) {
		for _, l := range [][]int{{n}, {n, n}, {n, 5}, {5, n}, {5, n, 6}, {0, 65535, n}, append(make([]int, maxList-1), n)} {
			noPairs(t, l, api.ErrRange)
		}
		// Too many, and a wrong one: that they are too many is told.
		noPairs(t, append(make([]int, maxList), n), api.ErrFull)
		noPairs(t, append([]int{n}, make([]int, maxList)...), api.ErrFull)
	}
}

// someNumbers are at most MaxList, in any order, some of them twice, near together or far apart.
func someNumbers(r *rand.Rand) []int {
	width := []int{1, 5, 20, 60, 400, 3000, maxSeq + 1}[r.Intn(7)]
	first := []int{0, maxSeq + 1 - width, r.Intn(maxSeq + 2 - width)}[r.Intn(3)]
	l := make([]int, r.Intn([]int{4, 30, maxList + 1}[r.Intn(3)]))
	for i := range l {
		l[i] = first + r.Intn(width)
	}
	return l
}

func rising(l []int) []int {
	return slices.Compact(slices.Sorted(slices.Values(l)))
}

// fewest is how few pairs can tell rising numbers: of each number, the best of all pairs that may end with it.
func fewest(l []int) int {
	best := make([]int, len(l)+1)
	for end := 1; end <= len(l); end++ {
		best[end] = math.MaxInt
		for from := end - 1; from >= 0 && l[end-1]-l[from] <= 16; from-- {
			best[end] = min(best[end], best[from]+1)
		}
	}
	return best[len(l)]
}

func TestPairsAsTheModel(t *testing.T) {
	r := rand.New(rand.NewSource(1))
	for range 1500 {
		l := someNumbers(r)
		want := modelPairs(l)
		wantPairs(t, l, want)
		if got, _ := back.Pairs(l); len(got) != fewest(rising(l)) {
			t.Errorf("Pairs(%v): %d pairs, %d are enough", l, len(got), fewest(rising(l)))
		}
		wantNumbers(t, want, rising(l))
	}
}

func TestNumbersKnown(t *testing.T) {
	cases := []struct {
		pairs []api.Pair
		want  []int
	}{
		{nil, nil},
		{[]api.Pair{}, nil},
		{couples(0, 0), []int{0}},
		{couples(65535, 0), []int{65535}},
		{couples(5, 1), []int{5, 6}},
		{couples(5, 1<<15), []int{5, 21}},
		{couples(5, 65535), upFrom(5, 17, 1)},
		{couples(0, 65535), upFrom(0, 17, 1)},
		{couples(65519, 65535), upFrom(65519, 17, 1)},
		{couples(65520, 32767), upFrom(65520, 16, 1)},
		{couples(65534, 1), []int{65534, 65535}},
		{couples(5, 1, 5, 1), []int{5, 6}},
		{couples(5, 6, 6, 1), []int{5, 6, 7, 8}},
		{couples(40, 0, 5, 1), []int{5, 6, 40}},
		{couples(5, 65535, 13, 65535), upFrom(5, 25, 1)},
		{couples(65535, 0, 65519, 1<<15, 0, 0), []int{0, 65519, 65535}},
	}
	for _, c := range cases {
		wantNumbers(t, c.pairs, c.want)
		slices.Reverse(c.pairs)
		wantNumbers(t, c.pairs, c.want)
	}
}

// TestNumbersNearTheGreatest: every bit of a Mask, alone and with all below it, at every Base where it goes just to MaxSeq, and beyond.
func TestNumbersNearTheGreatest(t *testing.T) {
	for bit := range 16 {
		for _, mask := range []int{1 << bit, 1<<(bit+1) - 1} {
			for base := 65500; base <= maxSeq; base++ {
				p := api.Pair{Base: base, Mask: mask}
				if base+bit+1 > maxSeq {
					noNumbers(t, []api.Pair{p}, api.ErrRange)
					noNumbers(t, []api.Pair{{Base: 1}, p, {Base: 2}}, api.ErrRange)
					continue
				}
				wantNumbers(t, []api.Pair{p}, modelNumbers([]api.Pair{p}))
			}
		}
	}
}

func TestNumbersInTheirMost(t *testing.T) {
	for _, p := range couples(0, 0, 7, 65535, 65535, 0) {
		for _, count := range []int{1, maxList - 1, maxList} {
			wantNumbers(t, repeated(p, count), modelNumbers([]api.Pair{p}))
		}
		noNumbers(t, repeated(p, maxList+1), api.ErrFull)
		noNumbers(t, repeated(p, maxList+2), api.ErrFull)
		noNumbers(t, repeated(p, 1<<18), api.ErrFull)
	}
	// There may be more numbers than MaxList: only pairs are counted.
	apart := make([]api.Pair, maxList)
	for i := range apart {
		apart[maxList-1-i] = api.Pair{Base: i * 17, Mask: 65535}
	}
	wantNumbers(t, apart, upFrom(0, 17*maxList, 1))
}

func TestNumbersOfWrongPairs(t *testing.T) {
	var wrong []api.Pair
	for _, n := range outside(0, 65535) {
		wrong = append(wrong, api.Pair{Base: n}, api.Pair{Base: n, Mask: 1}, api.Pair{Mask: n}, api.Pair{Base: 40000, Mask: n},
			api.Pair{Base: 65535, Mask: n}, api.Pair{Base: n, Mask: n}, api.Pair{Base: n, Mask: -1}, api.Pair{Base: -1, Mask: n})
	}
	wrong = append(wrong, api.Pair{Base: 65535, Mask: 1}, api.Pair{Base: 65520, Mask: 32768})
	good := api.Pair{Base: 9, Mask: 3}
	for _, p := range wrong {
		for _, l := range [][]api.Pair{{p}, {p, p}, {p, good}, {good, p}, {good, p, good}, append(repeated(good, maxList-1), p)} {
			noNumbers(t, l, api.ErrRange)
		}
		noNumbers(t, append(repeated(good, maxList), p), api.ErrFull)
		noNumbers(t, append([]api.Pair{p}, repeated(good, maxList)...), api.ErrFull)
	}
}

func TestNumbersAsTheModel(t *testing.T) {
	r := rand.New(rand.NewSource(2))
	for range 1500 {
		width := []int{3, 40, 65519}[r.Intn(3)]
		first := r.Intn(65520 - width)
		pairs := make([]api.Pair, r.Intn(maxList+1))
		for i := range pairs {
			pairs[i] = api.Pair{Base: first + r.Intn(width), Mask: r.Intn(65536)}
		}
		wantNumbers(t, pairs, modelNumbers(pairs))
	}
}

func TestEncodeKnown(t *testing.T) {
	cases := []struct {
		b    api.Back
		want []byte
	}{
		{api.Back{Kind: api.Lost, Track: 1, Lost: []int{0}}, []byte{1, 1, 0, 0, 0, 0}},
		{api.Back{Kind: api.Lost, Track: 8, Lost: []int{65535}}, []byte{1, 8, 255, 255, 0, 0}},
		{api.Back{Kind: api.Lost, Track: 2, Lost: []int{258, 259, 274, 275}}, []byte{1, 2, 1, 2, 128, 1, 1, 19, 0, 0}},
		{api.Back{Kind: api.Lost, Track: 3, Lost: []int{5, 14, 65519, 65535}}, []byte{1, 3, 0, 5, 1, 0, 255, 239, 128, 0}},
		{api.Back{Kind: api.Key, Track: 1}, []byte{2, 1, 0}},
		{api.Back{Kind: api.Key, Track: 8, Value: 3}, []byte{2, 8, 3}},
		{api.Back{Kind: api.Rate, Track: 1}, []byte{3, 1, 0, 0, 0, 0}},
		{api.Back{Kind: api.Rate, Track: 8, Value: 1000000}, []byte{3, 8, 0, 15, 66, 64}},
		{api.Back{Kind: api.Rate, Track: 4, Value: 66051}, []byte{3, 4, 0, 1, 2, 3}},
	}
	for _, c := range cases {
		if got, err := back.Encode(c.b); !bytes.Equal(got, c.want) || err != nil {
			t.Errorf("Encode(%v) = %v, %v, want %v", c.b, got, err, c.want)
		}
		if got, err := back.Read(c.want); !same(got, c.b) || err != nil {
			t.Errorf("Read(%v) = %v, %v, want %v", c.want, got, err, c.b)
		}
	}
}

// ordinary: one of each Kind, and the greatest Value of it.
func ordinary() ([]api.Back, []int) {
	return []api.Back{
		{Kind: 1, Track: 3, Lost: []int{4, 6, 90}},
		{Kind: 2, Track: 3, Value: 1},
		{Kind: 3, Track: 3, Value: 500},
	}, []int{0, 3, 1000000}
}

func TestEachFieldAtItsEdges(t *testing.T) {
	all, most := ordinary()
	for i, b := range all {
		for track := 1; track <= 8; track++ {
			b.Track = track
			taken(t, b)
		}
		for _, value := range []int{0, min(1, most[i]), most[i] / 2, max(0, most[i]-1), most[i]} {
			b.Value = value
			taken(t, b)
		}
		for _, value := range outside(0, most[i]) {
			b.Value = value
			refused(t, b, api.ErrRange)
		}
		b = all[i]
		for _, track := range outside(1, 8) {
			b.Track = track
			refused(t, b, api.ErrRange)
		}
		b = all[i]
		for _, kind := range outside(1, 3) {
			b.Kind, b.Value = kind, 0
			refused(t, b, api.ErrRange)
			b.Lost = nil
			refused(t, b, api.ErrRange)
		}
	}
}

func TestLostAtItsEdges(t *testing.T) {
	one := func(l []int) api.Back { return api.Back{Kind: api.Lost, Track: 5, Lost: l} }
	for _, by := range []int{1, 2, 16, 17, 300} {
		for _, count := range []int{1, 2, maxList - 1, maxList} {
			taken(t, one(upFrom(0, count, by)))
			taken(t, one(upFrom(maxSeq-(count-1)*by, count, by)))
		}
		refused(t, one(upFrom(0, maxList+1, by)), api.ErrFull)
		refused(t, one(upFrom(0, 2*maxList, by)), api.ErrFull)
	}
	refused(t, one(nil), api.ErrShape)
	refused(t, one([]int{}), api.ErrShape)
	refused(t, one([]int{5, 5}), api.ErrShape)
	refused(t, one([]int{6, 5}), api.ErrShape)
	refused(t, one([]int{1, 2, 3, 3}), api.ErrShape)
	refused(t, one([]int{1, 1, 2, 3}), api.ErrShape)
	refused(t, one([]int{1, 4, 3, 5}), api.ErrShape)
	refused(t, one([]int{65535, 0}), api.ErrShape)
	refused(t, one([]int{-1}), api.ErrRange)
	refused(t, one([]int{-1, 0}), api.ErrRange)
	refused(t, one([]int{65536}), api.ErrRange)
	refused(t, one([]int{65535, 65536}), api.ErrRange)
	refused(t, one([]int{math.MinInt, 3, math.MaxInt}), api.ErrRange)
	for _, kind := range []int{api.Key, api.Rate} {
		for _, l := range [][]int{{0}, {1, 2}, {2, 1}, {-1}, {65536}, upFrom(0, maxList+1, 1)} {
			refused(t, api.Back{Kind: kind, Track: 5, Lost: l, Value: 1}, api.ErrShape)
		}
		taken(t, api.Back{Kind: kind, Track: 5, Lost: []int{}, Value: 1})
	}
}

// TestEncodeOfSeveralFaults: Kind, Track and Value are told ahead of what Lost is, and that ahead of its numbers.
func TestEncodeOfSeveralFaults(t *testing.T) {
	shapes := [][]int{nil, {2, 1}, {65536}, {-1, -1}, upFrom(0, maxList+1, 1), upFrom(9, maxList+1, 0)}
	for _, l := range shapes {
		for _, b := range []api.Back{{Kind: 0, Track: 1}, {Kind: 4, Track: 1}, {Kind: 1, Track: 0}, {Kind: 1, Track: 9},
			{Kind: 1, Track: 1, Value: 1}, {Kind: 1, Track: 1, Value: -1}, {Kind: 2, Track: 9}, {Kind: 2, Track: 1, Value: 4},
			{Kind: 3, Track: 0}, {Kind: 3, Track: 1, Value: 1000001}, {Kind: 3, Track: 1, Value: -1}, {Kind: -1, Track: -1, Value: -1}} {
			b.Lost = l
			refused(t, b, api.ErrRange)
		}
	}
	many := upFrom(-1, maxList+1, 1)
	refused(t, api.Back{Kind: 1, Track: 1, Lost: many}, api.ErrFull)
	many[maxList] = -1
	refused(t, api.Back{Kind: 1, Track: 1, Lost: many}, api.ErrShape)
	refused(t, api.Back{Kind: 1, Track: 1, Lost: []int{65536, 65536}}, api.ErrShape)
	refused(t, api.Back{Kind: 1, Track: 1, Lost: []int{0, -1}}, api.ErrShape)
	refused(t, api.Back{Kind: 1, Track: 1, Lost: upFrom(9, maxList+1, 0)}, api.ErrShape)
}

// someBack may be; of Lost it has at most so many pairs and one more, near together.
func someBack(r *rand.Rand, pairs int) api.Back {
	b := api.Back{Kind: 1 + r.Intn(3), Track: 1 + r.Intn(8)}
	switch b.Kind {
	case 1:
		n := []int{0, r.Intn(60000), 65535 - 20*(pairs+1)}[r.Intn(3)]
		for range 1 + r.Intn(5*pairs+1) {
			b.Lost = append(b.Lost, n+r.Intn(17*pairs+1))
		}
		b.Lost = rising(b.Lost)
	case 2:
		b.Value = r.Intn(4)
	case 3:
		b.Value = []int{0, 255, 256, 65535, 65536, 1000000, r.Intn(1000001)}[r.Intn(7)]
	}
	return b
}

func TestEncodeAndReadAsTheModel(t *testing.T) {
	r := rand.New(rand.NewSource(3))
	for range 2000 {
		taken(t, someBack(r, r.Intn(40)))
		if l := rising(someNumbers(r)); len(l) > 0 {
			taken(t, api.Back{Kind: api.Lost, Track: 1 + r.Intn(8), Lost: l})
		}
	}
}

// TestReadOfEveryLength: bytes just as many as they must be, and all that are fewer or more.
func TestReadOfEveryLength(t *testing.T) {
	whole := make([]byte, 2+4*12)
	for i := range 12 {
		whole[2+4*i+1] = byte(20 * i)
	}
	least := []int{2, 6, 3, 6, 2}
	for kind := range 5 {
		for _, track := range []byte{0, 1, 8, 9} {
			for n := range whole {
				b := slices.Clone(whole)
				b[0], b[1] = byte(kind), track
				// What stands behind the length is not read.
				b = b[:n]
				wrong := track == 0 || track == 9 || kind == 0 || kind == 4 || n > least[kind] && kind != 1
				switch {
				case n < 2 || n < least[kind] || kind == 1 && n%4 != 2:
					unread(t, b, api.ErrShort)
				case wrong:
					unread(t, b, api.ErrSyntax)
				default:
					if got, err := back.Read(b); err != nil || !bytes.Equal(modelBytes(got), b) {
						t.Errorf("Read(%v) = %v, %v", b, got, err)
					}
				}
			}
		}
	}
	unread(t, nil, api.ErrShort)
	unread(t, []byte{}, api.ErrShort)
	unread(t, []byte{99}, api.ErrShort)
}

func TestReadOfEveryKindAndTrack(t *testing.T) {
	for kind := range 256 {
		for track := range 256 {
			for _, rest := range [][]byte{nil, {1}, {0, 0, 0, 1}, {0, 0, 0, 1, 0}} {
				b := append([]byte{byte(kind), byte(track)}, rest...)
				want, no := modelRead(b)
				if got, err := back.Read(b); !same(got, want) || plain.Told(err) != no {
					t.Errorf("Read(%v) = %v, %v, want %v, %v", b, got, err, want, no)
				}
			}
		}
	}
}

func TestReadOfEveryValue(t *testing.T) {
	for value := range 256 {
		b := []byte{2, 4, byte(value)}
		if value > 3 {
			unread(t, b, api.ErrSyntax)
		} else if got, err := back.Read(b); !same(got, api.Back{Kind: 2, Track: 4, Value: value}) || err != nil {
			t.Errorf("Read(%v) = %v, %v", b, got, err)
		}
	}
	for _, rest := range [][]byte{{0, 15, 66, 65}, {0, 15, 67, 0}, {0, 16, 0, 0}, {1, 0, 0, 0}, {128, 0, 0, 0}, {255, 255, 255, 255}} {
		unread(t, append([]byte{3, 4}, rest...), api.ErrSyntax)
	}
}

// TestReadOfOtherPairs: pairs that tell numbers, but are not those that Encode writes.
func TestReadOfOtherPairs(t *testing.T) {
	cases := []struct {
		pairs []api.Pair
		want  api.Errno
	}{
		{couples(5, 0, 22, 0), api.OK},
		{couples(5, 0, 21, 0), api.ErrSyntax},
		{couples(5, 0, 6, 0), api.ErrSyntax},
		{couples(5, 0, 5, 0), api.ErrSyntax},
		{couples(5, 1, 6, 0), api.ErrSyntax},
		{couples(22, 0, 5, 0), api.ErrSyntax},
		{couples(5, 65535, 22, 65535), api.OK},
		{couples(5, 65535, 21, 65535), api.ErrSyntax},
		{couples(5, 0, 40, 0, 39, 0), api.ErrSyntax},
		{couples(65519, 65535), api.OK},
		{couples(65520, 65535), api.ErrSyntax},
		{couples(65535, 0), api.OK},
		{couples(65535, 1), api.ErrSyntax},
		{couples(65535, 32768), api.ErrSyntax},
		{couples(0, 0, 65534, 2), api.ErrSyntax},
	}
	for _, c := range cases {
		b := []byte{1, 2}
		for _, p := range c.pairs {
			b = append(b, byte(p.Base>>8), byte(p.Base), byte(p.Mask>>8), byte(p.Mask))
		}
		if c.want == api.OK {
			taken(t, api.Back{Kind: 1, Track: 2, Lost: modelNumbers(c.pairs)})
			continue
		}
		unread(t, b, c.want)
		unread(t, append(b, 0), api.ErrShort)
	}
}

// TestReadOfTooManyNumbers: Encode writes MaxList numbers at most, in few pairs or in many.
func TestReadOfTooManyNumbers(t *testing.T) {
	dense := modelBytes(api.Back{Kind: 1, Track: 1, Lost: upFrom(0, maxList+1, 1)})
	unread(t, dense, api.ErrSyntax)
	unread(t, modelBytes(api.Back{Kind: 1, Track: 1, Lost: upFrom(0, 400, 1)}), api.ErrSyntax)
	sparse := modelBytes(api.Back{Kind: 1, Track: 1, Lost: upFrom(0, maxList+1, 17)})
	unread(t, sparse, api.ErrSyntax)
	for n := 1; n < 4; n++ {
		unread(t, sparse[:len(sparse)-n], api.ErrShort)
	}
	taken(t, api.Back{Kind: 1, Track: 1, Lost: upFrom(0, maxList, 1)})
	taken(t, api.Back{Kind: 1, Track: 1, Lost: upFrom(0, maxList, 17)})
	far := make([]byte, 2+4<<18)
	far[0], far[1] = 1, 1
	unread(t, far, api.ErrSyntax)
	unread(t, far[:len(far)-1], api.ErrShort)
	for _, kind := range []byte{0, 2, 3, 4} {
		far[0] = kind
		unread(t, far, api.ErrSyntax)
	}
}

// TestReadAsTheModel: bytes that Encode writes, and those with a change or more.
func TestReadAsTheModel(t *testing.T) {
	r := rand.New(rand.NewSource(4))
	read := 0
	for range 20000 {
		b := modelBytes(someBack(r, r.Intn(5)))
		for range r.Intn(3) {
			b = changed(r, b)
		}
		want, no := modelRead(b)
		got, err := back.Read(b)
		if !same(got, want) || plain.Told(err) != no {
			t.Fatalf("Read(%v) = %v, %v, want %v, %v", b, got, err, want, no)
		}
		if err != nil {
			continue
		}
		read++
		if again, err := back.Encode(got); !bytes.Equal(again, b) || err != nil {
			t.Fatalf("%v was read as %v, which is %v, %v", b, got, again, err)
		}
	}
	if read < 8000 || read > 16000 {
		t.Errorf("%d were read: that tells too little", read)
	}
}

// changed has one byte another, one more, or fewer.
func changed(r *rand.Rand, b []byte) []byte {
	switch r.Intn(6) {
	case 0:
		return append(b, byte(r.Intn(256)))
	case 1:
		return append(b, 0, byte(r.Intn(256)), 0, byte(r.Intn(3)))
	case 2:
		return b[:r.Intn(len(b)+1)]
	}
	if len(b) > 0 {
		b[r.Intn(len(b))] += byte([]int{1, 255, 16, r.Intn(256)}[r.Intn(4)])
	}
	return b
}

// TestMemoryIsApart: what is handed in stays as it was, also behind its length, and what comes out shares nothing with it.
func TestMemoryIsApart(t *testing.T) {
	numbers := []int{9, 3, 3, 40, 1, 77, 78}
	kept := slices.Clone(numbers)
	pairs, err := back.Pairs(numbers[:5])
	if err != nil || !slices.Equal(numbers, kept) {
		t.Fatalf("Pairs wrote into its numbers: %v, %v", numbers, err)
	}
	again, _ := back.Pairs(numbers[:5])
	clear(pairs[:cap(pairs)])
	if !slices.Equal(again, modelPairs(kept[:5])) {
		t.Errorf("two answers of Pairs share memory: %v", again)
	}

	given := couples(40, 3, 5, 1, 5, 1, 90, 0)
	keptGiven := slices.Clone(given)
	got, err := back.Numbers(given[:3])
	if err != nil || !slices.Equal(given, keptGiven) || !slices.Equal(got, []int{5, 6, 40, 41, 42}) {
		t.Fatalf("Numbers = %v, %v, of %v", got, err, given)
	}

	lost := []int{3, 9, 77, 5}
	kept = slices.Clone(lost)
	b, err := back.Encode(api.Back{Kind: 1, Track: 1, Lost: lost[:3]})
	if err != nil || !slices.Equal(lost, kept) {
		t.Fatalf("Encode wrote into its numbers: %v, %v", lost, err)
	}
	room := append(slices.Clone(b), 7, 7, 7, 7)
	keptRoom := slices.Clone(room)
	said, err := back.Read(room[:len(b)])
	if err != nil || !bytes.Equal(room, keptRoom) {
		t.Fatalf("Read wrote into its bytes: %v, %v", room, err)
	}
	clear(room)
	clear(b[:cap(b)])
	if !slices.Equal(said.Lost, kept[:3]) {
		t.Errorf("Read shares memory: %v", said)
	}
}
