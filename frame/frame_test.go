package frame_test

import (
	"bytes"
	"hash/crc32"
	"math"
	"math/rand"
	"reflect"
	"slices"
	"testing"

	"choirloft/api"
	"choirloft/frame"
	"choirloft/plain"
)

const maxBody, maxHops = 1000, 64

// field of a frame: how it is set, and from where to where it may go.
type field struct {
	name        string
	least, most int
	set         func(f *api.Frame, to int)
}

var fields = []field{
	{"Track", 1, 8, func(f *api.Frame, to int) { f.Track = to }},
	{"Origin", 0, 15, func(f *api.Frame, to int) { f.Origin = to }},
	{"Epoch", 0, 65535, func(f *api.Frame, to int) { f.Epoch = to }},
	{"Hops", 0, maxHops, func(f *api.Frame, to int) { f.Hops = to }},
}

// wrong numbers of a field: just outside, far outside, and those whose low bits may be.
func (f field) wrong() []int {
	l := []int{f.least - 1, f.least - 2, f.most + 1, f.most + 2, -f.most, f.least + 256, f.most + 256, f.least + 65536, f.most + 65536,
		f.least - 65536, f.least + 1<<32, f.least - 1<<32, math.MinInt, math.MinInt + 1, math.MaxInt - 1, math.MaxInt}
	return slices.DeleteFunc(l, func(n int) bool { return n >= f.least && n <= f.most })
}

// packet is bytes of one, with so many of a Body.
func packet(body int) []byte {
	b := append([]byte{162, 9, 3, 4, 5, 6, 7, 8}, make([]byte, body)...)
	for i := range body {
		b[8+i] = byte(200 + i)
	}
	return b
}

func ordinary() api.Frame {
	return api.Frame{Track: 3, Origin: 11, Epoch: 772, Hops: 5, Body: packet(5)}
}

// none: Bodies that are no packet, and what chapter 3 tells of them.
func none() map[string]api.Errno {
	with := func(first, level byte, body int) string {
		b := packet(body)
		b[0], b[1] = first, level
		return string(b)
	}
	return map[string]api.Errno{
		"":                              api.ErrShort,
		string(packet(0)[:1]):           api.ErrShort,
		string(packet(0)[:7]):           api.ErrShort,
		with(0, 255, 0)[:7]:             api.ErrShort,
		with(127, 0, 0):                 api.ErrSyntax,
		with(132, 0, 0):                 api.ErrSyntax,
		with(159, 0, 3):                 api.ErrSyntax,
		with(164, 0, 3):                 api.ErrSyntax,
		with(255, 0, 3):                 api.ErrSyntax,
		with(128, 128, 0):               api.ErrSyntax,
		with(163, 255, 9):               api.ErrSyntax,
		with(127, 0, maxBody+1):         api.ErrSyntax,
		with(128, 128, maxBody+1):       api.ErrSyntax,
		string(packet(maxBody + 1)):     api.ErrFull,
		string(packet(maxBody + 2)):     api.ErrFull,
		string(packet(65536)):           api.ErrFull,
		with(128, 0, maxBody+1):         api.ErrFull,
		string(packet(2*maxBody + 300)): api.ErrFull,
	}
}

// sealed is chapter 2's Seal, by the library's sum.
func sealed(b []byte) []byte {
	sum := crc32.ChecksumIEEE(b)
	return append(slices.Clone(b), byte(sum/16777216), byte(sum/65536), byte(sum/256), byte(sum))
}

// inner is what the chapter has sealed, by division. Of numbers that may not be only those of a byte, or two, can be written.
func inner(f api.Frame) []byte {
	head := []byte{70, byte(f.Track), byte(f.Origin), byte(f.Hops), byte(f.Epoch / 256), byte(f.Epoch % 256)}
	return append(head, f.Body...)
}

func model(f api.Frame) []byte {
	return sealed(inner(f))
}

// modelCheck is the chapter's Check, with what chapter 3 tells of a Body.
func modelCheck(f api.Frame) api.Errno {
	if f.Track < 1 || f.Track > 8 || f.Origin < 0 || f.Origin > 15 || f.Epoch < 0 || f.Epoch > 65535 || f.Hops < 0 || f.Hops > 64 {
		return api.ErrRange
	}
	firsts := []byte{128, 129, 130, 131, 160, 161, 162, 163}
	switch b := f.Body; {
	case len(b) < 8:
		return api.ErrShort
	case !slices.Contains(firsts, b[0]) || b[1] > 127:
		return api.ErrSyntax
	case len(b) > 1008:
		return api.ErrFull
	}
	return api.OK
}

// modelRead is the chapter's Read.
func modelRead(b []byte) (api.Frame, api.Errno) {
	if len(b) < 4 {
		return api.Frame{}, api.ErrShort
	}
	in := b[:len(b)-4]
	if !bytes.Equal(sealed(in), b) {
		return api.Frame{}, api.ErrSum
	}
	if len(in) < 6 {
		return api.Frame{}, api.ErrShort
	}
	if in[0] != 70 {
		return api.Frame{}, api.ErrSyntax
	}
	f := api.Frame{Track: int(in[1]), Origin: int(in[2]), Hops: int(in[3]), Epoch: int(in[4])*256 + int(in[5]), Body: in[6:]}
	if no := modelCheck(f); no != api.OK {
		return api.Frame{}, no
	}
	return f, api.OK
}

// modelPass is the chapter's Pass.
func modelPass(b []byte) ([]byte, api.Errno) {
	f, no := modelRead(b)
	if no != api.OK {
		return nil, no
	}
	if f.Hops == 64 {
		return nil, api.ErrState
	}
	f.Hops++
	return model(f), api.OK
}

func same(f, g api.Frame) bool {
	return f.Track == g.Track && f.Origin == g.Origin && f.Epoch == g.Epoch && f.Hops == g.Hops && bytes.Equal(f.Body, g.Body)
}

func empty(f api.Frame) bool {
	return reflect.DeepEqual(f, api.Frame{})
}

// taken: Check, Encode, Read and Pass take a frame.
func taken(t *testing.T, f api.Frame) {
	t.Helper()
	if err := frame.Check(f); err != nil {
		t.Errorf("Check(%v) = %v", f, err)
	}
	want := model(f)
	if got, err := frame.Encode(f); !bytes.Equal(got, want) || err != nil {
		t.Errorf("Encode(%v) = %v, %v, want %v", f, got, err, want)
	}
	if got, err := frame.Read(want); !same(got, f) || err != nil {
		t.Errorf("Read(%v) = %v, %v, want %v", want, got, err, f)
	}
	on, no := modelPass(want)
	if got, err := frame.Pass(want); !bytes.Equal(got, on) || plain.Told(err) != no || err != nil && got != nil {
		t.Errorf("Pass(%v) = %v, %v, want %v, %v", want, got, err, on, no)
	}
}

// refused: Check and Encode tell this of a frame.
func refused(t *testing.T, f api.Frame, want api.Errno) {
	t.Helper()
	if err := frame.Check(f); plain.Told(err) != want {
		t.Errorf("Check(%v) = %v, want %v", f, err, want)
	}
	if b, err := frame.Encode(f); b != nil || plain.Told(err) != want {
		t.Errorf("Encode(%v) = %v, %v, want %v", f, b, err, want)
	}
}

// unread: Read and Pass tell this of bytes.
func unread(t *testing.T, b []byte, want api.Errno) {
	t.Helper()
	if f, err := frame.Read(b); !empty(f) || plain.Told(err) != want {
		t.Errorf("Read(%v) = %v, %v, want %v", b, f, err, want)
	}
	if on, err := frame.Pass(b); on != nil || plain.Told(err) != want {
		t.Errorf("Pass(%v) = %v, %v, want %v", b, on, err, want)
	}
}

func TestKnown(t *testing.T) {
	cases := []struct {
		f        api.Frame
		want, on []byte
	}{
		{api.Frame{Track: 7, Origin: 5, Epoch: 3, Body: []byte{131, 34, 0, 4, 0, 0, 0, 95, 255, 0, 39}},
			[]byte{70, 7, 5, 0, 0, 3, 131, 34, 0, 4, 0, 0, 0, 95, 255, 0, 39, 35, 96, 167, 180}, nil},
		{api.Frame{Track: 5, Origin: 8, Epoch: 8, Hops: 8, Body: []byte{130, 27, 0, 7, 255, 255, 255, 251, 195, 100, 21, 255}},
			[]byte{70, 5, 8, 8, 0, 8, 130, 27, 0, 7, 255, 255, 255, 251, 195, 100, 21, 255, 250, 91, 29, 99},
			[]byte{70, 5, 8, 9, 0, 8, 130, 27, 0, 7, 255, 255, 255, 251, 195, 100, 21, 255, 67, 160, 198, 139}},
		{api.Frame{Track: 4, Origin: 11, Epoch: 4, Hops: 5, Body: []byte{162, 68, 0, 6, 0, 0, 0, 67, 62, 82, 1}},
			[]byte{70, 4, 11, 5, 0, 4, 162, 68, 0, 6, 0, 0, 0, 67, 62, 82, 1, 30, 12, 1, 247},
			[]byte{70, 4, 11, 6, 0, 4, 162, 68, 0, 6, 0, 0, 0, 67, 62, 82, 1, 98, 109, 36, 44}},
	}
	for _, c := range cases {
		taken(t, c.f)
		if got, err := frame.Encode(c.f); !bytes.Equal(got, c.want) || err != nil {
			t.Errorf("Encode(%v) = %v, %v, want %v", c.f, got, err, c.want)
		}
		if got, err := frame.Read(c.want); !same(got, c.f) || err != nil {
			t.Errorf("Read(%v) = %v, %v, want %v", c.want, got, err, c.f)
		}
		if c.on == nil {
			continue
		}
		if got, err := frame.Pass(c.want); !bytes.Equal(got, c.on) || err != nil {
			t.Errorf("Pass(%v) = %v, %v, want %v", c.want, got, err, c.on)
		}
	}
}

// TestPlaces: each number stands in the place of its own.
func TestPlaces(t *testing.T) {
	f := api.Frame{Track: 2, Origin: 3, Epoch: 4*256 + 5, Hops: 6, Body: []byte{128, 0, 0, 0, 0, 0, 0, 0}}
	want := []byte{70, 2, 3, 6, 4, 5, 128, 0, 0, 0, 0, 0, 0, 0}
	if got, err := frame.Encode(f); err != nil || !bytes.Equal(got, sealed(want)) {
		t.Errorf("Encode(%v) = %v, %v, want %v", f, got, err, sealed(want))
	}
	if got, err := frame.Read(sealed(want)); err != nil || !same(got, f) {
		t.Errorf("Read(%v) = %v, %v, want %v", sealed(want), got, err, f)
	}
}

func TestNumbersAtTheirEdges(t *testing.T) {
	for _, e := range fields {
		for _, n := range []int{e.least, e.least + 1, (e.least + e.most) / 2, e.most - 1, e.most} {
			f := ordinary()
			e.set(&f, n)
			taken(t, f)
		}
		for _, n := range e.wrong() {
			f := ordinary()
			e.set(&f, n)
			refused(t, f, api.ErrRange)
		}
	}
	refused(t, api.Frame{}, api.ErrRange)
	refused(t, api.Frame{Body: packet(1)}, api.ErrRange)
}

func TestWrongNumbersAtOnce(t *testing.T) {
	for _, e := range fields {
		for _, g := range fields {
			f := ordinary()
			e.set(&f, e.least-1)
			g.set(&f, g.most+1)
			refused(t, f, api.ErrRange)
		}
	}
}

func TestBodyAtItsEdges(t *testing.T) {
	for _, n := range []int{0, 1, 2, maxBody - 1, maxBody} {
		f := ordinary()
		f.Body = packet(n)
		taken(t, f)
	}
	for body, want := range none() {
		f := ordinary()
		f.Body = []byte(body)
		refused(t, f, want)
		unread(t, model(f), want)
	}
	f := ordinary()
	f.Body = nil
	refused(t, f, api.ErrShort)
}

func TestEveryFirstByteAndLevelOfABody(t *testing.T) {
	for first := range 256 {
		for _, level := range []byte{0, 1, 127, 128, 129, 255} {
			f := ordinary()
			f.Body[0], f.Body[1] = byte(first), level
			if no := modelCheck(f); no != api.OK {
				refused(t, f, no)
				unread(t, model(f), no)
				continue
			}
			taken(t, f)
		}
	}
}

// TestRangeIsToldBeforeTheBody: a number and the Body are wrong at once.
func TestRangeIsToldBeforeTheBody(t *testing.T) {
	for body := range none() {
		for _, e := range fields {
			for _, n := range []int{e.least - 1, e.most + 1} {
				f := ordinary()
				f.Body = []byte(body)
				e.set(&f, n)
				refused(t, f, api.ErrRange)
			}
		}
		for _, f := range []api.Frame{{Track: 0}, {Track: 9}, {Track: 255}, {Track: 1, Origin: 16}, {Track: 8, Hops: 65}, {Track: 8, Hops: 255}} {
			f.Body = []byte(body)
			unread(t, model(f), api.ErrRange)
		}
	}
}

// TestReadOfEveryByteOfTheHead: each of them is what it says, or is refused.
func TestReadOfEveryByteOfTheHead(t *testing.T) {
	for place := range 6 {
		for value := range 256 {
			in := inner(ordinary())
			in[place] = byte(value)
			f, no := modelRead(sealed(in))
			if no != api.OK {
				unread(t, sealed(in), no)
				continue
			}
			taken(t, f)
		}
	}
}

// TestReadOfAnotherFirst: it is told ahead of what is wrong with the rest.
func TestReadOfAnotherFirst(t *testing.T) {
	for first := range 256 {
		if first == 70 {
			continue
		}
		for _, rest := range [][]byte{inner(ordinary())[1:], {0, 0, 0, 0, 0}, {9, 16, 65, 0, 0}, {1, 0, 0, 0, 0}, {1, 0, 64, 0, 0}} {
			unread(t, sealed(append([]byte{byte(first)}, rest...)), api.ErrSyntax)
		}
		in := append([]byte{byte(first), 0, 16, 65, 0, 0}, packet(maxBody+1)...)
		unread(t, sealed(in), api.ErrSyntax)
	}
}

// TestReadOfFewWithin: whatever they are, they are too few, if their sum is right.
func TestReadOfFewWithin(t *testing.T) {
	for _, whole := range [][]byte{inner(ordinary()), {71, 0, 16, 65, 0, 0}, {0, 0, 0, 0, 0, 0}, {70, 9, 255, 255, 255, 255}} {
		for n := range 6 {
			unread(t, sealed(whole[:n]), api.ErrShort)
			wrong := sealed(whole[:n])
			wrong[len(wrong)-1]++
			unread(t, wrong, api.ErrSum)
		}
	}
	// Six are enough for a head: then it is the Body that is short.
	unread(t, sealed(inner(ordinary())[:6]), api.ErrShort)
	unread(t, sealed([]byte{71, 1, 0, 0, 0, 0}), api.ErrSyntax)
	unread(t, sealed([]byte{70, 0, 0, 0, 0, 0}), api.ErrRange)
}

// TestReadOfEveryLength: bytes of a frame, and all that are fewer or some more.
func TestReadOfEveryLength(t *testing.T) {
	whole := model(ordinary())
	for n := range whole {
		want := api.ErrSum
		if n < 4 {
			want = api.ErrShort
		}
		// What stands behind the length is not read.
		unread(t, whole[:n], want)
	}
	for more := range 256 {
		unread(t, append(slices.Clone(whole), byte(more)), api.ErrSum)
		unread(t, append([]byte{byte(more)}, whole...), api.ErrSum)
	}
	unread(t, append(slices.Clone(whole), whole...), api.ErrSum)
	unread(t, nil, api.ErrShort)
	unread(t, []byte{}, api.ErrShort)
	unread(t, make([]byte, 1<<20), api.ErrSum)
}

// TestReadOfOneByteChanged: any one, to any other.
func TestReadOfOneByteChanged(t *testing.T) {
	for place := range model(ordinary()) {
		for by := 1; by < 256; by++ {
			b := model(ordinary())
			b[place] += byte(by)
			unread(t, b, api.ErrSum)
		}
	}
}

// TestSumIsToldAhead of all that is wrong within.
func TestSumIsToldAhead(t *testing.T) {
	for _, in := range [][]byte{{}, {70}, {71, 1, 0, 0, 0, 0}, {70, 0, 0, 0, 0, 0}, {70, 1, 0, 64, 0, 0}, {70, 1, 0, 0, 0, 0, 127},
		inner(api.Frame{Track: 1, Hops: 64, Body: packet(3)}), inner(api.Frame{Track: 9, Hops: 65, Body: packet(maxBody + 1)})} {
		for i := 1; i <= 4; i++ {
			b := sealed(in)
			b[len(b)-i] ^= 16
			unread(t, b, api.ErrSum)
		}
	}
}

// TestPassToTheLast: from none to 64 Hops, and no further.
func TestPassToTheLast(t *testing.T) {
	f := ordinary()
	f.Hops = 0
	b := model(f)
	for hops := 1; hops <= maxHops; hops++ {
		on, err := frame.Pass(b)
		f.Hops = hops
		if err != nil || !bytes.Equal(on, model(f)) {
			t.Fatalf("Pass(%v) = %v, %v, want %v", b, on, err, model(f))
		}
		b = on
	}
	for range 2 {
		if on, err := frame.Pass(b); on != nil || plain.Told(err) != api.ErrState {
			t.Errorf("Pass at 64 Hops = %v, %v", on, err)
		}
	}
	if got, err := frame.Read(b); err != nil || !same(got, f) {
		t.Errorf("Read at 64 Hops = %v, %v", got, err)
	}
}

// TestPassOfSeveralFaults: what Read tells comes ahead of Hops that are 64.
func TestPassOfSeveralFaults(t *testing.T) {
	for body, want := range none() {
		unread(t, model(api.Frame{Track: 1, Hops: 64, Body: []byte(body)}), want)
		unread(t, model(api.Frame{Track: 1, Hops: 63, Body: []byte(body)}), want)
	}
	unread(t, model(api.Frame{Track: 0, Hops: 64, Body: packet(3)}), api.ErrRange)
	unread(t, model(api.Frame{Track: 1, Origin: 16, Hops: 64, Body: packet(3)}), api.ErrRange)
	unread(t, model(api.Frame{Track: 1, Hops: 65, Body: packet(3)}), api.ErrRange)
	unread(t, model(api.Frame{Track: 1, Hops: 255, Body: packet(3)}), api.ErrRange)
	in := inner(api.Frame{Track: 1, Hops: 64, Body: packet(3)})
	in[0] = 71
	unread(t, sealed(in), api.ErrSyntax)
}

// someFrame is often one that may be, at an edge or not.
func someFrame(r *rand.Rand) api.Frame {
	f := api.Frame{Body: packet(r.Intn(20))}
	for _, e := range fields {
		e.set(&f, []int{e.least, e.most, e.most - 1, e.least + r.Intn(e.most-e.least+1)}[r.Intn(4)])
	}
	r.Read(f.Body[2:])
	f.Body[0] = byte(128 + 32*r.Intn(2) + r.Intn(4))
	f.Body[1] = byte(r.Intn(128))
	return f
}

func TestEncodeAndReadAsTheModel(t *testing.T) {
	r := rand.New(rand.NewSource(1))
	for range 3000 {
		taken(t, someFrame(r))
	}
}

// TestReadAsTheModel: what is within is changed ahead of the sum, or behind it.
func TestReadAsTheModel(t *testing.T) {
	r := rand.New(rand.NewSource(2))
	told := make([]int, 10)
	for range 20000 {
		in := inner(someFrame(r))
		for range r.Intn(3) {
			in = changed(r, in)
		}
		b := sealed(in)
		if r.Intn(8) == 0 {
			b = changed(r, b)
		}
		want, no := modelRead(b)
		told[no]++
		got, err := frame.Read(b)
		if !same(got, want) || plain.Told(err) != no {
			t.Fatalf("Read(%v) = %v, %v, want %v, %v", b, got, err, want, no)
		}
		on, no := modelPass(b)
		if got, err := frame.Pass(b); !bytes.Equal(got, on) || plain.Told(err) != no {
			t.Fatalf("Pass(%v) = %v, %v, want %v, %v", b, got, err, on, no)
		}
		if err != nil {
			continue
		}
		if again, err := frame.Encode(got); !bytes.Equal(again, b) || err != nil {
			t.Fatalf("%v was read as %v, which is %v, %v", b, got, again, err)
		}
	}
	for _, no := range []api.Errno{api.OK, api.ErrRange, api.ErrSyntax, api.ErrShort, api.ErrSum} {
		if told[no] < 300 {
			t.Errorf("%v was told %d times: that tells too little", no, told[no])
		}
	}
}

// changed has one byte another, most often of the head, one more, or fewer.
func changed(r *rand.Rand, b []byte) []byte {
	switch r.Intn(6) {
	case 0:
		return append(b, byte(r.Intn(256)))
	case 1:
		return b[:r.Intn(len(b)+1)]
	}
	if len(b) > 0 {
		b[r.Intn(min(len(b), 8))] += byte([]int{1, 255, 16, r.Intn(256)}[r.Intn(4)])
	}
	return b
}

// TestMemoryIsApart: what is handed in stays as it was, also behind its length, and what comes out shares nothing with it.
func TestMemoryIsApart(t *testing.T) {
	f := ordinary()
	room := append(slices.Clone(f.Body), 7, 7, 7, 7, 7, 7)
	kept := slices.Clone(room)
	f.Body = room[:len(f.Body)]
	want := model(f)
	b, err := frame.Encode(f)
	if no := frame.Check(f); err != nil || no != nil || !bytes.Equal(room, kept) {
		t.Fatalf("Encode or Check wrote into a Body: %v, %v, %v", room, err, no)
	}
	again, _ := frame.Encode(f)
	clear(room)
	clear(again[:cap(again)])
	if !bytes.Equal(b, want) {
		t.Errorf("Encode shares memory: %v", b)
	}

	room = append(slices.Clone(want), 7, 7, 7, 7, 7, 7)
	kept = slices.Clone(room)
	given := room[:len(want)]
	got, err := frame.Read(given)
	on, no := frame.Pass(given)
	if err != nil || no != nil || !bytes.Equal(room, kept) {
		t.Fatalf("Read or Pass wrote into its bytes: %v, %v, %v", room, err, no)
	}
	other, _ := frame.Read(given)
	otherOn, _ := frame.Pass(given)
	clear(room)
	clear(other.Body[:cap(other.Body)])
	clear(otherOn[:cap(otherOn)])
	f = ordinary()
	if !same(got, f) {
		t.Errorf("Read shares memory: %v", got)
	}
	f.Hops++
	if !bytes.Equal(on, model(f)) {
		t.Errorf("Pass shares memory: %v", on)
	}
}
