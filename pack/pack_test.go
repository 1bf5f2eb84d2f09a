package pack_test

import (
	"bytes"
	"math"
	"math/rand"
	"reflect"
	"testing"

	"choirloft/api"
	"choirloft/pack"
	"choirloft/plain"
)

// field of a packet: how it is set, and the greatest that it may be.
type field struct {
	name string
	most int
	set  func(p *api.Packet, to int)
}

var fields = []field{
	{"Seq", 65535, func(p *api.Packet, to int) { p.Seq = to }},
	{"Time", 1<<32 - 1, func(p *api.Packet, to int) { p.Time = to }},
	{"Layer", 3, func(p *api.Packet, to int) { p.Layer = to }},
	{"Level", 127, func(p *api.Packet, to int) { p.Level = to }},
}

// wrong numbers of a field: just outside, and far outside.
func (f field) wrong() []int {
	return []int{-1, -2, -f.most, -f.most - 1, f.most + 1, f.most + 2, 2*f.most + 2, 1 << 33, 1 << 48,
		math.MinInt, math.MinInt + 1, math.MaxInt - 1, math.MaxInt}
}

func ordinary() api.Packet {
	return api.Packet{Seq: 772, Time: 84281096, Layer: 2, Level: 9, Start: true, Body: []byte("voice")}
}

func same(p, q api.Packet) bool {
	return p.Seq == q.Seq && p.Time == q.Time && p.Layer == q.Layer && p.Level == q.Level &&
		p.Start == q.Start && bytes.Equal(p.Body, q.Body)
}

func empty(p api.Packet) bool {
	return reflect.DeepEqual(p, api.Packet{})
}

func someBytes(r *rand.Rand, n int) []byte {
	b := make([]byte, n)
	r.Read(b)
	return b
}

// somePacket is one of those that may be, often at an edge.
func somePacket(r *rand.Rand, most int) api.Packet {
	p := api.Packet{Start: r.Intn(2) == 0, Body: someBytes(r, r.Intn(most+1))}
	for _, f := range fields {
		f.set(&p, []int{0, 1, f.most - 1, f.most, r.Intn(f.most + 1), r.Intn(f.most + 1)}[r.Intn(6)])
	}
	return p
}

// model is the chapter's P1: the bytes of a packet, by division.
func model(p api.Packet) []byte {
	first := 128 + p.Layer
	if p.Start {
		first += 32
	}
	b := []byte{byte(first), byte(p.Level), byte(p.Seq / 256), byte(p.Seq % 256),
		byte(p.Time / 16777216), byte(p.Time / 65536 % 256), byte(p.Time / 256 % 256), byte(p.Time % 256)}
	return append(b, p.Body...)
}

// modelSplit is the chapter's P2: bytes are taken from the Body until none is left.
func modelSplit(p api.Packet, size int) []api.Packet {
	var parts []api.Packet
	rest := p
	for {
		one := rest
		if len(one.Body) > size {
			one.Body = one.Body[:size]
		}
		parts = append(parts, one)
		rest.Body = rest.Body[len(one.Body):]
		if len(rest.Body) == 0 {
			return parts
		}
		rest.Seq++
		if rest.Seq == 65536 {
			rest.Seq = 0
		}
		rest.Start = false
	}
}

func sameParts(a, b []api.Packet) bool {
	if len(a) != len(b) {
		return false
	}
	for i := range a {
		if !same(a[i], b[i]) {
			return false
		}
	}
	return true
}

// refused: Check, Encode and Split all tell this of a packet.
func refused(t *testing.T, p api.Packet, want api.Errno) {
	t.Helper()
	if err := pack.Check(p); plain.Told(err) != want {
		t.Errorf("Check(%v) = %v, want %v", p, err, want)
	}
	if b, err := pack.Encode(p); b != nil || plain.Told(err) != want {
		t.Errorf("Encode(%v) = %v, %v, want %v", p, b, err, want)
	}
	for _, size := range []int{1, 100, api.MaxBody} {
		if l, err := pack.Split(p, size); l != nil || plain.Told(err) != want {
			t.Errorf("Split(%v, %d) = %v, %v, want %v", p, size, l, err, want)
		}
	}
}

// taken: Check, Encode, Read and Split take a packet.
func taken(t *testing.T, p api.Packet) {
	t.Helper()
	if err := pack.Check(p); err != nil {
		t.Errorf("Check(%v) = %v", p, err)
	}
	b, err := pack.Encode(p)
	if !bytes.Equal(b, model(p)) || err != nil {
		t.Errorf("Encode(%v) = %v, %v, want %v", p, b, err, model(p))
	}
	if got, err := pack.Read(model(p)); !same(got, p) || err != nil {
		t.Errorf("Read(%v) = %v, %v, want %v", model(p), got, err, p)
	}
	if l, err := pack.Split(p, api.MaxBody); !sameParts(l, []api.Packet{p}) || err != nil {
		t.Errorf("Split(%v, MaxBody) = %v, %v", p, l, err)
	}
}

func TestEncodeKnown(t *testing.T) {
	cases := []struct {
		p    api.Packet
		want []byte
	}{
		{api.Packet{}, []byte{128, 0, 0, 0, 0, 0, 0, 0}},
		{api.Packet{Start: true}, []byte{160, 0, 0, 0, 0, 0, 0, 0}},
		{api.Packet{Layer: 3, Level: 127, Seq: 65535, Time: 4294967295, Start: true, Body: []byte{255}},
			[]byte{163, 127, 255, 255, 255, 255, 255, 255, 255}},
		{api.Packet{Layer: 1, Level: 2, Seq: 772, Time: 84281096, Body: []byte{9, 10}}, []byte{129, 2, 3, 4, 5, 6, 7, 8, 9, 10}},
		{api.Packet{Layer: 2, Start: true, Body: []byte{0, 0}}, []byte{162, 0, 0, 0, 0, 0, 0, 0, 0, 0}},
	}
	for _, c := range cases {
		if got, err := pack.Encode(c.p); !bytes.Equal(got, c.want) || err != nil {
			t.Errorf("Encode(%v) = %v, %v, want %v", c.p, got, err, c.want)
		}
		if got, err := pack.Read(c.want); !same(got, c.p) || err != nil {
			t.Errorf("Read(%v) = %v, %v, want %v", c.want, got, err, c.p)
		}
	}
}

func TestNumbersAtTheirEdges(t *testing.T) {
	for _, f := range fields {
		for _, n := range []int{0, 1, f.most - 1, f.most} {
			for _, start := range []bool{false, true} {
				p := ordinary()
				f.set(&p, n)
				p.Start = start
				taken(t, p)
			}
		}
		for _, n := range f.wrong() {
			p := ordinary()
			f.set(&p, n)
			refused(t, p, api.ErrRange)
		}
	}
}

func TestBodyAtItsEdges(t *testing.T) {
	for _, n := range []int{0, 1, 2, api.MaxBody - 1, api.MaxBody} {
		p := ordinary()
		p.Body = bytes.Repeat([]byte{200}, n)
		taken(t, p)
	}
	p := ordinary()
	p.Body = nil
	taken(t, p)
	for _, n := range []int{api.MaxBody + 1, api.MaxBody + 2, 2 * api.MaxBody, 65536} {
		p.Body = make([]byte, n)
		refused(t, p, api.ErrFull)
	}
}

// TestRangeIsToldBeforeFull: a number and the Body are wrong at once.
func TestRangeIsToldBeforeFull(t *testing.T) {
	for _, f := range fields {
		for _, n := range f.wrong() {
			p := ordinary()
			f.set(&p, n)
			p.Body = make([]byte, api.MaxBody+1)
			refused(t, p, api.ErrRange)
		}
	}
}

func TestWrongNumbersAtOnce(t *testing.T) {
	for _, f := range fields {
		for _, g := range fields {
			p := ordinary()
			f.set(&p, -1)
			g.set(&p, g.most+1)
			refused(t, p, api.ErrRange)
		}
	}
}

func TestEncodeAndReadAsTheModel(t *testing.T) {
	r := rand.New(rand.NewSource(1))
	for range 2000 {
		taken(t, somePacket(r, 60))
	}
}

func TestReadOfEveryFirstByteAndLevel(t *testing.T) {
	for first := range 256 {
		for level := range 256 {
			b := []byte{byte(first), byte(level), 1, 2, 3, 4, 5, 6, 7}
			layer, start := first-128, false
			if first >= 160 {
				layer, start = first-160, true
			}
			got, err := pack.Read(b)
			if layer < 0 || layer > 3 || level > 127 {
				if !empty(got) || plain.Told(err) != api.ErrSyntax {
					t.Errorf("Read(%v) = %v, %v", b, got, err)
				}
				continue
			}
			want := api.Packet{Seq: 258, Time: 50595078, Layer: layer, Level: level, Start: start, Body: []byte{7}}
			if !same(got, want) || err != nil {
				t.Errorf("Read(%v) = %v, %v, want %v", b, got, err, want)
			}
		}
	}
}

func TestReadOfTooFew(t *testing.T) {
	whole := []byte{163, 127, 1, 2, 3, 4, 5, 6}
	for n := range 8 {
		// What stands behind the length is not read.
		if got, err := pack.Read(whole[:n]); !empty(got) || plain.Told(err) != api.ErrShort {
			t.Errorf("Read(%v) = %v, %v", whole[:n], got, err)
		}
	}
	if got, err := pack.Read(nil); !empty(got) || plain.Told(err) != api.ErrShort {
		t.Errorf("Read(nil) = %v, %v", got, err)
	}
	want := api.Packet{Seq: 258, Time: 50595078, Layer: 3, Level: 127, Start: true}
	if got, err := pack.Read(whole); !same(got, want) || err != nil {
		t.Errorf("Read(%v) = %v, %v, want %v", whole, got, err, want)
	}
}

func TestReadOfTooMany(t *testing.T) {
	for _, n := range []int{api.MaxBody + 1, api.MaxBody + 8, 65536} {
		b := make([]byte, 8+n)
		b[0] = 160
		if got, err := pack.Read(b); !empty(got) || plain.Told(err) != api.ErrFull {
			t.Errorf("Read of a Body of %d = %v, %v", n, got, err)
		}
	}
}

// TestReadOfSeveralFaults: the one that the chapter names first is told.
func TestReadOfSeveralFaults(t *testing.T) {
	for _, head := range [][]byte{{127, 0}, {132, 0}, {164, 0}, {128, 128}, {0, 255}} {
		if got, err := pack.Read(append(head[:2:2], 0, 0, 0, 0, 0)); !empty(got) || plain.Told(err) != api.ErrShort {
			t.Errorf("Read of seven from %v = %v, %v", head, got, err)
		}
		long := append(head[:2:2], make([]byte, 7+api.MaxBody)...)
		if got, err := pack.Read(long); !empty(got) || plain.Told(err) != api.ErrSyntax {
			t.Errorf("Read of too many from %v = %v, %v", head, got, err)
		}
	}
}

// TestReadTakesAllOrNothing: what Read takes, Encode gives again to the byte.
func TestReadTakesAllOrNothing(t *testing.T) {
	r := rand.New(rand.NewSource(2))
	for range 20000 {
		b := someBytes(r, r.Intn(14))
		if len(b) > 0 && r.Intn(2) == 0 {
			b[0] = byte(r.Intn(2)*32 + 128 + r.Intn(4))
		}
		p, err := pack.Read(b)
		if err != nil {
			continue
		}
		if again, err := pack.Encode(p); !bytes.Equal(again, b) || err != nil {
			t.Fatalf("%v was read as %v, which is %v, %v", b, p, again, err)
		}
	}
}

func TestSplitKnown(t *testing.T) {
	p := api.Packet{Seq: 65534, Time: 7, Layer: 2, Level: 5, Start: true, Body: []byte("abcdefgh")}
	got, err := pack.Split(p, 3)
	want := []api.Packet{
		{Seq: 65534, Time: 7, Layer: 2, Level: 5, Start: true, Body: []byte("abc")},
		{Seq: 65535, Time: 7, Layer: 2, Level: 5, Body: []byte("def")},
		{Seq: 0, Time: 7, Layer: 2, Level: 5, Body: []byte("gh")},
	}
	if !sameParts(got, want) || err != nil {
		t.Errorf("Split = %v, %v, want %v", got, err, want)
	}
	p.Start, want[0].Start = false, false
	if got, err := pack.Split(p, 3); !sameParts(got, want) || err != nil {
		t.Errorf("Split = %v, %v, want %v", got, err, want)
	}
}

func TestSplitOfNothing(t *testing.T) {
	for _, body := range [][]byte{nil, {}, make([]byte, 0, 8)} {
		for _, start := range []bool{false, true} {
			for _, size := range []int{1, 2, api.MaxBody} {
				p := api.Packet{Seq: 65535, Time: 4, Layer: 1, Level: 3, Start: start, Body: body}
				if got, err := pack.Split(p, size); !sameParts(got, []api.Packet{p}) || err != nil {
					t.Errorf("Split(%v, %d) = %v, %v", p, size, got, err)
				}
			}
		}
	}
}

// TestSplitAtEverySize: for every length from none to MaxBody some sizes, and for some lengths every size.
func TestSplitAtEverySize(t *testing.T) {
	r := rand.New(rand.NewSource(3))
	body := someBytes(r, api.MaxBody)
	one := func(n, size int) {
		p := api.Packet{Seq: 65535 - r.Intn(300), Time: 9, Layer: 3, Level: 127, Start: r.Intn(2) == 0, Body: body[:n]}
		want := modelSplit(p, size)
		got, err := pack.Split(p, size)
		if len(want) > api.MaxList {
			if got != nil || plain.Told(err) != api.ErrFull {
				t.Fatalf("Split of %d by %d = %v, %v", n, size, got, err)
			}
			return
		}
		if !sameParts(got, want) || err != nil {
			t.Fatalf("Split of %d by %d = %v, %v, want %v", n, size, got, err, want)
		}
	}
	for n := range api.MaxBody + 1 {
		for _, size := range []int{1, 2, 3, 4, 5, 6, max(1, n-1), max(1, n), min(n+1, api.MaxBody), api.MaxBody} {
			one(n, size)
		}
	}
	for size := 1; size <= api.MaxBody; size++ {
		for _, n := range []int{0, 1, 199, 200, 201, 999, 1000} {
			one(n, size)
		}
	}
}

func TestSplitInMostParts(t *testing.T) {
	cases := []struct{ n, size, want int }{
		{200, 1, 200}, {199, 1, 199}, {400, 2, 200}, {399, 2, 200}, {398, 2, 199}, {1000, 5, 200}, {996, 5, 200}, {995, 5, 199},
		{201, 1, 0}, {401, 2, 0}, {402, 2, 0}, {801, 4, 0}, {1000, 4, 0}, {1000, 1, 0},
	}
	for _, c := range cases {
		got, err := pack.Split(api.Packet{Body: make([]byte, c.n)}, c.size)
		want := api.OK
		if c.want == 0 {
			want = api.ErrFull
		}
		if len(got) != c.want || plain.Told(err) != want {
			t.Errorf("Split of %d by %d: %d parts, %v, want %d", c.n, c.size, len(got), err, c.want)
		}
	}
}

func TestSplitOfNoSize(t *testing.T) {
	good, full, bad, many := ordinary(), ordinary(), ordinary(), ordinary()
	full.Body = make([]byte, api.MaxBody+1)
	bad.Level = 128
	many.Body = make([]byte, 201)
	for _, size := range []int{0, -1, -5, api.MaxBody + 1, api.MaxBody + 2, 1 << 32, math.MinInt, math.MinInt + 1, math.MaxInt - 1, math.MaxInt} {
		for _, p := range []api.Packet{good, full, bad, many, {}} {
			if got, err := pack.Split(p, size); got != nil || plain.Told(err) != api.ErrRange {
				t.Errorf("Split(%v, %d) = %v, %v", p, size, got, err)
			}
		}
	}
	// A number is told before the parts that would be too many.
	many.Seq = -1
	if got, err := pack.Split(many, 1); got != nil || plain.Told(err) != api.ErrRange {
		t.Errorf("Split of a wrong Seq in too many = %v, %v", got, err)
	}
}

func TestSplitJoinsAgain(t *testing.T) {
	r := rand.New(rand.NewSource(4))
	for range 300 {
		p := somePacket(r, 200)
		parts, err := pack.Split(p, 1+r.Intn(40))
		if err != nil {
			continue
		}
		var whole []byte
		for i, part := range parts {
			if err := pack.Check(part); err != nil || part.Seq != (p.Seq+i)%65536 {
				t.Fatalf("part %d of %v is %v: %v", i, p, part, err)
			}
			whole = append(whole, part.Body...)
		}
		if !bytes.Equal(whole, p.Body) {
			t.Fatalf("the parts of %v have %v", p, whole)
		}
	}
}

// TestMemoryIsApart: what is handed in stays as it was, also behind its length, and what
// comes out shares nothing with it, nor its parts with each other.
func TestMemoryIsApart(t *testing.T) {
	const told = "abcdefghijklmnop"
	room := []byte(told)
	p := api.Packet{Start: true, Body: room[:10]}

	b, err := pack.Encode(p)
	if err != nil {
		t.Fatal(err)
	}
	clear(b[:cap(b)])
	if string(room) != told {
		t.Fatalf("Encode shares memory: %q", room)
	}

	parts, err := pack.Split(p, 3)
	if err != nil {
		t.Fatal(err)
	}
	for i := range parts {
		body := parts[i].Body
		clear(body[:cap(body)])
		for j := i + 1; j < len(parts); j++ {
			if bytes.IndexByte(parts[j].Body, 0) >= 0 {
				t.Fatalf("parts %d and %d share memory", i, j)
			}
		}
	}
	if string(room) != told {
		t.Fatalf("Split shares memory: %q", room)
	}

	bytesIn := append(append([]byte{128, 0, 0, 0, 0, 0, 0, 0}, "body"...), "behind"...)
	kept := string(bytesIn)
	read, err := pack.Read(bytesIn[:12])
	if err != nil || string(read.Body) != "body" {
		t.Fatalf("Read = %v, %v", read, err)
	}
	clear(read.Body[:cap(read.Body)])
	if string(bytesIn) != kept {
		t.Fatalf("Read shares memory: %q", bytesIn)
	}
}
