package audit_test

import (
	"math"
	"math/rand"
	"slices"
	"strconv"
	"strings"
	"testing"

	"choirloft/api"
)

// brief tells packets by the first byte of each Body, and its Seq; of many the first ones.
func brief(l packets) string {
	var told []string
	for i, p := range l {
		if i == 8 {
			told = append(told, "..", strconv.Itoa(len(l)))
			break
		}
		told = append(told, strconv.QuoteToASCII(string(p.Body[:min(1, len(p.Body))]))+"/"+strconv.Itoa(p.Seq))
	}
	return "[" + strings.Join(told, " ") + "]"
}

// letters: what was sent and got, by letters; the place in got, and the error or the holes.
type letters struct {
	sent, got string
	place     int
	want      api.Errno
	holes     []int
}

func TestCheckAndHolesOfLetters(t *testing.T) {
	cases := []letters{
		// All, some, nothing, the first, the last, each second one.
		{"", "", 0, api.OK, nil},
		{"abcde", "", 0, api.OK, nil},
		{"abcde", "abcde", 0, api.OK, []int{0, 0, 0, 0}},
		{"abcde", "a", 0, api.OK, nil},
		{"abcde", "c", 0, api.OK, nil},
		{"abcde", "e", 0, api.OK, nil},
		{"abcde", "ab", 0, api.OK, []int{0}},
		{"abcde", "de", 0, api.OK, []int{0}},
		{"abcde", "ace", 0, api.OK, []int{1, 1}},
		{"abcde", "bd", 0, api.OK, []int{1}},
		{"abcde", "ae", 0, api.OK, []int{3}},
		{"abcde", "abe", 0, api.OK, []int{0, 2}},
		{"abcde", "ade", 0, api.OK, []int{2, 0}},
		{"abcdefgh", "bdeh", 0, api.OK, []int{1, 0, 2}},
		// Never sent, at each place.
		{"", "a", 0, api.ErrNone, nil},
		{"", "abc", 0, api.ErrNone, nil},
		{"abcde", "x", 0, api.ErrNone, nil},
		{"abcde", "xabc", 0, api.ErrNone, nil},
		{"abcde", "abxc", 2, api.ErrNone, nil},
		{"abcde", "abcx", 3, api.ErrNone, nil},
		{"abcde", "abcdex", 5, api.ErrNone, nil},
		{"abcde", "axbxc", 1, api.ErrNone, nil},
		// Another order.
		{"ab", "ba", 1, api.ErrNone, nil},
		{"abcde", "edcba", 1, api.ErrNone, nil},
		{"abcde", "abdce", 3, api.ErrNone, nil},
		{"abcde", "bcdea", 4, api.ErrNone, nil},
		{"abcde", "eabcd", 1, api.ErrNone, nil},
		// The same several times.
		{"a", "aa", 1, api.ErrNone, nil},
		{"aa", "a", 0, api.OK, nil},
		{"aa", "aa", 0, api.OK, []int{0}},
		{"aa", "aaa", 2, api.ErrNone, nil},
		{"aaaa", "aaa", 0, api.OK, []int{0, 0}},
		{"abcab", "aab", 0, api.OK, []int{2, 0}},
		{"abcab", "abab", 0, api.OK, []int{0, 1, 0}},
		{"abcab", "ababa", 4, api.ErrNone, nil},
		{"abcab", "cc", 1, api.ErrNone, nil},
		// Of equal ones the first behind the one ahead is taken.
		{"abac", "ac", 0, api.OK, []int{2}},
		{"abab", "ab", 0, api.OK, []int{0}},
		{"abab", "ba", 0, api.OK, []int{0}},
		{"abab", "bb", 0, api.OK, []int{1}},
		{"abbb", "ab", 0, api.OK, []int{0}},
		{"aaab", "ab", 0, api.OK, []int{2}},
		{"aaab", "aab", 0, api.OK, []int{0, 1}},
		{"abcabc", "ca", 0, api.OK, []int{0}},
		{"abcabc", "acb", 0, api.OK, []int{1, 1}},
		{"abcabc", "cba", 2, api.ErrNone, nil},
		{"xaxbxc", "abc", 0, api.OK, []int{1, 1}},
	}
	for _, c := range cases {
		sent, got := voices(100, c.sent), voices(65534, c.got)
		if c.want == api.OK {
			passes(t, sent, got, c.holes...)
		} else {
			refused(t, sent, got, c.place, c.want)
		}
	}
}

// TestWhatIsTheSame: what differs in Body, Layer, Level or Start was not sent; in Seq and Time it may.
func TestWhatIsTheSame(t *testing.T) {
	sent := voice('b')
	change := func(by func(p *api.Packet)) api.Packet {
		p := voice('b')
		by(&p)
		return p
	}
	alike := packets{
		change(func(p *api.Packet) {}),
		change(func(p *api.Packet) { p.Seq = 1 }),
		change(func(p *api.Packet) { p.Seq = 65535 }),
		change(func(p *api.Packet) { p.Seq = -1 }),
		change(func(p *api.Packet) { p.Time = 1 }),
		change(func(p *api.Packet) { p.Time = math.MaxInt }),
		change(func(p *api.Packet) { p.Seq, p.Time = 3, 4 }),
	}
	for _, p := range alike {
		passes(t, packets{sent}, packets{p})
		passes(t, packets{p}, packets{sent})
		passes(t, voicesAround(p), voicesAround(sent), 0, 0)
	}
	unlike := packets{
		change(func(p *api.Packet) { p.Body = nil }),
		change(func(p *api.Packet) { p.Body = p.Body[:2] }),
		change(func(p *api.Packet) { p.Body = p.Body[1:] }),
		change(func(p *api.Packet) { p.Body = append(p.Body, 0) }),
		change(func(p *api.Packet) { p.Body[0]++ }),
		change(func(p *api.Packet) { p.Body[1] = 1 }),
		change(func(p *api.Packet) { p.Body[2] = 0 }),
		change(func(p *api.Packet) { p.Layer = 0 }),
		change(func(p *api.Packet) { p.Layer = 2 }),
		change(func(p *api.Packet) { p.Level = 4 }),
		change(func(p *api.Packet) { p.Level = 6 }),
		change(func(p *api.Packet) { p.Layer, p.Level = 5, 1 }),
		change(func(p *api.Packet) { p.Start = false }),
	}
	for _, p := range unlike {
		refused(t, packets{sent}, packets{p}, 0, api.ErrNone)
		refused(t, packets{p}, packets{sent}, 0, api.ErrNone)
		refused(t, voicesAround(p), voicesAround(sent), 1, api.ErrNone)
		passes(t, packets{sent, p, sent, p}, packets{p, p}, 1)
		passes(t, packets{p, sent, p, sent}, packets{sent, sent}, 1)
	}
}

// voicesAround a packet: one ahead of it, and one behind.
func voicesAround(p api.Packet) packets {
	return packets{voice('a'), p, voice('c')}
}

// TestEmptyBodies: nil and an empty list are the same.
func TestEmptyBodies(t *testing.T) {
	none, empty := voice('a'), voice('a')
	none.Body, empty.Body = nil, []byte{}
	passes(t, packets{none}, packets{empty})
	passes(t, packets{empty}, packets{none})
	passes(t, packets{voice('a'), none, voice('a'), empty}, packets{empty, none}, 1)
	passes(t, packets{{}, {}}, packets{{}, {}}, 0)
}

// TestCheckAsksNotForPackets: chapter 3 is not asked here, so that packets which are none are taken as they stand.
func TestCheckAsksNotForPackets(t *testing.T) {
	for _, f := range flaws() {
		l := flawed(row(0, 5), 2, f)
		passes(t, l, l, 0, 0, 0, 0)
		passes(t, l, packets{l[0], l[2]}, 1)
		refused(t, l, packets{l[2], l[0]}, 1, api.ErrNone)
	}
	long, other := voice('a'), voice('a')
	long.Body, other.Body = make([]byte, 3000), make([]byte, 3000)
	passes(t, packets{long}, packets{other})
	other.Body[2999] = 1
	refused(t, packets{long}, packets{other}, 0, api.ErrNone)
}

func TestCheckAndHolesOfMany(t *testing.T) {
	for _, n := range []int{2, 3, 10, 999, 1000} {
		sent := row(64900, n)
		passes(t, sent, sent, make([]int, n-1)...)
		passes(t, sent, nil)
		passes(t, sent, sent[:1])
		passes(t, sent, sent[n-1:])
		passes(t, sent, packets{sent[0], sent[n-1]}, n-2)
		half := every(sent, 2)
		passes(t, sent, half, slices.Repeat([]int{1}, len(half)-1)...)
		half = every(sent[1:], 2)
		passes(t, sent, half, slices.Repeat([]int{1}, len(half)-1)...)
		refused(t, sent[:n-1], sent, n-1, api.ErrNone)
		refused(t, sent, with(sent, n-1, sent[0]), n-1, api.ErrNone)
		refused(t, sent[1:], sent, 0, api.ErrNone)
	}
	same := slices.Repeat(packets{voice('a')}, 1000)
	passes(t, same, same, make([]int, 999)...)
	refused(t, same[:999], same, 999, api.ErrNone)
	refused(t, nil, same, 0, api.ErrNone)
}

func TestCheckAndHolesOfTooMany(t *testing.T) {
	most := row(0, 1000)
	for _, n := range []int{1001, 1002, 5000} {
		long := row(0, n)
		refused(t, long, long, 0, api.ErrFull)
		refused(t, long, nil, 0, api.ErrFull)
		refused(t, nil, long, 0, api.ErrFull)
		refused(t, long, long[:1], 0, api.ErrFull)
		refused(t, long, most, 0, api.ErrFull)
		refused(t, most, long, 0, api.ErrFull)
		// Too many, and one that was never sent.
		refused(t, long, voices(0, "x"), 0, api.ErrFull)
		refused(t, most, with(long, 3, voice('x')), 0, api.ErrFull)
		refused(t, with(long, 0, api.Packet{Seq: -1, Layer: 9}), most, 0, api.ErrFull)
	}
}

// TestAllThatIsLeftOut: of nine packets each choice, with Holes by counting what was not chosen.
func TestAllThatIsLeftOut(t *testing.T) {
	sent := row(65531, 9)
	for chosen := range 1 << len(sent) {
		var got packets
		var holes []int
		between := 0
		for i, p := range sent {
			if chosen>>i&1 == 0 {
				between++
				continue
			}
			if len(got) > 0 {
				holes = append(holes, between)
			}
			got, between = append(got, p), 0
		}
		passes(t, sent, got, holes...)
	}
}

// modelTaken tries all ways to lay got over sent, one behind the other: the first of them by their places, and if
// there is none, how far the farthest goes.
func modelTaken(sent, got string, from int) (taken []int, all bool) {
	if got == "" {
		return nil, true
	}
	for i := from; i < len(sent); i++ {
		if sent[i] != got[0] {
			continue
		}
		rest, whole := modelTaken(sent, got[1:], i+1)
		if way := append([]int{i}, rest...); whole {
			return way, true
		} else if len(way) > len(taken) {
			taken = way
		}
	}
	return taken, false
}

func asModel(t *testing.T, sent, got string) {
	t.Helper()
	taken, all := modelTaken(sent, got, 0)
	if !all {
		refused(t, voices(9, sent), voices(0, got), len(taken), api.ErrNone)
		return
	}
	var holes []int
	for i := range taken {
		if i > 0 {
			holes = append(holes, len(sent[taken[i-1]+1:taken[i]]))
		}
	}
	passes(t, voices(9, sent), voices(0, got), holes...)
}

// words of up to so many letters of three.
func words(most int) []string {
	all := []string{""}
	for i := 0; i < len(all); i++ {
		if len(all[i]) < most {
			all = append(all, all[i]+"a", all[i]+"b", all[i]+"c")
		}
	}
	return all
}

func TestAllShortWords(t *testing.T) {
	for _, sent := range words(5) {
		for _, got := range words(4) {
			asModel(t, sent, got)
		}
	}
}

func TestWordsByLot(t *testing.T) {
	lot := rand.New(rand.NewSource(19))
	for range 3000 {
		kinds := 1 + lot.Intn(6)
		word := func(n int) string {
			b := make([]byte, n)
			for i := range b {
				b[i] = byte('a' + lot.Intn(kinds))
			}
			return string(b)
		}
		sent := word(lot.Intn(14))
		asModel(t, sent, word(lot.Intn(8)))
		// What was got is some of what was sent, often with two in another order.
		var got []byte
		for i := range len(sent) {
			if lot.Intn(3) > 0 {
				got = append(got, sent[i])
			}
		}
		asModel(t, sent, string(got))
		if len(got) > 1 {
			i, j := lot.Intn(len(got)), lot.Intn(len(got))
			got[i], got[j] = got[j], got[i]
			asModel(t, sent, string(got))
		}
	}
}
