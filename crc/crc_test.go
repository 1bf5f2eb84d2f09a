package crc_test

import (
	"bytes"
	"hash/crc32"
	"math"
	"math/rand"
	"testing"

	"choirloft/api"
	"choirloft/crc"
	"choirloft/plain"
)

// noSums are numbers that no sum is: just outside, and far outside.
var noSums = []int{-1, api.MaxWord + 1, -api.MaxWord, -api.MaxWord - 1, api.MaxWord + 2, 1 << 33, 1<<33 + 5,
	math.MinInt, math.MinInt + 1, math.MinInt + 7, math.MaxInt - 1, math.MaxInt}

// noCounts are numbers of bytes that Join does not take.
var noCounts = []int{-1, -2, -api.MaxTime, api.MaxTime + 1, api.MaxTime + 2, 1 << 32, math.MinInt, math.MaxInt}

// sums are sums at the edges and between.
var sums = []int{0, 1, 2, 255, 256, 65535, 65536, 1<<31 - 1, 1 << 31, 3988292384, 3421780262, api.MaxWord - 1, api.MaxWord}

// model is the chapter's C1 word by word: a word goes on over bytes.
func model(word int, b []byte) int {
	for _, c := range b {
		word = word&^255 | (word&255 ^ int(c))
		for range 8 {
			low := word & 1
			word >>= 1
			if low == 1 {
				word ^= 3988292384
			}
		}
	}
	return word
}

func modelSum(b []byte) int {
	return model(api.MaxWord, b) ^ api.MaxWord
}

func someBytes(r *rand.Rand, n int) []byte {
	b := make([]byte, n)
	for i := range b {
		switch r.Intn(4) {
		case 0:
			b[i] = 255
		case 1:
			b[i] = byte(r.Intn(256))
		}
	}
	return b
}

func TestSumKnown(t *testing.T) {
	cases := []struct {
		of   string
		want int
	}{
		{"", 0}, {"\x00", 3523407757}, {"\xff", 4278190080}, {"a", 3904355907}, {"123456789", 3421780262},
		{"\x00\x00\x00\x00", 558161692}, {"\xff\xff\xff\xff", api.MaxWord},
		{"The quick brown fox jumps over the lazy dog", 1095738169},
	}
	for _, c := range cases {
		if got := crc.Sum([]byte(c.of)); got != c.want {
			t.Errorf("Sum(%q) = %d, want %d", c.of, got, c.want)
		}
	}
	if got := crc.Sum(nil); got != 0 {
		t.Errorf("Sum(nil) = %d", got)
	}
}

func TestSumOfEveryByte(t *testing.T) {
	for i := range 256 {
		b := []byte{byte(i)}
		if got := crc.Sum(b); got != modelSum(b) || got != int(crc32.ChecksumIEEE(b)) {
			t.Errorf("Sum(%v) = %d, want %d", b, got, modelSum(b))
		}
	}
}

func TestSumAsTheModel(t *testing.T) {
	r := rand.New(rand.NewSource(1))
	for n := range 300 {
		b := someBytes(r, n)
		if got := crc.Sum(b); got != modelSum(b) || got != int(crc32.ChecksumIEEE(b)) {
			t.Fatalf("Sum(%v) = %d, want %d", b, got, modelSum(b))
		}
	}
}

func TestMoreGoesOnFromAnySum(t *testing.T) {
	r := rand.New(rand.NewSource(2))
	for _, sum := range sums {
		for n := range 40 {
			b := someBytes(r, n)
			want := model(sum^api.MaxWord, b) ^ api.MaxWord
			if got, err := crc.More(sum, b); got != want || err != nil {
				t.Errorf("More(%d, %v) = %d, %v, want %d", sum, b, got, err, want)
			}
		}
		if got, err := crc.More(sum, nil); got != sum || err != nil {
			t.Errorf("More(%d, nil) = %d, %v", sum, got, err)
		}
	}
}

func TestMoreOfAllCuts(t *testing.T) {
	b := []byte("voices carried from loft to loft\x00\x00\xff\xff\x80")
	for cut := range len(b) + 1 {
		got, err := crc.More(crc.Sum(b[:cut]), b[cut:])
		if got != modelSum(b) || err != nil {
			t.Errorf("More behind %d bytes = %d, %v, want %d", cut, got, err, modelSum(b))
		}
	}
}

func TestMoreOfNoSum(t *testing.T) {
	for _, sum := range noSums {
		for _, b := range [][]byte{nil, {}, {0}, []byte("abc")} {
			if got, err := crc.More(sum, b); got != 0 || plain.Told(err) != api.ErrRange {
				t.Errorf("More(%d, %v) = %d, %v", sum, b, got, err)
			}
		}
	}
}

func TestJoinOfAllCuts(t *testing.T) {
	b := someBytes(rand.New(rand.NewSource(3)), 600)
	for cut := range len(b) + 1 {
		got, err := crc.Join(crc.Sum(b[:cut]), crc.Sum(b[cut:]), len(b)-cut)
		if got != modelSum(b) || err != nil {
			t.Errorf("Join at %d = %d, %v, want %d", cut, got, err, modelSum(b))
		}
	}
}

// joined is what a sum becomes by way of bytes: as many of 0, and the other sum in place of theirs.
func joined(a, b, n int) int {
	zeros := make([]byte, n)
	return int(crc32.Update(uint32(a), crc32.IEEETable, zeros)^crc32.ChecksumIEEE(zeros)) ^ b
}

func TestJoinOfAnySums(t *testing.T) {
	counts := []int{0, 1, 2, 3, 4, 5, 255, 256, 1000, 65535, 65536, 524287, 524288, api.MaxTime - 1, api.MaxTime}
	for _, a := range sums {
		for _, n := range counts {
			at0 := joined(a, 0, n)
			for _, b := range sums {
				if got, err := crc.Join(a, b, n); got != at0^b || err != nil {
					t.Errorf("Join(%d, %d, %d) = %d, %v, want %d", a, b, n, got, err, at0^b)
				}
			}
		}
	}
}

func TestJoinOfMostBytes(t *testing.T) {
	r := rand.New(rand.NewSource(4))
	ahead := []byte("ahead")
	for _, n := range []int{api.MaxTime - 1, api.MaxTime} {
		behind := someBytes(r, n)
		want := crc32.ChecksumIEEE(append(append([]byte(nil), ahead...), behind...))
		got, err := crc.Join(crc.Sum(ahead), crc.Sum(behind), n)
		if got != int(want) || err != nil {
			t.Errorf("Join with %d bytes behind = %d, %v, want %d", n, got, err, want)
		}
	}
}

func TestJoinWithNothing(t *testing.T) {
	for _, sum := range sums {
		if got, err := crc.Join(sum, 0, 0); got != sum || err != nil {
			t.Errorf("Join(%d, 0, 0) = %d, %v", sum, got, err)
		}
		if got, err := crc.Join(0, sum, 7); got != sum || err != nil {
			t.Errorf("Join(0, %d, 7) = %d, %v", sum, got, err)
		}
	}
}

func TestJoinOutOfRange(t *testing.T) {
	wrong := func(a, b, n int) {
		if got, err := crc.Join(a, b, n); got != 0 || plain.Told(err) != api.ErrRange {
			t.Errorf("Join(%d, %d, %d) = %d, %v", a, b, n, got, err)
		}
	}
	for _, sum := range noSums {
		for _, n := range []int{0, 1, api.MaxTime} {
			wrong(sum, 5, n)
			wrong(5, sum, n)
			wrong(sum, sum, n)
		}
	}
	for _, n := range noCounts {
		wrong(0, 0, n)
		wrong(api.MaxWord, api.MaxWord, n)
		wrong(-1, 3, n)
	}
}

func TestSealKnown(t *testing.T) {
	cases := []struct{ of, want string }{
		{"", "\x00\x00\x00\x00"},
		{"\x00", "\x00\xd2\x02\xef\x8d"},
		{"123456789", "123456789\xcb\xf4\x39\x26"},
		{"\xff\xff\xff\xff", "\xff\xff\xff\xff\xff\xff\xff\xff"},
	}
	for _, c := range cases {
		if got := crc.Seal([]byte(c.of)); string(got) != c.want {
			t.Errorf("Seal(%q) = %q, want %q", c.of, got, c.want)
		}
		if got, err := crc.Open([]byte(c.want)); string(got) != c.of || err != nil {
			t.Errorf("Open(%q) = %q, %v, want %q", c.want, got, err, c.of)
		}
	}
	if got := crc.Seal(nil); string(got) != "\x00\x00\x00\x00" {
		t.Errorf("Seal(nil) = %v", got)
	}
}

func TestSealedOpens(t *testing.T) {
	r := rand.New(rand.NewSource(5))
	for n := range 200 {
		b := someBytes(r, n)
		sealed := crc.Seal(b)
		sum := modelSum(b)
		want := append(append([]byte(nil), b...), byte(sum>>24), byte(sum>>16), byte(sum>>8), byte(sum))
		if !bytes.Equal(sealed, want) {
			t.Fatalf("Seal(%v) = %v, want %v", b, sealed, want)
		}
		if got, err := crc.Open(sealed); !bytes.Equal(got, b) || err != nil {
			t.Fatalf("Open(%v) = %v, %v, want %v", sealed, got, err, b)
		}
	}
}

func TestOpenTooShort(t *testing.T) {
	for _, s := range []string{"", "\x00", "\x00\x00", "\x00\x00\x00", "\xff\xff\xff"} {
		if got, err := crc.Open([]byte(s)); got != nil || plain.Told(err) != api.ErrShort {
			t.Errorf("Open(%q) = %v, %v", s, got, err)
		}
	}
	if got, err := crc.Open(nil); got != nil || plain.Told(err) != api.ErrShort {
		t.Errorf("Open(nil) = %v, %v", got, err)
	}
}

func TestOpenOfJustFour(t *testing.T) {
	if got, err := crc.Open([]byte{0, 0, 0, 0}); len(got) != 0 || err != nil {
		t.Errorf("Open of the sum of nothing = %v, %v", got, err)
	}
	for i := range 4 {
		b := make([]byte, 4)
		b[i] = 1
		if got, err := crc.Open(b); got != nil || plain.Told(err) != api.ErrSum {
			t.Errorf("Open(%v) = %v, %v", b, got, err)
		}
	}
}

func TestOpenSeesEveryTurnedBit(t *testing.T) {
	for _, s := range []string{"", "a", "loft to loft", "\x00\x00\x00", "\xff\xff\xff\xff"} {
		sealed := crc.Seal([]byte(s))
		for i := range len(sealed) * 8 {
			sealed[i/8] ^= 1 << (i % 8)
			if got, err := crc.Open(sealed); got != nil || plain.Told(err) != api.ErrSum {
				t.Errorf("Open(%v) = %v, %v", sealed, got, err)
			}
			sealed[i/8] ^= 1 << (i % 8)
		}
	}
}

func TestOpenOfCutAndSwapped(t *testing.T) {
	sealed := crc.Seal([]byte("choir"))
	n := len(sealed)
	swapped := append(append([]byte(nil), sealed[:n-4]...), sealed[n-1], sealed[n-2], sealed[n-3], sealed[n-4])
	for _, b := range [][]byte{sealed[:n-1], sealed[1:], append([]byte{0}, sealed...), append(sealed[:n:n], 0), swapped} {
		if got, err := crc.Open(b); got != nil || plain.Told(err) != api.ErrSum {
			t.Errorf("Open(%v) = %v, %v", b, got, err)
		}
	}
}

// TestMemoryIsApart: what is handed in stays as it was, also behind its length, and what
// comes out shares nothing with it.
func TestMemoryIsApart(t *testing.T) {
	room := []byte("abcdefghijklmnop")
	sealed := crc.Seal(room[:6])
	if string(room) != "abcdefghijklmnop" {
		t.Fatalf("Seal wrote into what it was given: %q", room)
	}
	room[0] = 'x'
	if string(sealed[:6]) != "abcdef" {
		t.Fatalf("Seal shares memory: %q", sealed)
	}
	kept := string(sealed)
	opened, err := crc.Open(sealed)
	if err != nil || string(sealed) != kept {
		t.Fatalf("Open: %v, and %q became %q", err, kept, sealed)
	}
	clear(opened[:cap(opened)])
	if string(sealed) != kept {
		t.Fatalf("Open shares memory: %q", sealed)
	}
	crc.Sum(room)
	if _, err := crc.More(5, room); err != nil || string(room) != "xbcdefghijklmnop" {
		t.Fatalf("More: %v, or bytes were written into: %q", err, room)
	}
}
