package serial_test

import (
	"math"
	"math/rand"
	"testing"

	"choirloft/api"
	"choirloft/plain"
	"choirloft/serial"
)

const round = 65536

// far are numbers at the ends of what an int can be, and just outside of what may be.
var far = []int{math.MinInt, math.MinInt + 1, math.MinInt + round, -api.MaxLong, -round, -1,
	api.MaxLong + 1, api.MaxLong + round, math.MaxInt - round, math.MaxInt - 1, math.MaxInt}

func TestAheadEdges(t *testing.T) {
	cases := []struct {
		a, b int
		want bool
	}{
		{0, 0, false}, {1, 0, true}, {0, 1, false},
		{32767, 0, true}, {32768, 0, false}, {32769, 0, false}, {65535, 0, false},
		{0, 65535, true}, {65535, 65534, true}, {65534, 65535, false},
		{32766, 65535, true}, {32767, 65535, false},
		{100, 65500, true}, {65500, 100, false},
		{40000, 7233, true}, {40000, 7232, false},
		// Beyond 16 bits, and below 0, it is the difference that goes round.
		{65536, 0, false}, {65537, 0, true}, {0, -1, true}, {-1, 0, false}, {-65535, 0, true},
		{api.MaxLong, api.MaxLong - 1, true}, {api.MaxLong, 0, false}, {api.MaxLong + 1, 0, true},
		// Here the difference is none of 64 bits.
		{math.MaxInt, math.MinInt, false}, {math.MinInt, math.MaxInt, true},
		{math.MinInt, 1, false}, {math.MinInt, math.MaxInt - 32766, true}, {math.MinInt, math.MaxInt - 32767, false},
	}
	for _, c := range cases {
		if got := serial.Ahead(c.a, c.b); got != c.want {
			t.Errorf("Ahead(%d, %d) = %v", c.a, c.b, got)
		}
	}
}

func TestAheadAtEveryDistance(t *testing.T) {
	for _, b := range []int{0, 1, 32767, 32768, api.MaxSeq} {
		for by := range round {
			want := by >= 1 && by <= 32767
			if got := serial.Ahead((b+by)%round, b); got != want {
				t.Fatalf("Ahead of %d by %d = %v", b, by, got)
			}
		}
	}
}

func TestUnwrapEdges(t *testing.T) {
	cases := []struct{ last, seq, want int }{
		{0, 0, 0}, {0, 1, 1}, {5, 5, 5}, {5, 4, 4},
		// The number is from 0 on, however far that is from last.
		{0, 32767, 32767}, {0, 32768, 32768}, {0, 32769, 32769}, {0, 65535, 65535}, {32766, 65535, 65535},
		// Two are as near, or one of them is not there.
		{32767, 65535, 65535}, {32768, 0, 0}, {32768, 65535, 65535}, {98304, 0, 65536},
		{65535, 32767, 32767}, {65535, 32766, 98302}, {65536, 32768, 32768}, {65536, 32767, 98303}, {65537, 32769, 32769},
		// It goes round, up and down.
		{65535, 0, 65536}, {65536, 65535, 65535}, {131071, 3, 131075}, {131075, 65535, 131071},
		{api.MaxLong, 0, api.MaxLong}, {api.MaxLong, 1, api.MaxLong + 1}, {api.MaxLong, 65535, api.MaxLong - 1},
		{api.MaxLong, 32767, api.MaxLong + 32767}, {api.MaxLong, 32768, api.MaxLong - 32768},
		{api.MaxLong - 1, 0, api.MaxLong},
	}
	for _, c := range cases {
		got, err := serial.Unwrap(c.last, c.seq)
		if got != c.want || err != nil {
			t.Errorf("Unwrap(%d, %d) = %d, %v, want %d", c.last, c.seq, got, err, c.want)
		}
	}
}

func TestUnwrapIsNearest(t *testing.T) {
	for _, last := range []int{0, 1, 32767, 32768, 32769, 65535, 65536, 98304, 506901175171, api.MaxLong - 1, api.MaxLong} {
		for seq := range round {
			got, err := serial.Unwrap(last, seq)
			if want := nearest(last, seq); got != want || err != nil {
				t.Fatalf("Unwrap(%d, %d) = %d, %v, want %d", last, seq, got, err, want)
			}
		}
	}
}

// nearest tries the numbers of the rounds about last, rising, so that the less of two stays.
func nearest(last, seq int) int {
	best := -1
	for turn := last/round - 2; turn <= last/round+2; turn++ {
		n := turn*round + seq
		if n >= 0 && (best < 0 || distance(n, last) < distance(best, last)) {
			best = n
		}
	}
	return best
}

func distance(a, b int) int {
	return max(a-b, b-a)
}

func TestUnwrapOfWrongNumbers(t *testing.T) {
	for _, last := range far {
		wantNoUnwrap(t, last, 0)
		wantNoUnwrap(t, last, -1)
	}
	for _, seq := range append([]int{api.MaxSeq + 1, api.MaxLong}, far...) {
		wantNoUnwrap(t, 0, seq)
		wantNoUnwrap(t, api.MaxLong, seq)
	}
}

func wantNoUnwrap(t *testing.T, last, seq int) {
	t.Helper()
	got, err := serial.Unwrap(last, seq)
	if got != 0 || plain.Told(err) != api.ErrRange {
		t.Errorf("Unwrap(%d, %d) = %d, %v", last, seq, got, err)
	}
}

func TestNewWindowSizes(t *testing.T) {
	for n := 1; n <= 64; n++ {
		w := window(t, n)
		if w.Top() != -1 || w.Has(0) || w.Has(-1) {
			t.Errorf("a new window of %d has something: Top %d", n, w.Top())
		}
	}
	for _, n := range append([]int{0, 65, 128, round + 1}, far...) {
		if w, err := serial.NewWindow(n); w != nil || plain.Told(err) != api.ErrRange {
			t.Errorf("NewWindow(%d) = %v, %v", n, w, err)
		}
	}
}

func window(t *testing.T, n int) *serial.Window {
	t.Helper()
	w, err := serial.NewWindow(n)
	if w == nil || err != nil {
		t.Fatalf("NewWindow(%d) = %v, %v", n, w, err)
	}
	return w
}

func wantAdd(t *testing.T, w *serial.Window, number int, want bool, told api.Errno) {
	t.Helper()
	got, err := w.Add(number)
	if got != want || plain.Told(err) != told || (err == nil) != (told == api.OK) {
		t.Errorf("Add(%d) = %v, %v, want %v, %v", number, got, err, want, told)
	}
}

func TestWindowRemembers(t *testing.T) {
	w := window(t, 4)
	wantAdd(t, w, 10, true, api.OK)
	wantAdd(t, w, 10, false, api.OK)
	wantAdd(t, w, 8, true, api.OK)
	wantAdd(t, w, 8, false, api.OK)
	wantAdd(t, w, 11, true, api.OK)
	wantHas(t, w, []int{8, 10, 11}, []int{7, 9, 12, 0, -1})
	wantAdd(t, w, 7, false, api.ErrState)
	wantAdd(t, w, 12, true, api.OK)
	wantHas(t, w, []int{10, 11, 12}, []int{8, 9, 13})
	if w.Top() != 12 {
		t.Errorf("Top is %d", w.Top())
	}
}

func wantHas(t *testing.T, w *serial.Window, in, out []int) {
	t.Helper()
	for _, n := range in {
		if !w.Has(n) {
			t.Errorf("%d is not there", n)
		}
	}
	for _, n := range out {
		if w.Has(n) {
			t.Errorf("%d is there", n)
		}
	}
}

func TestWindowAtItsLowEnd(t *testing.T) {
	for n := 1; n <= 64; n++ {
		for _, top := range []int{n, 1000, api.MaxLong} {
			w := window(t, n)
			wantAdd(t, w, top, true, api.OK)
			wantAdd(t, w, top-n, false, api.ErrState)
			wantHas(t, w, nil, []int{top - n})
			wantAdd(t, w, top-n+1, n > 1, api.OK)
			wantAdd(t, w, top-n+1, false, api.OK)
			wantHas(t, w, []int{top, top - n + 1}, []int{top - n, top + 1})
		}
	}
}

func TestWindowForgets(t *testing.T) {
	for n := 1; n <= 64; n++ {
		for _, by := range []int{n - 1, n, n + 1, 63, 64, 65, 128, round, api.MaxLong - 100} {
			if by == 0 {
				continue
			}
			w := window(t, n)
			wantAdd(t, w, 100, true, api.OK)
			wantAdd(t, w, 100+by, true, api.OK)
			wantTold(t, w, n, 100+by, map[int]bool{100: true, 100 + by: true})
			told := api.OK
			if by >= n {
				told = api.ErrState
			}
			wantAdd(t, w, 100, false, told)
		}
	}
}

func TestWindowFromLeastToGreatest(t *testing.T) {
	w := window(t, 64)
	wantAdd(t, w, 0, true, api.OK)
	wantAdd(t, w, 0, false, api.OK)
	wantHas(t, w, []int{0}, append([]int{1}, far...))
	wantAdd(t, w, api.MaxLong, true, api.OK)
	wantAdd(t, w, 0, false, api.ErrState)
	wantHas(t, w, []int{api.MaxLong}, append([]int{0, api.MaxLong - 1}, far...))
	if w.Top() != api.MaxLong {
		t.Errorf("Top is %d", w.Top())
	}
}

func TestWindowIsNotChangedByErrors(t *testing.T) {
	for _, n := range []int{1, 2, 63, 64} {
		for _, number := range far {
			w := window(t, n)
			wantAdd(t, w, number, false, api.ErrRange)
			wantTold(t, w, n, -1, nil)
		}
		w := window(t, n)
		added := map[int]bool{500: true, 501 - n: true}
		wantAdd(t, w, 500, true, api.OK)
		wantAdd(t, w, 501-n, n > 1, api.OK)
		for _, number := range far {
			wantAdd(t, w, number, false, api.ErrRange)
			wantTold(t, w, n, 500, added)
		}
		for number := 0; number <= 500-n; number++ {
			wantAdd(t, w, number, false, api.ErrState)
		}
		wantTold(t, w, n, 500, added)
	}
}

// wantTold holds all that a window tells, near its top and far from it, against what was added.
func wantTold(t *testing.T, w *serial.Window, n, top int, added map[int]bool) {
	t.Helper()
	if w.Top() != top {
		t.Errorf("window of %d: Top is %d, want %d", n, w.Top(), top)
	}
	for number := top - 200; number <= top+200; number++ {
		if want := added[number] && number > top-n; w.Has(number) != want {
			t.Errorf("window of %d, Top %d: Has(%d) = %v", n, top, number, !want)
		}
	}
	wantHas(t, w, nil, far)
}

func TestWindowIsWhatWasAdded(t *testing.T) {
	draw := rand.New(rand.NewSource(1))
	for n := 1; n <= 64; n++ {
		w, top, added := window(t, n), -1, map[int]bool{}
		for range 200 {
			number := top + draw.Intn(2*n+6) - 2*n
			want, told := !added[number], api.OK
			switch {
			case number < 0:
				want, told = false, api.ErrRange
			case number <= top-n:
				want, told = false, api.ErrState
			default:
				added[number] = true
				top = max(top, number)
			}
			wantAdd(t, w, number, want, told)
		}
		wantTold(t, w, n, top, added)
	}
}

func TestWindowsAreApart(t *testing.T) {
	a, b := window(t, 8), window(t, 8)
	wantAdd(t, a, 5, true, api.OK)
	if b.Top() != -1 || b.Has(5) {
		t.Error("a window has what was added to another one")
	}
	wantAdd(t, b, 5, true, api.OK)
}
