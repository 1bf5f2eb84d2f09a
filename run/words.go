package run

import (
	"strconv"
	"strings"

	"choirloft/api"
)

const (
	maxNumber = 999_999_999 // the greatest of nine digits
	hexDigits = "0123456789abcdef"
)

// words of a line, read one by one. Whether one of them could not be read is kept, and told by end, for all at once: what
// was read is of no use then.
type words struct {
	rest []string
	bad  bool
}

func newWords(line string) *words {
	return &words{rest: strings.Split(line, " ")}
}

func (w *words) next() string {
	if len(w.rest) == 0 {
		w.bad = true
		return ""
	}
	word := w.rest[0]
	w.rest = w.rest[1:]
	return word
}

// end tells whether all words were read, and could be.
func (w *words) end() error {
	if w.bad || len(w.rest) > 0 {
		return errBad
	}
	return nil
}

func (w *words) number() int {
	return w.numberOf(w.next())
}

// numberOf takes only what would be written for the number: so no sign, and no 0, is needless.
func (w *words) numberOf(word string) int {
	n, err := strconv.Atoi(word)
	if err != nil || n < -maxNumber || n > maxNumber || strconv.Itoa(n) != word {
		w.bad = true
		return 0
	}
	return n
}

func (w *words) flag() bool {
	n := w.number()
	if n != 0 && n != 1 {
		w.bad = true
	}
	return n == 1
}

func (w *words) list() []int {
	word := w.next()
	if word == "" {
		return nil
	}
	var l []int
	for _, part := range strings.Split(word, ",") {
		l = append(l, w.numberOf(part))
	}
	return l
}

func (w *words) edges() []api.Edge {
	l := w.list()
	if len(l)%3 != 0 {
		w.bad = true
		return nil
	}
	var edges []api.Edge
	for ; len(l) > 0; l = l[3:] {
		edges = append(edges, api.Edge{A: l[0], B: l[1], Cost: l[2]})
	}
	return edges
}

func (w *words) bytes() []byte {
	word := w.next()
	if len(word)%2 != 0 {
		w.bad = true
		return nil
	}
	var b []byte
	for ; word != ""; word = word[2:] {
		high := strings.IndexByte(hexDigits, word[0])
		low := strings.IndexByte(hexDigits, word[1])
		if high < 0 || low < 0 {
			w.bad = true
			return nil
		}
		b = append(b, byte(high<<4|low))
	}
	return b
}

func hexOf(b []byte) string {
	var text strings.Builder
	for _, c := range b {
		text.WriteByte(hexDigits[c>>4])
		text.WriteByte(hexDigits[c&15])
	}
	return text.String()
}

func yesOrNo(yes bool) string {
	if yes {
		return "yes"
	}
	return "no"
}

func pairText(p api.Pair) string {
	return strconv.Itoa(p.Base) + ":" + strconv.Itoa(p.Mask)
}

// joined tells a list as one text, with something between; a list of none has a sign of its own.
func joined[T any](l []T, between string, text func(T) string) string {
	if len(l) == 0 {
		return "-"
	}
	var texts []string
	for _, one := range l {
		texts = append(texts, text(one))
	}
	return strings.Join(texts, between)
}
