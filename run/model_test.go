package run_test

import (
	"encoding/hex"
	"hash/crc32"
	"math/rand"
	"regexp"
	"slices"
	"strconv"
	"strings"
	"testing"

	"choirloft/api"
	"choirloft/back"
	"choirloft/crc"
	"choirloft/layer"
	"choirloft/plain"
	"choirloft/rate"
	"choirloft/run"
	"choirloft/serial"
	"choirloft/tree"
	"choirloft/voice"
)

func decimal(n int) string { return strconv.Itoa(n) }

func hexText(b ...byte) string { return hex.EncodeToString(b) }

func sumOf(b ...byte) int { return int(crc32.ChecksumIEEE(b)) }

func sumText(sum int) string {
	return hexText(byte(sum>>24), byte(sum>>16), byte(sum>>8), byte(sum))
}

const (
	numberForm = `(0|-?[1-9][0-9]{0,8})`
	listForm   = `((?:(?:0|-?[1-9][0-9]{0,8})(?:,(?:0|-?[1-9][0-9]{0,8}))*)?)`
	hexForm    = `((?:[0-9a-f][0-9a-f])*)`
)

// forms of lines, as the chapter writes them.
var forms = func() map[string]*regexp.Regexp {
	all := map[string]*regexp.Regexp{}
	for _, row := range []string{"unwrap N N", "seen N", "crc HEX", "open HEX", "pairs LIST", "fair N LIST", "hear LIST", "take N N N", "gone N", "way N LIST"} {
		name, words, _ := strings.Cut(row, " ")
		words = strings.NewReplacer("LIST", listForm, "HEX", hexForm, "N", numberForm).Replace(words)
		all[name] = regexp.MustCompile(`\A` + name + ` ` + words + `\z`)
	}
	return all
}()

// model is the chapter, word by word: forms of lines, and the layers behind them.
type model struct {
	window *serial.Window
	voices *voice.Voices
	layer  *layer.Layer
}

func newModel() *model {
	w, _ := serial.NewWindow(8)
	v, _ := voice.New(2)
	l, _ := layer.New(1)
	return &model{w, v, l}
}

func (m *model) run(text string) string {
	if len(text) > 3000 {
		return "too long\n"
	}
	pieces := strings.Split(text, "\n")
	if pieces[len(pieces)-1] == "" {
		pieces = pieces[:len(pieces)-1]
	}
	answers := ""
	for _, line := range pieces {
		answers += m.line(line) + "\n"
	}
	return answers
}

func (m *model) line(line string) string {
	for name, form := range forms {
		if words := form.FindStringSubmatch(line); words != nil {
			answer, err := m.row(name, words[1:])
			if err != nil {
				return plain.Told(err).Error()
			}
			return answer
		}
	}
	return "bad"
}

func (m *model) row(name string, words []string) (string, error) {
	switch name {
	case "unwrap":
		n, err := serial.Unwrap(intOf(words[0]), intOf(words[1]))
		return decimal(n), err
	case "seen":
		fresh, err := m.window.Add(intOf(words[0]))
		return map[bool]string{true: "yes", false: "no"}[fresh], err
	case "crc":
		b, _ := hex.DecodeString(words[0])
		return decimal(crc.Sum(b)), nil
	case "open":
		b, _ := hex.DecodeString(words[0])
		body, err := crc.Open(b)
		return hexText(body...), err
	case "pairs":
		pairs, err := back.Pairs(intsOf(words[0]))
		var texts []string
		for _, p := range pairs {
			texts = append(texts, decimal(p.Base)+":"+decimal(p.Mask))
		}
		return orNone(strings.Join(texts, " ")), err
	case "fair":
		shares, err := rate.Fair(intOf(words[0]), intsOf(words[1]))
		return orNone(listText(shares)), err
	case "hear":
		var l []api.Voice
		for who, level := range intsOf(words[0]) {
			l = append(l, api.Voice{Who: who, Level: level})
		}
		err := m.voices.Hear(l)
		return decimal(m.voices.Speaker()), err
	}
	return m.deepRow(name, words)
}

func (m *model) deepRow(name string, words []string) (string, error) {
	number := intOf(words[0])
	switch name {
	case "gone":
		_, err := m.layer.Take(api.Item{Number: number, Gone: true})
		return "no", err
	case "take":
		start := intOf(words[2])
		if start < 0 || start > 1 {
			return "bad", nil
		}
		p := api.Packet{Seq: (number%65536 + 65536) % 65536, Layer: intOf(words[1]), Start: start == 1}
		goes, err := m.layer.Take(api.Item{Number: number, Packet: p})
		return map[bool]string{true: "yes", false: "no"}[goes], err
	}
	flat := intsOf(words[1])
	if len(flat)%3 != 0 {
		return "bad", nil
	}
	var edges []api.Edge
	for e := range slices.Chunk(flat, 3) {
		edges = append(edges, api.Edge{A: e[0], B: e[1], Cost: e[2]})
	}
	_, dist, err := tree.Build(number, edges, 0)
	return listText(dist), err
}

func intOf(word string) int {
	n, err := strconv.Atoi(word)
	if err != nil {
		panic(err)
	}
	return n
}

func intsOf(word string) []int {
	if word == "" {
		return nil
	}
	var l []int
	for _, part := range strings.Split(word, ",") {
		l = append(l, intOf(part))
	}
	return l
}

func listText(l []int) string {
	var texts []string
	for _, n := range l {
		texts = append(texts, decimal(n))
	}
	return strings.Join(texts, ",")
}

func orNone(text string) string {
	if text == "" {
		return "-"
	}
	return text
}

func asModel(t *testing.T, text string) {
	t.Helper()
	if got, want := run.Run(text), newModel().run(text); got != want {
		t.Errorf("Run(%q) = %q, want %q", brief(text), brief(got), brief(want))
	}
}

// short calls f with all texts of an alphabet, of at most so many bytes.
func short(alphabet string, most int, f func(text string)) {
	var grow func(text string)
	grow = func(text string) {
		f(text)
		if len(text) == most {
			return
		}
		for i := range len(alphabet) {
			grow(text + alphabet[i:i+1])
		}
	}
	grow("")
}

func TestAllShortTexts(t *testing.T) {
	short("\x00\n\r 0-,as", 5, func(text string) { asModel(t, text) })
}

func TestAllShortWords(t *testing.T) {
	for _, begin := range []string{"seen ", "gone ", "unwrap 5 ", "unwrap 7 1", "take 7 1 ", "take 3 0 1", "take "} {
		short("019-+ ,\n", 4, func(text string) { asModel(t, begin+text) })
	}
	for _, begin := range []string{"pairs ", "fair 5 ", "fair ", "hear ", "hear 9,", "way 2 ", "way 3 0,1,2", "way "} {
		short("012-, \n", 4, func(text string) { asModel(t, begin+text) })
	}
	for _, begin := range []string{"crc ", "crc ff", "open ", "open 000000"} {
		short("09afAFg/:@` \n", 3, func(text string) { asModel(t, begin+text) })
	}
}

func TestAllBytesInAllPlaces(t *testing.T) {
	for _, line := range rows {
		for at := range len(line) {
			for c := range 256 {
				asModel(t, line[:at]+string([]byte{byte(c)})+line[at+1:])
				asModel(t, line[:at]+string([]byte{byte(c)})+line[at:])
			}
			asModel(t, line[:at])
			asModel(t, line[:at]+line[at+1:])
		}
	}
}

// lot makes lines by lot: most of them can be read, and some of those are wrong.
type lot struct{ *rand.Rand }

func (r lot) of(l ...string) string { return l[r.Intn(len(l))] }

func (r lot) upTo(n int) string { return decimal(r.Intn(n + 1)) }

// number of a kind of which n is the greatest, or now and then one beside it, or none.
func (r lot) number(n int) string {
	switch r.Intn(30) {
	case 0:
		return r.of("-1", decimal(n+1), decimal(n), "0", "999999999", "-999999999")
	case 1:
		return r.of(noNumbers...)
	}
	return r.upTo(n)
}

func (r lot) list(most, n int) string {
	var words []string
	for range r.Intn(most + 1) {
		words = append(words, r.upTo(n))
	}
	if len(words) > 0 && r.Intn(8) == 0 {
		words[r.Intn(len(words))] = r.number(n)
	}
	return strings.Join(words, ",")
}

func (r lot) bytes() []byte {
	b := make([]byte, r.Intn(6))
	for i := range b {
		b[i] = byte(r.Intn(256))
	}
	return b
}

func (r lot) edges(n int) string {
	var words []string
	for range r.Intn(6) {
		words = append(words, r.upTo(n-1), r.upTo(n-1), r.upTo(9))
	}
	if len(words) > 0 && r.Intn(8) == 0 {
		words = words[1:]
	}
	return strings.Join(words, ",")
}

func (r lot) line(turn int) string {
	switch r.Intn(11) {
	case 0:
		return "unwrap " + r.number(200_000) + " " + r.number(65535)
	case 1, 2:
		return "seen " + r.number(5+turn)
	case 3:
		return "crc " + hexText(r.bytes()...)
	case 4:
		sealed := crc.Seal(r.bytes())
		sealed[r.Intn(len(sealed))] ^= byte(r.Intn(2))
		return "open " + hexText(sealed...)
	case 5:
		return "pairs " + r.list(6, r.Intn(60))
	case 6:
		return "fair " + r.number(60) + " " + r.list(5, 30)
	case 7:
		return "hear " + r.list(4, 127)
	case 8:
		return "take " + r.number(2*turn) + " " + r.number(3) + " " + r.number(1)
	case 9:
		return "gone " + r.number(2*turn)
	}
	n := 1 + r.Intn(6)
	return "way " + decimal(n) + " " + r.edges(n)
}

func (r lot) lines(n int) []string {
	var l []string
	for turn := range n {
		l = append(l, r.line(turn))
	}
	return l
}

// spoilt has one byte of a text less, more, or another one.
func (r lot) spoilt(text string) string {
	at := r.Intn(len(text))
	c := r.of(" ", ",", "-", "0", "1", "a", "A", "\n", "\x00", "\xff")
	return text[:at] + r.of("", c, c+text[at:at+1]) + text[at+1:]
}

func TestSessionsByLot(t *testing.T) {
	r := lot{rand.New(rand.NewSource(20))}
	for range 4000 {
		text := strings.Join(r.lines(1+r.Intn(40)), "\n") + r.of("", "\n", "\n\n")
		asModel(t, text)
		asModel(t, r.spoilt(text))
	}
}

// Sessions near the greatest length, on both sides of it.
func TestLongSessionsByLot(t *testing.T) {
	r := lot{rand.New(rand.NewSource(21))}
	for range 200 {
		text := strings.Join(r.lines(400), "\n")
		for by := -2; by <= 2; by++ {
			asModel(t, text[:maxRun+by])
		}
	}
}

// Z2, at each line, whether the byte that ends the last one is there or not.
func TestTheFirstLinesHaveTheFirstAnswers(t *testing.T) {
	r := lot{rand.New(rand.NewSource(22))}
	for range 300 {
		lines := r.lines(1 + r.Intn(40))
		answers := strings.SplitAfter(run.Run(strings.Join(lines, "\n")+"\n"), "\n")
		if len(answers) != len(lines)+1 || answers[len(lines)] != "" {
			t.Fatalf("%d lines are answered by %d: %q", len(lines), len(answers)-1, lines)
		}
		for n := range len(lines) + 1 {
			text, want := strings.Join(lines[:n], "\n"), strings.Join(answers[:n], "")
			if n > 0 {
				text += "\n"
			}
			if got := run.Run(text); got != want {
				t.Errorf("the first %d lines of %q: %q, want %q", n, lines, got, want)
			}
			if got := run.Run(strings.TrimSuffix(text, "\n")); got != want {
				t.Errorf("the first %d lines of %q, not ended: %q, want %q", n, lines, got, want)
			}
		}
	}
}

// A text that is too long has no answers of its first lines; its first lines, while they are not too long, have.
func TestTheFirstLinesOfATextThatIsTooLong(t *testing.T) {
	text := strings.Repeat("seen 7\n", 428) // 2996 bytes
	answers := "yes\n" + strings.Repeat("no\n", 427)
	if got := run.Run(text); got != answers {
		t.Errorf("428 lines: %s", brief(got))
	}
	if got := run.Run(text + "fly\n"); got != answers+"bad\n" {
		t.Errorf("428 lines and one more, 3000 bytes: %s", brief(got))
	}
	answersAre(t, text+"flyy\n", "too long")
	answersAre(t, text+"seen 7\n", "too long")
}

// wrong lines: each is answered bad or by an error somewhere in the session below.
var wrong = append([]string{
	"", " ", "fly", "seen", "seen x", "seen -1", "seen 0", "seen 10", "seen 29", "seen 1000000000", "seen 60 60", "seen  60",
	"unwrap -1 0", "unwrap 0 65536", "crc 0", "crc FF", "open 00", "open 00000001", "open 0", "pairs -1", "pairs ,", "fair -1 5", "fair 5 x",
	"hear 128", "hear 127,127,128", "hear 127,-1", "hear 0,127,x", "hear 127 127", "hear 127,", "hear", "hear " + numbers(201, "127"),
	"take 5 0 1", "take -1 0 1", "take 90 4 1", "take 90 -1 1", "take 90 0 2", "take 90 1 -1", "take 90 1 x", "take 90 1", "take 90 1 1 1",
	"gone -1", "gone 0", "gone 14", "gone 90 ", "gone 90 1", "gone 090", "gone -0", "gone", "gone x",
	"way 0 ", "way 2 0", "way 2 0,1,0", "way 2 0,1,1,0,1,1",
}, noNumbers...)

// A line that is bad or has an error changes nothing that a later one tells, wherever it stands.
func TestWrongLinesChangeNothing(t *testing.T) {
	lines := []string{
		"seen 30", "hear 10", "take 14 0 1", "seen 33", "take 15 0 0", "hear 0,21", "seen 30", "gone 16", "hear ", "seen 26", "take 17 0 0",
		"seen 25", "hear 0,5", "take 18 1 1", "seen 33", "hear 0,0,30", "take 19 1 0", "seen 41", "take 20 0 0", "hear 40", "seen 34", "hear ", "take 21 1 0",
		"seen 33", "take 22 0 1", "gone 23", "take 24 0 1", "hear 1,1,1", "seen 60", "take 90 0 0",
	}
	right := answersTo(lines)
	found := map[string]bool{}
	for at := range lines {
		for _, line := range wrong {
			got := answersTo(slices.Insert(slices.Clone(lines), at, line))
			if told := got[at]; told != "bad" && !strings.HasPrefix(told, "Err") {
				continue // not wrong here
			}
			found[line] = true
			if rest := slices.Delete(got, at, at+1); !slices.Equal(rest, right) {
				t.Errorf("with %q at %d: %q, want %q", line, at, rest, right)
			}
		}
	}
	for _, line := range wrong {
		if !found[line] {
			t.Errorf("%q is nowhere wrong", line)
		}
	}
}

func answersTo(lines []string) []string {
	answers := strings.Split(run.Run(strings.Join(lines, "\n")+"\n"), "\n")
	return answers[:len(answers)-1]
}

// The same, of sessions by lot: all lines that are wrong may be left out.
func TestWrongLinesMayBeLeftOut(t *testing.T) {
	r := lot{rand.New(rand.NewSource(23))}
	for range 1000 {
		lines := r.lines(40)
		var kept, want []string
		for i, answer := range answersTo(lines) {
			if answer != "bad" && !strings.HasPrefix(answer, "Err") {
				kept, want = append(kept, lines[i]), append(want, answer)
			}
		}
		if got := answersTo(kept); len(kept) > 0 && !slices.Equal(got, want) {
			t.Errorf("%q without what is wrong: %q, want %q", lines, got, want)
		}
	}
}
