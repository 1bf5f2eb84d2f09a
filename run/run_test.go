package run_test

import (
	"slices"
	"strings"
	"testing"

	"choirloft/run"
)

const maxRun = 3000

// answersAre runs a text and wants its answers, each without the byte that ends it.
func answersAre(t *testing.T, text string, want ...string) {
	t.Helper()
	all := ""
	for _, answer := range want {
		all += answer + "\n"
	}
	if got := run.Run(text); got != all {
		t.Errorf("Run(%s) = %s, want %s", brief(text), brief(got), brief(all))
	}
}

// alone wants of each line, as a session of its own, its answer.
func alone(t *testing.T, lines map[string]string) {
	t.Helper()
	for line, want := range lines {
		answersAre(t, line+"\n", want)
		answersAre(t, line, want) // the byte that ends the last line may be lacking
	}
}

// allBad wants of each line that it cannot be read, as a session of its own.
func allBad(t *testing.T, lines ...string) {
	t.Helper()
	for _, line := range lines {
		answersAre(t, line+"\n", "bad")
	}
}

// inRow wants of lines, each with its answer behind it, that they are answered so as one session.
func inRow(t *testing.T, linesAndAnswers ...string) {
	t.Helper()
	var lines, answers []string
	for i := 0; i < len(linesAndAnswers); i += 2 {
		lines = append(lines, linesAndAnswers[i])
		answers = append(answers, linesAndAnswers[i+1])
	}
	answersAre(t, strings.Join(lines, "\n")+"\n", answers...)
}

func brief(text string) string {
	if len(text) > 300 {
		return text[:150] + " .. " + text[len(text)-150:]
	}
	return text
}

// numbers is a LIST of the same number, so many times.
func numbers(n int, number string) string {
	return strings.Join(slices.Repeat([]string{number}, n), ",")
}

func TestAnEmptyTextHasNoAnswers(t *testing.T) {
	answersAre(t, "")
}

func TestALastPieceThatIsEmptyIsNone(t *testing.T) {
	answersAre(t, "seen 1", "yes")
	answersAre(t, "seen 1\n", "yes")
	answersAre(t, "seen 1\n\n", "yes", "bad")
	answersAre(t, "seen 1\nseen 1", "yes", "no")
	answersAre(t, "seen 1\nseen 1\n", "yes", "no")
	answersAre(t, "pairs ", "-")
	answersAre(t, "pairs \n", "-")
}

func TestLinesThatAreEmptyAreBad(t *testing.T) {
	answersAre(t, "\n", "bad")
	answersAre(t, "\n\n", "bad", "bad")
	answersAre(t, "\nseen 1", "bad", "yes")
	answersAre(t, "\n\nseen 1\n", "bad", "bad", "yes")
	answersAre(t, "seen 1\n\nseen 1\n", "yes", "bad", "no")
	answersAre(t, "seen 1\n\n\n\nseen 1", "yes", "bad", "bad", "bad", "no")
	answersAre(t, "seen 1\n\n\n", "yes", "bad", "bad")
}

func TestLinesAreCutAtByte10Alone(t *testing.T) {
	answersAre(t, "seen 1\r\nseen 1\n", "bad", "yes")
	answersAre(t, "seen 1\rseen 2", "bad")
	answersAre(t, "seen 1\x00\nseen 1", "bad", "yes")
	answersAre(t, "seen 1\vseen 2\fseen 3\x85\u2028seen 4", "bad")
	answersAre(t, "\xff\xfe\nseen 1\n\xff\n", "bad", "yes", "bad")
	answersAre(t, "seen \u0661\n", "bad")
}

func TestATextMayHave3000Bytes(t *testing.T) {
	all := "seen 1\n" + strings.Repeat("\n", maxRun-7)
	if got, want := run.Run(all), "yes\n"+strings.Repeat("bad\n", maxRun-7); got != want {
		t.Errorf("a text of %d bytes: %s", len(all), brief(got))
	}
	answersAre(t, all+"\n", "too long")

	one := "pairs " + numbers(150, "12345") // 6 bytes, 150 of 5, and 149 between
	one = strings.Repeat("fly\n", (maxRun-len(one))/4) + one
	one = strings.Repeat("x", maxRun-len(one)) + one
	if got := run.Run(one); len(one) != maxRun || !strings.HasSuffix(got, "bad\n12345:0\n") {
		t.Errorf("a text of %d bytes without a last byte 10: %s", len(one), brief(got))
	}
	answersAre(t, one+"\n", "too long")
	answersAre(t, "x"+one, "too long")

	answersAre(t, strings.Repeat("y", maxRun), "bad")
	answersAre(t, strings.Repeat("y", maxRun+1), "too long")
	answersAre(t, strings.Repeat("seen 1\n", 500), "too long")
	answersAre(t, strings.Repeat("y", 1<<20), "too long")
}

func TestATextIsAsLongAsItsBytes(t *testing.T) {
	answersAre(t, strings.Repeat("\u65e5", 1000), "bad")
	answersAre(t, strings.Repeat("\u65e5", 1000)+"y", "too long")
}

func TestOtherLinesAreBad(t *testing.T) {
	allBad(t, "fly", "fly 1", "x", "1", "-", ",", "ok", "bad", "no 1", "Seen 1", "SEEN 1", "see 1", "seenn 1", "seen1",
		"seen,1", "seen\t1", "unwrap\t1\t1", "has 1", "top", "sum 00", "seal 00", "numbers 1:0", "speaker", "quiet",
		"build 1 ", "limit 1", "now", "ways 1 ", "too long")
}

// rows are what a line is when it can be read, for each row of the chapter.
var rows = []string{
	"unwrap 70000 5", "seen 5", "crc 0a1b", "open 00d202ef8d", "pairs 5,7", "fair 5 3,4", "hear 5,7", "take 5 1 1", "gone 5",
	"way 3 0,1,5,1,2,2",
}

func TestALineHasJustAsManyWordsAsItsRowSays(t *testing.T) {
	for _, line := range rows {
		if got := run.Run(line); got == "bad\n" || strings.HasPrefix(got, "Err") {
			t.Errorf("Run(%q) = %q", line, got)
		}
		words := strings.Split(line, " ")
		allBad(t, line+" ", line+" 1", line+" 00", line+" 1 1", " "+line, "  "+line, "1 "+line)
		for n := range words {
			allBad(t, strings.Join(words[:n], " "))
			with := slices.Insert(slices.Clone(words), n, "")
			allBad(t, strings.Join(with, " "))
		}
	}
}

// An empty word is a LIST or a HEX of none, and no N.
func TestAWordMayBeEmpty(t *testing.T) {
	alone(t, map[string]string{"crc ": "0", "open ": "ErrShort", "pairs ": "-", "fair 5 ": "-", "hear ": "-1", "way 2 ": "0,-1"})
	allBad(t, "crc", "open", "pairs", "fair 5", "hear", "way 2",
		"crc  ", "open  ", "pairs  ", "fair 5  ", "hear  ", "way 2  ",
		"crc  00", "open  00000000", "pairs  5", "hear  5",
		"fair ", "fair  ", "fair  5", "fair  5 5", "way ", "way  ", "way  0,1,1",
		"unwrap", "unwrap ", "unwrap  ", "unwrap  5", "unwrap 5 ", "unwrap 5  5",
		"seen", "seen ", "seen  ", "seen  5", "seen 5 ",
		"take", "take ", "take 5", "take 5 1", "take 5 1 ", "take 5  1", "take  1 1", "take   ", "take 5  1 1",
		"gone", "gone ", "gone  ", "gone  5", "gone 5 ")
}

// lineWith puts a word into each place where its kind stands.
func lineWith(kind, word string) []string {
	places := map[string][]string{
		"N":    {"unwrap # 5", "unwrap 5 #", "seen #", "fair # ", "fair # 5", "take # 0 1", "take 5 # 1", "take 5 0 #", "gone #", "way # ", "way # 0,1,1"},
		"LIST": {"pairs #", "fair 5 #", "hear #", "way 3 #"},
		"HEX":  {"crc #", "open #"},
	}
	var lines []string
	for _, place := range places[kind] {
		lines = append(lines, strings.Replace(place, "#", word, 1))
	}
	return lines
}

var noNumbers = []string{
	"-0", "00", "01", "007", "-01", "-00", "+0", "+1", "-", "+", "--1", "-+1", "1-", "1-1", "1+1", "x", "a", "1a", "a1", "0x1", "1e3", "1.0",
	"1_0", "0_1", "0b1", "0o7", "1\t", "\t1", "\u0661", "\x001", "'1'", "1:0", "1;2", "1000000000", "1234567890", "-1000000000", "-1234567890",
	"0123456789", "000000001", "-000000001", "9223372036854775807", "9223372036854775808", "-9223372036854775808", "-9223372036854775809",
	"18446744073709551616", "18446744073709551617", "99999999999999999999999999999999",
}

func TestWhatIsNoNumberIsBad(t *testing.T) {
	for _, word := range noNumbers {
		allBad(t, lineWith("N", word)...)
		allBad(t, lineWith("LIST", word)...)
		for _, list := range []string{word + ",5,7", "5," + word + ",7", "5,7," + word} {
			allBad(t, lineWith("LIST", list)...)
		}
	}
}

func TestANumberHasNineDigitsAtMost(t *testing.T) {
	alone(t, map[string]string{
		"seen 999999999": "yes", "seen 100000000": "yes", "seen 99999999": "yes", "seen 0": "yes",
		"seen -999999999": "ErrRange", "seen -100000000": "ErrRange", "seen -1": "ErrRange",
		"unwrap 999999999 0":       "1000013824", // an answer may be greater
		"unwrap 999999999 0 ":      "bad",
		"take 999999999 0 1":       "yes",
		"take -999999999 0 1":      "ErrRange",
		"gone 999999999":           "no",
		"pairs 999999999":          "ErrRange",
		"pairs -999999999":         "ErrRange",
		"fair 999999999 ":          "ErrRange",
		"fair -999999999 5":        "ErrRange",
		"way 999999999 ":           "ErrRange",
		"way 2 0,1,999999999":      "ErrRange",
		"way 2 -999999999,0,1":     "ErrRange",
		"hear 999999999":           "ErrRange",
		"take 5 999999999 1":       "ErrRange",
		"take 5 -999999999 1":      "ErrRange",
		"take 5 1 999999999":       "bad",
		"unwrap 0 999999999":       "ErrRange",
		"unwrap -999999999 0":      "ErrRange",
		"pairs 1000000000":         "bad",
		"take 1000000000 0 1":      "bad",
		"unwrap 1000000000 0":      "bad",
		"fair 5 1,2,3,-1234567890": "bad",
	})
}

func TestWhatIsNoListIsBad(t *testing.T) {
	for _, word := range []string{",", ",,", ",5", "5,", ",5,7", "5,7,", "5,,7", "5, 7", "5 ,7", "5 7", " 5", "5 ", "5;7", "5.7", "5:7", "[5]", "-", "5,-", "-,5",
		"0,1,", ",0,1", "0,,1", "0,1,1,", "0,1,1,,"} {
		allBad(t, lineWith("LIST", word)...)
	}
}

func TestWhatIsNoHexIsBad(t *testing.T) {
	for _, word := range []string{"0", "a", "000", "fffff", "A0", "0A", "FF", "fF", "Ff", "0g", "g0", "gg", "0x", "0x00", "x0", "-1", "+1", "0 0", "00 00", "00 ", " 00", "00,00",
		"00:", "0/", "/0", "0:", ":0", "0@", "@0", "0`", "`0", "0\x00", "\x000", "\u00e9", "0\xff", "\xff0", "\xff\xff", "00d202ef8D", "00D202ef8d", "00d202ef8", "0d202ef8d", "g0d202ef8d", "00d202ef8g"} {
		allBad(t, lineWith("HEX", word)...)
	}
}

// All answers are told, and in their order.
func TestOneSessionOfAllRows(t *testing.T) {
	inRow(t,
		"seen 100", "yes",
		"hear 10", "0",
		"take 0 0 1", "yes",
		"unwrap 65535 0", "65536",
		"seen 100", "no",
		"crc 313233343536373839", "3421780262",
		"open 313233343536373839cbf43926", "313233343536373839",
		"hear 0,21", "0",
		"take 1 1 0", "no",
		"fly", "bad",
		"pairs 9,5,7,40", "5:10 40:0",
		"take 2 0 0", "yes",
		"gone 3", "no",
		"seen 92", "ErrState",
		"fair 44 30,5,20", "20,5,19",
		"take 4 0 0", "no",
		"hear 0,5", "1",
		"way 4 0,1,5,0,2,2,2,1,3,3,2,4", "0,5,2,6",
		"seen 93", "yes",
		"take 4 0 0", "ErrState",
		"take 5 0 1", "yes",
	)
}

// Nothing is kept from text to text.
func TestEachTextHasASessionOfItsOwn(t *testing.T) {
	for range 2 {
		inRow(t, "seen 5", "yes", "hear 9", "0", "take 5 0 1", "yes", "seen 5", "no", "hear 0,127", "1", "gone 5", "ErrState")
		inRow(t, "take 0 0 0", "no", "hear ", "-1", "seen 0", "yes")
	}
}

func TestAnAnswerHasAsManyLinesAsItsText(t *testing.T) {
	for n := range 40 {
		text := strings.Repeat("seen 5\n", n)
		if got := strings.Count(run.Run(text), "\n"); got != n {
			t.Errorf("%d lines are answered by %d", n, got)
		}
	}
}
