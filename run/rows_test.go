package run_test

import (
	"strings"
	"testing"
)

func TestUnwrap(t *testing.T) {
	alone(t, map[string]string{
		"unwrap 0 0":           "0",
		"unwrap 0 65535":       "65535",
		"unwrap 65535 0":       "65536",
		"unwrap 65536 65535":   "65535",
		"unwrap 32768 0":       "0", // as near as 65536
		"unwrap 32769 0":       "65536",
		"unwrap 98304 0":       "65536",
		"unwrap 98305 0":       "131072",
		"unwrap 5 7":           "7",
		"unwrap 7 5":           "5",
		"unwrap 165897 18964":  "150036",
		"unwrap 999999999 0":   "1000013824",
		"unwrap 999999999 1":   "1000013825",
		"unwrap 0 65536":       "ErrRange",
		"unwrap 0 -1":          "ErrRange",
		"unwrap -1 0":          "ErrRange",
		"unwrap -1 65536":      "ErrRange",
		"unwrap 65536 65536":   "ErrRange",
		"unwrap -1 x":          "bad",
		"unwrap x 65536":       "bad",
		"unwrap -1 65536 1":    "bad",
		"unwrap -1":            "bad",
		"unwrap 1 1234567890":  "bad",
		"unwrap 1234567890 1":  "bad",
		"unwrap 1,2":           "bad",
		"unwrap 1 2 3":         "bad",
		"unwrap 65535 0000000": "bad",
	})
	inRow(t, "unwrap 65535 0", "65536", "unwrap 0 0", "0", "unwrap 65535 0", "65536") // nothing is kept
}

func TestSeen(t *testing.T) {
	inRow(t,
		"seen 0", "yes",
		"seen 0", "no",
		"seen 8", "yes",
		"seen 0", "ErrState",
		"seen 1", "yes",
		"seen 1", "no",
		"seen 7", "yes",
		"seen 8", "no",
		"seen 9", "yes",
		"seen 1", "ErrState",
		"seen 2", "yes",
		"seen 3", "yes",
		"seen 7", "no",
		"seen -1", "ErrRange",
		"seen 10 ", "bad",
		"seen 10", "yes",
		"seen 999999999", "yes",
		"seen 10", "ErrState",
		"seen 999999991", "ErrState",
		"seen 999999992", "yes",
		"seen 1000000000", "bad",
		"seen 999999999", "no",
		"seen 999999992", "no",
	)
}

// With a Window of 8 all of the last 8 numbers are known, and none more.
func TestTheWindowIsOf8(t *testing.T) {
	for below := range 20 {
		want := "yes"
		if below == 0 {
			want = "no"
		}
		if below >= 8 {
			want = "ErrState"
		}
		answersAre(t, "seen 50\nseen "+decimal(50-below)+"\n", "yes", want)
	}
}

func TestCrc(t *testing.T) {
	alone(t, map[string]string{
		"crc ":                   "0",
		"crc 00":                 "3523407757",
		"crc 0000":               "1104745215",
		"crc ff":                 "4278190080",
		"crc 313233343536373839": "3421780262",
		"crc 61":                 "3904355907",
		"crc abcdef":             decimal(sumOf(0xab, 0xcd, 0xef)),
		"crc 0123456789abcdef":   decimal(sumOf(0x01, 0x23, 0x45, 0x67, 0x89, 0xab, 0xcd, 0xef)),
		"crc fedcba9876543210":   decimal(sumOf(0xfe, 0xdc, 0xba, 0x98, 0x76, 0x54, 0x32, 0x10)),
		"crc ABCDEF":             "bad",
		"crc 0":                  "bad",
		"crc":                    "bad",
		"crc 00 00":              "bad",
	})
	many := "crc " + strings.Repeat("00", 1498)
	answersAre(t, many, decimal(sumOf(make([]byte, 1498)...)))
	answersAre(t, many[:maxRun-1], "bad")
	for c := range 256 {
		answersAre(t, "crc "+hexText(byte(c)), decimal(sumOf(byte(c))))
		answersAre(t, "crc 7f"+hexText(byte(c)), decimal(sumOf(0x7f, byte(c))))
	}
}

func TestOpen(t *testing.T) {
	alone(t, map[string]string{
		"open 00000000":                   "",
		"open 00d202ef8d":                 "00",
		"open ff000041d9edff":             "ff0000",
		"open 313233343536373839cbf43926": "313233343536373839",
		"open ":                           "ErrShort",
		"open 00":                         "ErrShort",
		"open 000000":                     "ErrShort",
		"open 00000001":                   "ErrSum",
		"open 01000000":                   "ErrSum",
		"open ffffffff":                   "ErrSum",
		"open 00d202ef8e":                 "ErrSum",
		"open 01d202ef8d":                 "ErrSum",
		"open 008def02d2":                 "ErrSum", // the low one first
		"open 0000d202ef8d":               "ErrSum",
		"open 0":                          "bad",
		"open 0000000":                    "bad",
		"open 00D202EF8D":                 "bad",
		"open 0000000g":                   "bad",
		"open 00000000 00":                "bad",
		"open":                            "bad",
	})
	answersAre(t, "open 00000000\nseen 1\nopen 00000000", "", "yes", "")
	for c := range 256 {
		body := hexText(byte(c)) + "5a" + hexText(byte(255-c))
		answersAre(t, "open "+body+sumText(sumOf(byte(c), 0x5a, byte(255-c))), body)
	}
}

func TestPairs(t *testing.T) {
	alone(t, map[string]string{
		"pairs ":                      "-",
		"pairs 0":                     "0:0",
		"pairs 65535":                 "65535:0",
		"pairs 5,7":                   "5:2",
		"pairs 7,5,7,5":               "5:2",
		"pairs 0,16":                  "0:32768",
		"pairs 0,17":                  "0:0 17:0",
		"pairs 9,5,7,40":              "5:10 40:0",
		"pairs 65535,0":               "0:0 65535:0",
		"pairs 100,50,0":              "0:0 50:0 100:0",
		"pairs 65535,65520":           "65520:16384",
		"pairs 65535,65519":           "65519:32768",
		"pairs 65535,65518":           "65518:0 65535:0",
		"pairs -1":                    "ErrRange",
		"pairs 65536":                 "ErrRange",
		"pairs 5,65536,7":             "ErrRange",
		"pairs 5,7,-1":                "ErrRange",
		"pairs -1,x":                  "bad",
		"pairs x,-1":                  "bad",
		"pairs 65536 1":               "bad",
		"pairs -":                     "bad",
		"pairs 5:2":                   "bad",
		"pairs 5 7":                   "bad",
		"pairs":                       "bad",
		"pairs " + numbers(200, "65"): "65:0",
		"pairs " + numbers(201, "65"): "ErrFull",
		"pairs " + numbers(201, "-1"): "ErrFull", // ahead of ErrRange
		"pairs " + numbers(200, "-1"): "ErrRange",
		"pairs " + numbers(201, "-0"): "bad",
		"pairs " + numbers(900, "65"): "ErrFull",
		"pairs " + numbers(900, "0"):  "ErrFull",
		"pairs " + numbers(201, ""):   "bad",
	})
}

func TestFair(t *testing.T) {
	alone(t, map[string]string{
		"fair 44 30,5,20":                       "20,5,19",
		"fair 0 ":                               "-",
		"fair 1000000 ":                         "-",
		"fair 5 ":                               "-",
		"fair 0 0":                              "0",
		"fair 0 5,7":                            "0,0",
		"fair 5 5":                              "5",
		"fair 4 5":                              "4",
		"fair 10 7,28,24,13":                    "3,3,2,2",
		"fair 1000000 1000000,1000000,1000000":  "333334,333333,333333",
		"fair -1 ":                              "ErrRange",
		"fair 1000001 ":                         "ErrRange",
		"fair -1 5":                             "ErrRange",
		"fair 5 -1":                             "ErrRange",
		"fair 5 1000001":                        "ErrRange",
		"fair 5 5,1000001,5":                    "ErrRange",
		"fair -1 x":                             "bad",
		"fair x -1":                             "bad",
		"fair -1 5 5":                           "bad",
		"fair 5":                                "bad",
		"fair ":                                 "bad",
		"fair 5,7":                              "bad",
		"fair 1 ,":                              "bad",
		"fair 5 -":                              "bad",
		"fair 400 " + numbers(200, "3"):         numbers(200, "2"),
		"fair 400 " + numbers(201, "3"):         "ErrFull",
		"fair -1 " + numbers(201, "3"):          "ErrFull", // ahead of ErrRange
		"fair 400 " + numbers(201, "-1"):        "ErrFull",
		"fair 400 " + numbers(201, "x"):         "bad",
		"fair 1234567890 " + numbers(201, "-1"): "bad",
	})
}

func TestHear(t *testing.T) {
	alone(t, map[string]string{
		"hear ":                            "-1",
		"hear 0":                           "-1",
		"hear 0,0":                         "-1",
		"hear 1":                           "0",
		"hear 127":                         "0",
		"hear 5,6":                         "1",
		"hear 6,6,5":                       "0", // of equal ones the least
		"hear 0,0,1":                       "2",
		"hear 128":                         "ErrRange",
		"hear -1":                          "ErrRange",
		"hear 5,128,5":                     "ErrRange",
		"hear 5,5,-1":                      "ErrRange",
		"hear -1,x":                        "bad",
		"hear -1 1":                        "bad",
		"hear 5 6":                         "bad",
		"hear -":                           "bad",
		"hear":                             "bad",
		"hear " + numbers(200, "5"):        "0",
		"hear " + numbers(201, "5"):        "ErrFull",
		"hear " + numbers(201, "-1"):       "ErrFull", // ahead of ErrRange
		"hear " + numbers(200, "128"):      "ErrRange",
		"hear " + numbers(201, "x"):        "bad",
		"hear " + numbers(199, "5") + ",6": "199",
	})
}

func TestTheVoicesGoOnFromLineToLine(t *testing.T) {
	inRow(t,
		"hear 10", "0",
		"hear 0,21", "0", // 336 is not more than 200 above 140
		"hear 0,5", "1", // 374 is more than 200 above 122
		"hear 127", "0",
		"hear 128", "ErrRange",
		"hear x", "bad",
		"hear ", "0",
	)
	// 16, and down to 0 by 14, 12, 10, 8, 7, 6, 5, 4, 3, 2 and 1.
	inRow(t, "hear 0,0,1", "2", "hear ", "2", "hear ", "2", "hear ", "2", "hear ", "2", "hear ", "2", "hear ", "2", "hear ", "2",
		"hear ", "2", "hear ", "2", "hear ", "2", "hear ", "2", "hear ", "-1", "hear ", "-1", "hear 0,1", "1")
}

// A score is less by an eighth, and not more than 200 above another one: both edges.
func TestAnotherOneSpeaksWhenItIsFarAbove(t *testing.T) {
	inRow(t, "hear 64", "0", "hear 0,68", "0", "hear 0,25", "1") // 896, 1088; 784, 1352
	inRow(t, "hear 1", "0", "hear 0,13", "0")                    // 14, 208
	inRow(t, "hear 1", "0", "hear 0,14", "1")                    // 14, 224
}

func TestTakeAndGone(t *testing.T) {
	inRow(t,
		"take 0 0 0", "no", // nothing began
		"gone 1", "no",
		"take 2 0 0", "no",
		"take 3 0 1", "yes",
		"take 4 0 0", "yes",
		"take 5 1 0", "no",
		"take 6 1 1", "yes",
		"take 7 0 0", "no",
		"take 8 0 1", "no", // below the one that goes through
		"take 9 2 1", "no", // above the most
		"take 10 3 1", "no",
		"take 11 1 0", "yes",
		"gone 12", "no",
		"take 13 1 0", "no", // broken
		"take 13 0 1", "ErrState",
		"take 14 0 1", "yes",
		"take 15 0 0", "yes",
		"gone 15", "ErrState",
		"gone 0", "ErrState",
		"gone -1", "ErrRange",
		"gone x", "bad",
		"take 16 0 0", "yes", // none of those broke it
		"take 100 0 0", "yes", // numbers may be left out
		"take 99 0 0", "ErrState",
		"take 100 0 0", "ErrState",
		"gone 101", "no",
		"gone 102", "no",
		"take 103 1 1", "yes",
	)
}

func TestTakeOfOtherNumbers(t *testing.T) {
	alone(t, map[string]string{
		"take 5 0 1":                     "yes",
		"take 5 1 1":                     "yes",
		"take 5 2 1":                     "no",
		"take 5 3 1":                     "no",
		"take 5 0 0":                     "no",
		"take 5 3 0":                     "no",
		"take 5 4 1":                     "ErrRange",
		"take 5 4 0":                     "ErrRange",
		"take 5 -1 1":                    "ErrRange",
		"take 5 -1 0":                    "ErrRange",
		"take -1 0 1":                    "ErrRange",
		"take -1 4 1":                    "ErrRange",
		"take 5 0 2":                     "bad",
		"take 5 0 -1":                    "bad",
		"take 5 0 10":                    "bad",
		"take 5 0 256":                   "bad",
		"take 5 4 2":                     "bad", // ahead of ErrRange
		"take -1 0 2":                    "bad",
		"take -1 x 0":                    "bad",
		"take 5 0 yes":                   "bad",
		"take 5 0 true":                  "bad",
		"take 5 0 01":                    "bad",
		"take 5 0 1 1":                   "bad",
		"take 5 0":                       "bad",
		"take 5":                         "bad",
		"gone 0":                         "no",
		"gone -1":                        "ErrRange",
		"gone 5 0":                       "bad",
		"gone 5 0 1":                     "bad",
		"take 5 0 1\ntake 5 4 1":         "yes\nErrState", // ahead of what is wrong with the packet
		"take 5 0 1\ntake 5 4 2":         "yes\nbad",
		"take 5 0 1\ntake -1 0 1":        "yes\nErrRange",
		"take 5 0 1\ntake 6 4 1\ngone 6": "yes\nErrRange\nno",
	})
}

// A number goes round as a Seq, and on as a number.
func TestTakeOfGreatNumbers(t *testing.T) {
	inRow(t, "take 65534 0 1", "yes", "take 65535 0 0", "yes", "take 65536 0 0", "yes", "take 65535 0 0", "ErrState",
		"take 131071 0 0", "yes", "take 131072 0 0", "yes", "take 999999998 0 0", "yes", "gone 999999999", "no", "gone 999999999", "ErrState")
}

func TestWay(t *testing.T) {
	alone(t, map[string]string{
		"way 1 ":                                "0",
		"way 2 ":                                "0,-1",
		"way 4 0,1,5,0,2,2,2,1,3,3,2,4":         "0,5,2,6",
		"way 4 0,1,9,0,2,2,2,1,3":               "0,5,2,-1",
		"way 3 1,2,5":                           "0,-1,-1",
		"way 2 1,0,1000000":                     "0,1000000",
		"way 3 0,1,1000000,2,1,1000000":         "0,1000000,2000000",
		"way 16 15,0,7":                         "0,-1,-1,-1,-1,-1,-1,-1,-1,-1,-1,-1,-1,-1,-1,7",
		"way 0 ":                                "ErrRange",
		"way -1 ":                               "ErrRange",
		"way 17 ":                               "ErrRange",
		"way 2 0,2,1":                           "ErrRange",
		"way 2 -1,0,1":                          "ErrRange",
		"way 2 0,0,1":                           "ErrRange",
		"way 2 0,1,0":                           "ErrRange",
		"way 2 0,1,-1":                          "ErrRange",
		"way 2 0,1,1000001":                     "ErrRange",
		"way 2 0,1,1,0,1,2":                     "ErrClash",
		"way 2 0,1,1,1,0,1":                     "ErrClash",
		"way 2 0,1,1,0,0,1,1,0,1":               "ErrRange", // the first that has a fault
		"way 2 0,1,1,1,0,1,0,0,1":               "ErrClash",
		"way 2 0":                               "bad",
		"way 2 0,1":                             "bad",
		"way 2 0,1,1,0":                         "bad",
		"way 2 0,1,1,0,1":                       "bad",
		"way 0 0,1":                             "bad", // ahead of ErrRange
		"way 17 0,1,1,0":                        "bad",
		"way 2 0,0,0,0":                         "bad",
		"way 2 0,1,x":                           "bad",
		"way 0 x,1,1":                           "bad",
		"way x 0,1,0":                           "bad",
		"way 2 0,1,1 1":                         "bad",
		"way 2 0,1,1 ":                          "bad",
		"way 2 0 1 1":                           "bad",
		"way 2 0,1,1,":                          "bad",
		"way 2 -":                               "bad",
		"way 2":                                 "bad",
		"way ":                                  "bad",
		"way":                                   "bad",
		"way 2 " + numbers(200, "0,1,1"):        "ErrClash",
		"way 2 " + numbers(201, "0,1,1"):        "ErrFull",
		"way 2 " + numbers(201, "0,0,0"):        "ErrFull", // ahead of ErrRange, of edges
		"way 17 " + numbers(201, "0,1,1"):       "ErrRange",
		"way 2 " + numbers(201, "0,1,1") + ",0": "bad",
		"way 2 " + numbers(201, "0,1,1") + ",0,1,01": "bad",
	})
}
