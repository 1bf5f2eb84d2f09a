package node_test

import (
	"fmt"
	"slices"
	"testing"

	"choirloft/api"
	"choirloft/node"
)

// call of a node, and what it answers, as a text.
type call func(n *node.Node) string

func planCall(track, parent int, kids []int, epoch int) call {
	return func(n *node.Node) string { return fmt.Sprint(n.Plan(track, parent, kids, epoch)) }
}

func subCall(track, most int) call {
	return func(n *node.Node) string { return fmt.Sprint(n.Sub(track, most)) }
}

func unsubCall(id int) call {
	return func(n *node.Node) string { return fmt.Sprint(n.Unsub(id)) }
}

func sendCall(track int, p api.Packet, now int) call {
	return func(n *node.Node) string { return fmt.Sprint(n.Send(track, p, now)) }
}

func hearCall(from int, b []byte, now int) call {
	return func(n *node.Node) string { return fmt.Sprint(n.Hear(from, b, now)) }
}

func tickCall(now int) call {
	return func(n *node.Node) string { return fmt.Sprint(n.Tick(now)) }
}

func outCall() call {
	return func(n *node.Node) string { return fmt.Sprint(n.Out()) }
}

func gotCall(id int) call {
	return func(n *node.Node) string { return fmt.Sprint(n.Got(id)) }
}

// life is a row of calls, none of which tells an error, with a bit of everything. Its last now is 130.
func life() []call {
	other := start(12)
	other.Layer, other.Start = 1, false
	return []call{
		planCall(1, -1, []int{3, 9}, 5),
		planCall(2, 4, []int{9, 3}, 5),
		subCall(1, 0),
		subCall(2, 1),
		tickCall(100),
		sendCall(1, start(65534), 100),
		sendCall(1, start(0), 101),
		hearCall(4, from4(10), 101),
		hearCall(4, framed(2, 12, 5, 63, other), 101),
		hearCall(3, saidLost(1, 0, 65535), 101),
		outCall(),
		tickCall(102),
		hearCall(9, saidLost(2, 10, 11), 104),
		hearCall(9, saidKey(2, 1), 104),
		hearCall(9, saidRate(2, 1), 104),
		sendCall(1, start(65535), 105),
		gotCall(1),
		outCall(),
		tickCall(106),
		subCall(1, 3),
		tickCall(111),
		gotCall(2),
		hearCall(4, from4(14), 111),
		hearCall(4, from4(13), 112),
		sendCall(1, start(2), 112),
		unsubCall(1),
		tickCall(114),
		planCall(2, 6, []int{8}, 5),
		hearCall(6, from4(17), 115),
		tickCall(118),
		planCall(1, -1, []int{9}, 6),
		sendCall(1, start(40000), 119),
		hearCall(9, saidLost(1, 2, 40000), 120),
		tickCall(130),
	}
}

// ends asks a node for all that may be asked, at nows from 130 on.
func ends() []call {
	return []call{
		outCall(), gotCall(2), gotCall(3),
		tickCall(130), hearCall(8, saidLost(2, numbers(8, 20)...), 130), hearCall(6, from4(18), 131), sendCall(1, start(40002), 131),
		tickCall(135), tickCall(141), subCall(2, 0), hearCall(6, from4(15), 141), hearCall(6, from4(19), 141), tickCall(150),
		outCall(), gotCall(2), gotCall(3), gotCall(4),
	}
}

// play plays calls on a node, and gives what they answer.
func play(n *node.Node, calls []call) []string {
	var answers []string
	for _, c := range calls {
		answers = append(answers, c(n))
	}
	return answers
}

func TestALifeHasNoErrors(t *testing.T) {
	for i, answer := range play(newNode(t, me), append(life(), ends()...)) {
		for e := api.ErrRange; e <= api.ErrSum; e++ {
			if slices.Contains(words(answer), e.Error()) {
				t.Errorf("call %d answers %s", i, answer)
			}
		}
	}
}

// words of a text, at blanks.
func words(s string) []string {
	var l []string
	word := ""
	for _, c := range s + " " {
		if c == ' ' {
			l, word = append(l, word), ""
		} else {
			word += string(c)
		}
	}
	return l
}

// wrong calls: they tell an error wherever in a life they stand, and what that is at its end.
func wrong() map[string]struct {
	call call
	want api.Errno
} {
	l := map[string]struct {
		call call
		want api.Errno
	}{}
	add := func(name string, c call, want api.Errno) {
		l[name] = struct {
			call call
			want api.Errno
		}{c, want}
	}
	add("Plan of track 0", planCall(0, -1, nil, 9), api.ErrRange)
	add("Plan of track 9", planCall(9, -1, nil, 9), api.ErrRange)
	add("Plan of a parent that is none", planCall(1, 16, nil, 9), api.ErrRange)
	add("Plan of itself as parent", planCall(1, me, nil, 9), api.ErrRange)
	add("Plan of a kid that is none", planCall(2, 4, []int{3, 16}, 9), api.ErrRange)
	add("Plan of the parent as kid", planCall(2, 4, []int{4}, 9), api.ErrRange)
	add("Plan of itself as kid", planCall(2, 4, []int{me}, 9), api.ErrRange)
	add("Plan of a late epoch", planCall(2, 4, []int{3}, 65536), api.ErrRange)
	add("Plan of one twice", planCall(1, -1, []int{3, 3}, 9), api.ErrClash)
	add("Plan of all twice", planCall(1, -1, append(without(numbers(0, 15), me), without(numbers(0, 15), me)...), 9), api.ErrClash)
	add("Sub of track 0", subCall(0, 0), api.ErrRange)
	add("Sub of most 4", subCall(1, 4), api.ErrRange)
	add("Sub of a track that was not Planned", subCall(8, 0), api.ErrNone)
	add("Unsub of nobody", unsubCall(99), api.ErrNone)
	add("Got of nobody", gotCall(0), api.ErrNone)
	for _, now := range badTimes {
		at := fmt.Sprint(" at ", now)
		add("Send"+at, sendCall(1, start(1), now), api.ErrRange)
		add("Hear"+at, hearCall(4, from4(1), now), api.ErrRange)
		add("Hear of Key"+at, hearCall(9, saidKey(2, 1), now), api.ErrRange)
		add("Tick"+at, tickCall(now), api.ErrRange)
	}
	for _, now := range []int{130, maxTime} {
		at := fmt.Sprint(" at ", now)
		add("Send of track 0"+at, sendCall(0, start(1), now), api.ErrRange)
		add("Send of a track that was not Planned"+at, sendCall(8, start(1), now), api.ErrNone)
		add("Send of one that begins elsewhere"+at, sendCall(2, start(1), now), api.ErrState)
		add("Send of a Seq that is none"+at, sendCall(1, api.Packet{Seq: 65536}, now), api.ErrRange)
		add("Send of a long Body"+at, sendCall(1, api.Packet{Seq: 1, Body: make([]byte, 1001)}, now), api.ErrFull)
		add("Hear of nothing"+at, hearCall(4, nil, now), api.ErrShort)
		add("Hear of no Kind"+at, hearCall(3, []byte{4, 1, 1}, now), api.ErrSyntax)
		add("Hear of a short frame"+at, hearCall(4, []byte{70, 0, 0}, now), api.ErrShort)
		add("Hear of a frame that is broken"+at, hearCall(4, append(from4(11), 0), now), api.ErrSum)
		add("Hear of hops that are none"+at, hearCall(4, framed(2, 12, 5, 65, start(11)), now), api.ErrRange)
		add("Hear of a frame from elsewhere"+at, hearCall(14, from4(11), now), api.ErrState)
		add("Hear of a frame of another epoch"+at, hearCall(4, framed(2, 12, 7, 1, start(11)), now), api.ErrState)
		add("Hear of a frame of a track that begins here"+at, hearCall(-1, framed(1, me, 5, 1, start(1)), now), api.ErrState)
		add("Hear of a frame of a track that was not Planned"+at, hearCall(4, framed(8, 12, 5, 1, start(11)), now), api.ErrNone)
		add("Hear of Lost from no kid"+at, hearCall(14, saidLost(1, 0), now), api.ErrState)
		add("Hear of Key from no kid"+at, hearCall(4, saidKey(2, 0), now), api.ErrState)
		add("Hear of Key of a track that was not Planned"+at, hearCall(9, saidKey(8, 0), now), api.ErrNone)
	}
	return l
}

// TestBehindAnError: all is answered as if that call had not been, wherever it stands.
func TestBehindAnError(t *testing.T) {
	calls := append(life(), ends()...)
	want := play(newNode(t, me), calls)
	for name, w := range wrong() {
		for at := range len(calls) + 1 {
			n := newNode(t, me)
			answers := play(n, calls[:at])
			answer := words(w.call(n))
			told := answer[len(answer)-1]
			if told == "<nil>" || at == len(life()) && told != w.want.Error() {
				t.Errorf("%s behind %d calls answers %v, want %v", name, at, answer, w.want)
			}
			w.call(n)
			answers = append(answers, play(n, calls[at:])...)
			if !slices.Equal(answers, want) {
				t.Errorf("%s behind %d calls makes a difference", name, at)
			}
		}
	}
}

// TestBehindErrorsOfTheirPlace: errors that only some places have.
func TestBehindErrorsOfTheirPlace(t *testing.T) {
	want := play(newNode(t, me), append(life(), ends()...))
	n := newNode(t, me)
	answers := play(n, life())
	planRefused(t, n, 2, 4, []int{3}, 4, api.ErrState)
	planRefused(t, n, 1, 4, []int{3}, 5, api.ErrState)
	unsubRefused(t, n, 1)
	gotRefused(t, n, 1)
	sendRefused(t, n, 1, start(40001), 129, api.ErrState)
	hearRefused(t, n, 6, from4(18), 129, api.ErrState)
	tickRefused(t, n, 129, api.ErrState)
	if answers = append(answers, play(n, ends())...); !slices.Equal(answers, want) {
		t.Errorf("answers %v, want %v", answers, want)
	}
	// Where there are as many subscribers as may be, one who is refused has no number.
	for i := range 17 {
		subs(t, n, 1, 0, 5+i)
	}
	subRefused(t, n, 1, 0, api.ErrFull)
	subRefused(t, n, 2, 0, api.ErrFull)
	unsubs(t, n, 5)
	subs(t, n, 1, 0, 22)
}

// TestTwoNodes: they do not know of each other, though they have one id and are told the same.
func TestTwoNodes(t *testing.T) {
	calls := append(life(), ends()...)
	want := play(newNode(t, me), calls)
	a, b := newNode(t, me), newNode(t, me)
	var ofA, ofB []string
	for i, c := range calls {
		ofA = append(ofA, c(a))
		if i%2 == 1 {
			ofB = append(ofB, play(b, calls[i-1:i+1])...)
		}
	}
	ofB = append(ofB, play(b, calls[len(ofB):])...)
	if !slices.Equal(ofA, want) || !slices.Equal(ofB, want) {
		t.Errorf("one answers %v, the other one %v, want %v", ofA, ofB, want)
	}
}

// TestTheSameAgain: what a node answers hangs on its calls alone.
func TestTheSameAgain(t *testing.T) {
	calls := append(life(), ends()...)
	want := play(newNode(t, me), calls)
	for range 50 {
		if answers := play(newNode(t, me), calls); !slices.Equal(answers, want) {
			t.Fatalf("answers %v, want %v", answers, want)
		}
	}
}

// roomy is a list with memory behind its length, and that memory.
func roomy[E any](l []E, filler E) (list, behind []E) {
	all := append(slices.Clone(l), slices.Repeat([]E{filler}, 40)...)
	return all[:len(l)], all[len(l):]
}

// TestKidsAreNotKept: nor read or written behind their length.
func TestKidsAreNotKept(t *testing.T) {
	n := newNode(t, me)
	kids, behind := roomy([]int{3, 9}, 8)
	plans(t, n, 1, -1, kids, 5)
	if !slices.Equal(kids, []int{3, 9}) || !slices.Equal(behind, slices.Repeat([]int{8}, 40)) {
		t.Errorf("kids are %v, and behind them %v", kids, behind)
	}
	kids[0], kids[1] = 12, 13
	sends(t, n, 1, start(1), 0)
	b := framed(1, me, 5, 1, start(1))
	lets(t, n, to(3, b), to(9, b))
	hearRefused(t, n, 12, saidKey(1, 0), 0, api.ErrState)
	planRefused(t, n, 1, -1, append(kids, kids...), 6, api.ErrClash)
	if !slices.Equal(kids, []int{12, 13}) {
		t.Errorf("kids are %v", kids)
	}
}

// TestBytesThatComeAreNotKept: of packets, frames, and what is said back.
func TestBytesThatComeAreNotKept(t *testing.T) {
	n := begins(t)
	plans(t, n, 2, 4, []int{9}, 5)
	subs(t, n, 2, 0, 2)
	hand := func(what []byte, call func(b []byte)) {
		t.Helper()
		b, behind := roomy(what, 70)
		call(b)
		if !slices.Equal(b, what) || !slices.Equal(behind, slices.Repeat([]byte{70}, 40)) {
			t.Errorf("%v became %v, and behind it %v", what, b, behind)
		}
		scribble(b)
	}
	send := func(seq int) {
		t.Helper()
		p := start(seq)
		hand(p.Body, func(b []byte) {
			p.Body = b
			sends(t, n, 1, p, 0)
		})
	}
	hear := func(from int, what []byte) {
		t.Helper()
		hand(what, func(b []byte) { hears(t, n, from, b, 0) })
	}
	send(10)
	send(12)
	hear(4, from4(20))
	hear(4, from4(22))
	hear(9, saidKey(2, 3))
	hear(3, saidLost(1, 10, 11, 12))
	hear(9, saidLost(2, 20, 22))
	send(11)
	hear(4, from4(21))
	ours := func(seq int) []byte { return framed(1, me, 5, 1, start(seq)) }
	lets(t, n, to(3, ours(10)), to(9, ours(10)), to(3, ours(12)), to(9, ours(12)), on(20)[0], on(22)[0], to(4, saidKey(2, 3)),
		to(3, ours(10)), to(3, ours(12)), on(20)[0], on(22)[0], to(3, ours(11)), to(9, ours(11)), on(21)[0])
	got(t, n, 1, starts(10, 0, 10, 11, 12)...)
	got(t, n, 2, starts(20, 0, 20, 21, 22)...)
}

// TestWhatComesOutIsTheCallers: no two lists share memory, nor does any with what is kept.
func TestWhatComesOutIsTheCallers(t *testing.T) {
	n := begins(t)
	subs(t, n, 1, 0, 2)
	for _, seq := range []int{10, 11, 13} {
		sends(t, n, 1, start(seq), 0)
	}
	hears(t, n, 9, saidLost(1, 10, 11), 0)
	letters := n.Out()
	one, err := n.Got(1)
	two, bad := n.Got(2)
	if len(letters) != 8 || len(one) != 2 || len(two) != 2 || err != nil || bad != nil {
		t.Fatalf("Out = %v, Got(1) = %v, %v, Got(2) = %v, %v", letters, one, err, two, bad)
	}
	var lists [][]byte
	for _, l := range letters {
		lists = append(lists, l.Body)
	}
	for _, p := range slices.Concat(one, two) {
		lists = append(lists, p.Body)
	}
	shareNothing(t, lists)
	one = append(one, api.Packet{})
	letters = append(letters, api.Letter{To: 3})
	for i := range letters {
		letters[i] = api.Letter{To: 14}
	}
	for i := range one {
		one[i], two[0] = api.Packet{Seq: 99}, api.Packet{Seq: 99}
	}
	// What is kept is as it was.
	hears(t, n, 3, saidLost(1, 10, 11, 13), 0)
	sends(t, n, 1, start(12), 0)
	ours := func(seq int) []byte { return framed(1, me, 5, 1, start(seq)) }
	lets(t, n, to(3, ours(10)), to(3, ours(11)), to(3, ours(13)), to(3, ours(12)), to(9, ours(12)))
	got(t, n, 1, starts(10, 2, 12, 13)...)
	got(t, n, 2, starts(10, 2, 12, 13)...)
}

// shareNothing writes over each list, with what lies behind its length, and looks at all others.
func shareNothing(t *testing.T, lists [][]byte) {
	t.Helper()
	for i, l := range lists {
		var ahead [][]byte
		for _, other := range lists {
			ahead = append(ahead, slices.Clone(other))
		}
		for j := range l[:cap(l)] {
			l[:cap(l)][j] ^= 255
		}
		for j, other := range lists {
			if j != i && !slices.Equal(other, ahead[j]) {
				t.Errorf("list %d shares memory with list %d", j, i)
			}
		}
	}
}

// TestLettersUpAreTheCallers: of what is lacking, of starts, of Keys that go on.
func TestLettersUpAreTheCallers(t *testing.T) {
	n := passes(t)
	p := start(10)
	p.Start = false
	hears(t, n, 4, framed(2, 12, 5, 1, p), 0)
	hearsAll(t, n, 0, 12)
	n.Out()
	for _, now := range []int{0, 10, 20} {
		ticks(t, n, now)
		hears(t, n, 9, saidKey(2, 2), now)
		hears(t, n, 3, saidKey(2, 2), now)
		letters := n.Out()
		var lists [][]byte
		for _, l := range letters {
			lists = append(lists, l.Body)
		}
		if now == 0 {
			if want := []api.Letter{to(4, saidLost(2, 11)), to(4, saidKey(2, 0)), to(4, saidKey(2, 2)), to(4, saidKey(2, 2))}; !sameLetters(letters, want) {
				t.Errorf("Out = %v, want %v", letters, want)
			}
		}
		shareNothing(t, lists)
	}
}
