package tests

import (
	"cmp"
	"fmt"
	"math"
	"slices"
	"strconv"
	"strings"
	"testing"

	"loop.example/g00227/impl"
)

// headBytes are the bytes of the payload of a header, right or not.
func headBytes(size int) string {
	out := []byte{0, 60, 0, 0}
	for shift := 56; shift >= 0; shift -= 8 {
		out = append(out, byte(size>>shift))
	}
	return string(out)
}

// wire is frames one behind the other, each by its channel and the words of a
// method, or head and a size, or body and a text, or beat and a text.
func wire(list ...string) string {
	var out strings.Builder
	for _, words := range list {
		no, rest, _ := strings.Cut(words, " ")
		channel, err := strconv.Atoi(no)
		kind, text, _ := strings.Cut(rest, " ")
		size, _ := strconv.Atoi(text)
		frame := ""
		switch kind {
		case "head":
			frame = frameBytes(2, channel, 12, headBytes(size), 206)
		case "body":
			frame = frameBytes(3, channel, len(text), text, 206)
		case "beat":
			frame = frameBytes(8, channel, len(text), text, 206)
		default:
			frame = impl.Say(channel, asking(rest))
		}
		if err != nil || frame == "" {
			panic("no frame: " + words)
		}
		out.WriteString(frame)
	}
	return out.String()
}

// These are what is said where a connection ends.
var (
	brokenSaid = wire("0 10 50 =501 =frame")
	byeSaid    = wire("0 10 50 =200 =bye")
)

// spokenBy is frames of what is said, by the words of the document.
func spokenBy(no int, list []impl.Reply) string {
	out := ""
	for _, r := range list {
		out += impl.Say(no, r.Method)
		if r.HasBody {
			out += frameBytes(2, no, 12, headBytes(len(r.Body)), 206)
		}
		for at := 0; r.HasBody && at < len(r.Body); at += 1000 {
			piece := r.Body[at:min(at+1000, len(r.Body))]
			out += frameBytes(3, no, len(piece), piece, 206)
		}
	}
	return out
}

// lineOf is a line that waits for nothing.
func lineOf(no int, owner int) impl.Line {
	return impl.Line{No: no, Channel: impl.Channel{Owner: owner}}
}

// waitingOf is a line that waits with a publish.
func waitingOf(no int, owner int, waits int, words string, size int, body string) impl.Line {
	return impl.Line{No: no, Channel: impl.Channel{Owner: owner}, Waits: waits, Method: asking(words), Size: size, Body: body}
}

// someConn has lines that wait for nothing, for a header and for a body; three
// of them hold messages of someCore.
func someConn() impl.Conn {
	first := lineOf(1, 2)
	first.Channel.Tag = 40
	second := lineOf(5, 7)
	second.Channel = impl.Channel{Owner: 7, Tag: 50, Tx: true, Pubs: manyPubs(2), Acks: []impl.AckOp{{Tag: 30, Nack: true}}}
	third := waitingOf(9, 1, 1, "60 40 = =z", 0, "")
	third.Channel.Confirm, third.Channel.Count = true, 3
	fourth := waitingOf(300, 3, 2, "60 40 =f =k", 5, "ab")
	fourth.Channel.Tag = 60
	return impl.Conn{Lines: []impl.Line{first, second, third, fourth}}
}

// keptConn is n in lists of its own, to be changed.
func keptConn(n impl.Conn) impl.Conn {
	n.Lines = slices.Clone(n.Lines)
	for i := range n.Lines {
		n.Lines[i].Channel = keptChannel(n.Lines[i].Channel)
	}
	return n
}

// withLine is n with one more line, in its place.
func withLine(n impl.Conn, line impl.Line) impl.Conn {
	n = keptConn(n)
	n.Lines = append(n.Lines, line)
	slices.SortStableFunc(n.Lines, func(a, b impl.Line) int { return cmp.Compare(a.No, b.No) })
	return n
}

// withoutLine is n without the line of a number.
func withoutLine(n impl.Conn, no int) impl.Conn {
	n = keptConn(n)
	n.Lines = slices.DeleteFunc(n.Lines, func(l impl.Line) bool { return l.No == no })
	return n
}

// changedLine is n with another line for the one of its number.
func changedLine(n impl.Conn, line impl.Line) impl.Conn {
	return withLine(withoutLine(n, line.No), line)
}

// readyBy is a core with what the lines of n hold Ready again.
func readyBy(c impl.Core, n impl.Conn) impl.Core {
	for _, line := range n.Lines {
		c = impl.CoreLeave(c, line.Channel.Owner)
	}
	return c
}

// wantFed wants bytes to make these of a core and a connection, and this to be said.
func wantFed(t *testing.T, why string, x fedWith, c impl.Core, n impl.Conn, said string) (impl.Core, impl.Conn) {
	t.Helper()
	core, conn, got := impl.ConnFeed(x.Core, x.Conn, x.Bytes, x.Time)
	if got != said {
		t.Errorf("%s: %q is said; want %q", why, got, said)
	}
	wantSame(t, why+": the connection", conn, n)
	wantSame(t, why+": the core", core, c)
	return core, conn
}

// fedWith is a core and a connection with what comes on it.
type fedWith struct {
	Core  impl.Core
	Conn  impl.Conn
	Bytes string
	Time  int
}

// someFed is bytes on someConn and someCore.
func someFed(bytes string) fedWith { return fedWith{someCore(), someConn(), bytes, 70} }

// wantBroken wants bytes to break the connection and to do nothing else.
func wantBroken(t *testing.T, why string, x fedWith) {
	t.Helper()
	wantFed(t, why, x, readyBy(x.Core, x.Conn), impl.Conn{Id: x.Conn.Id, Closed: true}, brokenSaid)
}

// wantIdle wants bytes to do nothing.
func wantIdle(t *testing.T, why string, x fedWith) {
	t.Helper()
	wantFed(t, why, x, x.Core, x.Conn, "")
}

func TestConnConstants(t *testing.T) {
	if impl.MaxChannels != 8 || impl.BodySize != 1000 {
		t.Errorf("constants of a connection: %d, %d", impl.MaxChannels, impl.BodySize)
	}
}

func TestHeader(t *testing.T) {
	for size, want := range map[int]string{
		0:    "\x00\x3c\x00\x00\x00\x00\x00\x00\x00\x00\x00\x00",
		1:    "\x00\x3c\x00\x00\x00\x00\x00\x00\x00\x00\x00\x01",
		255:  "\x00\x3c\x00\x00\x00\x00\x00\x00\x00\x00\x00\xff",
		256:  "\x00\x3c\x00\x00\x00\x00\x00\x00\x00\x00\x01\x00",
		2999: "\x00\x3c\x00\x00\x00\x00\x00\x00\x00\x00\x0b\xb7",
		3000: "\x00\x3c\x00\x00\x00\x00\x00\x00\x00\x00\x0b\xb8",
	} {
		if got := impl.Header(size); got != want {
			t.Errorf("Header(%d) = %q; want %q", size, got, want)
		}
	}
	for size := range 3001 {
		if got := impl.Header(size); got != headBytes(size) {
			t.Errorf("Header(%d) = %q", size, got)
		}
	}
	for _, size := range []int{-1, -2, -3000, 3001, 3002, 4000, 65536, 4294967296, math.MinInt, math.MaxInt} {
		if got := impl.Header(size); got != "" {
			t.Errorf("Header(%d) = %q; want nothing", size, got)
		}
	}
}

func TestSpoken(t *testing.T) {
	ok := saying("90 11")
	body := func(n int) []impl.Reply { return handing("60 71 1 0 =x =k 3", manyBytes(n)) }
	get := "\x01\x00\x07\x00\x00\x00\x15\x00\x3c\x00\x47\x00\x00\x00\x00\x00\x00\x00\x01\x00\x01x\x01k\x00\x00\x00\x03\xce"
	head := func(n int) string { return frameBytes(2, 7, 12, headBytes(n), 206) }
	piece := func(from int, to int) string { return frameBytes(3, 7, to-from, manyBytes(3000)[from:to], 206) }
	for _, row := range []struct {
		why  string
		list []impl.Reply
		want string
	}{
		{"no reply", nil, ""},
		{"a list of none", []impl.Reply{}, ""},
		{"one", ok, "\x01\x00\x07\x00\x00\x00\x04\x00\x5a\x00\x0b\xce"},
		{"two", slices.Concat(ok, saying("20 11")), "\x01\x00\x07\x00\x00\x00\x04\x00\x5a\x00\x0b\xce\x01\x00\x07\x00\x00\x00\x04\x00\x14\x00\x0b\xce"},
		{"a text that is no body", []impl.Reply{{Method: asking("90 11"), Body: "text"}}, wire("7 90 11")},
		{"a body of none", body(0), get + head(0)},
		{"one byte", body(1), get + head(1) + piece(0, 1)},
		{"999 bytes", body(999), get + head(999) + piece(0, 999)},
		{"1000 bytes", body(1000), get + head(1000) + piece(0, 1000)},
		{"1001 bytes", body(1001), get + head(1001) + piece(0, 1000) + piece(1000, 1001)},
		{"2000 bytes", body(2000), get + head(2000) + piece(0, 1000) + piece(1000, 2000)},
		{"2001 bytes", body(2001), get + head(2001) + piece(0, 1000) + piece(1000, 2000) + piece(2000, 2001)},
		{"3000 bytes", body(3000), get + head(3000) + piece(0, 1000) + piece(1000, 2000) + piece(2000, 3000)},
		{"a body between", slices.Concat(ok, body(2), ok), wire("7 90 11") + get + head(2) + piece(0, 2) + wire("7 90 11")},
		{"bodies only", slices.Concat(body(2), body(1)), get + head(2) + piece(0, 2) + get + head(1) + piece(0, 1)},
		{"no method", saying("7 7"), ""},
		{"a method of another form", saying("90 11 =x", "90 11", "60 72 1"), wire("7 90 11")},
		{"a body of no method", handing("7 7", manyBytes(2)), head(2) + piece(0, 2)},
	} {
		if got := impl.Spoken(7, row.list); got != row.want {
			t.Errorf("%s: Spoken = %q; want %q", row.why, got, row.want)
		}
	}
}

func TestSpokenChannels(t *testing.T) {
	list := slices.Concat(saying("90 11"), handing("60 71 9 1 = =k 0", manyBytes(1500)), saying("50 11 =q 3"))
	for _, no := range []int{0, 1, 255, 256, 65534, 65535} {
		want := spokenBy(no, list)
		if got := impl.Spoken(no, list); got != want {
			t.Errorf("Spoken(%d) = %q; want %q", no, got, want)
		}
	}
	for _, no := range noChannels {
		if got := impl.Spoken(no, list); got != "" {
			t.Errorf("Spoken(%d) = %q; want nothing", no, got)
		}
	}
}

// Of a body that no header tells, what is said is still whole frames.
func TestSpokenTooLong(t *testing.T) {
	for _, n := range []int{3001, 4000, 9000} {
		want := wire("7 90 11") + frameBytes(2, 7, 0, "", 206)
		for _, piece := range impl.Cut(manyBytes(n), 1000) {
			want += frameBytes(3, 7, len(piece), piece, 206)
		}
		if got := impl.Spoken(7, handing("90 11", manyBytes(n))); got != want {
			t.Errorf("Spoken of %d bytes = %q; want %q", n, got, want)
		}
	}
}

// What comes on a connection that is Closed does nothing, whatever it is.
func TestConnFeedClosed(t *testing.T) {
	for _, bytes := range []string{"", "x", wire("0 beat"), wire("1 20 10"), wire("0 10 50 = ="), wire("1 90 10"), strings.Repeat("x", 60001)} {
		for _, id := range []int{0, 7, 100, 101, -1} {
			wantIdle(t, "closed", fedWith{someCore(), impl.Conn{Id: id, Closed: true}, bytes, 70})
		}
		n := someConn()
		n.Closed, n.Buf = true, wire("1 90 10")
		wantIdle(t, "closed with lines", fedWith{someCore(), n, bytes, 70})
		wantIdle(t, "closed, of a wrong core", fedWith{namedCore("b a", "s"), n, bytes, 70})
		n.Buf = strings.Repeat("x", 60001)
		wantIdle(t, "closed with much", fedWith{someCore(), n, bytes, 70})
	}
}

// Of a frame that is not whole all bytes wait, wherever it is cut.
func TestConnFeedParts(t *testing.T) {
	wantIdle(t, "no bytes", someFed(""))
	for _, frame := range []string{wire("1 50 10 =new 0"), wire("0 beat"), wire("9 head 3"), wire("300 body xyz"), wire("0 10 50 = ="), wire("7 body wrong"), wire("1 beat no")} {
		for at := range len(frame) {
			want := someConn()
			want.Buf = frame[:at]
			core, n := wantFed(t, "a part", someFed(frame[:at]), someCore(), want, "")
			whole := someFed(frame)
			c, m, said := fedBy(whole)
			wantFed(t, "the rest", fedWith{core, n, frame[at:], 70}, c, m, said)
			wantFed(t, "nothing behind a part", fedWith{core, n, "", 70}, someCore(), want, "")
		}
	}
	for at := range len(wire("1 60 70 =z")) {
		want := someConn()
		want.Buf = wire("1 60 70 =z")[:at]
		wantFed(t, "a part behind a whole one", someFed(wire("1 60 70 =z")+want.Buf), someCore(), want, wire("1 60 72"))
	}
}

func TestConnFeedNoFrames(t *testing.T) {
	good := wire("1 60 70 =z")
	for _, kind := range []byte{0, 4, 5, 6, 7, 9, 206, 255, 'x'} {
		wantBroken(t, "no kind", someFed(string([]byte{kind})))
		wantBroken(t, "no kind with more", someFed(frameBytes(kind, 1, 2, "ab", 206)+good))
	}
	for _, length := range []int{4001, 4002, 65536, 16777216, 4294967295} {
		head := frameBytes(1, 1, length, "", 206)[:7]
		wantBroken(t, "too long", someFed(head))
		wantBroken(t, "too long with more", someFed(head+manyBytes(5000)))
		n := someConn()
		n.Buf = head[:6]
		wantBroken(t, "too long in two parts", fedWith{someCore(), n, head[6:], 70})
	}
	for _, end := range []byte{0, 1, 205, 207, 255} {
		wantBroken(t, "another end", someFed(frameBytes(8, 0, 0, "", end)+good))
		wantBroken(t, "another end", someFed(frameBytes(3, 300, 2, "cd", end)))
	}
	// What comes ahead of it is done, and what comes behind is not.
	for _, bad := range []string{"x", frameBytes(1, 1, 4001, "", 206)[:7], frameBytes(8, 0, 0, "", 205), wire("0 beat no")} {
		x := someFed(wire("1 60 70 =a") + bad + good)
		core, m, ok := impl.CoreGet(someCore(), "a", 2, 41)
		if !ok || m.Again {
			t.Fatal("a has no new message")
		}
		said := spokenBy(1, handing(fmt.Sprintf("60 71 41 0 =%s =%s %d", m.Exchange, m.Key, impl.CoreDepth(core, "a")), m.Body))
		wantFed(t, "behind a whole one", x, readyBy(core, x.Conn), impl.Conn{Closed: true}, said+brokenSaid)
	}
}

func TestConnFeedBuf(t *testing.T) {
	beats := strings.Repeat(wire("0 beat"), 7500)
	wantIdle(t, "60000 bytes", someFed(beats))
	wantBroken(t, "60001 bytes", someFed(beats+"\x08"))
	full := someConn()
	full.Buf = beats
	wantFed(t, "60000 bytes that wait", fedWith{someCore(), full, "", 70}, someCore(), someConn(), "")
	wantBroken(t, "60000 bytes that wait and one", fedWith{someCore(), full, "\x08", 70})
	for _, at := range []int{1, 7, 30001, 59999} {
		n := someConn()
		n.Buf = beats[:at]
		wantFed(t, "60000 bytes in two parts", fedWith{someCore(), n, beats[at:], 70}, someCore(), someConn(), "")
		wantBroken(t, "60001 bytes in two parts", fedWith{someCore(), n, beats[at:] + "\x08", 70})
	}
	// None of it is done, though all of it were right.
	gets := strings.Repeat(wire("1 60 70 =z"), 4300)
	wantBroken(t, "many that are right", someFed(gets))
	n := someConn()
	n.Buf = gets[:59999]
	wantBroken(t, "many that wait", fedWith{someCore(), n, "ab", 70})
	n.Buf = strings.Repeat("x", 60001)
	wantBroken(t, "too many that wait", fedWith{someCore(), n, "", 70})
	n.Buf = ""
	wantBroken(t, "more than a million", fedWith{someCore(), n, strings.Repeat(beats, 20), 70})
}

// Each piece may have as many bytes as there is room for, as what is done is
// taken away.
func TestConnFeedBufOverAndOver(t *testing.T) {
	beats := strings.Repeat(wire("0 beat"), 7499) + wire("1 60 70 =z")[:8]
	want := someConn()
	want.Buf = wire("1 60 70 =z")[:8]
	c, n := wantFed(t, "once", someFed(beats), someCore(), want, "")
	rest := wire("1 60 70 =z")[8:] + beats[:59900]
	want.Buf = beats[59896:59900]
	wantFed(t, "twice", fedWith{c, n, rest, 70}, someCore(), want, wire("1 60 72"))
}

func TestConnFeedBeat(t *testing.T) {
	wantIdle(t, "a beat", someFed(wire("0 beat")))
	wantIdle(t, "some beats", someFed(strings.Repeat(wire("0 beat"), 9)))
	wantIdle(t, "a beat of a connection as it begins", fedWith{impl.Core{}, impl.Conn{Id: 3}, wire("0 beat"), 0})
	for _, channel := range []string{"1", "5", "9", "300", "2", "256", "65535"} {
		wantBroken(t, "a beat on another channel", someFed(wire(channel+" beat")))
		wantBroken(t, "a beat with a payload there", someFed(wire(channel+" beat x")))
	}
	for _, payload := range []string{"x", "\x00", impl.PutMethod(asking("90 10")), manyBytes(4000)} {
		wantBroken(t, "a beat with a payload", someFed(wire("0 beat "+payload)))
	}
}

func TestConnFeedOpen(t *testing.T) {
	for _, no := range []int{1, 2, 255, 256, 65534, 65535} {
		for _, id := range []int{0, 1, 2, 99, 100} {
			x := fedWith{someCore(), impl.Conn{Id: id}, wire(fmt.Sprint(no, " 20 10")), 70}
			_, n := wantFed(t, "the first", x, someCore(), impl.Conn{Id: id, Lines: []impl.Line{lineOf(no, 8*id+1)}}, wire(fmt.Sprint(no, " 20 11")))
			wantRight(t, "the first", impl.ConnOk, n, true)
		}
	}
	for _, no := range []int{2, 4, 6, 10, 299, 301, 65535} {
		x := someFed(wire(fmt.Sprint(no, " 20 10")))
		_, n := wantFed(t, "one more", x, someCore(), withLine(someConn(), lineOf(no, 4)), wire(fmt.Sprint(no, " 20 11")))
		wantRight(t, "one more", impl.ConnOk, n, true)
	}
	for _, no := range []string{"0", "1", "5", "9", "300"} {
		wantBroken(t, "no number or one that is there", someFed(wire(no+" 20 10")))
	}
	wantBroken(t, "the number 0", fedWith{someCore(), impl.Conn{Id: 1}, wire("0 20 10"), 70})
}

func TestConnFeedOpenAtMost(t *testing.T) {
	n := impl.Conn{Id: 3}
	order := []int{50, 20, 65535, 1, 30, 2, 40, 7}
	for i, no := range order {
		want := withLine(n, lineOf(no, 25+i))
		_, n = wantFed(t, "one behind the other", fedWith{someCore(), n, wire(fmt.Sprint(no, " 20 10")), 70}, someCore(), want, wire(fmt.Sprint(no, " 20 11")))
		wantRight(t, "one behind the other", impl.ConnOk, n, true)
	}
	for _, no := range []string{"3", "66", "60000", "50", "0"} {
		wantBroken(t, "one too many", fedWith{someCore(), n, wire(no + " 20 10"), 70})
	}
	// Where one between is gone, the next has its owner, wherever its place is.
	for i, gone := range order {
		for _, no := range []int{3, 44, 65000, gone} {
			bytes := wire(fmt.Sprint(gone, " 10 50 = ="), fmt.Sprint(no, " 20 10"))
			want := withLine(withoutLine(n, gone), lineOf(no, 25+i))
			wantFed(t, "one for another", fedWith{someCore(), n, bytes, 70}, someCore(), want, wire(fmt.Sprint(no, " 20 11")))
		}
	}
	// Where several are gone, the least goes first.
	bytes := wire("1 10 50 = =", "65535 10 50 = =", "50 10 50 = =", "8 20 10", "9 20 10", "10 20 10")
	want := n
	for _, no := range []int{1, 65535, 50} {
		want = withoutLine(want, no)
	}
	want = withLine(withLine(withLine(want, lineOf(8, 25)), lineOf(9, 27)), lineOf(10, 28))
	wantFed(t, "three for three", fedWith{someCore(), n, bytes, 70}, someCore(), want, wire("8 20 11", "9 20 11", "10 20 11"))
}

func TestConnFeedClose(t *testing.T) {
	for _, words := range []string{"10 50 = =", "10 50 =200 =bye", "10 50 =" + manyBytesOfOne(255) + " =x"} {
		for _, n := range []impl.Conn{{}, {Id: 100}, someConn()} {
			x := fedWith{someCore(), n, wire("0 " + words), 70}
			want := impl.Conn{Id: n.Id, Closed: true}
			_, m := wantFed(t, "all", x, readyBy(someCore(), n), want, byeSaid)
			wantRight(t, "all", impl.ConnOk, m, true)
			x.Bytes += wire("1 60 70 =z") + "x" + wire("0 10 50 = =")
			wantFed(t, "all, with more behind", x, readyBy(someCore(), n), want, byeSaid)
		}
		for _, line := range someConn().Lines {
			x := someFed(wire(fmt.Sprint(line.No, " ", words)))
			want := impl.CoreLeave(someCore(), line.Channel.Owner)
			_, n := wantFed(t, "one line", x, want, withoutLine(someConn(), line.No), "")
			wantRight(t, "one line", impl.ConnOk, n, true)
			x.Bytes += x.Bytes
			wantFed(t, "one line twice", x, readyBy(want, n), impl.Conn{Closed: true}, brokenSaid)
		}
		for _, no := range []string{"2", "4", "10", "256", "65535"} {
			wantBroken(t, "no line", someFed(wire(no+" "+words)))
			wantBroken(t, "no lines", fedWith{someCore(), impl.Conn{Id: 1}, wire(no + " " + words), 70})
		}
	}
}

// manyBytesOfOne is a text of n letters.
func manyBytesOfOne(n int) string { return strings.Repeat("w", n) }

// Where a connection ends, only what its own lines hold is Ready again.
func TestConnFeedLeaves(t *testing.T) {
	core, n := someCore(), someConn()
	for _, bytes := range []string{"x", wire("0 10 50 = =")} {
		c, _, _ := impl.ConnFeed(core, n, bytes, 70)
		for owner, want := range map[int]int{0: len(heldBy(core, 0)), 1: 0, 2: 0, 3: 0, 7: 0, 1000: len(heldBy(core, 1000))} {
			if got := len(heldBy(c, owner)); got != want {
				t.Errorf("owner %d holds %d; want %d", owner, got, want)
			}
		}
	}
	if len(heldBy(core, 0)) == 0 || len(heldBy(core, 2)) == 0 || len(heldBy(core, 3)) == 0 || len(heldBy(core, 7)) == 0 || len(heldBy(core, 1000)) == 0 {
		t.Error("someCore has no owners")
	}
}

func TestConnFeedNoMethods(t *testing.T) {
	for _, payload := range []string{"", "x", "\x00\x5a", "\x00\x5a\x00\x0a\x00", "\x00\x5a\x00\x0c", "\x00\x3c\x00\x46\x05ab", "\x00\x14\x00\x0a\x00", headBytes(3), manyBytes(4000)} {
		for _, no := range []int{0, 1, 2, 5, 9, 300, 65535} {
			wantBroken(t, "no method", someFed(frameBytes(1, no, len(payload), payload, 206)))
		}
	}
}

// Each method that a channel does, and each that it does not, on a line.
func TestConnFeedMethods(t *testing.T) {
	list := slices.Clone(eachMethod)
	for _, k := range knownMethods {
		list = append(list, told(k.plain()))
	}
	for _, words := range list {
		m := asking(words)
		if !impl.MethodOk(m) || fmt.Sprint(m.Class, m.Id) == "60 40" || fmt.Sprint(m.Class, m.Id) == "10 50" || fmt.Sprint(m.Class, m.Id) == "20 10" {
			continue
		}
		bytes := impl.Say(1, m)
		line := someConn().Lines[0]
		c, h, replies := impl.ChannelDo(someCore(), line.Channel, m, "", 70)
		line.Channel = h
		want, core := changedLine(someConn(), line), c
		if h.Closed {
			want, core = withoutLine(someConn(), 1), impl.CoreLeave(c, 2)
		}
		_, n := wantFed(t, words, someFed(bytes), core, want, spokenBy(1, replies))
		wantRight(t, words, impl.ConnOk, n, true)
		for _, no := range []int{0, 2, 9, 300, 65535} {
			wantBroken(t, words+" on no line, or on one that waits", someFed(impl.Say(no, m)))
		}
	}
}

func TestConnFeedFails(t *testing.T) {
	for words, said := range map[string]string{
		"60 80 77 0":         "10 50 =406 =tag",
		"60 70 =none":        "10 50 =404 =get",
		"90 20":              "10 50 =406 =mode",
		"20 11":              "10 50 =503 =method",
		"60 72":              "10 50 =503 =method",
		"40 10 =x =what":     "10 50 =406 =exchange",
		"50 20 =a =none =kk": "10 50 =404 =bind",
	} {
		x := someFed(wire("1 " + words))
		want := impl.CoreLeave(someCore(), 2)
		if len(heldBy(someCore(), 2)) == 0 || len(heldBy(want, 2)) != 0 {
			t.Fatal("owner 2 holds nothing")
		}
		_, n := wantFed(t, words, x, want, withoutLine(someConn(), 1), wire("1 "+said))
		wantRight(t, words, impl.ConnOk, n, true)
		// The number may be opened again, and is none until then.
		x.Bytes += wire("1 20 10")
		wantFed(t, words+" and open", x, want, withLine(withoutLine(someConn(), 1), lineOf(1, 2)), wire("1 "+said, "1 20 11"))
		x.Bytes = wire("1 "+words, "1 90 10")
		wantFed(t, words+" and more", x, readyBy(someCore(), someConn()), impl.Conn{Closed: true}, wire("1 "+said)+brokenSaid)
	}
}

// A publish that waits for its header: nothing is done by then.
func TestConnFeedPublish(t *testing.T) {
	for _, words := range []string{"60 40 = =z", "60 40 =d =some", "60 40 =none =k", "60 40 =" + manyBytesOfOne(255) + " =\x00"} {
		for i, no := range []int{1, 5} {
			line := someConn().Lines[i]
			line.Waits, line.Method = 1, asking(words)
			_, n := wantFed(t, words, someFed(wire(fmt.Sprint(no, " ", words))), someCore(), changedLine(someConn(), line), "")
			wantRight(t, words, impl.ConnOk, n, true)
			for _, next := range []string{" 60 40 = =z", " 60 70 =a", " 90 10", " body x", " body ", " 20 10"} {
				wantBroken(t, words+" and"+next, fedWith{someCore(), n, wire(fmt.Sprint(no, next)), 70})
			}
		}
		for _, no := range []string{"0", "2", "9", "300", "65535"} {
			wantBroken(t, "a publish on no line, or on one that waits", someFed(wire(no+" "+words)))
		}
	}
}

// lineWith is a connection of one line of owner 2, and its line.
func lineWith(h impl.Channel) (impl.Conn, impl.Line) {
	line := impl.Line{No: 4, Channel: h}
	return impl.Conn{Lines: []impl.Line{line}}, line
}

// cuts are the ways in which a body is cut here.
func cuts(body string) map[string][]string {
	return map[string][]string{
		"whole":       impl.Cut(body, 4000),
		"one by one":  impl.Cut(body, 1),
		"by 1000":     impl.Cut(body, 1000),
		"by 999":      impl.Cut(body, 999),
		"by 7":        impl.Cut(body, 7),
		"with none":   slices.Concat([]string{"", ""}, impl.Cut(body, 300), []string{}),
		"none within": slices.Concat(impl.Cut(body[:len(body)/2], 4000), []string{"", ""}, impl.Cut(body[len(body)/2:], 4000)),
	}
}

func TestConnFeedBodies(t *testing.T) {
	for why, h := range map[string]impl.Channel{"plain": {Owner: 2, Tag: 40}, "a transaction": txChannel, "confirms": confirmChannel} {
		for _, size := range []int{1, 2, 999, 1000, 1001, 2999, 3000} {
			body := manyBytes(size)
			for how, pieces := range cuts(body) {
				n, line := lineWith(h)
				line.Waits, line.Method, line.Size = 2, asking("60 40 =f =k"), size
				what := fmt.Sprintf("%s: %d bytes %s", why, size, how)
				c, n := wantFed(t, what, fedWith{someCore(), n, wire("4 60 40 =f =k", fmt.Sprint("4 head ", size)), 70}, someCore(), impl.Conn{Lines: []impl.Line{line}}, "")
				bytes := ""
				for i, piece := range pieces {
					bytes += frameBytes(3, 4, len(piece), piece, 206)
					if i == len(pieces)-2 {
						line.Body = body[:size-len(pieces[i+1])]
						wantFed(t, what+": all but the last", fedWith{c, n, bytes, 70}, someCore(), impl.Conn{Lines: []impl.Line{line}}, "")
					}
				}
				core, channel, said := impl.ChannelDo(someCore(), h, line.Method, body, 70)
				want := impl.Conn{Lines: []impl.Line{{No: 4, Channel: channel}}}
				_, m := wantFed(t, what, fedWith{c, n, bytes, 70}, core, want, spokenBy(4, said))
				wantRight(t, what, impl.ConnOk, m, true)
			}
		}
	}
}

func TestConnFeedEmptyBody(t *testing.T) {
	for why, h := range map[string]impl.Channel{"plain": {Owner: 2, Tag: 40}, "a transaction": txChannel, "confirms": confirmChannel} {
		n, line := lineWith(h)
		core, channel, said := impl.ChannelDo(someCore(), h, asking("60 40 =f =k"), "", 70)
		line.Channel = channel
		x := fedWith{someCore(), n, wire("4 60 40 =f =k", "4 head 0"), 70}
		c, m := wantFed(t, why, x, core, impl.Conn{Lines: []impl.Line{line}}, spokenBy(4, said))
		// It waits for no body then.
		for _, piece := range []string{"4 body ", "4 body x"} {
			wantBroken(t, why+": a body behind", fedWith{c, m, wire(piece), 70})
		}
	}
}

// Where a publish fails, its line is gone and what it holds is Ready again.
func TestConnFeedPublishFails(t *testing.T) {
	want := impl.CoreLeave(someCore(), 2)
	for _, bytes := range []string{wire("4 60 40 =none =k", "4 head 0"), wire("4 60 40 =none =k", "4 head 3", "4 body ab", "4 body c")} {
		n, _ := lineWith(impl.Channel{Owner: 2, Tag: 40})
		wantFed(t, "not taken", fedWith{someCore(), n, bytes, 70}, want, impl.Conn{}, wire("4 10 50 =404 =publish"))
		wantFed(t, "not taken, and a body", fedWith{someCore(), n, bytes + wire("4 body x"), 70}, want, impl.Conn{Closed: true}, wire("4 10 50 =404 =publish")+brokenSaid)
		n, line := lineWith(confirmChannel)
		line.Channel.Count++
		wantFed(t, "not taken with confirms", fedWith{someCore(), n, bytes, 70}, someCore(), impl.Conn{Lines: []impl.Line{line}}, wire("4 60 120 4 0 0"))
		n, _ = lineWith(impl.Channel{Owner: 2, Tx: true, Pubs: manyPubs(30)})
		wantFed(t, "too many", fedWith{someCore(), n, bytes, 70}, want, impl.Conn{}, wire("4 10 50 =406 =many"))
	}
	n, _ := lineWith(impl.Channel{Owner: 2, Tag: 40})
	wantFed(t, "too old", fedWith{someCore(), n, wire("4 60 40 = =log", "4 head 0"), 0}, want, impl.Conn{}, wire("4 10 50 =404 =publish"))
	for _, time := range []int{-1, billion + 1} {
		wantFed(t, "no time", fedWith{someCore(), n, wire("4 60 40 = =log", "4 head 1", "4 body x"), time}, want, impl.Conn{}, wire("4 10 50 =404 =publish"))
	}
}

func TestConnFeedHeaders(t *testing.T) {
	for _, size := range []int{1, 255, 256, 2999, 3000} {
		line := someConn().Lines[2]
		line.Waits, line.Size = 2, size
		_, n := wantFed(t, "a header", someFed(wire(fmt.Sprint("9 head ", size))), someCore(), changedLine(someConn(), line), "")
		wantRight(t, "a header", impl.ConnOk, n, true)
		wantBroken(t, "a second header", fedWith{someCore(), n, wire(fmt.Sprint("9 head ", size)), 70})
		for _, no := range []int{0, 1, 5, 300, 2, 65535} {
			wantBroken(t, "none is waited for", someFed(wire(fmt.Sprint(no, " head ", size))))
		}
	}
	wantBroken(t, "none is waited for, of nothing", someFed(wire("1 head 0")))
	wantBroken(t, "none is waited for, of nothing", someFed(wire("300 head 0")))
	for _, payload := range []string{"", "x", headBytes(3001), headBytes(-1), headBytes(math.MinInt), headBytes(math.MinInt + 3), headBytes(4294967299), headBytes(3)[:11], headBytes(3)[:4], headBytes(3) + "\x00",
		"\x00\x3d" + headBytes(3)[2:], "\x01\x3c" + headBytes(3)[2:], "\x00\x3c\x00\x01" + headBytes(3)[4:], "\x00\x3c\x01\x00" + headBytes(3)[4:], manyBytes(12), strings.Repeat("\x00", 12), impl.PutMethod(asking("60 72")), manyBytes(4000)} {
		wantBroken(t, "no header", someFed(frameBytes(2, 9, len(payload), payload, 206)))
	}
}

func TestConnFeedPieces(t *testing.T) {
	line := someConn().Lines[3]
	for _, piece := range []string{"", "c", "cd"} {
		line.Body = "ab" + piece
		_, n := wantFed(t, "a piece", someFed(wire("300 body "+piece)), someCore(), changedLine(someConn(), line), "")
		wantRight(t, "a piece", impl.ConnOk, n, true)
	}
	core, n := impl.CorePublish(someCore(), "f", "k", "abcde", 70)
	if n < 2 {
		t.Fatal("the message goes to few")
	}
	done := lineOf(300, 3)
	done.Channel.Tag = 60
	wantFed(t, "the last piece", someFed(wire("300 body cde")), core, changedLine(someConn(), done), "")
	wantFed(t, "in two", someFed(wire("300 body c", "300 body de")), core, changedLine(someConn(), done), "")
	for _, piece := range []string{"cdef", "cdefg", manyBytes(1000), manyBytes(4000)} {
		wantBroken(t, "a piece that is too long", someFed(wire("300 body "+piece)))
		wantBroken(t, "a second one that is too long", someFed(wire("300 body cd", "300 body "+piece)))
	}
	for _, no := range []string{"0", "1", "5", "9", "2", "65535"} {
		for _, piece := range []string{"", "x", "cde"} {
			wantBroken(t, "none is waited for", someFed(wire(no+" body "+piece)))
		}
	}
	wantFed(t, "one behind the last", someFed(wire("300 body cde", "300 body ")), readyBy(core, someConn()), impl.Conn{Closed: true}, brokenSaid)
}

// Lines that wait do not wait for one another.
func TestConnFeedByTurns(t *testing.T) {
	two := impl.Conn{Id: 2, Lines: []impl.Line{lineOf(3, 17), lineOf(8, 18)}}
	bytes := wire("3 60 40 = =z", "8 60 40 = =a", "8 head 4", "3 head 3", "0 beat", "3 body a", "8 body 12", "3 body b", "8 body 34", "3 body c")
	core, _ := impl.CorePublish(someCore(), "", "a", "1234", 70)
	core, _ = impl.CorePublish(core, "", "z", "abc", 70)
	wantFed(t, "by turns", fedWith{someCore(), two, bytes, 70}, core, two, "")
	// Another line goes on meanwhile, and one that is closed takes its body with it.
	bytes = wire("3 60 40 = =z", "3 head 3", "5 20 10", "5 60 70 =z", "3 body ab", "8 10 50 = =", "8 20 10", "8 50 10 =new 0", "3 body c", "5 60 70 =z")
	core, _ = impl.CoreQueue(someCore(), "new", false)
	core, _ = impl.CorePublish(core, "", "z", "abc", 70)
	core, _, _ = impl.CoreGet(core, "z", 19, 1)
	want := withLine(two, lineOf(5, 19))
	want.Lines[1].Channel.Tag = 1
	said := wire("5 20 11", "5 60 72", "8 20 11", "8 50 11 =new 0") + spokenBy(5, handing("60 71 1 0 = =z 0", "abc"))
	wantFed(t, "others meanwhile", fedWith{someCore(), two, bytes, 70}, core, want, said)
	bytes = wire("3 60 40 = =z", "3 head 3", "3 body ab", "3 10 50 = =", "3 20 10", "3 60 40 = =z", "3 head 1", "3 body x")
	core, _ = impl.CorePublish(someCore(), "", "z", "x", 70)
	wantFed(t, "closed while it waits", fedWith{someCore(), two, bytes, 70}, core, two, wire("3 20 11"))
}

// What a line gets and acknowledges goes by its own owner and its own tags.
func TestConnFeedTagsOfLines(t *testing.T) {
	c := namedCore("q", "")
	for i := range 6 {
		c, _ = impl.CorePublish(c, "", "q", fmt.Sprint("m", i), 5)
	}
	n := impl.Conn{Id: 100, Lines: []impl.Line{lineOf(1, 801), lineOf(2, 808)}}
	c, n, said := impl.ConnFeed(c, n, wire("1 60 70 =q", "2 60 70 =q", "2 60 70 =q", "1 60 70 =q"), 5)
	want := spokenBy(1, handing("60 71 1 0 = =q 5", "m0")) + spokenBy(2, handing("60 71 1 0 = =q 4", "m1")) + spokenBy(2, handing("60 71 2 0 = =q 3", "m2")) + spokenBy(1, handing("60 71 2 0 = =q 2", "m3"))
	if said != want {
		t.Errorf("said %q; want %q", said, want)
	}
	c, n, said = impl.ConnFeed(c, n, wire("1 60 80 1 0", "2 60 120 2 1 1", "1 60 70 =q"), 5)
	if want := spokenBy(1, handing("60 71 3 1 = =q 3", "m1")); said != want {
		t.Errorf("said %q; want %q", said, want)
	}
	if got := heldBy(c, 801); !slices.Equal(got, []int{2, 3}) || len(heldBy(c, 808)) != 0 {
		t.Errorf("held: %v, %v", got, heldBy(c, 808))
	}
	c, n, said = impl.ConnFeed(c, n, wire("1 10 50 = ="), 5)
	if len(heldBy(c, 801)) != 0 || said != "" || len(n.Lines) != 1 || marked(c.Queues[0].Ready) == "" {
		t.Errorf("behind a line: %#v, %#v, %q", c, n, said)
	}
	if got := impl.CoreDepth(c, "q"); got != 5 {
		t.Errorf("%d are ready; want 5", got)
	}
}

// fedBy is what bytes make of a core and a connection and what is said, by the
// words of the document.
func fedBy(x fedWith) (impl.Core, impl.Conn, string) {
	if x.Conn.Closed {
		return x.Core, x.Conn, ""
	}
	f := &feeding{core: x.Core, conn: keptConn(x.Conn), time: x.Time}
	f.conn.Buf += x.Bytes
	if len(f.conn.Buf) > 60000 {
		f.close("501 =frame")
	}
	for !f.conn.Closed {
		frame, size, code := impl.NextFrame(f.conn.Buf)
		if code == impl.CutMore {
			break
		}
		if code != impl.CutOk || !f.do(frame) {
			f.close("501 =frame")
		}
		f.conn.Buf = f.conn.Buf[min(size, len(f.conn.Buf)):]
	}
	return f.core, f.conn, f.said
}

// wantFedBy wants bytes to do what the document's words make of them.
func wantFedBy(t *testing.T, why string, x fedWith) (impl.Core, impl.Conn) {
	t.Helper()
	c, n, said := fedBy(x)
	return wantFed(t, why, x, c, n, said)
}

// feeding is a connection that is fed, and what is said.
type feeding struct {
	core impl.Core
	conn impl.Conn
	said string
	time int
}

func (f *feeding) close(why string) {
	f.said += wire("0 10 50 =" + why)
	f.core = readyBy(f.core, f.conn)
	f.conn = impl.Conn{Id: f.conn.Id, Closed: true}
}

func (f *feeding) drop(at int) {
	f.core = impl.CoreLeave(f.core, f.conn.Lines[at].Channel.Owner)
	f.conn.Lines = slices.Delete(f.conn.Lines, at, at+1)
}

func (f *feeding) ask(at int, m impl.Method, body string) bool {
	no := f.conn.Lines[at].No
	c, h, said := impl.ChannelDo(f.core, f.conn.Lines[at].Channel, m, body, f.time)
	f.core, f.conn.Lines[at] = c, impl.Line{No: no, Channel: h}
	f.said += spokenBy(no, said)
	if h.Closed {
		f.drop(at)
	}
	return true
}

func (f *feeding) open(no int) bool {
	if no == 0 || len(f.conn.Lines) >= 8 {
		return false
	}
	owner := 1
	for slices.ContainsFunc(f.conn.Lines, func(l impl.Line) bool { return l.Channel.Owner == 8*f.conn.Id+owner }) {
		owner++
	}
	f.conn = withLine(f.conn, lineOf(no, 8*f.conn.Id+owner))
	f.said += wire(fmt.Sprint(no, " 20 11"))
	return true
}

func (f *feeding) do(frame impl.Frame) bool {
	at := slices.IndexFunc(f.conn.Lines, func(l impl.Line) bool { return l.No == frame.Channel })
	waits := -1
	if at >= 0 {
		waits = f.conn.Lines[at].Waits
	}
	switch frame.Kind {
	case impl.FrameBeat:
		return frame == impl.Frame{Kind: impl.FrameBeat}
	case impl.FrameMethod:
		return f.method(at, waits, frame)
	case impl.FrameHeader:
		size := slices.Index(heads(), frame.Payload)
		if waits != 1 || size < 0 {
			return false
		}
		line := &f.conn.Lines[at]
		line.Waits, line.Size, line.Body = 2, size, ""
		return size > 0 || f.ask(at, line.Method, "")
	}
	if waits != 2 || len(f.conn.Lines[at].Body)+len(frame.Payload) > f.conn.Lines[at].Size {
		return false
	}
	line := &f.conn.Lines[at]
	line.Body += frame.Payload
	return len(line.Body) < line.Size || f.ask(at, line.Method, line.Body)
}

func (f *feeding) method(at int, waits int, frame impl.Frame) bool {
	m, ok := impl.GetMethod(frame.Payload)
	words := fmt.Sprint(m.Class, " ", m.Id)
	switch {
	case !ok:
		return false
	case words == "20 10":
		return at < 0 && f.open(frame.Channel)
	case words == "10 50" && frame.Channel == 0:
		f.close("200 =bye")
		return true
	case at < 0:
		return false
	case words == "10 50":
		f.drop(at)
		return true
	case waits != 0:
		return false
	case words == "60 40":
		f.conn.Lines[at].Waits, f.conn.Lines[at].Method = 1, m
		return true
	}
	return f.ask(at, m, "")
}

// heads are all headers, each at its size.
func heads() []string {
	var out []string
	for size := range 3001 {
		out = append(out, headBytes(size))
	}
	return out
}

// connWalk is a core and a connection, and the frames that came on it.
type connWalk struct {
	core   impl.Core
	conn   impl.Conn
	roll   func(n int) int
	bytes  string
	counts map[string]int
}

// frame is one that comes next; most are such as fit.
func (w *connWalk) frame() string {
	roll := w.roll
	if roll(60) == 0 {
		return wire("0 beat")
	}
	no := 1 + roll(10)
	at := slices.IndexFunc(w.conn.Lines, func(l impl.Line) bool { return l.No == no })
	if at < 0 {
		if len(w.conn.Lines) < 8 {
			return wire(fmt.Sprint(no, " 20 10"))
		}
		at = roll(8)
		no = w.conn.Lines[at].No
	}
	line := w.conn.Lines[at]
	switch line.Waits {
	case 1:
		return wire(fmt.Sprint(no, " head ", []int{0, 1, 3, 10, 40, 300}[roll(6)]))
	case 2:
		piece := manyBytesOfOne(roll(min(120, line.Size-len(line.Body)) + 1))
		return wire(fmt.Sprint(no, " body ", piece))
	}
	if roll(40) == 0 {
		return wire(fmt.Sprint(no, " 10 50 =x =y"))
	}
	walk := channelWalk{core: w.core, roll: roll}
	return impl.Say(no, walk.method(line.Channel))
}

// wrong is a frame that fits where no line is, or none at all.
func (w *connWalk) wrong() string {
	return []string{"x", wire("0 20 10"), wire("77 90 10"), wire("1 beat"), wire("88 body a"), wire("89 head 3"), wire("0 10 50 = ="), frameBytes(1, 1, 4001, "", 206), frameBytes(8, 0, 0, "", 1)}[w.roll(9)]
}

// feed feeds frames one by one until there are so many bytes.
func (w *connWalk) feed(t *testing.T, most int) {
	for !w.conn.Closed && len(w.bytes) < most {
		frame := w.frame()
		if w.roll(300) == 0 {
			frame = w.wrong()
		}
		_, _, said := impl.ConnFeed(w.core, w.conn, frame, 61)
		w.core, w.conn = wantFedBy(t, fmt.Sprintf("behind %d bytes", len(w.bytes)), fedWith{w.core, w.conn, frame, 61})
		w.counts[fmt.Sprint("kind ", frame[0])]++
		list, _, _ := impl.Frames(said)
		for _, f := range list {
			m, _ := impl.GetMethod(f.Payload)
			w.counts[fmt.Sprint("said ", f.Kind, " ", m.Class, " ", m.Id)]++
		}
		if t.Failed() || !impl.ConnOk(w.conn) || !impl.CoreOk(w.core) {
			t.Fatalf("wrong behind %d bytes and %q: %#v", len(w.bytes), frame, w.conn)
		}
		w.bytes += frame
	}
}

// wholeFrames tells whether bytes are frames one behind the other.
func wholeFrames(s string) bool {
	for s != "" {
		_, size, code := impl.NextFrame(s)
		if code != impl.CutOk {
			return false
		}
		s = s[size:]
	}
	return true
}

// wantPieces wants bytes, in pieces of so many as size tells each time, to make
// what they make whole.
func wantPieces(t *testing.T, why string, x fedWith, size func() int) {
	t.Helper()
	core, conn, whole := impl.ConnFeed(x.Core, x.Conn, x.Bytes, x.Time)
	c, n, all := x.Core, x.Conn, ""
	for rest := x.Bytes; rest != ""; {
		at := min(size(), len(rest))
		next, m, said := impl.ConnFeed(c, n, rest[:at], x.Time)
		if !wholeFrames(said) {
			t.Fatalf("%s: %q is said, which is no whole frames", why, said)
		}
		c, n, all, rest = next, m, all+said, rest[at:]
	}
	if all != whole || !wholeFrames(whole) {
		t.Errorf("%s: %q is said in pieces, %q whole", why, all, whole)
	}
	wantSame(t, why+": the core", c, core)
	wantSame(t, why+": the connection", n, conn)
}

// The same bytes make the same, in whatever pieces they come.
func TestConnByPromise(t *testing.T) {
	counts := map[string]int{}
	closed := 0
	for seed := range uint32(12) {
		w := &connWalk{core: someCore(), conn: impl.Conn{Id: int(seed) * 9}, roll: diceOf(seed), counts: counts}
		w.feed(t, 5000)
		if w.conn.Closed {
			closed++
		}
		x := fedWith{someCore(), impl.Conn{Id: int(seed) * 9}, w.bytes, 61}
		c, n, _ := impl.ConnFeed(x.Core, x.Conn, x.Bytes, x.Time)
		wantSame(t, "the core, all at once", c, w.core)
		wantSame(t, "the connection, all at once", n, w.conn)
		wantPieces(t, "byte by byte", x, func() int { return 1 })
		wantPieces(t, "with nothing between", x, func() int { return w.roll(3) })
		wantPieces(t, "in pieces", x, func() int { return w.roll(50) })
		wantPieces(t, "in great pieces", x, func() int { return w.roll(3000) })
	}
	if closed < 3 || closed > 11 {
		t.Errorf("%d walks end early", closed)
	}
	wantCounts(t, counts, map[string]int{
		"kind 1": 300, "kind 2": 50, "kind 3": 100, "kind 8": 5, "said 1 20 11": 50, "said 1 60 71": 20, "said 1 60 72": 5, "said 2 0 0": 20, "said 3 0 0": 20, "said 1 60 80": 5, "said 1 60 120": 2, "said 1 90 21": 3, "said 1 10 50": 20,
	})
}

// A short conversation, cut at each place, and at each two places.
func TestConnFeedCutAnywhere(t *testing.T) {
	list := []string{"1 20 10", "0 beat", "1 50 10 =q 0", "1 60 40 = =q", "1 head 3", "1 body ab", "1 body c", "1 60 70 =q", "1 60 80 9 0"}
	for _, end := range []string{"", wire("1 90 10"), wire("0 10 50 = =", "1 90 10"), "x" + wire("1 20 10")} {
		x := fedWith{impl.Core{}, impl.Conn{Id: 5}, wire(list...) + end, 5}
		for at := range len(x.Bytes) + 1 {
			for behind := 0; behind < len(x.Bytes)-at; behind += 5 {
				sizes := []int{at, behind, len(x.Bytes)}
				wantPieces(t, fmt.Sprintf("cut at %d and %d behind", at, behind), x, func() int {
					size := sizes[0]
					sizes = append(sizes[1:], len(x.Bytes))
					return size
				})
			}
		}
	}
}

func TestConnFeedManyBytes(t *testing.T) {
	list := wire("1 20 10", "1 50 10 =q 0", "2 20 10")
	body := manyBytes(3000)
	for i := 0; len(list) < 55000; i++ {
		list += wire(fmt.Sprint(1+i%2, " 60 40 = =q"), fmt.Sprint(1+i%2, " head 3000"))
		for _, piece := range impl.Cut(body, 1000-i) {
			list += frameBytes(3, 1+i%2, len(piece), piece, 206)
		}
		list += wire(fmt.Sprint(2-i%2, " 60 70 =q"))
	}
	list += strings.Repeat(wire("0 beat"), (60000-len(list))/8)
	list += wire("0 beat")[:60000-len(list)]
	x := fedWith{impl.Core{}, impl.Conn{Id: 5}, list, 5}
	if len(x.Bytes) != 60000 {
		t.Fatal(len(x.Bytes), "bytes")
	}
	roll := diceOf(60)
	wantPieces(t, "60000 bytes", x, func() int { return 1 + roll(40) })
	c, n, said := impl.ConnFeed(x.Core, x.Conn, x.Bytes, x.Time)
	want, conn, all := fedBy(x)
	wantSame(t, "60000 bytes: the core", c, want)
	wantSame(t, "60000 bytes: the connection", n, conn)
	if said != all || len(said) < 50000 || n.Closed {
		t.Errorf("60000 bytes: %d are said; want %d", len(said), len(all))
	}
}

// rightConns are connections that are right, by what is to be seen in them.
func rightConns() map[string]impl.Conn {
	one := func(line impl.Line) impl.Conn { return impl.Conn{Id: 1, Lines: []impl.Line{line}} }
	full := impl.Conn{Id: 100}
	for i := range 8 {
		full.Lines = append(full.Lines, lineOf(10*i+3, 808-i))
	}
	out := map[string]impl.Conn{
		"nothing":                  {},
		"as it begins":             {Id: 7},
		"the greatest Id":          {Id: 100},
		"closed":                   {Id: 3, Closed: true},
		"closed with lists":        {Closed: true, Lines: []impl.Line{}},
		"some":                     someConn(),
		"60000 bytes":              {Buf: manyBytes(60000)},
		"bytes that are no frame":  {Buf: "xyz"},
		"a whole frame":            {Buf: wire("0 beat")},
		"eight lines":              full,
		"the number 1":             one(lineOf(1, 9)),
		"the number 65535":         one(lineOf(65535, 16)),
		"the least and greatest":   {Id: 1, Lines: []impl.Line{lineOf(1, 16), lineOf(65535, 9)}},
		"waits for a header":       one(waitingOf(4, 9, 1, "60 40 =x =k", 0, "")),
		"with empty texts":         one(waitingOf(4, 9, 1, "60 40 = =", 0, "")),
		"with texts of any bytes":  one(waitingOf(4, 9, 1, "60 40 =\x00 =\xff", 0, "")),
		"with long texts":          one(waitingOf(4, 9, 1, "60 40 ="+manyBytesOfOne(255)+" ="+manyBytesOfOne(255), 0, "")),
		"waits for a body":         one(waitingOf(4, 9, 2, "60 40 =x =k", 3000, "")),
		"waits for one byte":       one(waitingOf(4, 9, 2, "60 40 =x =k", 1, "")),
		"waits for the last byte":  one(waitingOf(4, 9, 2, "60 40 =x =k", 3000, manyBytes(2999))),
		"waits for some":           one(waitingOf(4, 9, 2, "60 40 =x =k", 5, "ab")),
		"waits with lists of none": one(impl.Line{No: 4, Channel: impl.Channel{Owner: 9}, Waits: 1, Method: impl.Method{Class: 60, Id: 40, Texts: []string{"x", "k"}, Nums: []int{}}}),
		"a method of lists":        one(impl.Line{No: 4, Channel: impl.Channel{Owner: 9}, Method: impl.Method{Texts: []string{}, Nums: []int{}}}),
	}
	for why, h := range rightChannels() {
		if !h.Closed {
			h.Owner = 9
			out["a channel: "+why] = one(impl.Line{No: 4, Channel: h})
		}
	}
	return out
}

// wrongConns are connections that are not ConnOk, by the reason why.
func wrongConns() map[string]impl.Conn {
	one := func(line impl.Line) impl.Conn { return impl.Conn{Id: 1, Lines: []impl.Line{line}} }
	lines := func(list ...impl.Line) impl.Conn { return impl.Conn{Id: 1, Lines: list} }
	nine := impl.Conn{Id: 1}
	for i := range 9 {
		nine.Lines = append(nine.Lines, lineOf(i+1, 9+i%8))
	}
	out := map[string]impl.Conn{
		"an Id of -1":               {Id: -1},
		"an Id of 101":              {Id: 101},
		"the least Id":              {Id: math.MinInt},
		"the greatest Id":           {Id: math.MaxInt},
		"an Id of -1, closed":       {Id: -1, Closed: true},
		"an Id of 101, closed":      {Id: 101, Closed: true},
		"60001 bytes":               {Buf: manyBytes(60001)},
		"60001 bytes, closed":       {Buf: manyBytes(60001), Closed: true},
		"bytes where it is closed":  {Buf: "\x08", Closed: true},
		"lines where it is closed":  {Id: 1, Closed: true, Lines: []impl.Line{lineOf(1, 9)}},
		"both where it is closed":   {Id: 1, Buf: "x", Closed: true, Lines: []impl.Line{lineOf(1, 9)}},
		"some, closed":              {Closed: true, Lines: someConn().Lines},
		"out of order":              lines(lineOf(2, 9), lineOf(1, 10)),
		"the last out of order":     lines(lineOf(2, 9), lineOf(4, 10), lineOf(3, 11)),
		"the first out of order":    lines(lineOf(4, 9), lineOf(2, 10), lineOf(5, 11)),
		"one number twice":          lines(lineOf(2, 9), lineOf(2, 10)),
		"the last number twice":     lines(lineOf(2, 9), lineOf(3, 10), lineOf(3, 11)),
		"the number 0":              one(lineOf(0, 9)),
		"the number 0 and 1":        lines(lineOf(0, 9), lineOf(1, 10)),
		"the number 65536":          one(lineOf(65536, 9)),
		"1 and 65536":               lines(lineOf(1, 9), lineOf(65536, 10)),
		"the number -1":             one(lineOf(-1, 9)),
		"the least number":          one(lineOf(math.MinInt, 9)),
		"the greatest number":       one(lineOf(math.MaxInt, 9)),
		"nine lines":                nine,
		"the owner below":           one(lineOf(1, 8)),
		"the owner above":           one(lineOf(1, 17)),
		"the owner 0":               one(lineOf(1, 0)),
		"the owner 1":               one(lineOf(1, 1)),
		"the greatest owner":        one(lineOf(1, math.MaxInt)),
		"the least owner":           one(lineOf(1, math.MinInt)),
		"two owners alike":          lines(lineOf(1, 9), lineOf(2, 9)),
		"the last owners alike":     lines(lineOf(1, 9), lineOf(2, 16), lineOf(3, 16)),
		"owners alike, apart":       lines(lineOf(1, 9), lineOf(2, 10), lineOf(3, 9)),
		"an owner of the next":      {Id: 0, Lines: []impl.Line{lineOf(1, 9)}},
		"the owner 0 of Id 0":       {Id: 0, Lines: []impl.Line{lineOf(1, 0)}},
		"the owner beyond all":      {Id: 100, Lines: []impl.Line{lineOf(1, 809)}},
		"a wrong line behind":       lines(lineOf(1, 9), waitingOf(2, 10, 3, "60 40 = =", 0, "")),
		"waits for 3":               one(waitingOf(1, 9, 3, "60 40 = =", 0, "")),
		"waits for -1":              one(waitingOf(1, 9, -1, "60 40 = =", 0, "")),
		"waits for 3 with nothing":  one(impl.Line{No: 1, Channel: impl.Channel{Owner: 9}, Waits: 3}),
		"nothing with a publish":    one(waitingOf(1, 9, 0, "60 40 = =", 0, "")),
		"nothing with a class":      one(waitingOf(1, 9, 0, "60 0", 0, "")),
		"nothing with an id":        one(waitingOf(1, 9, 0, "0 40", 0, "")),
		"nothing with texts":        one(waitingOf(1, 9, 0, "0 0 =x", 0, "")),
		"nothing with numbers":      one(waitingOf(1, 9, 0, "0 0 1", 0, "")),
		"nothing with a size":       one(waitingOf(1, 9, 0, "0 0", 1, "")),
		"nothing with a body":       one(waitingOf(1, 9, 0, "0 0", 0, "x")),
		"nothing with both":         one(waitingOf(1, 9, 0, "0 0", 3, "x")),
		"a header with a size":      one(waitingOf(1, 9, 1, "60 40 = =", 1, "")),
		"a header with a body":      one(waitingOf(1, 9, 1, "60 40 = =", 0, "x")),
		"a header with both":        one(waitingOf(1, 9, 1, "60 40 = =", 2, "x")),
		"a header of no method":     one(waitingOf(1, 9, 1, "0 0", 0, "")),
		"a header of a get":         one(waitingOf(1, 9, 1, "60 70 =q", 0, "")),
		"a header of a declare":     one(waitingOf(1, 9, 1, "40 10 =x =direct", 0, "")),
		"a header of another form":  one(waitingOf(1, 9, 1, "60 40 =x", 0, "")),
		"a header of a long text":   one(waitingOf(1, 9, 1, "60 40 =x ="+manyBytesOfOne(256), 0, "")),
		"a header with a number":    one(waitingOf(1, 9, 1, "60 40 =x =k 1", 0, "")),
		"a body of nothing":         one(waitingOf(1, 9, 2, "60 40 = =", 0, "")),
		"a body of 3001":            one(waitingOf(1, 9, 2, "60 40 = =", 3001, "")),
		"a body of the greatest":    one(waitingOf(1, 9, 2, "60 40 = =", math.MaxInt, "")),
		"a body of -1":              one(waitingOf(1, 9, 2, "60 40 = =", -1, "")),
		"a body that is there":      one(waitingOf(1, 9, 2, "60 40 = =", 2, "ab")),
		"a body that is longer":     one(waitingOf(1, 9, 2, "60 40 = =", 2, "abc")),
		"a body of no method":       one(waitingOf(1, 9, 2, "0 0", 3, "a")),
		"a body of a get":           one(waitingOf(1, 9, 2, "60 70 =q", 3, "a")),
		"a body of another form":    one(waitingOf(1, 9, 2, "60 40 =x =k =l", 3, "a")),
		"a body of a long text":     one(waitingOf(1, 9, 2, "60 40 ="+manyBytesOfOne(256)+" =k", 3, "a")),
		"closed without its parts":  one(impl.Line{No: 1, Channel: impl.Channel{Owner: 9, Closed: true}}),
		"closed within a body":      one(impl.Line{No: 1, Channel: impl.Channel{Owner: 9, Closed: true}, Waits: 2, Method: asking("60 40 = =z"), Size: 3, Body: "ab"}),
		"closed within a header":    one(impl.Line{No: 1, Channel: impl.Channel{Owner: 9, Closed: true}, Waits: 1, Method: asking("60 40 = =z")}),
		"a header, out of order":    lines(waitingOf(5, 9, 1, "60 40 = =z", 0, ""), lineOf(1, 10)),
		"a body of a number twice":  lines(waitingOf(1, 9, 2, "60 40 = =z", 3, "ab"), waitingOf(1, 10, 2, "60 40 = =z", 3, "")),
		"a wrong Id with its lines": {Id: 101, Lines: []impl.Line{lineOf(1, 809), waitingOf(2, 810, 2, "60 40 = =z", 3, "ab")}},
		"the least Id with lines":   {Id: math.MinInt, Lines: []impl.Line{lineOf(1, 1)}},
	}
	for why, h := range wrongChannels() {
		if h.Owner == 9 || h.Owner == 2 || h.Owner == 0 {
			h.Owner = 9
		}
		out["a wrong channel: "+why] = one(impl.Line{No: 1, Channel: h})
	}
	return out
}

func TestConnOk(t *testing.T) {
	for why, n := range rightConns() {
		wantRight(t, why, impl.ConnOk, n, true)
	}
	for why, n := range wrongConns() {
		wantRight(t, why, impl.ConnOk, n, false)
	}
}

func TestConnOkOwners(t *testing.T) {
	for _, id := range []int{0, 1, 50, 100} {
		for k := -9; k < 20; k++ {
			n := impl.Conn{Id: id, Lines: []impl.Line{lineOf(1, 8*id+k)}}
			wantRight(t, "an owner", impl.ConnOk, n, k >= 1 && k <= 8)
		}
	}
	for id := range 101 {
		wantRight(t, "an Id", impl.ConnOk, impl.Conn{Id: id}, true)
	}
}

// connScripts are bytes that are fed to connections of any kind.
func connScripts() []string {
	return []string{
		"", "x", wire("0 beat"), wire("0 10 50 = ="), wire("1 10 50 = ="), wire("4 10 50 = ="), wire("1 20 10"), wire("2 20 10"), wire("7 20 10", "8 20 10"), wire("0 20 10"),
		wire("1 60 70 =a"), wire("4 60 70 =a"), wire("4 60 70 =z"), wire("4 60 40 =f =k", "4 head 0"), wire("4 60 40 =f =k", "4 head 2", "4 body ab"), wire("1 90 20"), wire("1 60 80 9 1"), wire("0 60 70 =a"),
		wire("1 head 0"), wire("1 head 3"), wire("1 body "), wire("1 body a"), wire("1 body abc"), wire("4 head 2"), wire("4 body a"), wire("1 20 10")[:5], strings.Repeat("\x08", 60001),
	}
}

// Connections that are not ConnOk, and cores that are not CoreOk, have an
// answer for whatever comes.
func TestConnFeedOfWrongConns(t *testing.T) {
	list := wrongConns()
	for why, n := range rightConns() {
		list[why] = n
	}
	wrong := namedCore("b a", "s")
	for why, n := range list {
		for i, bytes := range connScripts() {
			for _, c := range []impl.Core{someCore(), wrong} {
				// No words tell where a new line goes among lines without order.
				if strings.Contains(why, "out of order") || strings.Contains(why, "twice") {
					impl.ConnFeed(c, n, bytes, 70)
					continue
				}
				wantFedBy(t, fmt.Sprint(why, ", script ", i), fedWith{c, n, bytes, 70})
			}
		}
	}
}

func TestConnFeedOfWrongCores(t *testing.T) {
	list := wrongCores()
	for why, c := range rightCores() {
		list[why] = c
	}
	busy := impl.Conn{Lines: []impl.Line{lineOf(1, 2), lineOf(4, 3), waitingOf(5, 7, 2, "60 40 =f =k", 3, "ab")}}
	for why, c := range list {
		for i, bytes := range append(connScripts(), wire("5 body c"), wire("4 50 10 =new 0"), wire("4 40 10 =new =topic")) {
			wantFedBy(t, fmt.Sprint(why, ", script ", i), fedWith{c, busy, bytes, 70})
		}
	}
}

func TestConnMemory(t *testing.T) {
	list := wrongConns()
	for why, n := range rightConns() {
		list[why] = n
	}
	feed := func(x fedWith) []any {
		c, n, said := impl.ConnFeed(x.Core, x.Conn, x.Bytes, x.Time)
		return []any{c, n, said}
	}
	long := wire("1 20 10")[:11]
	scripts := append(connScripts(), "\x08", "\x03\x01", wire("300 body c"), wire("300 body cde"), wire("9 head 1")+"\x03", wire("5 60 40 = =q")+long, wire("1 60 40 =f =k", "1 head 3", "1 body ab"))
	for why, n := range list {
		for _, bytes := range scripts {
			wantApart(t, why, fedWith{someCore(), n, bytes, 70}, feed)
		}
		wantApart(t, why+": ConnOk", n, func(n impl.Conn) []any { return []any{impl.ConnOk(n)} })
	}
	for _, c := range []impl.Core{{}, namedCore("m a", "s")} {
		for _, bytes := range scripts {
			wantApart(t, "another core", fedWith{c, someConn(), bytes, 70}, feed)
		}
	}
	for _, n := range []int{0, 1, 2, 1000, 1001, 3000, 3001} {
		for _, words := range []string{"60 71 1 0 =x =k 1", "7 7", "90 11"} {
			for _, no := range []int{1, 65536} {
				replies := slices.Concat(handing(words, manyBytes(n)), saying(words))
				wantApart(t, "Spoken", replies, func(list []impl.Reply) []any { return []any{impl.Spoken(no, list)} })
			}
		}
	}
}
