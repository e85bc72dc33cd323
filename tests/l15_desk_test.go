package tests

import (
	"encoding/binary"
	"fmt"
	"math"
	"regexp"
	"slices"
	"strconv"
	"strings"
	"testing"

	"loop.example/g00227/impl"
)

// methodPattern is a known method with what its words look like.
type methodPattern struct {
	knownMethod
	words *regexp.Regexp
}

// patternsOf are the words of each known method, by those of the document.
func patternsOf() []methodPattern {
	var out []methodPattern
	for _, k := range knownMethods {
		pattern := fmt.Sprintf("^%d %d", k.class, k.id)
		for _, letter := range k.form {
			if letter == 's' {
				pattern += " =([^ ]*)"
			} else {
				pattern += " (0|[1-9][0-9]*)"
			}
		}
		out = append(out, methodPattern{k, regexp.MustCompile(pattern + "$")})
	}
	return out
}

// These are what lines look like, by the words of the document.
var (
	methodPatterns = patternsOf()
	publishPattern = regexp.MustCompile(`(?s)^(60 40 =[^ ]* =[^ ]*) (.*)$`)
	barePattern    = regexp.MustCompile(`^(sync|flush|size)$`)
	numberPattern  = regexp.MustCompile(`^(merge|crash|tick) (0|[1-9][0-9]{0,8})$`)
	namePattern    = regexp.MustCompile(`^(depth) ([^ ]*)$`)
	bothPattern    = regexp.MustCompile(`^(trim|read) ([^ ]*) (0|[1-9][0-9]{0,8})$`)
)

// methodBy is the method that a text tells, by the words of the document.
func methodBy(s string) (impl.Method, bool) {
	for _, p := range methodPatterns {
		found := p.words.FindStringSubmatch(s)
		if found == nil {
			continue
		}
		m := impl.Method{Class: p.class, Id: p.id}
		for i, letter := range p.form {
			part := found[i+1]
			if letter == 's' {
				if len(part) > 255 {
					return impl.Method{}, false
				}
				m.Texts = append(m.Texts, part)
				continue
			}
			n, err := strconv.Atoi(part)
			if err != nil || n > greatest[int(letter-'0')] {
				return impl.Method{}, false
			}
			m.Nums = append(m.Nums, n)
		}
		return m, true
	}
	return impl.Method{}, false
}

// saidBy is what is told of frames that are said, by the words of the document.
func saidBy(said string) string {
	var out []string
	for said != "" {
		f, size, code := impl.NextFrame(said)
		if code != impl.CutOk {
			panic("what is said is no frames")
		}
		said = said[size:]
		switch f.Kind {
		case 1:
			m, _ := impl.GetMethod(f.Payload)
			out = append(out, impl.MethodText(m))
		case 2:
			out = append(out, fmt.Sprint("head ", binary.BigEndian.Uint64([]byte(f.Payload[4:]))))
		case 3:
			out = append(out, "body "+f.Payload)
		}
	}
	if out == nil {
		return "-"
	}
	return strings.Join(out, ";")
}

// sayBy is what a method makes of a mill that is told to it, and what is said.
func sayBy(m impl.Mill, rest string) (impl.Mill, string) {
	body := ""
	asked, ok := methodBy(rest)
	if found := publishPattern.FindStringSubmatch(rest); found != nil {
		asked, ok = methodBy(found[1])
		body = found[2]
	}
	if !ok || len(body) > 3000 {
		return m, "what"
	}
	publish := asked.Class == 60 && asked.Id == 40
	next, said, ok := impl.MillFeed(m, 0, spokenBy(1, []impl.Reply{{Method: asked, HasBody: publish, Body: body}}))
	if !ok {
		return m, "full"
	}
	return next, saidBy(said)
}

// lined is a mill with one connection more, on which line 1 is open.
func lined(m impl.Mill) impl.Mill {
	next, at := impl.MillOpen(m)
	next, _, _ = impl.MillFeed(next, at, wire("1 20 10"))
	return next
}

// deskMill is the mill that a script begins with.
func deskMill() impl.Mill { return lined(impl.MillStart(0)) }

// readBy is what is told of the stream of a name from an offset on.
func readBy(c impl.Core, name string, offset int) string {
	for _, s := range c.Streams {
		if s.Name != name {
			continue
		}
		var out []string
		for _, e := range impl.StreamRead(s, offset, 3) {
			out = append(out, e.Body)
		}
		if out == nil {
			return "-"
		}
		return strings.Join(out, ";")
	}
	return "none"
}

// deskBy is what a line makes of a mill, and what is said to it, by the words
// of the document.
func deskBy(m impl.Mill, line string) (impl.Mill, string) {
	if rest, is := strings.CutPrefix(line, "say "); is {
		return sayBy(m, rest)
	}
	for _, pattern := range []*regexp.Regexp{barePattern, numberPattern, namePattern, bothPattern} {
		found := pattern.FindStringSubmatch(line)
		if found == nil {
			continue
		}
		n, _ := strconv.Atoi(found[len(found)-1])
		switch found[1] {
		case "sync":
			return impl.MillSync(m), "done"
		case "flush":
			return impl.MillStep(m, impl.StepFlush, 0), "done"
		case "size":
			return m, fmt.Sprint(impl.TableSize(m.Store.Table), " ", len(m.Store.Table.Runs))
		case "merge":
			return impl.MillStep(m, impl.StepMerge, n), "done"
		case "crash":
			return lined(impl.MillCrash(m, n)), "done"
		case "tick":
			next := impl.MillTick(m, n)
			return next, fmt.Sprint(next.Time)
		case "depth":
			return m, fmt.Sprint(impl.CoreDepth(m.Core, found[2]))
		case "trim":
			next, ok := impl.MillTrim(m, found[2], n, 0)
			return next, map[bool]string{true: "done", false: "none"}[ok]
		case "read":
			return m, readBy(m.Core, found[2], n)
		}
	}
	return m, "what"
}

// wantLine wants a line to be answered, and to make of a mill, what the words of
// the document tell.
func wantLine(t *testing.T, why string, m impl.Mill, line string) (impl.Mill, string) {
	t.Helper()
	got, said := impl.DeskLine(m, line)
	next, want := deskBy(m, line)
	if said != want {
		t.Errorf("%s: DeskLine(%q) says %q; want %q", why, line, said, want)
	}
	wantMill(t, why+": DeskLine "+line, got, next)
	return got, said
}

// wantSay wants a line to be answered with this, and to make of a mill what the
// words of the document tell.
func wantSay(t *testing.T, why string, m impl.Mill, line string, want string) impl.Mill {
	t.Helper()
	next, said := wantLine(t, why, m, line)
	if said != want {
		t.Errorf("%s: DeskLine(%q) says %q; want %q", why, line, said, want)
	}
	return next
}

// wantIgnored wants a line to be answered with this, and to change nothing.
func wantIgnored(t *testing.T, why string, m impl.Mill, line string, want string) {
	t.Helper()
	wantMill(t, why+": "+line, wantSay(t, why, m, line, want), m)
}

// wantTalk wants lines and answers by turns, upon one mill.
func wantTalk(t *testing.T, why string, m impl.Mill, talk ...string) impl.Mill {
	t.Helper()
	for i := 0; i < len(talk); i += 2 {
		m = wantSay(t, fmt.Sprintf("%s, line %d", why, i/2), m, talk[i], talk[i+1])
	}
	return m
}

// wantScript is wantTalk upon the mill that a script begins with; Desk is to
// answer all of its lines alike.
func wantScript(t *testing.T, why string, talk ...string) impl.Mill {
	t.Helper()
	text, want := "", ""
	for i := 0; i < len(talk); i += 2 {
		text += talk[i] + "\n"
		want += talk[i+1] + "\n"
	}
	if got := impl.Desk(text); got != want {
		t.Errorf("%s: Desk says %q; want %q", why, got, want)
	}
	return wantTalk(t, why, deskMill(), talk...)
}

func wantRead(t *testing.T, s string, want impl.Method) {
	t.Helper()
	if got, ok := impl.ReadMethod(s); !ok || !sameMethod(got, want) {
		t.Errorf("ReadMethod(%q) = %s, %v; want %s", s, told(got), ok, told(want))
	}
	wantReadBy(t, s)
}

func wantNotRead(t *testing.T, why string, s string) {
	t.Helper()
	if got, ok := impl.ReadMethod(s); ok || !sameMethod(got, impl.Method{}) {
		t.Errorf("%s: ReadMethod(%q) = %s, %v; want none", why, s, told(got), ok)
	}
	wantReadBy(t, s)
}

// wantReadBy wants a text to be read as the words of the document tell.
func wantReadBy(t *testing.T, s string) bool {
	t.Helper()
	got, ok := impl.ReadMethod(s)
	want, is := methodBy(s)
	if ok != is || !sameMethod(got, want) {
		t.Errorf("ReadMethod(%q) = %s, %v; want %s, %v", s, told(got), ok, told(want), is)
	}
	if ok && impl.MethodText(got) != s {
		t.Errorf("ReadMethod(%q) = %s, whose text is %q", s, told(got), impl.MethodText(got))
	}
	return ok
}

// wordMethods are methods of k whose texts have no blanks.
func wordMethods(k knownMethod) []impl.Method {
	texts := [][]string{{"first", "second", "third"}, {""}, {"", "x"}, {"x", ""}, {"=", "==", "=x"}, {"12", "0", "-1"}, {"a;b", "\x00\xff", "é"}, {"\n", "\t", "\r\n"}, {strings.Repeat("w", 255)}}
	nums := []func(size int, i int) int{
		func(int, int) int { return 0 },
		func(_ int, i int) int { return i + 1 },
		func(size int, i int) int { return greatest[size] - i },
	}
	var out []impl.Method
	for _, list := range texts {
		for _, num := range nums {
			out = append(out, k.method(list, num))
		}
	}
	return out
}

func TestDeskConstants(t *testing.T) {
	if impl.MaxScript != 10000 {
		t.Error("MaxScript", impl.MaxScript)
	}
}

func TestReadMethod(t *testing.T) {
	for s, want := range map[string]impl.Method{
		"20 10":                       {Class: 20, Id: 10},
		"50 10 =q 1":                  {Class: 50, Id: 10, Texts: []string{"q"}, Nums: []int{1}},
		"60 40 = =q":                  {Class: 60, Id: 40, Texts: []string{"", "q"}},
		"60 40 = =":                   {Class: 60, Id: 40, Texts: []string{"", ""}},
		"60 70 ==":                    {Class: 60, Id: 70, Texts: []string{"="}},
		"60 71 5 1 = =k 2":            {Class: 60, Id: 71, Texts: []string{"", "k"}, Nums: []int{5, 1, 2}},
		"60 80 9223372036854775807 0": {Class: 60, Id: 80, Nums: []int{math.MaxInt, 0}},
		"50 11 =q 4294967295":         {Class: 50, Id: 11, Texts: []string{"q"}, Nums: []int{4294967295}},
		"60 120 1000000000 255 0":     {Class: 60, Id: 120, Nums: []int{billion, 255, 0}},
	} {
		wantRead(t, s, want)
	}
	for _, k := range knownMethods {
		for _, m := range wordMethods(k) {
			wantRead(t, impl.MethodText(m), m)
		}
	}
}

// A text of a method may have blanks, but none that is read has.
func TestReadMethodOfBlanks(t *testing.T) {
	for _, k := range knownMethods {
		if !strings.Contains(k.form, "s") {
			continue
		}
		for _, text := range []string{" ", "a b", " a", "a ", "a  b", "a =b", "=a =b", "1 =2"} {
			m := k.method([]string{text}, func(int, int) int { return 1 })
			if impl.MethodText(m) == "" {
				t.Fatal("no method", told(m))
			}
			wantNotRead(t, "a blank", impl.MethodText(m))
		}
	}
}

// wrongWords are words that may not stand for a word of a method.
func wrongWords(word string, size int) []string {
	if text, is := strings.CutPrefix(word, "="); is {
		return []string{"x" + text, text, "", " =" + text, "= " + text, "-=" + text, "=" + strings.Repeat("w", 256), "7"}
	}
	out := []string{"0" + word, "00" + word, "+" + word, "-" + word, word + "x", word + ".0", word + "_0", "0x" + word, "", "-", "x", "-1", "=" + word, "=", "\x00", "é", "1e3", "٣", strings.Repeat("9", 40)}
	if size > 0 {
		return append(out, fmt.Sprint(uint64(greatest[size])+1), fmt.Sprint(uint64(greatest[size])+2))
	}
	return out
}

func TestReadMethodRefused(t *testing.T) {
	for _, s := range []string{"", " ", "  ", "=", "= =", "x", "20", "20 ", " 10", "60 40", "60 40 =", "60 40 =x", "7 7", "20 10 0", "20 10 =", "10 20", "say 20 10", "20\t10", "20 10\n", "20,10", "2 010", "20 =10", "=20 10"} {
		wantNotRead(t, "no method", s)
	}
	for _, k := range knownMethods {
		m := k.method([]string{"first", "second", "third"}, func(_ int, i int) int { return 5 + 7*i })
		words := strings.Split(k.words(m), " ")
		join := func(list ...[]string) string { return strings.Join(slices.Concat(list...), " ") }
		wantNotRead(t, "a blank ahead", " "+join(words))
		wantNotRead(t, "a blank behind", join(words)+" ")
		if !strings.HasSuffix(k.form, "s") {
			wantNotRead(t, "a newline behind", join(words)+"\n")
		}
		for i := range words {
			wantReadBy(t, join(words[:i]))
			wantReadBy(t, join(words[:i], words[i+1:]))
			if i > 1 {
				wantNotRead(t, "a word too few", join(words[:i], words[i+1:]))
				wantNotRead(t, "two words too few", join(words[:i-1], words[i+1:]))
			}
			if i > 0 {
				wantNotRead(t, "two blanks", join(words[:i], []string{""}, words[i:]))
				wantNotRead(t, "turned", join(words[:i-1], []string{words[i], "?", words[i-1]}, words[i+1:]))
			}
			size := 0
			if i > 1 && k.form[i-2] != 's' {
				size = int(k.form[i-2] - '0')
			}
			for _, wrong := range wrongWords(words[i], size) {
				wantNotRead(t, "a word that is not so", join(words[:i], []string{wrong}, words[i+1:]))
			}
		}
		for i := range len(words) + 1 {
			for _, more := range []string{"", "=", "=x", "0", "1", "x"} {
				wantNotRead(t, "a word too many", join(words[:i], []string{more}, words[i:]))
			}
		}
	}
	for _, p := range unknownPairs() {
		for _, more := range []string{"", " =x", " =x =y", " 1", " 1 0", " =x 1"} {
			wantNotRead(t, "not known", fmt.Sprint(p[0], " ", p[1], more))
		}
	}
}

// TestReadMethodByRule takes words of methods that are changed at random.
func TestReadMethodByRule(t *testing.T) {
	roll := diceOf(15)
	counts := map[bool]int{}
	for range 40000 {
		k := knownMethods[roll(len(knownMethods))]
		list := wordMethods(k)
		s := []byte(impl.MethodText(list[roll(len(list))]))
		for range 1 + roll(2) {
			at := roll(len(s))
			more := "0123456789= x"[roll(13)]
			switch roll(3) {
			case 0:
				s[at] = more
			case 1:
				s = slices.Delete(s, at, at+1)
			case 2:
				s = slices.Insert(s, at, more)
			}
		}
		counts[wantReadBy(t, string(s))]++
	}
	if counts[true] < 3000 || counts[false] < 3000 {
		t.Errorf("%d are read, %d are not", counts[true], counts[false])
	}
}

// A method is fed on line 1, and what is said back is told.
func TestDeskSay(t *testing.T) {
	m := wantScript(t, "methods",
		"say 50 10 =q 0", "50 11 =q 0",
		"say 50 10 =q 0", "50 11 =q 0",
		"say 50 10 =s 1", "50 11 =s 0",
		"say 40 10 =x =topic", "40 11",
		"say 50 20 =q =x =a.#", "50 21",
		"say 60 70 =q", "60 72",
		"say 60 40 =x =a.b hello", "-",
		"say 60 40 =x =b hello", "-",
		"say 50 10 =q 0", "50 11 =q 1",
		"say 60 70 =q", "60 71 1 0 =x =a.b 0;head 5;body hello",
		"say 60 120 1 0 1", "-",
		"say 60 70 =q", "60 71 2 1 =x =a.b 0;head 5;body hello",
		"say 60 80 2 0", "-",
		"say 85 10 7", "85 11",
		"say 60 40 = =q one", "60 80 1 0",
		"say 60 40 =none =q two", "60 120 2 0 0",
		"say 60 40 = =s three", "60 80 3 0",
	)
	if impl.CoreDepth(m.Core, "q") != 1 || impl.CoreDepth(m.Core, "s") != 1 || len(m.Conns) != 1 || len(m.Conns[0].Lines) != 1 || m.Conns[0].Lines[0].No != 1 {
		t.Errorf("behind them: %#v", m)
	}
}

// A transaction says nothing until it is committed.
func TestDeskSayOfTransactions(t *testing.T) {
	wantScript(t, "a transaction",
		"say 50 10 =q 0", "50 11 =q 0",
		"say 90 10", "90 11",
		"say 60 40 = =q one", "-",
		"say 60 40 = =q two", "-",
		"depth q", "0",
		"say 90 20", "90 21",
		"depth q", "2",
		"say 60 40 = =q three", "-",
		"say 90 30", "90 31",
		"depth q", "2",
		"say 85 10 0", "10 50 =406 =mode",
		"say 20 10", "20 11",
		"say 85 10 0", "85 11",
	)
}

// Each way in which a channel refuses a method takes its line away; what comes
// on it then breaks the connection, which says nothing any more.
func TestDeskSayRefused(t *testing.T) {
	for line, want := range map[string]string{
		"say 60 70 =none":      "10 50 =404 =get",
		"say 60 80 9 0":        "10 50 =406 =tag",
		"say 60 120 9 0 1":     "10 50 =406 =tag",
		"say 60 40 =none =k":   "10 50 =404 =publish",
		"say 60 40 =none =k b": "10 50 =404 =publish",
		"say 40 10 =x =what":   "10 50 =406 =exchange",
		"say 50 10 =Q 0":       "10 50 =406 =queue",
		"say 50 10 =q 2":       "10 50 =406 =queue",
		"say 50 20 =q =x =k":   "10 50 =404 =bind",
		"say 90 20":            "10 50 =406 =mode",
		"say 20 11":            "10 50 =503 =method",
		"say 60 72":            "10 50 =503 =method",
		"say 10 50 = =":        "-",
		"say 10 50 =200 =bye":  "-",
	} {
		m := wantScript(t, "refused", line, want, "say 50 10 =q 0", "10 50 =501 =frame", "say 50 10 =q 0", "-", "say 20 10", "-", "depth q", "-1")
		if !m.Conns[0].Closed {
			t.Errorf("behind %q the connection is open", line)
		}
		wantScript(t, "refused, and line 1 opened anew", line, want, "say 20 10", "20 11", "say 50 10 =q 0", "50 11 =q 0")
		wantScript(t, "refused, and a crash", line, want, "crash 0", "done", "say 50 10 =q 0", "50 11 =q 0")
	}
	m := wantScript(t, "a line that is open is opened", "say 20 10", "10 50 =501 =frame", "say 20 10", "-", "say 60 40 = =q body", "-")
	if !m.Conns[0].Closed {
		t.Error("the connection is open")
	}
}

func TestDeskSayNoMethod(t *testing.T) {
	m := wantTalk(t, "begun", deskMill(), "say 50 10 =q 0", "50 11 =q 0")
	for _, line := range []string{
		"say", "say ", "say  ", " say 20 11", "say  20 11", "say 20  11", "say 20 11 ", "say 20", "say 20 11 x", "say x", "say 7 7", "say =", "Say 20 11", "say20 11", "say\t20 11", "say say 20 11",
		"say 60 70 q", "say 60 70 =q =r", "say 60 70 =q ", "say 60 70  =q", "say 60 70 =a b", "say 60 70 =q x", "say 60 70", "say 60 70 ", "say 060 70 =q", "say 60 70 =" + strings.Repeat("w", 256),
		"say 50 10 =q 00", "say 50 10 =q 256", "say 50 10 =q -1", "say 50 10 =q x", "say 50 10 =q", "say 50 10 0 =q", "say 60 80 9223372036854775808 0",
		"say 60 40", "say 60 40 ", "say 60 40 =", "say 60 40 = ", "say 60 40 =q body", "say 60 40 = q body", "say 60 40  = =q", "say 60 40 =  =q", "say 60  40 = =q", "say  60 40 = =q", "say 60 40 = " + "=" + strings.Repeat("k", 256) + " body",
		"say 60 71 1 0 = =q", "say 20 11 body", "say 90 10 two  words",
	} {
		wantIgnored(t, "no method", m, line, "what")
	}
}

// What stands behind a publish and one more blank is its body, blanks and all.
func TestDeskPublish(t *testing.T) {
	bodies := map[string]string{
		"":                 "",
		" ":                "",
		"  ":               " ",
		"   ":              "  ",
		" x":               "x",
		"  x":              " x",
		" x ":              "x ",
		"  two  words  ":   " two  words  ",
		" =q":              "=q",
		" = =q body":       "= =q body",
		" ;":               ";",
		" -":               "-",
		" head 3;body abc": "head 3;body abc",
		" say 60 70 =q":    "say 60 70 =q",
		" \x00\xff\t\r é":  "\x00\xff\t\r é",
	}
	for rest, body := range bodies {
		want := fmt.Sprintf("60 71 1 0 = =q 0;head %d", len(body))
		if body != "" {
			want += ";body " + body
		}
		m := wantScript(t, "a body", "say 50 10 =q 0", "50 11 =q 0", "say 60 40 = =q"+rest, "-", "depth q", "1", "say 60 70 =q", want)
		if got := m.Core.Queues[0].Held[0].Message; got.Body != body || got.Key != "q" || got.Exchange != "" {
			t.Errorf("a body of %q is %#v", rest, got)
		}
		key := wantTalk(t, "empty words", deskMill(), "say 60 40 = ="+rest, "-")
		wantMill(t, "a publish to nobody", key, deskMill())
	}
	// A newline is a byte as others are, where it stands in one line.
	wantTalk(t, "a newline", deskMill(), "say 50 10 =q 0", "50 11 =q 0", "say 60 40 = =q a\nb\n", "-", "say 60 70 =q", "60 71 1 0 = =q 0;head 4;body a\nb\n")
}

func TestDeskPublishSizes(t *testing.T) {
	blanks := strings.Repeat(" ", 3000)
	words := strings.Repeat("four ", 600)
	for _, n := range []int{1, 2, 999, 1000, 1001, 1999, 2000, 2001, 2999, 3000} {
		for _, body := range []string{strings.Repeat("b", n), blanks[:n], words[:n]} {
			want := fmt.Sprintf("60 71 1 0 = =q 0;head %d", n)
			for _, piece := range impl.Cut(body, 1000) {
				want += ";body " + piece
			}
			wantScript(t, fmt.Sprint(n, " bytes"), "say 50 10 =q 0", "50 11 =q 0", "say 60 40 = =q "+body, "-", "say 60 70 =q", want)
		}
	}
	m := wantTalk(t, "begun", deskMill(), "say 50 10 =q 0", "50 11 =q 0")
	for _, n := range []int{3001, 3002, 4000, 4001, 9000, 60001} {
		for _, fill := range []string{"b", " ", "a "} {
			wantIgnored(t, fmt.Sprint(n, " bytes"), m, "say 60 40 = =q "+strings.Repeat(fill, n)[:n], "what")
		}
	}
	wantScript(t, "one more", "say 50 10 =q 0", "50 11 =q 0", "say 60 40 = =q "+blanks+" ", "what", "say 60 40 = =q"+blanks+" ", "-", "depth q", "1")
}

// How many pieces a body has that is got: none, one, two and three.
func TestDeskGetPieces(t *testing.T) {
	long := strings.Repeat("0123456789", 250)
	wantScript(t, "pieces",
		"say 50 10 =q 0", "50 11 =q 0",
		"say 60 40 = =q", "-",
		"say 60 40 = =q x", "-",
		"say 60 40 = =q "+long[:1001], "-",
		"say 60 40 = =q "+long, "-",
		"say 60 70 =q", "60 71 1 0 = =q 3;head 0",
		"say 60 70 =q", "60 71 2 0 = =q 2;head 1;body x",
		"say 60 70 =q", "60 71 3 0 = =q 1;head 1001;body "+long[:1000]+";body 0",
		"say 60 70 =q", "60 71 4 0 = =q 0;head 2500;body "+long[:1000]+";body "+long[:1000]+";body "+long[:500],
		"say 60 70 =q", "60 72",
	)
}

// What waits on a connection is done with what is said, however many frames
// come back.
func TestDeskSayBehindOthers(t *testing.T) {
	m := deskMill()
	get := wire("1 60 70 =q")
	for n := 198; n <= 202; n++ {
		waits := keptMill(m)
		waits.Conns[0].Buf = wire("1 50 10 =q 0") + strings.Repeat(get, n-2)
		wantSay(t, fmt.Sprint(n, " frames"), waits, "say 60 70 =q", "50 11 =q 0"+strings.Repeat(";60 72", n-1))
	}
	part := keptMill(m)
	part.Conns[0].Buf = get[:5]
	wantSay(t, "a part of a frame", part, "say 20 11", "-")
	part.Conns[0].Buf = "x"
	wantSay(t, "no frame", part, "say 20 11", "10 50 =501 =frame")
	part.Conns[0].Buf = strings.Repeat("\x08", 60000)
	wantSay(t, "60000 bytes", part, "say 20 11", "10 50 =501 =frame")
	waits := millOf(namedCore("z", ""), impl.Conn{Lines: []impl.Line{waitingOf(1, 1, 2, "60 40 = =z", 5, "ab")}})
	wantSay(t, "a line that waits", waits, "say 60 70 =z", "10 50 =501 =frame")
	other := millOf(namedCore("z", ""), impl.Conn{Lines: []impl.Line{lineOf(2, 1)}})
	wantSay(t, "another line", other, "say 60 70 =z", "10 50 =501 =frame")
	second := millOf(namedCore("z", ""), impl.Conn{Closed: true}, impl.Conn{Id: 1, Lines: []impl.Line{lineOf(1, 9)}})
	wantSay(t, "the second of two", second, "say 60 70 =z", "-")
}

// Where MillFeed is false, nothing is done.
func TestDeskFull(t *testing.T) {
	m := fullMill(300)
	for _, line := range []string{"say 50 10 =new 0", "say 50 10 =s 1", "say 40 10 =x =topic", "say 60 40 = =q", "say 60 40 = =q body"} {
		wantIgnored(t, "300 pairs", m, line, "full")
	}
	m = wantTalk(t, "300 pairs", m, "say 60 70 =q", "60 71 1 0 = = 298;head 0", "say 60 40 = =q", "full", "say 60 80 1 0", "-", "say 60 40 = =q new", "-", "say 60 40 = =q", "full", "depth q", "299")
	wantTalk(t, "300 pairs, crashed", m, "crash 1000000000", "what", "crash 999999999", "done", "say 60 40 = =q", "full", "depth q", "299")
	wantIgnored(t, "a log of 200000 bytes", loggedMill(200000), "say 50 10 =new 0", "full")
	wantSay(t, "a log of 200000 bytes", loggedMill(200000), "say 60 80 1 0", "10 50 =406 =tag")
	// A script comes to it too, by one commit of more pairs than a batch has.
	talk := []string{"say 40 10 =f =fanout", "40 11"}
	for _, q := range []string{"a", "b", "c"} {
		talk = append(talk, "say 50 10 ="+q+" 0", "50 11 ="+q+" 0", "say 50 20 ="+q+" =f =", "50 21")
	}
	talk = append(talk, "say 90 10", "90 11")
	for range 19 {
		talk = append(talk, "say 60 40 =f =k", "-")
	}
	wantScript(t, "60 pairs", append(slices.Clone(talk), "say 90 20", "90 21", "depth a", "19")...)
	wantScript(t, "63 pairs", append(talk, "say 60 40 =f =k", "-", "say 90 20", "full", "depth a", "0", "say 90 20", "full", "say 90 30", "90 31", "say 90 20", "90 21")...)
}

func TestDeskSyncAndCrash(t *testing.T) {
	wantScript(t, "nothing safe", "say 50 10 =q 0", "50 11 =q 0", "depth q", "0", "crash 0", "done", "depth q", "-1")
	wantScript(t, "all kept", "say 50 10 =q 0", "50 11 =q 0", "crash 999999999", "done", "depth q", "0")
	wantScript(t, "safe", "say 50 10 =q 0", "50 11 =q 0", "sync", "done", "say 60 40 = =q x", "-", "depth q", "1", "crash 0", "done", "depth q", "0", "crash 0", "done", "depth q", "0")
	first := len(recordBytes(batchBytes([]impl.Pair{nextPair("q", 1)})))
	for keep := range first + 3 {
		depth := map[bool]string{true: "0", false: "-1"}[keep >= first]
		wantScript(t, "cut off", "say 50 10 =q 0", "50 11 =q 0", "say 60 40 = =q x", "-", fmt.Sprint("crash ", keep), "done", "depth q", depth)
	}
	// Behind a crash the tags of line 1 of a new connection begin anew.
	m := wantScript(t, "behind a crash",
		"say 50 10 =q 0", "50 11 =q 0",
		"say 60 40 = =q one", "-",
		"say 60 40 = =q two", "-",
		"say 60 70 =q", "60 71 1 0 = =q 1;head 3;body one",
		"say 60 70 =q", "60 71 2 0 = =q 0;head 3;body two",
		"tick 9", "9",
		"sync", "done",
		"crash 0", "done",
		"tick 0", "9",
		"depth q", "2",
		"say 60 80 1 0", "10 50 =406 =tag",
		"crash 0", "done",
		"say 60 70 =q", "60 71 1 1 = =q 1;head 3;body one",
		"say 60 120 1 0 0", "-",
		"say 60 70 =q", "60 71 2 1 = =q 0;head 3;body two",
		"crash 0", "done",
		"depth q", "2",
	)
	if len(m.Conns) != 1 || m.Conns[0].Closed || len(m.Conns[0].Lines) != 1 || m.Conns[0].Lines[0].No != 1 || m.Conns[0].Lines[0].Channel.Owner != 1 || m.Conns[0].Lines[0].Channel.Tag != 0 {
		t.Errorf("the connections behind a crash: %#v", m.Conns)
	}
	some := wantSay(t, "connections of another kind", someMill(), "crash 999999", "done")
	wantSame(t, "the new connection", some.Conns, deskMill().Conns)
	wantSame(t, "what is found", some.Core, settledBy(millCore()))
}

func TestDeskFlushMergeAndSize(t *testing.T) {
	wantScript(t, "sizes",
		"size", "0 0",
		"flush", "done",
		"size", "0 0",
		"say 50 10 =q 0", "50 11 =q 0",
		"size", "1 0",
		"flush", "done",
		"size", "1 1",
		"flush", "done",
		"size", "1 1",
		"say 60 40 = =q x", "-",
		"size", "3 1",
		"flush", "done",
		"size", "3 2",
		"merge 1", "done",
		"merge 7", "done",
		"merge 999999999", "done",
		"size", "3 2",
		"merge 0", "done",
		"size", "2 1",
		"merge 0", "done",
		"size", "2 1",
		"say 60 70 =q", "60 71 1 0 = =q 0;head 1;body x",
		"say 60 80 1 0", "-",
		"size", "3 1",
		"flush", "done",
		"say 60 40 = =q y", "-",
		"flush", "done",
		"size", "5 3",
		"merge 1", "done",
		"size", "3 2",
		"depth q", "1",
		"crash 999", "done",
		"size", "2 0",
	)
	m := wantSay(t, "eight runs", impl.Mill{Store: impl.Store{Table: impl.Table{Runs: make([][]impl.Pair, 8)}}}, "size", "0 8")
	wantIgnored(t, "eight runs", m, "flush", "done")
	wantSay(t, "eight runs", m, "merge 6", "done")
	wantIgnored(t, "300 pairs", fullMill(300), "size", "300 0")
}

func TestDeskTick(t *testing.T) {
	wantScript(t, "ticks", "tick 0", "0", "tick 5", "5", "tick 1000000", "1000005", "tick 1000001", "1000005", "tick 999999999", "1000005", "tick 1", "1000006")
	for line, want := range map[string]string{"tick 0": "999999999", "tick 1": "1000000000", "tick 2": "999999999", "tick 1000000": "999999999"} {
		wantSay(t, "near the end", lined(impl.MillStart(999999999)), line, want)
	}
	wantSay(t, "a wrong mill", impl.Mill{Time: -5}, "tick 3", "-5")
	wantSay(t, "no connections", impl.MillStart(7), "tick 3", "10")
	// A message that goes to a stream has the Time.
	m := wantTalk(t, "a stream", deskMill(), "say 50 10 =s 1", "50 11 =s 0", "tick 40", "40", "say 60 40 = =s x", "-")
	if got := m.Core.Streams[0].Entries[0].Time; got != 40 {
		t.Errorf("its Time is %d", got)
	}
}

func TestDeskTrimAndRead(t *testing.T) {
	wantScript(t, "a stream",
		"say 50 10 =s 1", "50 11 =s 0",
		"say 50 10 =q 0", "50 11 =q 0",
		"read s 0", "-",
		"read s 9", "-",
		"trim s 0", "done",
		"say 60 40 = =s a", "-",
		"read s 0", "a",
		"read s 1", "-",
		"say 60 40 = =s  b ", "-",
		"say 60 40 = =s c;d", "-",
		"read s 0", "a; b ;c;d",
		"say 60 40 = =s e", "-",
		"say 60 40 = =s f", "-",
		"read s 0", "a; b ;c;d",
		"read s 1", " b ;c;d;e",
		"read s 2", "c;d;e;f",
		"read s 3", "e;f",
		"read s 4", "f",
		"read s 5", "-",
		"read s 999999999", "-",
		"trim s 5", "done",
		"depth s", "5",
		"trim s 2", "done",
		"depth s", "2",
		"read s 0", "e;f",
		"read s 3", "e;f",
		"read s 4", "f",
		"trim s 999999999", "done",
		"read s 0", "e;f",
		"trim s 0", "done",
		"read s 0", "-",
		"depth s", "0",
		"say 60 40 = =s g", "-",
		"read s 0", "g",
		"read s 5", "g",
		"read s 6", "-",
	)
	// An empty body is told as itself.
	wantScript(t, "empty bodies", "say 50 10 =s 1", "50 11 =s 0", "say 60 40 = =s", "-", "read s 0", "", "say 60 40 = =s", "-", "read s 0", ";", "read s 1", "", "say 60 40 = =s x", "-", "read s 0", ";;x")
	m := wantTalk(t, "begun", deskMill(), "say 50 10 =q 0", "50 11 =q 0", "say 50 10 =s 1", "50 11 =s 0", "say 60 40 = =s a", "-")
	for _, name := range []string{"", "q", "none", "S", "s.", "=s", "*", "é", "\xff", "s\n", "0", strings.Repeat("n", 31), strings.Repeat("n", 5000)} {
		wantIgnored(t, "no stream", m, "trim "+name+" 0", "none")
		wantIgnored(t, "no stream", m, "read "+name+" 0", "none")
	}
	for _, name := range []string{"", "s", "q", "none"} {
		for _, n := range []string{"", "x", "-1", "00", "01", "+1", "1.0", "1000000000", "9223372036854775808", "1 ", " 1", "1 1", "s"} {
			wantIgnored(t, "no number", m, "trim "+name+" "+n, "what")
			wantIgnored(t, "no number", m, "read "+name+" "+n, "what")
		}
		wantIgnored(t, "without a number", m, "trim "+name, "what")
		wantIgnored(t, "without a number", m, "read "+name, "what")
	}
	wantIgnored(t, "what cannot be kept", loggedMill(200000), "trim s 0", "none")
	wantIgnored(t, "nothing to be kept", loggedMill(200000), "trim s 2", "done")
	wantIgnored(t, "more pairs than a batch has", millOf(streamCore(impl.Stream{Name: "log", Next: 90, Entries: manyEntries(0, 90)})), "trim log 30", "none")
}

func TestDeskDepth(t *testing.T) {
	wantScript(t, "depths",
		"depth q", "-1",
		"say 50 10 =q 0", "50 11 =q 0",
		"depth q", "0",
		"say 60 40 = =q x", "-",
		"say 60 40 = =q y", "-",
		"depth q", "2",
		"say 60 70 =q", "60 71 1 0 = =q 1;head 1;body x",
		"depth q", "1",
		"say 50 10 =s 1", "50 11 =s 0",
		"depth s", "0",
		"say 60 40 = =s x", "-",
		"depth s", "1",
		"depth ", "-1",
		"depth none", "-1",
		"depth Q", "-1",
		"depth =q", "-1",
		"depth 0", "-1",
		"depth é\xff", "-1",
	)
}

// A name is any word: the empty one is asked like any other one.
func TestDeskEmptyName(t *testing.T) {
	wantScript(t, "nothing there", "depth ", "-1", "trim  0", "none", "trim  1", "none", "read  0", "none", "read  999999999", "none")
	for why, m := range map[string]impl.Mill{"nothing": {}, "begun": deskMill(), "some": someMill(), "300 pairs": fullMill(300)} {
		wantIgnored(t, why, m, "depth ", "-1")
		wantIgnored(t, why, m, "trim  1", "none")
		wantIgnored(t, why, m, "read  0", "none")
		for _, line := range []string{"depth", "depth  ", "trim ", "trim  ", "trim   ", "trim  x", "trim  01", "trim   1", "trim  1 ", "read ", "read  ", "read  01", "read  1000000000"} {
			wantIgnored(t, why, m, line, "what")
		}
	}
	// Such a core is not CoreOk, but what has the empty name is found in it.
	queues := impl.Mill{Core: impl.Core{Queues: []impl.Queue{{Next: 3, Ready: []impl.Message{{Seq: 1}, {Seq: 2}}}}}}
	wantIgnored(t, "a queue", queues, "depth ", "2")
	wantIgnored(t, "a queue", queues, "trim  0", "none")
	wantIgnored(t, "a queue", queues, "read  0", "none")
	streams := impl.Mill{Core: impl.Core{Streams: []impl.Stream{{Next: 3, Entries: manyEntries(0, 3)}}}}
	wantIgnored(t, "a stream", streams, "depth ", "3")
	wantIgnored(t, "a stream", streams, "trim  0", "none")
	wantIgnored(t, "a stream", streams, "read  0", "-")
}

// notLines are lines that the document does not name.
func notLines() []string {
	out := []string{"", " ", "  ", "what", "done", "-", "x", "Sync", "SYNC", "sync\n", "\nsync", "sync\r", "sync\x00", "flush\t", "syn", "syncs", "flushed", "sync,", "\xff", "é", "tick5", "tick\t5", "tick,5", "merge0", "depthq", "trims 0", "0", "=q", "20 10", "60 70 =q", manyBytes(2000)}
	for _, word := range []string{"sync", "flush", "size"} {
		out = append(out, word+" ", " "+word, word+" 0", word+" x", word+"  ", word+" "+word)
	}
	for _, word := range []string{"merge", "crash", "tick"} {
		out = append(out, word, " "+word, " "+word+" 1", word+"  1", word+" 1 ", word+"  ", word+" 1 1", word+" 1 x", word+" x 1")
		for _, n := range []string{"", "x", "-", "-0", "-1", "00", "01", "+1", "0x1", "1.0", "1e3", "1_0", "é", "٣", "1\n", "1000000000", "1000000001", "4294967296", "9223372036854775807", "9223372036854775808", strings.Repeat("1", 50)} {
			out = append(out, word+" "+n)
		}
	}
	out = append(out, "depth", " depth", " depth ", "depth  ", "depth   ", " depth q", "depth  q", "depth q ", "depth q q", "depth q 1")
	for _, word := range []string{"trim", "read"} {
		for _, rest := range []string{"", " ", "  ", " s", " 1", " s ", "   ", "  s", "  01", "   1", "  1 ", " s  1", "  s 1", " s 1 ", " 1 s", " s 1 1", " s s 1", " s x", " s -1", " s 01"} {
			out = append(out, word+rest)
		}
		out = append(out, " "+word+" s 1")
	}
	return out
}

func TestDeskWhat(t *testing.T) {
	mills := map[string]impl.Mill{
		"begun":     wantTalk(t, "begun", deskMill(), "say 50 10 =s 1", "50 11 =s 0", "say 60 40 = =s x", "-", "say 50 10 =q 0", "50 11 =q 0", "flush", "done"),
		"nothing":   {},
		"some":      someMill(),
		"wrong":     {Time: -1, Conns: manyConns(7)},
		"300 pairs": fullMill(300),
	}
	for why, m := range mills {
		for _, line := range notLines() {
			wantIgnored(t, why, m, line, "what")
		}
	}
	script, want := "", ""
	for _, line := range notLines()[:20] {
		if !strings.Contains(line, "\n") {
			script, want = script+line+"\n", want+"what\n"
		}
	}
	if got := impl.Desk(script); got != want {
		t.Errorf("Desk(%q) = %q", script, got)
	}
}

// eachLine are lines of all kinds, with what fits someMill and what does not.
func eachLine() []string {
	out := []string{"sync", "flush", "size", "merge 0", "merge 1", "merge 9", "crash 0", "crash 1", "crash 700", "crash 999999999", "tick 0", "tick 7", "tick 1000000", "tick 1000001"}
	for _, name := range []string{"a", "m", "z", "log", "s", "q", "none", "A!", "=", ""} {
		out = append(out, "depth "+name)
		for _, n := range []int{0, 1, 3, 7, 12, 999999999} {
			out = append(out, fmt.Sprint("trim ", name, " ", n), fmt.Sprint("read ", name, " ", n))
		}
	}
	for _, words := range slices.Concat([]string{"20 10", "20 11", "10 50 = =", "7 7", "60 71 1 0 = =k 2"}, eachMethod) {
		out = append(out, "say "+words)
		if strings.HasPrefix(words, "60 40") {
			out = append(out, "say "+words+" ", "say "+words+" two  words", "say "+words+" "+strings.Repeat("b", 3000), "say "+words+" "+strings.Repeat("b", 3001))
		}
	}
	return append(out, "", " sync", "sync ", "tick  1", "what")
}

func TestDeskLineByTheWords(t *testing.T) {
	lines := eachLine()
	for _, line := range lines {
		wantLine(t, "some", someMill(), line)
		wantLine(t, "nothing", impl.Mill{}, line)
		wantLine(t, "begun", deskMill(), line)
	}
	roll := diceOf(3)
	right := rightMills()
	for why, m := range right {
		for range 12 {
			wantLine(t, why, m, lines[roll(len(lines))])
		}
	}
}

// A mill without connections answers all but what is said to a line of one.
func TestDeskLineWithoutConnections(t *testing.T) {
	core := namedCore("q", "s")
	core, _ = impl.CorePublish(core, "", "q", "x", 0)
	core, _ = impl.CorePublish(core, "", "s", "y", 0)
	for why, m := range map[string]impl.Mill{"begun": impl.MillStart(3), "some": millOf(core), "a crash": impl.MillCrash(someMill(), 9999)} {
		wantIgnored(t, why, m, "say 60 70 =q", "full")
		wantIgnored(t, why, m, "say 20 10", "full")
		wantIgnored(t, why, m, "say 10 50 = =", "full")
		wantIgnored(t, why, m, "say 60 40 = =q two  words", "full")
		wantIgnored(t, why, m, "say 60 40 = =q "+strings.Repeat("b", 3001), "what")
		wantIgnored(t, why, m, "say 7 7", "what")
		wantIgnored(t, why, m, "say", "what")
		wantSay(t, why, m, "sync", "done")
		wantSay(t, why, m, "flush", "done")
		wantSay(t, why, m, "merge 0", "done")
		wantSay(t, why, m, "tick 2", fmt.Sprint(m.Time+2))
		wantIgnored(t, why, m, "depth q", fmt.Sprint(impl.CoreDepth(m.Core, "q")))
		wantSay(t, why, m, "trim none 0", "none")
		next := wantSay(t, why, m, "crash 999999", "done")
		wantSame(t, why+": the new connection", next.Conns, deskMill().Conns)
		wantTalk(t, why, next, "say 50 10 =new 0", "50 11 =new 0", "say 60 70 =new", "60 72")
	}
	wantTalk(t, "some", millOf(core), "read s 0", "y", "trim s 0", "done", "read s 0", "-", "size", "4 0", "flush", "done", "size", "4 1")
}

// A mill that is not as it must be answers too.
func TestDeskLineOfWrongMills(t *testing.T) {
	for why, m := range wrongMills() {
		for _, line := range []string{"say 60 70 =a", "say 20 10", "say 60 40 = =q two  words", "say 90 10"} {
			wantIgnored(t, why, m, line, "full")
		}
		wantIgnored(t, why, m, "say 60", "what")
		wantIgnored(t, why, m, "tick 7", fmt.Sprint(m.Time))
		wantIgnored(t, why, m, "trim log 0", "none")
		wantIgnored(t, why, m, "sync ", "what")
		wantIgnored(t, why, m, "trim  0", "none")
		for _, line := range []string{"sync", "flush", "merge 0", "merge 1", "depth ", "read  0", "depth a", "depth s", "read log 0", "read s 0", "read a 0", "size"} {
			wantLine(t, why, m, line)
		}
		next := wantSay(t, why, m, "crash 999999999", "done")
		if ok := impl.MillOk(impl.MillCrash(m, 999999999)); ok != (len(next.Conns) == 1) || !ok && len(next.Conns) > 0 {
			t.Errorf("%s: behind a crash there are %d connections", why, len(next.Conns))
		}
	}
	// Of streams without order, and of one that is there twice.
	for _, names := range []string{"b a c", "c b a", "a a b"} {
		m := impl.Mill{Core: namedCore("q", names)}
		for i := range m.Core.Streams {
			m.Core.Streams[i].Next, m.Core.Streams[i].Entries = 1, []impl.Entry{{Body: fmt.Sprint("body ", i)}}
		}
		wantIgnored(t, names, m, "read a 0", fmt.Sprint("body ", strings.Index(names, "a")/2))
		wantIgnored(t, names, m, "depth a", "1")
		wantIgnored(t, names, m, "read q 0", "none")
	}
	wrong := impl.Mill{Core: impl.Core{Streams: []impl.Stream{{Name: "s", Next: 5, Entries: manyEntries(0, 3)}}}}
	wantIgnored(t, "a stream that is not StreamOk", wrong, "read s 0", "-")
}

func TestDeskScripts(t *testing.T) {
	for text, want := range map[string]string{
		"":                      "",
		"\n":                    "what\n",
		"\n\n":                  "what\nwhat\n",
		"sync\n":                "done\n",
		"sync\r\n":              "what\n",
		"sync\n\nsize\n":        "done\nwhat\n0 0\n",
		"say 50 10 =q 0\n":      "50 11 =q 0\n",
		"say 60 40 = =q \n":     "-\n",
		"tick 3\ntick 4\n":      "3\n7\n",
		"sync":                  "long\n",
		"sync\nsync":            "long\n",
		"\nx":                   "long\n",
		" ":                     "long\n",
		"\r":                    "long\n",
		"sync\n ":               "long\n",
		"sync\n\x00":            "long\n",
		"tick 3\ntick 4\ntick ": "long\n",
	} {
		if got := impl.Desk(text); got != want {
			t.Errorf("Desk(%q) = %q; want %q", text, got, want)
		}
	}
}

func TestDeskScriptSizes(t *testing.T) {
	for _, n := range []int{9998, 9999, 10000, 10001, 10002, 20000, 100000} {
		one := strings.Repeat("x", n-1) + "\n"
		want := "what\n"
		if n > 10000 {
			want = "long\n"
		}
		if got := impl.Desk(one); got != want {
			t.Errorf("%d bytes: %q; want %q", n, got, want)
		}
		if got := impl.Desk(one[1:] + "x"); got != "long\n" {
			t.Errorf("%d bytes without a newline: %q", n, got)
		}
		some := "tick 7\n" + strings.Repeat("x", n-15) + "\ntick 8\n"
		if want == "what\n" {
			want = "7\nwhat\n15\n"
		}
		if got := impl.Desk(some); got != want {
			t.Errorf("three lines of %d bytes: %q; want %q", n, got, want)
		}
	}
	for _, n := range []int{1, 2, 99, 100, 101, 102, 1000, 9999, 10000} {
		for line, answer := range map[string]string{"": "what\n", "sync": "done\n", "x": "what\n"} {
			text, want := strings.Repeat(line+"\n", n), strings.Repeat(answer, n)
			if n > 100 || len(text) > 10000 {
				want = "long\n"
			}
			if got := impl.Desk(text); got != want {
				t.Errorf("%d lines of %q: %q; want %q", n, line, got, want)
			}
			if got := impl.Desk(text + "x"); got != "long\n" {
				t.Errorf("%d lines and a part: %q", n, got)
			}
		}
	}
}

// deskWalk makes scripts at random, upon the mill that they have come to.
type deskWalk struct {
	mill impl.Mill
	roll func(n int) int
}

func (w *deskWalk) pick(list ...string) string { return list[w.roll(len(list))] }

// method is the words of a method, most such as fit.
func (w *deskWalk) method() string {
	name := w.pick("q", "r", "q", "r", "s", "u", "none")
	tags := heldBy(w.mill.Core, 1)
	tag := 1 + w.roll(9)
	if len(tags) > 0 && w.roll(9) > 0 {
		tag = tags[w.roll(len(tags))]
	}
	switch w.roll(16) {
	case 0:
		return "50 10 =" + w.pick("q 0", "r 0", "s 1", "u 1")
	case 1:
		return "40 10 =x =" + w.pick("fanout", "fanout", "fanout", "topic")
	case 2:
		return "50 20 =" + name + " =x =" + w.pick("", "a.*", "#")
	case 3:
		return w.pick("90 10", "90 20", "90 30", "85 10 1", "20 10", "10 50 = =")
	case 4, 5, 6:
		return "60 70 =" + w.pick("q", "r", "q", "r", "q", "r", "q", "none")
	case 7:
		return fmt.Sprintf("60 80 %d %d", tag, w.roll(2))
	case 8:
		return fmt.Sprintf("60 120 %d %d %d", tag, w.roll(2), w.roll(2))
	case 9:
		return eachMethod[w.roll(len(eachMethod))]
	}
	body := ""
	if w.roll(3) > 0 {
		body = " " + strings.Repeat(w.pick("a b  ", "x", " ", "word;", "\xff\x00"), w.roll(30))
	}
	return "60 40 =" + w.pick("", "", "x") + " =" + name + body
}

func (w *deskWalk) line() string {
	// What has closed the line or the connection is mended soon, or a script
	// would come to little.
	if n := w.mill.Conns[0]; w.roll(3) > 0 && len(n.Lines) == 0 {
		return map[bool]string{true: "crash 99999", false: "say 20 10"}[n.Closed]
	}
	switch w.roll(20) {
	case 0:
		return w.pick("sync", "size", "flush", "flush")
	case 1:
		return fmt.Sprint("merge ", w.roll(3))
	case 2:
		if w.roll(3) == 0 {
			return fmt.Sprint("crash ", w.roll(400))
		}
		return fmt.Sprint("tick ", w.roll(50))
	case 3:
		return fmt.Sprintf("trim %s %d", w.pick("s", "u", "q", "none", ""), w.roll(6))
	case 4, 5:
		return fmt.Sprintf("read %s %d", w.pick("s", "u", "q", "none", ""), w.roll(6))
	case 6, 7:
		return "depth " + w.pick("q", "r", "s", "u", "none", "")
	case 8:
		list := notLines()
		return strings.ReplaceAll(list[w.roll(len(list))], "\n", "")
	}
	return "say " + w.method()
}

// script is some lines that are a script together; the first ones declare what
// the others ask for.
func (w *deskWalk) script() []string {
	out := []string{"say 50 10 =q 0", "say 50 10 =r 0", "say 50 10 =s 1", "say 40 10 =x =fanout", "say 50 20 =q =x =", "say 50 20 =s =x ="}
	size := 0
	for _, line := range out {
		size += len(line) + 1
		w.mill, _ = impl.DeskLine(w.mill, line)
	}
	for range w.roll(95) {
		line := w.line()
		if size += len(line) + 1; size > 10000 {
			break
		}
		out = append(out, line)
		w.mill, _ = impl.DeskLine(w.mill, line)
	}
	return out
}

// wantBeginnings wants each beginning of a script that is one to be answered by
// a beginning of what the whole is answered by, with a line for each.
func wantBeginnings(t *testing.T, lines []string) string {
	t.Helper()
	text := strings.Join(lines, "\n") + "\n"
	whole := impl.Desk(text)
	if strings.Count(whole, "\n") != len(lines) {
		t.Errorf("Desk(%q) = %q, which are not %d lines", text, whole, len(lines))
	}
	m, want, begin := deskMill(), "", ""
	for i, line := range lines {
		next, said := wantLine(t, fmt.Sprint("line ", i), m, line)
		m, want, begin = next, want+said+"\n", begin+line+"\n"
		got := impl.Desk(begin)
		if got != want || !strings.HasPrefix(whole, got) {
			t.Fatalf("Desk(%q) = %q; want %q, and the beginning of %q", begin, got, want, whole)
		}
	}
	return whole
}

// TestDeskByPromise takes scripts at random: what is told of each begins with
// what is told of its beginnings, and is what DeskLine tells line by line.
func TestDeskByPromise(t *testing.T) {
	counts := map[string]int{}
	for seed := range uint32(30) {
		w := &deskWalk{mill: deskMill(), roll: diceOf(1500 + seed)}
		lines := w.script()
		answers := strings.Split(wantBeginnings(t, lines), "\n")
		for i, line := range lines {
			word, _, _ := strings.Cut(line, " ")
			counts[word]++
			word, _, _ = strings.Cut(answers[i], ";")
			if strings.HasPrefix(word, "60 71") {
				word = "60 71"
			}
			counts[word]++
		}
	}
	wantCounts(t, counts, map[string]int{"say": 300, "trim": 20, "read": 40, "depth": 40, "crash": 5, "tick": 10, "merge": 10, "sync": 5, "size": 5, "what": 30, "-": 60, "60 71": 30, "none": 20, "10 50 =501 =frame": 5})
	wantBeginnings(t, []string{""})
	wantBeginnings(t, slices.Repeat([]string{"tick 1"}, 100))
	wantBeginnings(t, []string{"say 50 10 =q 0", "say 60 40 = =q " + strings.Repeat("b", 3000), "say 60 40 = =q " + strings.Repeat(" ", 3000), "say 60 40 = =q " + strings.Repeat("b", 3001), "say 60 70 =q", "say 60 70 =q", "crash 3500", "say 60 70 =q", "size"})
}

// deskAsked is a mill with a line, or a text, that is asked of it.
type deskAsked struct {
	Mill impl.Mill
	Line string
}

func TestDeskMemory(t *testing.T) {
	line := func(x deskAsked) []any { m, said := impl.DeskLine(x.Mill, x.Line); return []any{m, said} }
	for why, m := range memoryMills() {
		for _, text := range eachLine() {
			wantApart(t, why+": DeskLine "+text, deskAsked{m, text}, line)
		}
	}
	desk := func(s string) []any { return []any{impl.Desk(s)} }
	for _, text := range []string{"", "x", "\n", "sync\n", "say 60 70 =q\n", "say 50 10 =s 1\nsay 60 40 = =s a\nread s 0\n", "long"} {
		wantApart(t, "Desk", text, desk)
	}
	read := func(s string) []any { m, ok := impl.ReadMethod(s); return []any{m, ok} }
	for _, k := range knownMethods {
		for _, m := range wordMethods(k) {
			wantApart(t, "ReadMethod", impl.MethodText(m), read)
			wantApart(t, "ReadMethod", impl.MethodText(m)+" =x", read)
		}
	}
}
