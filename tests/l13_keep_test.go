package tests

import (
	"fmt"
	"math"
	"slices"
	"strings"
	"testing"

	"loop.example/g00227/impl"
)

// numBytes, shortText and longText are a number and texts as their bytes.
func numBytes(n int, size int) string {
	out := make([]byte, size)
	for i := range out {
		out[size-1-i] = byte(n >> (8 * i))
	}
	return string(out)
}

func shortText(s string) string { return numBytes(len(s), 1) + s }

func longText(s string) string { return numBytes(len(s), 4) + s }

// kindPair, boundPair and those behind them are pairs of what is kept, by the
// words of the document.
func kindPair(name string, kind int) impl.Pair { return pairOf("x/"+name, fmt.Sprint(kind)) }

func boundPair(place int, b impl.Binding) impl.Pair {
	return pairOf(fmt.Sprintf("b/%03d", place), shortText(b.Exchange)+shortText(b.Key)+shortText(b.Queue))
}

func nextPair(queue string, next int) impl.Pair { return pairOf("q/"+queue, numBytes(next, 8)) }

func mailPair(queue string, m impl.Message) impl.Pair {
	last := "\x00"
	if m.Again {
		last = "\x01"
	}
	return pairOf(fmt.Sprintf("m/%s/%09d", queue, m.Seq), shortText(m.Exchange)+shortText(m.Key)+longText(m.Body)+last)
}

func spanPair(stream string, low int, next int) impl.Pair {
	return pairOf("s/"+stream, numBytes(low, 8)+numBytes(next, 8))
}

func timePair(stream string, e impl.Entry) impl.Pair {
	return pairOf(fmt.Sprintf("t/%s/%09d", stream, e.Offset), numBytes(e.Time, 4)+longText(e.Body))
}

func readerPair(stream string, m impl.Mark) impl.Pair {
	return pairOf("k/"+stream+"/"+m.Reader, numBytes(m.Offset, 8))
}

// againOf is a message that was handed out before.
func againOf(m impl.Message) impl.Message {
	m.Again = true
	return m
}

func sortPairs(list []impl.Pair) []impl.Pair {
	slices.SortStableFunc(list, func(a, b impl.Pair) int { return strings.Compare(a.Key, b.Key) })
	return list
}

// keptBy are the pairs of a core, by the words of the document, whether it is
// right or not.
func keptBy(c impl.Core) []impl.Pair {
	var out []impl.Pair
	for _, e := range c.Routes.Exchanges {
		out = append(out, kindPair(e.Name, e.Kind))
	}
	for i, b := range c.Routes.Bindings {
		out = append(out, boundPair(i, b))
	}
	for _, q := range c.Queues {
		out = append(out, nextPair(q.Name, q.Next))
		for _, m := range q.Ready {
			out = append(out, mailPair(q.Name, m))
		}
		for _, h := range q.Held {
			out = append(out, mailPair(q.Name, againOf(h.Message)))
		}
	}
	for _, s := range c.Streams {
		out = append(out, spanPair(s.Name, s.Low, s.Next))
		for _, e := range s.Entries {
			out = append(out, timePair(s.Name, e))
		}
		for _, m := range s.Marks {
			out = append(out, readerPair(s.Name, m))
		}
	}
	return sortPairs(out)
}

// settledBy is a right core in which nothing is held any more.
func settledBy(c impl.Core) impl.Core {
	next := keptCore(c)
	for i := range next.Queues {
		q := &next.Queues[i]
		for _, h := range q.Held {
			q.Ready = append(q.Ready, againOf(h.Message))
		}
		q.Held = nil
		slices.SortFunc(q.Ready, func(a, b impl.Message) int { return a.Seq - b.Seq })
	}
	return next
}

// appliedBy is what a batch makes of pairs, pair by pair.
func appliedBy(old []impl.Pair, batch []impl.Pair) []impl.Pair {
	out := slices.Clone(old)
	for _, p := range batch {
		out = slices.DeleteFunc(out, func(o impl.Pair) bool { return o.Key == p.Key })
		if !p.Gone {
			out = append(out, p)
		}
	}
	return sortPairs(out)
}

// routesOf are routes of one exchange with n bindings.
func routesOf(n int) impl.Routes {
	return impl.Routes{Exchanges: []impl.Exchange{{Name: "x"}}, Bindings: manyBindings("x", n)}
}

// queueCore and streamCore are cores of one queue or stream alone.
func queueCore(q impl.Queue) impl.Core { return impl.Core{Queues: []impl.Queue{q}} }

func streamCore(s impl.Stream) impl.Core { return impl.Core{Streams: []impl.Stream{s}} }

// nestedNames are names of which some are the beginnings of others; some bytes
// of them are less than a slash, and some are greater.
func nestedNames() []string {
	return []string{"-", "-a", ".", "0", "_", "a", "a-", "a-b", "a.", "a.b", "a.b.c", "a0", "a00", "a_", "aa", "b"}
}

// nestedCore has queues and streams with such names, each with something in it.
func nestedCore() impl.Core {
	var c impl.Core
	for i, name := range nestedNames() {
		c.Routes.Exchanges = append(c.Routes.Exchanges, impl.Exchange{Name: name, Kind: i % 3})
		if i%2 == 0 {
			c.Queues = append(c.Queues, impl.Queue{Name: name, Next: 12, Ready: []impl.Message{messageOf(i%3 + 1), messageOf(11)}})
			continue
		}
		s := streamOf(i, 5, 6)
		s.Name = name
		for _, reader := range nestedNames() {
			s.Marks = append(s.Marks, impl.Mark{Reader: reader, Offset: i})
		}
		c.Streams = append(c.Streams, s)
	}
	return c
}

// endCore has the greatest numbers and the longest texts that there are.
func endCore() impl.Core {
	name, long := strings.Repeat("n", 30), strings.Repeat("z", 30)
	key, body := strings.Repeat("~", 60), strings.Repeat("\xff", 3000)
	return impl.Core{
		Routes: impl.Routes{
			Exchanges: []impl.Exchange{{Name: name, Kind: impl.KindTopic}},
			Bindings:  []impl.Binding{{Exchange: name, Key: "", Queue: "a"}, {Exchange: name, Key: key, Queue: long}},
		},
		Queues: []impl.Queue{{
			Name: name,
			Next: billion,
			Ready: []impl.Message{
				{Seq: 1}, {Seq: 10, Body: "\x00"}, {Seq: 99999999, Key: "k"}, {Seq: 100000000, Exchange: "x"},
				{Seq: 999999998, Exchange: name, Key: key, Body: body}, {Seq: 999999999, Body: manyBytes(300), Again: true},
			},
		}},
		Streams: []impl.Stream{{
			Name:    long,
			Low:     999999998,
			Next:    billion,
			Entries: []impl.Entry{{Offset: 999999998, Body: body}, {Offset: 999999999, Time: billion}},
			Marks:   []impl.Mark{{Reader: "a", Offset: 0}, {Reader: name, Offset: billion}, {Reader: long, Offset: 999999999}},
		}},
	}
}

// keepCores are right cores, by what is to be seen in them.
func keepCores() map[string]impl.Core {
	out := rightCores()
	out["an exchange that is direct"] = impl.Core{Routes: impl.Routes{Exchanges: []impl.Exchange{{Name: "x", Kind: impl.KindDirect}}}}
	out["an exchange that is fanout"] = impl.Core{Routes: impl.Routes{Exchanges: []impl.Exchange{{Name: "x", Kind: impl.KindFanout}}}}
	out["an exchange that is topic"] = impl.Core{Routes: impl.Routes{Exchanges: []impl.Exchange{{Name: "x", Kind: impl.KindTopic}}}}
	out["60 exchanges"] = impl.Core{Routes: impl.Routes{Exchanges: manyExchanges(60)}}
	for _, n := range []int{1, 9, 10, 11, 59, 60} {
		out[fmt.Sprint(n, " bindings")] = impl.Core{Routes: routesOf(n)}
	}
	out["a queue without messages"] = queueCore(impl.Queue{Name: "q", Next: 1})
	out["a queue whose messages are gone"] = queueCore(impl.Queue{Name: "q", Next: 77})
	out["a queue at its end"] = queueCore(impl.Queue{Name: "q", Next: billion})
	out["a queue with messages"] = queueCore(impl.Queue{Name: "q", Next: 9, Ready: []impl.Message{messageOf(2), againOf(messageOf(5)), messageOf(8)}})
	out["a queue of which all is held"] = queueCore(impl.Queue{Name: "q", Next: 9, Held: []impl.Held{heldOf(1, 1, 8), heldOf(2, 1, 3)}})
	out["some queue"] = queueCore(someQueue())
	out["500 that are ready"] = queueCore(impl.Queue{Name: "q", Next: 501, Ready: manyReady(1, 500)})
	out["500 that are held"] = queueCore(impl.Queue{Name: "q", Next: 600, Held: manyHeld(60, 500)})
	out["500 of both"] = queueCore(impl.Queue{Name: "q", Next: 600, Ready: manyReady(300, 200), Held: manyHeld(1, 299)})
	out["a stream without entries"] = streamCore(impl.Stream{Name: "s"})
	out["a stream with entries"] = streamCore(streamOf(0, 1, 2, 2))
	out["a stream that was trimmed"] = streamCore(streamOf(700, 1, 2, 2))
	out["a stream with nothing but marks"] = streamCore(trimmedStream())
	out["some stream"] = streamCore(someStream())
	out["400 entries"] = streamCore(impl.Stream{Name: "s", Low: 9, Next: 409, Entries: manyEntries(9, 400), Marks: manyMarks(20)})
	out["names that begin others"] = nestedCore()
	out["greatest numbers and longest texts"] = endCore()
	return out
}

// wantPairs wants Pairs of a core to be these, ascending.
func wantPairs(t *testing.T, why string, c impl.Core, want []impl.Pair) {
	t.Helper()
	got := impl.Pairs(c)
	wantSame(t, why+": Pairs", got, want)
	for i := range got {
		if i > 0 && got[i-1].Key >= got[i].Key {
			t.Errorf("%s: Pairs: %q stands ahead of %q", why, got[i-1].Key, got[i].Key)
		}
	}
}

// wantLoaded wants Load of a list to be a core, which is right.
func wantLoaded(t *testing.T, why string, list []impl.Pair, want impl.Core) {
	t.Helper()
	got, ok := impl.Load(list)
	wantDone(t, why+": Load", impl.CoreOk, got, ok, want)
}

func wantNotLoaded(t *testing.T, why string, list []impl.Pair) {
	t.Helper()
	got, ok := impl.Load(list)
	wantLeft(t, why+": Load", got, ok, impl.Core{})
}

// wantLoadedIfPairs wants Load to be true of a list just where it is what is
// kept of the core that comes out, in which nothing is held.
func wantLoadedIfPairs(t *testing.T, why string, list []impl.Pair) bool {
	t.Helper()
	got, ok := impl.Load(list)
	if !ok {
		wantSame(t, why+": Load, false", got, impl.Core{})
		return false
	}
	wantSame(t, why+": what is kept of what Load answers", keptBy(got), list)
	wantSame(t, why+": Load, settled", got, settledBy(got))
	wantCoreOk(t, why+": Load", got, true)
	return true
}

func TestDigits(t *testing.T) {
	for _, r := range []struct {
		n, size int
		want    string
	}{
		{0, 1, "0"}, {0, 2, "00"}, {0, 18, "000000000000000000"},
		{7, 3, "007"}, {9, 1, "9"}, {10, 1, ""}, {9, 2, "09"}, {10, 2, "10"}, {10, 3, "010"}, {99, 2, "99"}, {100, 2, ""},
		{999, 3, "999"}, {1000, 3, ""}, {1000, 4, "1000"}, {12345, 9, "000012345"}, {999999999, 9, "999999999"}, {billion, 9, ""}, {billion, 10, "1000000000"},
		{999999999999999999, 18, "999999999999999999"}, {1000000000000000000, 18, ""}, {99999999999999999, 18, "099999999999999999"}, {999999999999999999, 17, ""},
		{math.MaxInt, 18, ""}, {math.MaxInt, 19, ""}, {1000000000000000000, 19, ""},
		{-1, 1, ""}, {-1, 2, ""}, {-1, 3, ""}, {-7, 18, ""}, {math.MinInt, 18, ""}, {math.MinInt, 1, ""},
		{0, 0, ""}, {1, 0, ""}, {0, -1, ""}, {1, -1, ""}, {1, 19, ""}, {0, 19, ""}, {0, 20, ""}, {5, 4294967297, ""}, {5, math.MaxInt, ""}, {5, math.MinInt, ""},
	} {
		if got := impl.Digits(r.n, r.size); got != r.want {
			t.Errorf("Digits(%d, %d) = %q; want %q", r.n, r.size, got, r.want)
		}
	}
}

// Of each size the greatest number that it holds, one more, and some below.
func TestDigitsOfEachSize(t *testing.T) {
	over := 1
	for size := 1; size <= 18; size++ {
		over *= 10
		for _, n := range []int{0, 1, over / 10, over/10 - 1, over / 3, over - 1} {
			if got, want := impl.Digits(n, size), fmt.Sprintf("%0*d", size, n); got != want {
				t.Errorf("Digits(%d, %d) = %q; want %q", n, size, got, want)
			}
		}
		for _, n := range []int{over, over + 1, -1, -over, math.MaxInt} {
			if got := impl.Digits(n, size); got != "" {
				t.Errorf("Digits(%d, %d) = %q; want nothing", n, size, got)
			}
		}
	}
}

func TestSettled(t *testing.T) {
	one := queueCore(impl.Queue{Name: "q", Next: 7, Ready: []impl.Message{messageOf(2), againOf(messageOf(4))}, Held: []impl.Held{heldOf(3, 1, 5), heldOf(3, 2, 1), heldOf(3, 9, 3)}})
	wantSame(t, "one owner", impl.Settled(one), queueCore(impl.Queue{
		Name:  "q",
		Next:  7,
		Ready: []impl.Message{againOf(messageOf(1)), messageOf(2), againOf(messageOf(3)), againOf(messageOf(4)), againOf(messageOf(5))},
	}))
	want := someCore()
	want.Queues[0].Ready, want.Queues[0].Held = nil, nil
	for seq := 1; seq <= 12; seq++ {
		switch seq {
		case 3, 5, 8, 11:
			want.Queues[0].Ready = append(want.Queues[0].Ready, messageOf(seq))
		case 7:
		default:
			want.Queues[0].Ready = append(want.Queues[0].Ready, againOf(messageOf(seq)))
		}
	}
	want.Queues[1].Ready = []impl.Message{againOf(messageOf(1)), messageOf(2), againOf(messageOf(3)), againOf(messageOf(5)), messageOf(7), againOf(messageOf(8)), againOf(messageOf(9))}
	want.Queues[1].Held = nil
	wantSame(t, "several owners and queues", impl.Settled(someCore()), want)
}

func TestSettledOfEach(t *testing.T) {
	for why, c := range keepCores() {
		got := impl.Settled(c)
		wantSame(t, why+": Settled", got, settledBy(c))
		wantCoreOk(t, why+": Settled", got, true)
		wantSame(t, why+": Settled again", impl.Settled(got), got)
	}
	for _, owner := range []int{0, 1, 999, 1000} {
		c := queueCore(impl.Queue{Name: "q", Next: 3, Held: []impl.Held{heldOf(owner, 1, 2), heldOf(owner, billion, 1)}})
		wantSame(t, fmt.Sprint("owner ", owner), impl.Settled(c), queueCore(impl.Queue{Name: "q", Next: 3, Ready: []impl.Message{againOf(messageOf(1)), againOf(messageOf(2))}}))
	}
}

// Where nothing is held, what is settled is what there was.
func TestSettledOfNothingHeld(t *testing.T) {
	for why, c := range keepCores() {
		c = settledBy(c)
		wantSame(t, why, impl.Settled(c), c)
	}
}

func TestSettledOfWrongCores(t *testing.T) {
	for why, c := range wrongCores() {
		wantSame(t, why, impl.Settled(c), c)
	}
	wrong := someCore()
	wrong.Streams[0].Next++
	wantSame(t, "a stream is wrong", impl.Settled(wrong), wrong)
}

func TestPairsOfNothing(t *testing.T) {
	wantPairs(t, "nothing", impl.Core{}, nil)
	wantPairs(t, "lists of none", impl.Core{Routes: impl.Routes{Exchanges: []impl.Exchange{}}, Queues: []impl.Queue{}}, nil)
}

func TestPairsOfRoutes(t *testing.T) {
	wantPairs(t, "an exchange of each kind", impl.Core{Routes: impl.Routes{Exchanges: []impl.Exchange{{Name: "a", Kind: impl.KindTopic}, {Name: "b", Kind: impl.KindDirect}, {Name: "c", Kind: impl.KindFanout}}}},
		[]impl.Pair{pairOf("x/a", "2"), pairOf("x/b", "0"), pairOf("x/c", "1")})
	wantPairs(t, "a binding", impl.Core{Routes: impl.Routes{Exchanges: []impl.Exchange{{Name: "ex", Kind: 1}}, Bindings: []impl.Binding{{Exchange: "ex", Queue: "mail"}, {Exchange: "ex", Key: "a.*", Queue: "q"}}}},
		[]impl.Pair{pairOf("b/000", "\x02ex\x00\x04mail"), pairOf("b/001", "\x02ex\x03a.*\x01q"), pairOf("x/ex", "1")})
}

// The places of bindings go in the order of numbers, as far as there may be
// bindings.
func TestPairsOfPlaces(t *testing.T) {
	for _, n := range []int{1, 9, 10, 11, 59, 60} {
		got := impl.Pairs(impl.Core{Routes: routesOf(n)})
		if len(got) != n+1 {
			t.Fatalf("%d bindings have %d pairs", n, len(got))
		}
		for i := range n {
			want := pairOf(fmt.Sprintf("b/0%d%d", i/10, i%10), fmt.Sprintf("\x01x\x04k%03d\x01q", i))
			wantSame(t, fmt.Sprintf("binding %d of %d", i, n), got[i], want)
		}
	}
	for _, n := range []int{61, 100, 101, 1001} {
		wantPairs(t, fmt.Sprint(n, " bindings"), impl.Core{Routes: routesOf(n)}, nil)
	}
}

func TestPairsOfQueues(t *testing.T) {
	wantPairs(t, "without messages", queueCore(impl.Queue{Name: "q", Next: 1}), []impl.Pair{pairOf("q/q", "\x00\x00\x00\x00\x00\x00\x00\x01")})
	wantPairs(t, "none any more", queueCore(impl.Queue{Name: "q", Next: 258}), []impl.Pair{pairOf("q/q", "\x00\x00\x00\x00\x00\x00\x01\x02")})
	q := impl.Queue{
		Name:  "q",
		Next:  15,
		Ready: []impl.Message{{Seq: 2, Exchange: "ex", Key: "k.1", Body: "two"}, {Seq: 9, Again: true}, {Seq: 10, Key: "k"}},
		Held:  []impl.Held{{Owner: 1, Tag: 7, Message: impl.Message{Seq: 14, Body: "held"}}, {Owner: 2, Tag: 1, Message: impl.Message{Seq: 1, Exchange: "e", Again: true}}},
	}
	wantPairs(t, "with messages", queueCore(q), []impl.Pair{
		pairOf("m/q/000000001", "\x01e\x00\x00\x00\x00\x00\x01"),
		pairOf("m/q/000000002", "\x02ex\x03k.1\x00\x00\x00\x03two\x00"),
		pairOf("m/q/000000009", "\x00\x00\x00\x00\x00\x00\x01"),
		pairOf("m/q/000000010", "\x00\x01k\x00\x00\x00\x00\x00"),
		pairOf("m/q/000000014", "\x00\x00\x00\x00\x00\x04held\x01"),
		pairOf("q/q", "\x00\x00\x00\x00\x00\x00\x00\x0f"),
	})
}

func TestPairsOfStreams(t *testing.T) {
	wantPairs(t, "without entries", streamCore(impl.Stream{Name: "s"}), []impl.Pair{pairOf("s/s", strings.Repeat("\x00", 16))})
	s := impl.Stream{
		Name:    "s",
		Low:     9,
		Next:    12,
		Entries: []impl.Entry{{Offset: 9, Time: 0, Body: "nine"}, {Offset: 10, Time: 258}, {Offset: 11, Time: billion, Body: "\x00\xff"}},
		Marks:   []impl.Mark{{Reader: "ann", Offset: 0}, {Reader: "ben", Offset: 12}},
	}
	wantPairs(t, "with entries and marks", streamCore(s), []impl.Pair{
		pairOf("k/s/ann", "\x00\x00\x00\x00\x00\x00\x00\x00"),
		pairOf("k/s/ben", "\x00\x00\x00\x00\x00\x00\x00\x0c"),
		pairOf("s/s", "\x00\x00\x00\x00\x00\x00\x00\x09\x00\x00\x00\x00\x00\x00\x00\x0c"),
		pairOf("t/s/000000009", "\x00\x00\x00\x00\x00\x00\x00\x04nine"),
		pairOf("t/s/000000010", "\x00\x00\x01\x02\x00\x00\x00\x00"),
		pairOf("t/s/000000011", "\x3b\x9a\xca\x00\x00\x00\x00\x02\x00\xff"),
	})
}

// Keys do not stand in the order of the names in them: a- is behind a, but a-/
// ahead of a/.
func TestPairsOfNestedNames(t *testing.T) {
	c := impl.Core{Queues: []impl.Queue{{Name: "a", Next: 2, Ready: []impl.Message{{Seq: 1}}}, {Name: "a-", Next: 2, Ready: []impl.Message{{Seq: 1}}}, {Name: "a0", Next: 2, Ready: []impl.Message{{Seq: 1}}}}}
	var keys []string
	for _, p := range impl.Pairs(c) {
		keys = append(keys, p.Key)
	}
	wantSame(t, "keys", keys, []string{"m/a-/000000001", "m/a/000000001", "m/a0/000000001", "q/a", "q/a-", "q/a0"})
	wantPairs(t, "nested names", nestedCore(), keptBy(nestedCore()))
}

func TestPairsOfEach(t *testing.T) {
	for why, c := range keepCores() {
		wantPairs(t, why, c, keptBy(c))
		wantPairs(t, why+", settled", impl.Settled(c), keptBy(c))
		for _, p := range impl.Pairs(c) {
			if p.Gone || len(p.Key) > 100 || len(p.Value) > 4000 {
				t.Errorf("%s: %#v is none of a table", why, p)
			}
		}
	}
}

func TestPairsOfWrongCores(t *testing.T) {
	for why, c := range wrongCores() {
		wantPairs(t, why, c, nil)
	}
}

func TestCoreComesBack(t *testing.T) {
	for why, c := range keepCores() {
		wantLoaded(t, why, keptBy(c), settledBy(c))
		wantLoaded(t, why+", of Pairs", impl.Pairs(c), impl.Settled(c))
	}
	wantLoaded(t, "no pairs", nil, impl.Core{})
	wantLoaded(t, "a list of none", []impl.Pair{}, impl.Core{})
}

// Out of order, one twice, or one Gone: no list of a core.
func TestLoadOfWrongLists(t *testing.T) {
	for why, c := range keepCores() {
		list := keptBy(c)
		if len(list) > 100 {
			continue
		}
		for i, p := range list {
			at := fmt.Sprintf("%s: %s", why, p.Key)
			wantNotLoaded(t, at+" twice", slices.Insert(slices.Clone(list), i, p))
			wantNotLoaded(t, at+" at the end too", append(slices.Clone(list), p, pairOf("z", "")))
			wantNotLoaded(t, at+" is Gone", slices.Replace(slices.Clone(list), i, i+1, goneOf(p.Key)))
			wantNotLoaded(t, at+" is Gone with its value", slices.Replace(slices.Clone(list), i, i+1, impl.Pair{Key: p.Key, Value: p.Value, Gone: true}))
			wantNotLoaded(t, at+" and a Gone one", slices.Insert(slices.Clone(list), i, goneOf(p.Key)))
			wantNotLoaded(t, at+" with another value too", slices.Insert(slices.Clone(list), i, pairOf(p.Key, p.Value+"\x00")))
			if i > 0 {
				swapped := slices.Clone(list)
				swapped[i-1], swapped[i] = swapped[i], swapped[i-1]
				wantNotLoaded(t, at+" in the place of the one ahead", swapped)
			}
		}
		if len(list) > 1 {
			slices.Reverse(list)
			wantNotLoaded(t, why+", the other way round", list)
		}
	}
}

// mayLack tells whether a core is kept by a list without its pair of a key.
func mayLack(c impl.Core, key string) bool {
	head, rest, _ := strings.Cut(key, "/")
	switch head {
	case "x":
		return !slices.ContainsFunc(c.Routes.Bindings, func(b impl.Binding) bool { return b.Exchange == rest })
	case "b":
		return key == fmt.Sprintf("b/%03d", len(c.Routes.Bindings)-1)
	case "q":
		return slices.ContainsFunc(c.Queues, func(q impl.Queue) bool { return q.Name == rest && len(q.Ready)+len(q.Held) == 0 })
	case "s":
		return slices.ContainsFunc(c.Streams, func(s impl.Stream) bool { return s.Name == rest && len(s.Entries)+len(s.Marks) == 0 })
	}
	return head != "t"
}

func TestLoadOfOneLess(t *testing.T) {
	for why, c := range keepCores() {
		list := keptBy(c)
		if len(list) > 350 {
			continue
		}
		for i, p := range list {
			less := slices.Delete(slices.Clone(list), i, i+1)
			if got := wantLoadedIfPairs(t, why, less); got != mayLack(c, p.Key) {
				t.Errorf("%s, without %s: Load is %v", why, p.Key, got)
			}
		}
	}
}

// keepList are pairs with one of each kind and more.
func keepList() []impl.Pair {
	x := impl.Binding{Exchange: "f", Key: "k", Queue: "q"}
	return sortPairs([]impl.Pair{
		kindPair("f", 1), kindPair("t", 2), boundPair(0, x), boundPair(1, impl.Binding{Exchange: "f", Key: "k", Queue: "s"}),
		nextPair("q", 9), mailPair("q", messageOf(3)), mailPair("q", againOf(messageOf(5))),
		spanPair("s", 4, 6), timePair("s", entryOf(4, 10)), timePair("s", entryOf(5, 20)),
		readerPair("s", impl.Mark{Reader: "ann", Offset: 6}), readerPair("s", impl.Mark{Reader: "ben"}),
	})
}

// withKept is keepList with pairs more, each in its place, or in that of the
// pair of its key.
func withKept(more ...impl.Pair) []impl.Pair {
	list := keepList()
	for _, p := range more {
		list = slices.DeleteFunc(list, func(o impl.Pair) bool { return o.Key == p.Key })
		list = sortPairs(append(list, p))
	}
	return list
}

func withoutKept(keys ...string) []impl.Pair {
	return slices.DeleteFunc(keepList(), func(p impl.Pair) bool { return slices.Contains(keys, p.Key) })
}

func TestLoadOfOneMore(t *testing.T) {
	if !wantLoadedIfPairs(t, "the list", keepList()) {
		t.Error("the list is refused")
	}
	for _, p := range []impl.Pair{
		kindPair("a", 0), kindPair("ff", 2), kindPair(strings.Repeat("z", 30), 1),
		boundPair(2, impl.Binding{Exchange: "t", Key: "", Queue: "nowhere"}), boundPair(2, impl.Binding{Exchange: "f", Key: "k", Queue: "t"}),
		nextPair("a", 1), nextPair("t", billion), mailPair("q", messageOf(1)), mailPair("q", messageOf(8)), mailPair("q", impl.Message{Seq: 4}),
		spanPair("a", 0, 0), spanPair("t", billion, billion), timePair("s", entryOf(5, 10)), readerPair("s", impl.Mark{Reader: "a", Offset: 1}),
		readerPair("s", impl.Mark{Reader: strings.Repeat("z", 30), Offset: 6}),
	} {
		if !wantLoadedIfPairs(t, p.Key, withKept(p)) {
			t.Errorf("with %#v: Load refuses it", p)
		}
	}
}

// wrongKeys are keys that no pair of a core has.
func wrongKeys() []string {
	out := []string{
		"", "/", "x", "b", "q", "m", "s", "t", "k", "x/", "b/", "q/", "m/", "s/", "t/", "k/", "z/z", "a/q", "X/f", "Q/q", "mm/q/000000001", "/q", "/q/q", "//", "xf", "qq", " q/a", "q//a", "x//a", "n/q/000000001", "r/s/ann", "u/s/000000006", "0/a",
		"b/2", "b/02", "b/0002", "b/00002", "b/003", "b/100", "b/999", "b/-01", "b/+02", "b/ 02", "b/02 ", "b/0 2", "b/0x2", "b/00a", "b/002/", "b/f/002", "b/0_2", "b//002",
		"m/q", "m/q/", "m//000000001", "m/000000001", "m/q/1", "m/q/00000001", "m/q/0000000001", "m/q/000000000", "m/q/-00000001", "m/q/+00000001", "m/q/ 00000001", "m/q/00000001 ", "m/q/00000000a", "m/q/0000_0001", "m/q/0x0000001", "m/q/1e0000000",
		"m/q/000000009", "m/q/000000010", "m/q/999999999", "m/q/1000000000", "m/q/99999999999999999999", "m/q/000000001/", "m/q//000000001", "m/q/q/000000001", "m/r/000000001", "m/s/000000001", "m/qq/000000001", "m/Q/000000001", "m/q /000000001",
		"t/s", "t/s/", "t//000000006", "t/s/6", "t/s/00000006", "t/s/0000000006", "t/s/000000003", "t/s/000000006", "t/s/-00000006", "t/s/000000004/", "t/q/000000004", "t/q/000000000", "t/r/000000000", "t/S/000000004",
		"k/s", "k/s/", "k//ann", "k/ann", "k/s/Ann", "k/s/an n", "k/s/ann/", "k/s//ann", "k/s/ann/x", "k/q/ann", "k/r/ann", "k/s/" + strings.Repeat("a", 31), "k/S/ann", "k/s/\xff",
	}
	for _, name := range noNames {
		out = append(out, "x/"+name, "q/"+name, "s/"+name, "m/"+name+"/000000001", "t/"+name+"/000000000", "k/"+name+"/ann", "k/s/"+name)
	}
	return out
}

// valuesOf are right values of each kind, to stand beside a wrong key.
func valuesOf() []string {
	return []string{
		"", "0", "1", shortText("f") + shortText("z") + shortText("q"), numBytes(0, 8), numBytes(1, 8), numBytes(6, 8), numBytes(0, 8) + numBytes(0, 8), numBytes(0, 8) + numBytes(1, 8),
		shortText("f") + shortText("k") + longText("body") + "\x00", strings.Repeat("\x00", 7), numBytes(20, 4) + longText("body"), numBytes(10, 4) + longText(""), numBytes(0, 4) + longText(""),
	}
}

func TestLoadOfWrongKeys(t *testing.T) {
	for _, key := range wrongKeys() {
		for _, value := range valuesOf() {
			wantNotLoaded(t, fmt.Sprintf("with %q", key), withKept(pairOf(key, value)))
			wantNotLoaded(t, fmt.Sprintf("%q alone", key), []impl.Pair{pairOf(key, value)})
		}
		wantNotLoaded(t, fmt.Sprintf("with %q, Gone", key), withKept(goneOf(key)))
	}
}

// What is of something must have that: another kind of that name is none.
func TestLoadOfWhatIsNotThere(t *testing.T) {
	for _, key := range []string{"q/q", "s/s", "x/f", "b/000", "t/s/000000004", "t/s/000000005"} {
		wantNotLoaded(t, "without "+key, withoutKept(key))
	}
	m, e, k := mailPair("q", messageOf(1)), timePair("q", entryOf(0, 1)), readerPair("q", impl.Mark{Reader: "ann"})
	for why, list := range map[string][]impl.Pair{
		"a message of a stream":      {m, spanPair("q", 0, 0)},
		"a message of an exchange":   {m, kindPair("q", 0)},
		"a message and marks":        {k, m, spanPair("q", 0, 0)},
		"an entry of a queue":        {nextPair("q", 2), e},
		"an entry and its queue":     {nextPair("q", 2), spanPair("a", 0, 0), e},
		"a mark of a queue":          {k, nextPair("q", 2)},
		"a queue that is a stream":   {nextPair("q", 1), spanPair("q", 0, 0)},
		"both with what is theirs":   {m, nextPair("q", 2), spanPair("q", 0, 1), e},
		"entries for the messages":   {nextPair("q", 2), pairOf("t/q/000000001", m.Value)},
		"messages for the entries":   {pairOf("m/s/000000000", e.Value), spanPair("s", 0, 1)},
		"messages left, then marks":  {pairOf("m/s/ann", k.Value), spanPair("s", 0, 0)},
		"entries left, then marks":   {spanPair("s", 0, 0), pairOf("t/s/ann", k.Value)},
		"a message of a longer name": {mailPair("qq", messageOf(1)), nextPair("q", 2)},
		"a binding of no exchange":   {boundPair(0, impl.Binding{Exchange: "f", Queue: "q"})},
		"a binding of a queue":       {boundPair(0, impl.Binding{Exchange: "q", Queue: "q"}), nextPair("q", 1)},
	} {
		wantNotLoaded(t, why, sortPairs(list))
	}
}

// Each value cut off at each byte, with bytes behind it, and with others ahead.
func TestLoadOfWrongValues(t *testing.T) {
	for _, p := range keepList() {
		for n := range len(p.Value) {
			wantNotLoaded(t, fmt.Sprintf("%s, %d bytes", p.Key, n), withKept(pairOf(p.Key, p.Value[:n])))
		}
		for _, more := range []string{"\x00", "\x01", "0", " ", "\xff", strings.Repeat("\x00", 8), p.Value, manyBytes(5000)} {
			wantNotLoaded(t, p.Key+", bytes behind", withKept(pairOf(p.Key, p.Value+more)))
		}
	}
	for _, value := range []string{"3", "4", "9", "-1", "-0", "+1", "01", "00", " 1", "1 ", "1\n", "a", "\x00", "\x01", "1.", "1e0", "0x1", "10", "12", "99999999999999999999"} {
		wantNotLoaded(t, fmt.Sprintf("an exchange of the kind %q", value), withKept(pairOf("x/t", value)))
	}
}

// Each byte of each value is another one: it is another core's value, or none.
func TestLoadOfChangedValues(t *testing.T) {
	taken := 0
	for _, p := range keepList() {
		for i := range len(p.Value) {
			for b := range 256 {
				value := []byte(p.Value)
				value[i] = byte(b)
				if wantLoadedIfPairs(t, fmt.Sprintf("%s, byte %d is %d", p.Key, i, b), withKept(pairOf(p.Key, string(value)))) {
					taken++
				}
			}
		}
	}
	if taken < 1000 {
		t.Errorf("%d changed values are taken only", taken)
	}
}

func TestLoadOfLastBytes(t *testing.T) {
	p := mailPair("q", messageOf(3))
	for b := range 256 {
		value := p.Value[:len(p.Value)-1] + string([]byte{byte(b)})
		if got := wantLoadedIfPairs(t, fmt.Sprint("last byte ", b), withKept(pairOf(p.Key, value))); got != (b <= 1) {
			t.Errorf("a message with the last byte %d: %v", b, got)
		}
	}
}

// Lengths in values that tell more than there is, or than there may be.
func TestLoadOfWrongLengths(t *testing.T) {
	for _, p := range []impl.Pair{
		pairOf("b/000", "\x05f\x01k\x01q"), pairOf("b/000", "\x01f\xffk\x01q"), pairOf("b/000", "\x01f\x01k\x02q"), pairOf("b/000", "\x00\x01k\x01q"), pairOf("b/000", "\x01f\x01k\x00"), pairOf("b/000", "\x01f\x01k"),
		pairOf("m/q/000000003", "\x00\x00\x00\x00\x00\x01\x00"), pairOf("m/q/000000003", "\x00\x00\xff\xff\xff\xff\x00"), pairOf("m/q/000000003", "\x00\x00\x7f\xff\xff\xff\x00"), pairOf("m/q/000000003", "\x00\x00\x00\x00\x00\x00"),
		pairOf("m/q/000000003", "\x00\x00"+longText(manyBytes(3001))+"\x00"), pairOf("m/q/000000003", "\x00\x00"+longText(manyBytes(100001))+"\x00"),
		pairOf("t/s/000000004", "\x00\x00\x00\x00\x00\x00\x00\x01"), pairOf("t/s/000000004", "\x00\x00\x00\x00"), pairOf("t/s/000000004", "\x00\x00\x00\x00\xff\xff\xff\xff"), pairOf("t/s/000000004", numBytes(1, 4)+longText(manyBytes(3001))),
		pairOf("q/q", strings.Repeat("\xff", 8)), pairOf("q/q", "\x80\x00\x00\x00\x00\x00\x00\x09"), pairOf("q/q", "\x00\x00\x00\x09"), pairOf("q/q", numBytes(0, 8)+numBytes(9, 8)), pairOf("q/q", "9"),
		pairOf("s/s", numBytes(4, 8)+strings.Repeat("\xff", 8)), pairOf("s/s", strings.Repeat("\xff", 8)+numBytes(6, 8)), pairOf("s/s", numBytes(4, 4)+numBytes(6, 4)), pairOf("s/s", numBytes(6, 8)),
		pairOf("k/s/ann", strings.Repeat("\xff", 8)), pairOf("k/s/ann", numBytes(6, 4)), pairOf("k/s/ann", "6"),
	} {
		wantNotLoaded(t, fmt.Sprintf("with %#v", p), withKept(p))
	}
}

// notCores are pairs of cores that are not CoreOk, by the reason why.
func notCores() map[string][]impl.Pair {
	out := map[string][]impl.Pair{
		"61 exchanges":              keptBy(impl.Core{Routes: impl.Routes{Exchanges: manyExchanges(61)}}),
		"61 bindings":               keptBy(impl.Core{Routes: routesOf(61)}),
		"101 bindings":              keptBy(impl.Core{Routes: routesOf(101)}),
		"21 queues":                 keptBy(impl.Core{Queues: manyQueues(21)}),
		"21 streams":                keptBy(impl.Core{Streams: manyStreams(21)}),
		"501 messages":              keptBy(queueCore(impl.Queue{Name: "q", Next: 600, Ready: manyReady(1, 501)})),
		"401 entries":               keptBy(streamCore(impl.Stream{Name: "s", Next: 401, Entries: manyEntries(0, 401)})),
		"21 marks":                  keptBy(streamCore(impl.Stream{Name: "s", Low: 5, Next: 5, Marks: manyMarks(21)})),
		"bindings out of order":     withKept(boundPair(0, impl.Binding{Exchange: "f", Key: "k", Queue: "t"})),
		"one binding at two places": withKept(boundPair(1, impl.Binding{Exchange: "f", Key: "k", Queue: "q"})),
		"a binding of no exchange":  withKept(boundPair(1, impl.Binding{Exchange: "g", Key: "k", Queue: "q"})),
		"a binding of no key":       withKept(boundPair(1, impl.Binding{Exchange: "f", Key: "k k", Queue: "q"})),
		"a binding of too long a key": withKept(
			boundPair(1, impl.Binding{Exchange: "f", Key: strings.Repeat("k", 61), Queue: "q"})),
		"a binding of no queue":      withKept(boundPair(1, impl.Binding{Exchange: "f", Key: "k", Queue: "Q"})),
		"Next is 0":                  withKept(nextPair("r", 0)),
		"Next is too much":           withKept(nextPair("r", billion+1)),
		"Next is a message's Seq":    withKept(nextPair("q", 5)),
		"a message of no exchange":   withKept(mailPair("q", impl.Message{Seq: 4, Exchange: "X"})),
		"a message of no key":        withKept(mailPair("q", impl.Message{Seq: 4, Key: "\x00"})),
		"a message of too long":      withKept(mailPair("q", impl.Message{Seq: 4, Body: strings.Repeat("b", 3001)})),
		"Low beyond Next":            withKept(spanPair("r", 1, 0)),
		"entries that lack":          withKept(spanPair("s", 4, 7)),
		"entries ahead of Low":       withKept(spanPair("s", 5, 6)),
		"entries at Next":            withKept(spanPair("s", 4, 5)),
		"a stream's Next too much":   withKept(spanPair("r", billion+1, billion+1)),
		"a time that goes back":      withKept(timePair("s", entryOf(5, 9))),
		"a time that is too great":   withKept(timePair("s", entryOf(5, billion+1))),
		"an entry of too long":       withKept(timePair("s", impl.Entry{Offset: 5, Time: 20, Body: strings.Repeat("b", 3001)})),
		"a mark beyond Next":         withKept(readerPair("s", impl.Mark{Reader: "ann", Offset: 7})),
		"one name in both":           withKept(spanPair("q", 0, 0)),
		"one name in both, turned":   withKept(nextPair("s", 1)),
		"a kind that is none":        withKept(kindPair("f", 3)),
		"all of an exchange's pairs": withoutKept("x/f", "x/t"),
	}
	return out
}

func TestLoadOfNoCores(t *testing.T) {
	for why, list := range notCores() {
		wantNotLoaded(t, why, list)
	}
	// Some of these are wrong by their order alone, which pairs do not tell.
	for why, c := range wrongCores() {
		wantLoadedIfPairs(t, why, keptBy(c))
	}
	for why, list := range wrongLists() {
		wantNotLoaded(t, why, list)
	}
	for why, p := range wrongPairs() {
		wantNotLoaded(t, why, []impl.Pair{p})
		wantNotLoaded(t, why, withKept(p))
	}
}

func TestLoadOfVeryMany(t *testing.T) {
	for _, head := range []string{"x/", "b/", "q/", "m/q/", "s/", "t/s/", "k/s/", "z/"} {
		list := []impl.Pair{nextPair("q", 1), spanPair("s", 0, 0)}
		for i := range 20000 {
			list = append(list, pairOf(fmt.Sprintf("%s%09d", head, i), numBytes(i, 8)))
		}
		wantNotLoaded(t, head, sortPairs(list))
	}
	// A queue and a stream many times, with many of what is theirs.
	var list []impl.Pair
	for i := range 20000 {
		list = append(list, nextPair("q", 1), mailPair("q", messageOf(i)), spanPair("s", 0, 0), timePair("s", entryOf(i, i)))
	}
	wantNotLoaded(t, "many times", list)
	wantNotLoaded(t, "many times, sorted", sortPairs(list))
}

// wantDiff wants Diff of two lists to be a batch.
func wantDiff(t *testing.T, why string, old []impl.Pair, next []impl.Pair, want ...impl.Pair) {
	t.Helper()
	wantSame(t, why+": Diff", impl.Diff(old, next), want)
}

func TestDiff(t *testing.T) {
	list := func(pairs ...impl.Pair) []impl.Pair { return pairs }
	a, b, c, d := pairOf("a", "1"), pairOf("b", "2"), pairOf("c", "3"), pairOf("d", "")
	wantDiff(t, "nothing", nil, nil)
	wantDiff(t, "lists of none", list(), list())
	wantDiff(t, "alike", list(a, b, c, d), list(a, b, c, d))
	wantDiff(t, "nothing before", nil, list(a, b, d), a, b, d)
	wantDiff(t, "nothing then", list(a, b, d), nil, goneOf("a"), goneOf("b"), goneOf("d"))
	wantDiff(t, "one more ahead", list(b, c), list(a, b, c), a)
	wantDiff(t, "one more between", list(a, c), list(a, b, c), b)
	wantDiff(t, "one more behind", list(a, b), list(a, b, c), c)
	wantDiff(t, "one less ahead", list(a, b, c), list(b, c), goneOf("a"))
	wantDiff(t, "one less between", list(a, b, c), list(a, c), goneOf("b"))
	wantDiff(t, "one less behind", list(a, b, c), list(a, b), goneOf("c"))
	wantDiff(t, "another value", list(a, b, c), list(a, pairOf("b", "9"), c), pairOf("b", "9"))
	wantDiff(t, "an empty value then", list(a, b), list(a, pairOf("b", "")), pairOf("b", ""))
	wantDiff(t, "an empty value before", list(a, d), list(a, pairOf("d", "4")), pairOf("d", "4"))
	wantDiff(t, "a value that is longer", list(a), list(pairOf("a", "10")), pairOf("a", "10"))
	wantDiff(t, "no key of the other", list(a, c), list(b, d), goneOf("a"), b, goneOf("c"), d)
	wantDiff(t, "all together", list(a, b, c), list(pairOf("b", "9"), c, d), goneOf("a"), pairOf("b", "9"), d)
	wantDiff(t, "keys that begin others", list(pairOf("a", "1"), pairOf("a-", "1"), pairOf("aa", "1")), list(pairOf("a", "1"), pairOf("a/", "1"), pairOf("aa", "2")), goneOf("a-"), pairOf("a/", "1"), pairOf("aa", "2"))
	wantDiff(t, "keys of any bytes", list(pairOf("", "1"), pairOf("\xff", "1")), list(pairOf("\x00", "1"), pairOf("\xff", "\xff")), goneOf(""), pairOf("\x00", "1"), pairOf("\xff", "\xff"))
}

// More than a batch may have comes out too, as the store is to refuse it.
func TestDiffOfMany(t *testing.T) {
	for _, n := range []int{59, 60, 61, 300, 301, 2000} {
		wantDiff(t, "all new", nil, manyPairs(n, 0), manyPairs(n, 0)...)
		wantDiff(t, "all gone", manyPairs(n, 0), nil, allGone(manyPairs(n, 0))...)
		wantDiff(t, "all gone, others new", manyPairs(n, 0), manyPairs(n, 1), sortPairs(slices.Concat(allGone(manyPairs(n, 0)), manyPairs(n, 1)))...)
		wantDiff(t, "all alike", manyPairs(n, 0), manyPairs(n, 0))
	}
}

// diceList are pairs of some of a few keys, ascending.
func diceList(roll func(n int) int) []impl.Pair {
	var out []impl.Pair
	for _, key := range []string{"a", "a-", "a/", "aa", "b", "c", "m/q/000000001", "q/q"} {
		if roll(3) > 0 {
			out = append(out, pairOf(key, []string{"", "1", "2"}[roll(3)]))
		}
	}
	return out
}

// Made upon old, what comes out makes next; nothing of it is needless.
func TestDiffMakesNext(t *testing.T) {
	roll := diceOf(13)
	for range 3000 {
		old, next := diceList(roll), diceList(roll)
		batch := impl.Diff(old, next)
		wantSame(t, "made upon old", appliedBy(old, batch), next)
		for i, p := range batch {
			if i > 0 && batch[i-1].Key >= p.Key {
				t.Errorf("Diff: %q stands ahead of %q", batch[i-1].Key, p.Key)
			}
			less := slices.Delete(slices.Clone(batch), i, i+1)
			if same(appliedBy(old, less), next) {
				t.Errorf("Diff of %v and %v: %v is needless", old, next, p)
			}
		}
		wantDiff(t, "done twice", next, appliedBy(old, batch))
	}
}

// The document wants ascending lists. Others are answered as if they were set
// pair by pair; what comes out is ascending all the same.
func TestDiffOfOtherLists(t *testing.T) {
	list := func(pairs ...impl.Pair) []impl.Pair { return pairs }
	a, b, c := pairOf("a", "1"), pairOf("b", "2"), pairOf("c", "3")
	wantDiff(t, "out of order", list(c, a), list(c, b), goneOf("a"), b)
	wantDiff(t, "the other way round", list(a, b, c), list(c, b, a))
	wantDiff(t, "a key twice before", list(a, pairOf("a", "9")), list(a), a)
	wantDiff(t, "a key twice before, the last alike", list(pairOf("a", "9"), a), list(a))
	wantDiff(t, "a key twice then", list(a), list(a, pairOf("a", "9")), pairOf("a", "9"))
	wantDiff(t, "a key twice then, the last alike", list(a), list(pairOf("a", "9"), a))
	wantDiff(t, "a Gone one then", list(a, b), list(goneOf("a"), b), goneOf("a"))
	wantDiff(t, "a Gone one before", list(goneOf("d")), list(pairOf("d", "")), pairOf("d", ""))
	wantDiff(t, "a Gone one in both", list(goneOf("a"), b), list(goneOf("a"), b))
	for why, wrong := range wrongLists() {
		wantDiff(t, why+", alike", wrong, wrong)
		for _, other := range [][]impl.Pair{nil, keepList(), manyPairs(9, 0)} {
			for _, got := range [][]impl.Pair{impl.Diff(wrong, other), impl.Diff(other, wrong)} {
				for i := range got {
					if i > 0 && got[i-1].Key >= got[i].Key {
						t.Errorf("%s: Diff: %q stands ahead of %q", why, got[i-1].Key, got[i].Key)
					}
				}
			}
		}
	}
}

// Between each two cores, what comes out makes the pairs of one of the other's.
func TestDiffOfCores(t *testing.T) {
	cores := keepCores()
	for why, c := range cores {
		for then, d := range cores {
			old, next := impl.Pairs(c), impl.Pairs(d)
			if len(old)+len(next) < 200 {
				made := appliedBy(old, impl.Diff(old, next))
				wantLoaded(t, why+", then "+then, made, settledBy(d))
			}
		}
	}
}

// Whatever a core goes through, settled it comes back from its pairs, and from
// those of before with what Diff tells.
func TestKeepByPromise(t *testing.T) {
	w := &coreWalk{core: someCore(), want: someCore(), last: map[int]int{0: 50, 1: 50, 2: 50}, roll: diceOf(113), time: 61}
	kept := impl.Pairs(w.core)
	held := 0
	for step := range 600 {
		owner := w.roll(3)
		switch w.roll(9) {
		case 0, 1, 2:
			w.publish(t, step)
		case 3, 4, 5:
			w.get(t, step, owner)
		case 6, 7:
			w.give(t, step, owner)
		default:
			w.core = keptCore(w.core)
			w.core.Streams[0] = impl.StreamTrim(w.core.Streams[0], 9, 0)
			w.core.Streams[0], _ = impl.StreamMark(w.core.Streams[0], []string{"ann", "ben", "zoe"}[owner], w.core.Streams[0].Next-w.roll(5))
			w.want = keptCore(w.core)
		}
		why := fmt.Sprint("step ", step)
		now := impl.Pairs(w.core)
		wantSame(t, why+": Pairs", now, keptBy(w.want))
		wantLoaded(t, why, now, settledBy(w.want))
		wantSame(t, why+": Settled", impl.Settled(w.core), settledBy(w.want))
		kept = appliedBy(kept, impl.Diff(kept, now))
		wantSame(t, why+": what is kept", kept, now)
		for _, q := range w.want.Queues {
			held += len(q.Held)
		}
		if t.Failed() {
			return
		}
	}
	if held < 1000 || w.core.Streams[0].Low < 10 {
		t.Errorf("in the walk %d were held only, and Low came to %d", held, w.core.Streams[0].Low)
	}
}

// twoLists are what Diff is asked with.
type twoLists struct {
	Old, Next []impl.Pair
}

func TestKeepMemory(t *testing.T) {
	cores := wrongCores()
	for why, c := range keepCores() {
		cores[why] = c
	}
	lists := map[string][]impl.Pair{"wrong keys": nil, "nothing": nil, "the list": keepList()}
	for _, key := range wrongKeys() {
		lists["wrong keys"] = append(lists["wrong keys"], pairOf(key, "1"))
	}
	for why, c := range cores {
		wantApart(t, why+": Settled", c, func(c impl.Core) []any { return []any{impl.Settled(c)} })
		wantApart(t, why+": Pairs", c, func(c impl.Core) []any { return []any{impl.Pairs(c)} })
		if list := keptBy(c); len(list) < 100 {
			lists["of "+why] = list
		}
	}
	load := func(list []impl.Pair) []any {
		c, ok := impl.Load(list)
		return []any{c, ok}
	}
	diff := func(x twoLists) []any { return []any{impl.Diff(x.Old, x.Next)} }
	for why, list := range lists {
		wantApart(t, why+": Load", list, load)
		wantApart(t, why+": Diff, alike", twoLists{list, list}, diff)
		wantApart(t, why+": Diff, all new", twoLists{nil, list}, diff)
		wantApart(t, why+": Diff, all gone", twoLists{list, nil}, diff)
		wantApart(t, why+": Diff", twoLists{list, keepList()}, diff)
		wantApart(t, why+": Diff, turned", twoLists{keepList(), list}, diff)
	}
	for why, list := range notCores() {
		if len(list) < 100 {
			wantApart(t, why+": Load", list, load)
		}
	}
}
