package tests

import (
	"fmt"
	"math"
	"slices"
	"strings"
	"testing"

	"loop.example/g00227/impl"
)

// coreRoutes send messages on to the queues a, m and z, to the streams log and
// s, and to names that are not there.
func coreRoutes() impl.Routes {
	return impl.Routes{
		Exchanges: []impl.Exchange{{Name: "d", Kind: impl.KindDirect}, {Name: "f", Kind: impl.KindFanout}, {Name: "t", Kind: impl.KindTopic}},
		Bindings: []impl.Binding{
			{Exchange: "d", Key: "gone", Queue: "b"},
			{Exchange: "d", Key: "gone", Queue: "zz"},
			{Exchange: "d", Key: "one", Queue: "m"},
			{Exchange: "d", Key: "some", Queue: "a"},
			{Exchange: "d", Key: "some", Queue: "b"},
			{Exchange: "d", Key: "some", Queue: "z"},
			{Exchange: "d", Key: "stay", Queue: "log"},
			{Exchange: "f", Key: "", Queue: "a"},
			{Exchange: "f", Key: "", Queue: "b"},
			{Exchange: "f", Key: "", Queue: "log"},
			{Exchange: "f", Key: "", Queue: "m"},
			{Exchange: "f", Key: "", Queue: "s"},
			{Exchange: "f", Key: "", Queue: "z"},
			{Exchange: "f", Key: "k", Queue: "m"},
			{Exchange: "t", Key: "#.log", Queue: "log"},
			{Exchange: "t", Key: "#.log", Queue: "s"},
			{Exchange: "t", Key: "*.b", Queue: "m"},
			{Exchange: "t", Key: "a.*", Queue: "m"},
			{Exchange: "t", Key: "a.*", Queue: "z"},
		},
	}
}

// someCore has queues in which several owners hold messages, with one tag in
// two of them, one without messages, and streams with entries and without.
func someCore() impl.Core {
	a := someQueue()
	a.Name = "a"
	m := impl.Queue{
		Name:  "m",
		Next:  10,
		Ready: []impl.Message{messageOf(2), messageOf(7)},
		Held:  []impl.Held{heldOf(2, 4, 5), heldOf(2, 9, 1), heldOf(3, 1, 3), heldOf(7, 30, 8), heldOf(1000, billion, 9)},
	}
	log := someStream()
	log.Name = "log"
	return impl.Core{
		Routes:  coreRoutes(),
		Queues:  []impl.Queue{a, m, {Name: "z", Next: 1}},
		Streams: []impl.Stream{log, {Name: "s"}},
	}
}

// keptCore is c in lists of its own, to be changed.
func keptCore(c impl.Core) impl.Core {
	next := impl.Core{Routes: keptRoutes(c.Routes)}
	for _, q := range c.Queues {
		next.Queues = append(next.Queues, keptQueue(q))
	}
	for _, s := range c.Streams {
		next.Streams = append(next.Streams, keptStream(s))
	}
	return next
}

// manyQueues and manyStreams are n of them without messages, named in their order.
func manyQueues(n int) []impl.Queue {
	var out []impl.Queue
	for i := range n {
		out = append(out, impl.Queue{Name: fmt.Sprintf("q%02d", 2*i+1), Next: 1})
	}
	return out
}

func manyStreams(n int) []impl.Stream {
	var out []impl.Stream
	for i := range n {
		out = append(out, impl.Stream{Name: fmt.Sprintf("s%02d", 2*i+1)})
	}
	return out
}

// namedCore is a core of queues and streams without messages, in the order of
// the names.
func namedCore(queues string, streams string) impl.Core {
	var c impl.Core
	for _, name := range strings.Fields(queues) {
		c.Queues = append(c.Queues, impl.Queue{Name: name, Next: 1})
	}
	for _, name := range strings.Fields(streams) {
		c.Streams = append(c.Streams, impl.Stream{Name: name})
	}
	return c
}

// withQueue and withStream are someCore with one more, in its place.
func withQueue(q impl.Queue) impl.Core {
	c := someCore()
	c.Queues = append(c.Queues, q)
	slices.SortStableFunc(c.Queues, func(a, b impl.Queue) int { return strings.Compare(a.Name, b.Name) })
	return c
}

func withStream(s impl.Stream) impl.Core {
	c := someCore()
	c.Streams = append(c.Streams, s)
	slices.SortStableFunc(c.Streams, func(a, b impl.Stream) int { return strings.Compare(a.Name, b.Name) })
	return c
}

// rightCores are cores that are right, by what is to be seen in them.
func rightCores() map[string]impl.Core {
	return map[string]impl.Core{
		"nothing":                  {},
		"some":                     someCore(),
		"lists of none":            {Queues: []impl.Queue{}, Streams: []impl.Stream{}},
		"routes alone":             {Routes: someRoutes()},
		"queues alone":             {Queues: someCore().Queues},
		"streams alone":            {Streams: someCore().Streams},
		"20 queues":                {Queues: manyQueues(20)},
		"20 streams":               {Streams: manyStreams(20)},
		"20 of each":               {Routes: someRoutes(), Queues: manyQueues(20), Streams: manyStreams(20)},
		"a queue and a stream":     namedCore("b", "a"),
		"names between each other": namedCore("b d", "a c e"),
		"names ahead of longer":    namedCore("a aa", "aaa b"),
	}
}

// wrongCores are cores that are not CoreOk, by the reason why.
func wrongCores() map[string]impl.Core {
	out := map[string]impl.Core{
		"queues out of order":         namedCore("b a c", "s"),
		"the last queues":             namedCore("a c b", "s"),
		"streams out of order":        namedCore("q", "b a c"),
		"the last streams":            namedCore("q", "a c b"),
		"a queue twice":               namedCore("a b b", "s"),
		"the first queue twice":       namedCore("a a b", "s"),
		"a stream twice":              namedCore("q", "a b b"),
		"the first stream twice":      namedCore("q", "a a b"),
		"one name in both":            namedCore("a", "a"),
		"the first name in both":      namedCore("a d e", "a b c"),
		"the last name in both":       namedCore("b d e", "a c e"),
		"a name between in both":      namedCore("a c e", "b c d"),
		"the first here, last there":  namedCore("c d e", "a b c"),
		"the last here, first there":  namedCore("a b c", "c d e"),
		"21 queues":                   {Queues: manyQueues(21)},
		"21 streams":                  {Streams: manyStreams(21)},
		"21 queues and 20 streams":    {Queues: manyQueues(21), Streams: manyStreams(20)},
		"20 queues and 21 streams":    {Queues: manyQueues(20), Streams: manyStreams(21)},
		"a binding of the last queue": {Routes: impl.Routes{Bindings: []impl.Binding{{Exchange: "x", Queue: "q01"}}}, Queues: manyQueues(1)},
	}
	for why, q := range wrongQueues() {
		out["a wrong queue: "+why] = withQueue(q)
		out["a wrong queue alone: "+why] = impl.Core{Queues: []impl.Queue{q}}
	}
	for why, s := range wrongStreams() {
		out["a wrong stream: "+why] = withStream(s)
		out["a wrong stream alone: "+why] = impl.Core{Streams: []impl.Stream{s}}
	}
	for why, r := range wrongRoutes() {
		c := someCore()
		c.Routes = r
		out["wrong routes: "+why] = c
	}
	return out
}

// publishedBy is what a message makes of a right core, and to how many it goes,
// by the words of the document.
func publishedBy(c impl.Core, exchange string, key string, body string, time int) (impl.Core, int) {
	names, ok := impl.Route(c.Routes, exchange, key)
	if !ok {
		return c, -1
	}
	next, n := keptCore(c), 0
	for i := range next.Queues {
		if q := &next.Queues[i]; slices.Contains(names, q.Name) {
			q.Ready = append(q.Ready, impl.Message{Seq: q.Next, Exchange: exchange, Key: key, Body: body})
			q.Next++
			n++
			if len(q.Ready)+len(q.Held) > 500 || q.Next > billion || len(body) > 3000 {
				return c, -1
			}
		}
	}
	for i := range next.Streams {
		if s := &next.Streams[i]; slices.Contains(names, s.Name) {
			last := 0
			if len(s.Entries) > 0 {
				last = s.Entries[len(s.Entries)-1].Time
			}
			s.Entries = append(s.Entries, impl.Entry{Offset: s.Next, Time: time, Body: body})
			s.Next++
			n++
			if len(s.Entries) > 400 || s.Next > billion || len(body) > 3000 || time < last || time > billion {
				return c, -1
			}
		}
	}
	return next, n
}

// givenBy is a core in which an owner lets go of what it holds, and how many
// that were, by the words of the document.
func givenBy(c impl.Core, owner int, tag int, all bool, back bool) (impl.Core, int) {
	next, n := keptCore(c), 0
	for i := range next.Queues {
		q := &next.Queues[i]
		var left []impl.Held
		for _, h := range q.Held {
			if h.Owner != owner || h.Tag != tag && !(all && h.Tag < tag) {
				left = append(left, h)
				continue
			}
			n++
			if back {
				h.Message.Again = true
				q.Ready = append(q.Ready, h.Message)
			}
		}
		q.Held = left
		slices.SortFunc(q.Ready, func(a, b impl.Message) int { return a.Seq - b.Seq })
	}
	return next, n
}

func wantCoreOk(t *testing.T, why string, c impl.Core, want bool) {
	t.Helper()
	wantRight(t, why, impl.CoreOk, c, want)
}

// wantCore wants what a call answered beside a number to be this core, which is
// right, and this number.
func wantCore(t *testing.T, what string, got impl.Core, n int, want impl.Core, count int) {
	t.Helper()
	if n != count {
		t.Errorf("%s: %d; want %d", what, n, count)
	}
	wantSame(t, what, got, want)
	wantCoreOk(t, what, got, true)
}

// wantSent wants a message to go to just these, and all else to stay.
func wantSent(t *testing.T, c impl.Core, exchange string, key string, body string, time int, names ...string) impl.Core {
	t.Helper()
	what := fmt.Sprintf("CorePublish(%q, %q, %d bytes, %d)", exchange, key, len(body), time)
	want := keptCore(c)
	for i := range want.Queues {
		if q := &want.Queues[i]; slices.Contains(names, q.Name) {
			q.Ready = append(q.Ready, impl.Message{Seq: q.Next, Exchange: exchange, Key: key, Body: body})
			q.Next++
		}
	}
	for i := range want.Streams {
		if s := &want.Streams[i]; slices.Contains(names, s.Name) {
			s.Entries = append(s.Entries, impl.Entry{Offset: s.Next, Time: time, Body: body})
			s.Next++
		}
	}
	got, n := impl.CorePublish(c, exchange, key, body, time)
	wantCore(t, what, got, n, want, len(names))
	return got
}

// wantNotSent wants a message to be taken by none.
func wantNotSent(t *testing.T, why string, c impl.Core, exchange string, key string, body string, time int) {
	t.Helper()
	got, n := impl.CorePublish(c, exchange, key, body, time)
	if n != -1 {
		t.Errorf("%s: CorePublish(%q, %q, %d bytes, %d) counts %d; want -1", why, exchange, key, len(body), time, n)
	}
	wantSame(t, why, got, c)
}

// wantNotGot wants CoreGet to answer the core as it is, the zero value and false.
func wantNotGot(t *testing.T, why string, c impl.Core, queue string, owner int, tag int) {
	t.Helper()
	got, m, ok := impl.CoreGet(c, queue, owner, tag)
	if ok || m != (impl.Message{}) {
		t.Errorf("%s: CoreGet(%q, %d, %d) = %#v, %v; want the zero value, false", why, queue, owner, tag, m, ok)
	}
	wantSame(t, why, got, c)
}

func wantDepth(t *testing.T, why string, c impl.Core, name string, want int) {
	t.Helper()
	if got := impl.CoreDepth(c, name); got != want {
		t.Errorf("%s: CoreDepth(%q) = %d; want %d", why, name, got, want)
	}
}

func TestCoreOk(t *testing.T) {
	for why, c := range rightCores() {
		wantCoreOk(t, why, c, true)
	}
	for why, c := range wrongCores() {
		wantCoreOk(t, why, c, false)
	}
}

func TestCoreOkCounts(t *testing.T) {
	for _, queues := range []int{0, 1, 19, 20, 21, 22, 40} {
		for _, streams := range []int{0, 1, 19, 20, 21, 22, 40} {
			c := impl.Core{Queues: manyQueues(queues), Streams: manyStreams(streams)}
			wantCoreOk(t, fmt.Sprintf("%d queues, %d streams", queues, streams), c, queues <= 20 && streams <= 20)
		}
	}
}

// All choices of three names out of three, in each order, as queues and as streams.
func TestCoreOkOrder(t *testing.T) {
	names := []string{"a", "b", "c"}
	for i := range 27 {
		a, b, c := names[i/9], names[i/3%3], names[i%3]
		list := a + " " + b + " " + c
		wantCoreOk(t, "queues "+list, namedCore(list, "s"), a < b && b < c)
		wantCoreOk(t, "streams "+list, namedCore("q", list), a < b && b < c)
		wantCoreOk(t, "a queue, streams "+list, namedCore(a, b+" "+c), a != b && a != c && b < c)
		wantCoreOk(t, "queues, a stream "+list, namedCore(a+" "+b, c), a != c && b != c && a < b)
	}
}

// A wrong one counts at whatever place it stands.
func TestCoreOkPlaces(t *testing.T) {
	for i := range 20 {
		c := impl.Core{Queues: manyQueues(20), Streams: manyStreams(20)}
		c.Queues[i].Next = 0
		wantCoreOk(t, fmt.Sprintf("queue %d is wrong", i), c, false)
		c.Queues[i].Next = 1
		c.Streams[i].Next = 1
		wantCoreOk(t, fmt.Sprintf("stream %d is wrong", i), c, false)
		c.Streams[i].Next = 0
		wantCoreOk(t, "none is wrong", c, true)
		for k := range 20 {
			both := impl.Core{Queues: manyQueues(20), Streams: manyStreams(20)}
			for n := range both.Streams {
				both.Streams[n].Name = fmt.Sprintf("q%02d", 2*n)
			}
			both.Streams[k].Name = both.Queues[i].Name
			slices.SortFunc(both.Streams, func(a, b impl.Stream) int { return strings.Compare(a.Name, b.Name) })
			wantCoreOk(t, fmt.Sprintf("queue %d for stream %d", i, k), both, false)
		}
	}
}

func TestCoreQueue(t *testing.T) {
	for _, r := range []struct {
		name   string
		stream bool
		at     int
	}{
		{"0", false, 0}, {"b", false, 1}, {"lo", false, 1}, {"logs", false, 1}, {"n", false, 2}, {"y", false, 2}, {"zz", false, 3}, {"aa", false, 1}, {"-", false, 0}, {strings.Repeat("n", 30), false, 2},
		{"0", true, 0}, {"b", true, 0}, {"lo", true, 0}, {"logs", true, 1}, {"n", true, 1}, {"r", true, 1}, {"ss", true, 2}, {"zz", true, 2}, {"-", true, 0}, {strings.Repeat("n", 30), true, 1},
	} {
		what := fmt.Sprintf("CoreQueue(%q, %v)", r.name, r.stream)
		want := someCore()
		if r.stream {
			want.Streams = slices.Insert(want.Streams, r.at, impl.Stream{Name: r.name})
		} else {
			want.Queues = slices.Insert(want.Queues, r.at, impl.Queue{Name: r.name, Next: 1})
		}
		got, ok := impl.CoreQueue(someCore(), r.name, r.stream)
		wantDone(t, what, impl.CoreOk, got, ok, want)
		// There it is as it is, and as the other it is refused.
		again, ok := impl.CoreQueue(got, r.name, r.stream)
		wantDone(t, what+" again", impl.CoreOk, again, ok, want)
		again, ok = impl.CoreQueue(got, r.name, !r.stream)
		wantLeft(t, what+" as the other", again, ok, want)
	}
}

func TestCoreQueueFirst(t *testing.T) {
	for _, name := range goodNames {
		got, ok := impl.CoreQueue(impl.Core{}, name, false)
		wantDone(t, "a first queue "+name, impl.CoreOk, got, ok, impl.Core{Queues: []impl.Queue{{Name: name, Next: 1}}})
		got, ok = impl.CoreQueue(impl.Core{}, name, true)
		wantDone(t, "a first stream "+name, impl.CoreOk, got, ok, impl.Core{Streams: []impl.Stream{{Name: name}}})
	}
}

// What is there stays with all its messages, entries and marks.
func TestCoreQueueThere(t *testing.T) {
	c := someCore()
	for _, q := range c.Queues {
		got, ok := impl.CoreQueue(c, q.Name, false)
		wantDone(t, q.Name, impl.CoreOk, got, ok, c)
		got, ok = impl.CoreQueue(c, q.Name, true)
		wantLeft(t, q.Name+" as a stream", got, ok, c)
	}
	for _, s := range c.Streams {
		got, ok := impl.CoreQueue(c, s.Name, true)
		wantDone(t, s.Name, impl.CoreOk, got, ok, c)
		got, ok = impl.CoreQueue(c, s.Name, false)
		wantLeft(t, s.Name+" as a queue", got, ok, c)
	}
}

func TestCoreQueueRefused(t *testing.T) {
	for _, stream := range []bool{false, true} {
		for _, name := range noNames {
			for where, c := range rightCores() {
				got, ok := impl.CoreQueue(c, name, stream)
				wantLeft(t, fmt.Sprintf("%s: CoreQueue(%q, %v)", where, name, stream), got, ok, c)
			}
		}
		for why, c := range wrongCores() {
			for _, name := range []string{"a", "b", "q01", "s", "zzz", ""} {
				got, ok := impl.CoreQueue(c, name, stream)
				wantLeft(t, fmt.Sprintf("%s: CoreQueue(%q, %v)", why, name, stream), got, ok, c)
			}
		}
	}
}

func TestCoreQueueAtMost(t *testing.T) {
	c := impl.Core{Queues: manyQueues(19), Streams: manyStreams(19)}
	queues, ok := impl.CoreQueue(c, "q12", false)
	want := keptCore(c)
	want.Queues = slices.Insert(want.Queues, 6, impl.Queue{Name: "q12", Next: 1})
	wantDone(t, "the twentieth queue", impl.CoreOk, queues, ok, want)
	both, ok := impl.CoreQueue(queues, "s40", true)
	want.Streams = append(want.Streams, impl.Stream{Name: "s40"})
	wantDone(t, "the twentieth stream", impl.CoreOk, both, ok, want)
	for _, name := range []string{"a", "q00", "q14", "s00", "s14", "z"} {
		for _, stream := range []bool{false, true} {
			got, ok := impl.CoreQueue(both, name, stream)
			wantLeft(t, fmt.Sprintf("one more, %s, %v", name, stream), got, ok, both)
		}
		got, ok := impl.CoreQueue(queues, name, false)
		wantLeft(t, "one queue more, "+name, got, ok, queues)
	}
	// Those that are there are no more than there were.
	got, ok := impl.CoreQueue(both, "q12", false)
	wantDone(t, "a queue of 20", impl.CoreOk, got, ok, both)
	got, ok = impl.CoreQueue(both, "s01", true)
	wantDone(t, "a stream of 20", impl.CoreOk, got, ok, both)
}

func TestCorePublish(t *testing.T) {
	for _, r := range []struct {
		exchange, key string
		names         string
	}{
		{"d", "none", ""}, {"d", "", ""}, {"d", "gone", ""}, {"d", "one", "m"}, {"d", "some", "a z"}, {"d", "stay", "log"},
		{"f", "", "a m z log s"}, {"f", "k", "a m z log s"}, {"f", "what.ever", "a m z log s"},
		{"t", "a.b", "m z"}, {"t", "b.b", "m"}, {"t", "a.c", "m z"}, {"t", "log", "log s"}, {"t", "a.log", "m z log s"}, {"t", "b.b.log", "log s"}, {"t", "a", ""}, {"t", "", ""},
		{"", "a", "a"}, {"", "m", "m"}, {"", "z", "z"}, {"", "log", "log"}, {"", "s", "s"},
		{"", "b", ""}, {"", "", ""}, {"", "A", ""}, {"", "*", ""}, {"", "aa", ""}, {"", "d", ""}, {"", strings.Repeat("k", 60), ""},
	} {
		names := strings.Fields(r.names)
		wantSent(t, someCore(), r.exchange, r.key, "hello", 60, names...)
		got := wantSent(t, someCore(), r.exchange, r.key, "", billion, names...)
		wantSent(t, got, r.exchange, r.key, "\x00\xff\n", billion, names...)
	}
}

// Messages that go to no stream may have any time, and those that go nowhere
// any body: nobody is there who would not take it.
func TestCorePublishUnlooked(t *testing.T) {
	for _, time := range append([]int{0, 5, 59, billion}, noTimes...) {
		wantSent(t, someCore(), "d", "some", "b", time, "a", "z")
		wantSent(t, someCore(), "", "a", "b", time, "a")
		wantSent(t, someCore(), "d", "gone", "b", time)
		wantSent(t, someCore(), "", "zzz", strings.Repeat("b", 3001), time)
		wantSent(t, impl.Core{}, "", "q", strings.Repeat("b", 100000), time)
	}
}

func TestCorePublishTimes(t *testing.T) {
	for _, time := range []int{60, 61, billion - 1, billion} {
		wantSent(t, someCore(), "f", "k", "b", time, "a", "log", "m", "s", "z")
		wantSent(t, someCore(), "d", "stay", "b", time, "log")
	}
	for _, time := range []int{0, 1, 45, 58, 59} {
		wantNotSent(t, "the last entry is newer", someCore(), "f", "k", "b", time)
		wantNotSent(t, "the last entry of one is newer", someCore(), "t", "a.log", "b", time)
		wantNotSent(t, "the last entry of the one is newer", someCore(), "d", "stay", "b", time)
		wantSent(t, someCore(), "", "s", "b", time, "s")
	}
	for _, time := range noTimes {
		for _, key := range []string{"log", "s"} {
			wantNotSent(t, "no time", someCore(), "", key, "b", time)
		}
		wantNotSent(t, "no time for one of many", someCore(), "t", "a.log", "b", time)
	}
}

func TestCorePublishBodies(t *testing.T) {
	most, more := strings.Repeat("b", 3000), strings.Repeat("b", 3001)
	for _, r := range []struct{ exchange, key, names string }{
		{"d", "one", "m"}, {"d", "some", "a z"}, {"d", "stay", "log"}, {"f", "k", "a m z log s"}, {"t", "a.b", "m z"}, {"t", "log", "log s"}, {"", "z", "z"}, {"", "s", "s"},
	} {
		wantSent(t, someCore(), r.exchange, r.key, most, 60, strings.Fields(r.names)...)
		wantNotSent(t, "one byte more", someCore(), r.exchange, r.key, more, 60)
		wantNotSent(t, "many bytes", someCore(), r.exchange, r.key, manyBytes(100000), 60)
	}
}

// fullQueue and fullStream have n messages, to be as many as there may be or
// one less.
func fullQueue(name string, n int) impl.Queue {
	return impl.Queue{Name: name, Next: 600, Ready: manyReady(1, n-200), Held: manyHeld(301, 200)}
}

func fullStream(name string, n int) impl.Stream {
	return impl.Stream{Name: name, Low: 50, Next: 50 + n, Entries: manyEntries(50, n)}
}

// fanCore is a core of three queues and three streams, to all of which its
// exchange f sends, and to one that is not there.
func fanCore() impl.Core {
	c := namedCore("b d f", "a c e")
	c.Routes.Exchanges = []impl.Exchange{{Name: "f", Kind: impl.KindFanout}}
	for _, name := range strings.Fields("a b c d e f g") {
		c.Routes.Bindings = append(c.Routes.Bindings, impl.Binding{Exchange: "f", Key: "k", Queue: name})
	}
	for i := range c.Queues {
		c.Queues[i] = fullQueue(c.Queues[i].Name, 499)
		c.Streams[i] = fullStream(c.Streams[i].Name, 399)
	}
	return c
}

// One of many that does not take a message is enough, wherever it stands.
func TestCorePublishToAllOrNone(t *testing.T) {
	wantSent(t, fanCore(), "f", "k", "b", 5000, "a", "b", "c", "d", "e", "f")
	for i := range 3 {
		for why, change := range map[string]func(c *impl.Core){
			"a full queue":                func(c *impl.Core) { c.Queues[i] = fullQueue(c.Queues[i].Name, 500) },
			"a queue full of held ones":   func(c *impl.Core) { c.Queues[i].Ready, c.Queues[i].Held = nil, manyHeld(1, 500) },
			"a queue of the last number":  func(c *impl.Core) { c.Queues[i].Next = billion },
			"a full stream":               func(c *impl.Core) { c.Streams[i] = fullStream(c.Streams[i].Name, 400) },
			"a stream with a newer entry": func(c *impl.Core) { c.Streams[i].Entries[398].Time = 5001 },
			"a stream of the last number": func(c *impl.Core) {
				c.Streams[i] = impl.Stream{Name: c.Streams[i].Name, Low: billion, Next: billion}
			},
		} {
			c := fanCore()
			change(&c)
			wantCoreOk(t, why, c, true)
			wantNotSent(t, fmt.Sprintf("%s, the place %d", why, i), c, "f", "k", "b", 5000)
			// The others take what goes to them alone, and what goes nowhere is no matter.
			for k := range 3 {
				name := c.Streams[k].Name
				if k != i || strings.Contains(why, "queue") {
					wantSent(t, c, "", name, "b", 5000, name)
				} else {
					wantNotSent(t, why+" alone", c, "", name, "b", 5000)
				}
				name = c.Queues[k].Name
				if k != i || strings.Contains(why, "stream") {
					wantSent(t, c, "", name, "b", 5000, name)
				} else {
					wantNotSent(t, why+" alone", c, "", name, "b", 5000)
				}
			}
			wantSent(t, c, "", "g", "b", 5000)
		}
	}
}

func TestCorePublishMany(t *testing.T) {
	c := impl.Core{Queues: manyQueues(20), Streams: manyStreams(20)}
	c.Routes.Exchanges = []impl.Exchange{{Name: "all", Kind: impl.KindFanout}}
	var names []string
	for _, q := range c.Queues {
		names = append(names, q.Name)
		c.Routes.Bindings = append(c.Routes.Bindings, impl.Binding{Exchange: "all", Queue: q.Name})
	}
	for _, s := range c.Streams {
		names = append(names, s.Name)
		c.Routes.Bindings = append(c.Routes.Bindings, impl.Binding{Exchange: "all", Queue: s.Name})
	}
	for i := range 5 {
		c = wantSent(t, c, "all", "k", fmt.Sprint("body ", i), i, names...)
	}
	wantNotSent(t, "a time that goes back", c, "all", "k", "b", 3)
}

// A message that is bound twice to a queue goes there once.
func TestCorePublishOnce(t *testing.T) {
	c := namedCore("q", "s")
	c.Routes.Exchanges = []impl.Exchange{{Name: "t", Kind: impl.KindTopic}}
	for _, key := range []string{"#", "*", "k"} {
		for _, name := range []string{"q", "s"} {
			c.Routes.Bindings = append(c.Routes.Bindings, impl.Binding{Exchange: "t", Key: key, Queue: name})
		}
	}
	wantSent(t, c, "t", "k", "b", 0, "q", "s")
}

func TestCorePublishRefused(t *testing.T) {
	for _, exchange := range append([]string{"e", "q", "a", "dd", "log"}, noNames[1:]...) {
		wantNotSent(t, "no such exchange", someCore(), exchange, "some", "b", 60)
		wantNotSent(t, "no exchange at all", impl.Core{}, exchange, "some", "b", 60)
	}
	for _, key := range noKeys {
		for _, exchange := range []string{"", "d", "f", "t"} {
			wantNotSent(t, "no key", someCore(), exchange, key, "b", 60)
		}
	}
	for why, c := range wrongCores() {
		for _, exchange := range []string{"", "f", "t"} {
			for _, key := range []string{"a", "q01", "zzz", "some"} {
				wantNotSent(t, why, c, exchange, key, "b", 5000)
			}
		}
	}
}

func TestCoreGet(t *testing.T) {
	for _, r := range []struct {
		queue      int
		owner, tag int
		at         int
		seq        int
	}{
		{0, 0, 5, 1, 3}, {0, 2, 21, 5, 3}, {0, 2, billion, 5, 3}, {0, 7, 6, 7, 3}, {0, 1, 1, 1, 3}, {0, 1000, 1, 7, 3}, {0, 3, billion, 5, 3},
		{1, 2, 10, 2, 2}, {1, 3, 2, 3, 2}, {1, 0, 1, 0, 2}, {1, 7, 31, 4, 2}, {1, 999, 9, 4, 2},
	} {
		c := someCore()
		name := c.Queues[r.queue].Name
		what := fmt.Sprintf("CoreGet(%q, %d, %d)", name, r.owner, r.tag)
		want := someCore()
		q := &want.Queues[r.queue]
		q.Held = slices.Insert(q.Held, r.at, heldOf(r.owner, r.tag, r.seq))
		q.Ready = q.Ready[1:]
		got, m, ok := impl.CoreGet(c, name, r.owner, r.tag)
		wantDone(t, what, impl.CoreOk, got, ok, want)
		wantSame(t, what, m, messageOf(r.seq))
	}
}

// All of a queue are handed out in order, then none; other queues stay.
func TestCoreGetAll(t *testing.T) {
	c := someCore()
	for i, seq := range []int{3, 5, 8, 11} {
		next, m, ok := impl.CoreGet(c, "a", 5, i+1)
		if !ok || !same(m, messageOf(seq)) {
			t.Errorf("message %d = %#v, %v; want Seq %d", i, m, ok, seq)
		}
		wantSame(t, "the other queues", next.Queues[1:], someCore().Queues[1:])
		wantSame(t, "the streams", next.Streams, someCore().Streams)
		c = next
	}
	wantNotGot(t, "all handed out", c, "a", 5, 5)
	_, m, ok := impl.CoreGet(c, "m", 5, 5)
	if !ok || m.Seq != 2 {
		t.Errorf("the first of another queue = %#v, %v", m, ok)
	}
	c, _ = impl.CoreNack(c, 5, 2, false, true)
	if _, m, ok = impl.CoreGet(c, "a", 5, 5); !ok || m.Seq != 5 || !m.Again || m.Body != "body 5" {
		t.Errorf("one that was given back = %#v, %v", m, ok)
	}
}

// One tag of an owner may be held in two queues.
func TestCoreGetTagsOfOtherQueues(t *testing.T) {
	got, m, ok := impl.CoreGet(someCore(), "m", 2, 20)
	if !ok || m.Seq != 2 || !impl.CoreOk(got) {
		t.Errorf("a tag of another queue = %#v, %v", m, ok)
	}
	got, n := impl.CoreAck(got, 2, 20, false)
	if n != 2 || !impl.CoreOk(got) {
		t.Errorf("one tag of two queues: %d", n)
	}
}

func TestCoreGetRefused(t *testing.T) {
	for _, queue := range append([]string{"b", "aa", "zz", "d", "x"}, noNames...) {
		wantNotGot(t, "no such queue", someCore(), queue, 5, 1)
		wantNotGot(t, "no queue at all", impl.Core{}, queue, 5, 1)
	}
	for _, stream := range []string{"log", "s"} {
		wantNotGot(t, "a stream", someCore(), stream, 5, 1)
	}
	wantNotGot(t, "an empty queue", someCore(), "z", 5, 1)
	for _, queue := range []string{"a", "m", "z", "log"} {
		for _, owner := range noOwners {
			wantNotGot(t, "no owner", someCore(), queue, owner, 1)
		}
		for _, tag := range noTags {
			wantNotGot(t, "no tag", someCore(), queue, 5, tag)
		}
	}
	for _, tag := range []int{1, 3, 9, 19, 20} {
		wantNotGot(t, "a tag not above", someCore(), "a", 2, tag)
	}
	for _, tag := range []int{1, 4, 8, 9} {
		wantNotGot(t, "a tag not above", someCore(), "m", 2, tag)
	}
	for why, c := range wrongCores() {
		for _, queue := range []string{"a", "m", "q", "some", "q01"} {
			wantNotGot(t, why, c, queue, 5, 100)
		}
	}
}

// coreTags are what is asked of someCore, and how many of a and of m are held so.
var coreTags = []struct {
	owner, tag int
	all        bool
	a, m       int
}{
	{2, 9, false, 1, 1}, {2, 9, true, 3, 2}, {2, 8, true, 2, 1}, {2, 4, false, 0, 1}, {2, 4, true, 1, 1}, {2, 3, true, 1, 0}, {2, 2, true, 0, 0}, {2, 20, false, 1, 0}, {2, 19, false, 0, 0},
	{2, 20, true, 4, 2}, {2, billion, true, 4, 2}, {2, math.MaxInt, true, 4, 2}, {2, billion, false, 0, 0}, {2, 0, true, 0, 0}, {2, 0, false, 0, 0}, {2, -9, false, 0, 0}, {2, math.MinInt, true, 0, 0},
	{0, 4, false, 1, 0}, {0, 4, true, 1, 0}, {0, 3, true, 0, 0}, {0, 5, false, 0, 0}, {0, 5, true, 1, 0},
	{3, 1, false, 0, 1}, {3, 1, true, 0, 1}, {3, 9, true, 0, 1}, {3, 9, false, 0, 0},
	{7, 30, true, 2, 1}, {7, 30, false, 0, 1}, {7, 29, true, 2, 0}, {7, 1, false, 1, 0}, {7, 1, true, 1, 0},
	{1000, billion, false, 0, 1}, {1000, billion, true, 0, 1}, {1000, billion - 1, true, 0, 0},
	{1, billion, true, 0, 0}, {5, 9, false, 0, 0}, {-1, billion, true, 0, 0}, {1001, billion, true, 0, 0}, {math.MaxInt, 9, true, 0, 0}, {math.MinInt, 9, false, 0, 0},
}

func TestCoreAckAndNack(t *testing.T) {
	for _, r := range coreTags {
		what := fmt.Sprintf("(%d, %d, %v)", r.owner, r.tag, r.all)
		want, n := givenBy(someCore(), r.owner, r.tag, r.all, false)
		if n != r.a+r.m || len(want.Queues[0].Held) != 7-r.a || len(want.Queues[1].Held) != 5-r.m {
			t.Errorf("%s: %d are looked for; want %d and %d", what, n, r.a, r.m)
		}
		got, count := impl.CoreAck(someCore(), r.owner, r.tag, r.all)
		wantCore(t, "CoreAck"+what, got, count, want, n)
		again, count := impl.CoreAck(got, r.owner, r.tag, r.all)
		wantCore(t, "CoreAck again"+what, again, count, want, 0)
		got, count = impl.CoreNack(someCore(), r.owner, r.tag, r.all, false)
		wantCore(t, "CoreNack, not back"+what, got, count, want, n)
		want, _ = givenBy(someCore(), r.owner, r.tag, r.all, true)
		got, count = impl.CoreNack(someCore(), r.owner, r.tag, r.all, true)
		wantCore(t, "CoreNack"+what, got, count, want, n)
		again, count = impl.CoreNack(got, r.owner, r.tag, r.all, true)
		wantCore(t, "CoreNack again"+what, again, count, want, 0)
	}
}

// What is given back is in its place of each queue, and is told as such.
func TestCoreNackPlaces(t *testing.T) {
	for _, r := range []struct {
		owner, tag int
		all        bool
		a, m       string
	}{
		{2, 9, false, "3 5 8 9! 11", "1! 2 7"},
		{2, 9, true, "2! 3 5 8 9! 11 12!", "1! 2 5! 7"},
		{7, 30, true, "3 5 6! 8 10! 11", "2 7 8!"},
		{3, 1, false, "3 5 8 11", "2 3! 7"},
		{1000, billion, false, "3 5 8 11", "2 7 9!"},
		{5, 9, true, "3 5 8 11", "2 7"},
	} {
		got, _ := impl.CoreNack(someCore(), r.owner, r.tag, r.all, true)
		if a, m := marked(got.Queues[0].Ready), marked(got.Queues[1].Ready); a != r.a || m != r.m {
			t.Errorf("CoreNack(%d, %d, %v): ready are %s and %s; want %s and %s", r.owner, r.tag, r.all, a, m, r.a, r.m)
		}
		got, _ = impl.CoreNack(someCore(), r.owner, r.tag, r.all, false)
		if a, m := marked(got.Queues[0].Ready), marked(got.Queues[1].Ready); a != "3 5 8 11" || m != "2 7" {
			t.Errorf("CoreNack(%d, %d, %v), not back: ready are %s and %s", r.owner, r.tag, r.all, a, m)
		}
	}
}

func TestCoreAckAndNackOfWrongCores(t *testing.T) {
	for why, c := range wrongCores() {
		for _, r := range coreTags[:11] {
			for what, call := range map[string]func() (impl.Core, int){
				"CoreAck":            func() (impl.Core, int) { return impl.CoreAck(c, r.owner, r.tag, r.all) },
				"CoreNack":           func() (impl.Core, int) { return impl.CoreNack(c, r.owner, r.tag, r.all, true) },
				"CoreNack, not back": func() (impl.Core, int) { return impl.CoreNack(c, r.owner, r.tag, r.all, false) },
				"CoreLeave":          func() (impl.Core, int) { return impl.CoreLeave(c, r.owner), 0 },
			} {
				got, n := call()
				if n != 0 {
					t.Errorf("%s: %s(%d, %d, %v) counts %d", why, what, r.owner, r.tag, r.all, n)
				}
				wantSame(t, why+": "+what, got, c)
			}
		}
	}
}

func TestCoreAckOfNone(t *testing.T) {
	for why, c := range rightCores() {
		got, n := impl.CoreAck(c, 500, 1, true)
		wantCore(t, why+": CoreAck", got, n, c, 0)
		got, n = impl.CoreNack(c, 500, 1, true, true)
		wantCore(t, why+": CoreNack", got, n, c, 0)
		wantSame(t, why+": CoreLeave", impl.CoreLeave(c, 500), c)
	}
}

func TestCoreLeave(t *testing.T) {
	for _, r := range []struct {
		owner int
		a, m  string
	}{
		{0, "1! 3 5 8 11", "2 7"},
		{2, "2! 3 4! 5 8 9! 11 12!", "1! 2 5! 7"},
		{3, "3 5 8 11", "2 3! 7"},
		{7, "3 5 6! 8 10! 11", "2 7 8!"},
		{1000, "3 5 8 11", "2 7 9!"},
		{1, "3 5 8 11", "2 7"}, {5, "3 5 8 11", "2 7"}, {999, "3 5 8 11", "2 7"},
		{-1, "3 5 8 11", "2 7"}, {1001, "3 5 8 11", "2 7"}, {math.MinInt, "3 5 8 11", "2 7"}, {math.MaxInt, "3 5 8 11", "2 7"},
	} {
		got := impl.CoreLeave(someCore(), r.owner)
		if a, m := marked(got.Queues[0].Ready), marked(got.Queues[1].Ready); a != r.a || m != r.m {
			t.Errorf("CoreLeave(%d): ready are %s and %s; want %s and %s", r.owner, a, m, r.a, r.m)
		}
		want, _ := givenBy(someCore(), r.owner, math.MaxInt, true, true)
		wantDone(t, fmt.Sprintf("CoreLeave(%d)", r.owner), impl.CoreOk, got, true, want)
		wantSame(t, "CoreLeave again", impl.CoreLeave(got, r.owner), want)
	}
}

// When all have left, all are ready that are not acknowledged.
func TestCoreLeaveOfAll(t *testing.T) {
	c := someCore()
	for _, owner := range []int{7, 1000, 0, 3, 2} {
		c = impl.CoreLeave(c, owner)
	}
	if a, m := marked(c.Queues[0].Ready), marked(c.Queues[1].Ready); a != "1! 2! 3 4! 5 6! 8 9! 10! 11 12!" || m != "1! 2 3! 5! 7 8! 9!" {
		t.Errorf("all have left: ready are %s and %s", a, m)
	}
	for _, q := range c.Queues {
		if len(q.Held) != 0 {
			t.Errorf("all have left: held in %s are %d", q.Name, len(q.Held))
		}
	}
	wantSame(t, "the streams", c.Streams, someCore().Streams)
	wantSame(t, "the routes", c.Routes, someCore().Routes)
}

func TestCoreLeaveMany(t *testing.T) {
	c := impl.Core{Queues: manyQueues(20)}
	want := keptCore(c)
	for i := range c.Queues {
		c.Queues[i].Next, want.Queues[i].Next = 501, 501
		for n := range 25 {
			c.Queues[i].Held = append(c.Queues[i].Held, heldOf(4, 20*n+i+1, 500-n))
			m := messageOf(476 + n)
			m.Again = true
			want.Queues[i].Ready = append(want.Queues[i].Ready, m)
		}
	}
	wantSame(t, "another owner", impl.CoreLeave(c, 5), c)
	wantDone(t, "500 in 20 queues", impl.CoreOk, impl.CoreLeave(c, 4), true, want)
	got, n := impl.CoreAck(c, 4, 250, true)
	left, count := givenBy(c, 4, 250, true, false)
	wantCore(t, "half of 500 in 20 queues", got, n, left, count)
	if n != 250 {
		t.Errorf("half of 500 in 20 queues are %d", n)
	}
}

func TestCoreDepth(t *testing.T) {
	for name, want := range map[string]int{"a": 4, "m": 2, "z": 0, "log": 8, "s": 0, "b": -1, "d": -1, "f": -1, "aa": -1, "lo": -1, "zz": -1, "": -1, "A": -1, "no name": -1} {
		wantDepth(t, "some", someCore(), name, want)
		wantDepth(t, "nothing", impl.Core{}, name, -1)
		wantDepth(t, "routes alone", impl.Core{Routes: coreRoutes()}, name, -1)
	}
	c := namedCore("q", "s")
	c.Queues[0] = impl.Queue{Name: "q", Next: 600, Held: manyHeld(1, 500)}
	c.Streams[0] = impl.Stream{Name: "s", Low: 7, Next: 7}
	wantDepth(t, "held ones alone", c, "q", 0)
	wantDepth(t, "a stream that is trimmed", c, "s", 0)
	c.Queues[0] = impl.Queue{Name: "q", Next: 600, Ready: manyReady(1, 500)}
	c.Streams[0] = fullStream("s", 400)
	wantDepth(t, "500 ready", c, "q", 500)
	wantDepth(t, "400 entries", c, "s", 400)
}

func TestCoreDepthMany(t *testing.T) {
	c := impl.Core{Queues: manyQueues(20), Streams: manyStreams(20)}
	for i := range 20 {
		c.Queues[i] = impl.Queue{Name: c.Queues[i].Name, Next: 200, Ready: manyReady(1, 3*i), Held: manyHeld(100, 20-i)}
		c.Streams[i] = impl.Stream{Name: c.Streams[i].Name, Low: 5, Next: 2*i + 5, Entries: manyEntries(5, 2*i)}
	}
	wantCoreOk(t, "many", c, true)
	// Again and again, as it must not hang on who is asked first.
	for range 20 {
		for i := range 20 {
			wantDepth(t, "many", c, c.Queues[i].Name, 3*i)
			wantDepth(t, "many", c, c.Streams[i].Name, 2*i)
			wantDepth(t, "many", c, fmt.Sprintf("q%02d", 2*i), -1)
			wantDepth(t, "many", c, fmt.Sprintf("s%02d", 2*i), -1)
		}
	}
}

// The document names no other answer for a core that is not CoreOk.
func TestCoreDepthOfWrongCores(t *testing.T) {
	wrong := namedCore("c a b", "f d e")
	wrong.Queues[2] = someQueue()
	wrong.Queues[2].Name = "b"
	wrong.Streams[1] = someStream()
	wrong.Streams[1].Name = "d"
	for name, want := range map[string]int{"a": 0, "b": 4, "c": 0, "d": 8, "e": 0, "f": 0, "g": -1, "": -1} {
		wantDepth(t, "out of order", wrong, name, want)
	}
	for why, c := range wrongCores() {
		wantDepth(t, why, c, "nowhere", -1)
	}
}

// coreWalk is a core and what it must be, by the words of the document.
type coreWalk struct {
	core, want impl.Core
	last       map[int]int
	roll       func(n int) int
	time       int
	refused    int
}

func (w *coreWalk) publish(t *testing.T, step int) {
	exchange := []string{"", "d", "f", "t", "f", "t", "x"}[w.roll(7)]
	key := []string{"a", "m", "z", "log", "s", "some", "stay", "one", "a.log", "a.b", "b.log", "gone", "k", "no key"}[w.roll(14)]
	time := w.time - w.roll(3)/2
	w.time += w.roll(2)
	want, count := publishedBy(w.want, exchange, key, fmt.Sprintf("step %d", step), time)
	got, n := impl.CorePublish(w.core, exchange, key, fmt.Sprintf("step %d", step), time)
	if n != count {
		t.Fatalf("step %d: CorePublish(%q, %q, %d) counts %d; want %d", step, exchange, key, time, n, count)
	}
	if count == -1 {
		w.refused++
	}
	w.core, w.want = got, want
}

func (w *coreWalk) get(t *testing.T, step int, owner int) {
	queue := []string{"a", "m", "z", "s", "b"}[w.roll(5)]
	at := slices.IndexFunc(w.want.Queues, func(q impl.Queue) bool { return q.Name == queue })
	w.last[owner]++
	got, m, ok := impl.CoreGet(w.core, queue, owner, w.last[owner])
	if at < 0 || len(w.want.Queues[at].Ready) == 0 {
		if ok || m != (impl.Message{}) {
			t.Fatalf("step %d: CoreGet(%q) = %#v, %v", step, queue, m, ok)
		}
		w.core = got
		return
	}
	q := &w.want.Queues[at]
	first := q.Ready[0]
	if !ok || m != first {
		t.Fatalf("step %d: CoreGet(%q) = %#v, %v; want %#v", step, queue, m, ok, first)
	}
	q.Ready = slices.Clone(q.Ready[1:])
	// Behind all others of its owner, as tags only grow.
	place := len(q.Held) - len(slices.DeleteFunc(slices.Clone(q.Held), func(h impl.Held) bool { return h.Owner <= owner }))
	q.Held = slices.Insert(slices.Clone(q.Held), place, impl.Held{Tag: w.last[owner], Owner: owner, Message: first})
	w.core = got
}

func (w *coreWalk) give(t *testing.T, step int, owner int) {
	tag, all, kind := w.last[owner]-w.roll(9), w.roll(3) == 0, w.roll(4)
	var got impl.Core
	var n int
	switch kind {
	case 0:
		got, n = impl.CoreAck(w.core, owner, tag, all)
	case 1:
		got, n = impl.CoreNack(w.core, owner, tag, all, false)
	case 2:
		got, n = impl.CoreNack(w.core, owner, tag, all, true)
	case 3:
		tag, all = billion, true
		got = impl.CoreLeave(w.core, owner)
	}
	want, count := givenBy(w.want, owner, tag, all, kind >= 2)
	if kind < 3 && n != count {
		t.Fatalf("step %d: owner %d, tag %d, all %v, kind %d: %d; want %d", step, owner, tag, all, kind, n, count)
	}
	w.core, w.want = got, want
}

func TestCoreByPromise(t *testing.T) {
	w := &coreWalk{core: someCore(), want: someCore(), last: map[int]int{0: 50, 1: 50, 2: 50}, roll: diceOf(10), time: 61}
	for step := range 1500 {
		owner := w.roll(3)
		switch w.roll(8) {
		case 0, 1, 2:
			w.publish(t, step)
		case 3, 4, 5:
			w.get(t, step, owner)
		default:
			w.give(t, step, owner)
		}
		if !same(w.core, w.want) || !impl.CoreOk(w.core) {
			t.Fatalf("step %d: the core is %#v; want %#v", step, w.core, w.want)
		}
		for _, q := range w.want.Queues {
			wantDepth(t, "the walk", w.core, q.Name, len(q.Ready))
		}
		for _, s := range w.want.Streams {
			wantDepth(t, "the walk", w.core, s.Name, len(s.Entries))
		}
	}
	if w.refused < 20 || w.core.Queues[0].Next < 100 || w.core.Streams[0].Next < 100 {
		t.Errorf("the walk had %d refused, and came to %d and %d only", w.refused, w.core.Queues[0].Next, w.core.Streams[0].Next)
	}
}

// coreAsked is a core and what it is asked with.
type coreAsked struct {
	Core                impl.Core
	Exchange, Key, Body string
}

// coreCalls are calls with a core and texts.
var coreCalls = map[string]func(x coreAsked) []any{
	"CoreOk":              func(x coreAsked) []any { return []any{impl.CoreOk(x.Core)} },
	"CoreQueue":           func(x coreAsked) []any { c, ok := impl.CoreQueue(x.Core, x.Key, false); return []any{c, ok} },
	"CoreQueue, a stream": func(x coreAsked) []any { c, ok := impl.CoreQueue(x.Core, x.Key, true); return []any{c, ok} },
	"CorePublish": func(x coreAsked) []any {
		c, n := impl.CorePublish(x.Core, x.Exchange, x.Key, x.Body, 70)
		return []any{c, n}
	},
	"CorePublish, too old": func(x coreAsked) []any {
		c, n := impl.CorePublish(x.Core, x.Exchange, x.Key, x.Body, 7)
		return []any{c, n}
	},
	"CoreGet":            func(x coreAsked) []any { c, m, ok := impl.CoreGet(x.Core, x.Key, 2, 30); return []any{c, m, ok} },
	"CoreGet of no tag":  func(x coreAsked) []any { c, m, ok := impl.CoreGet(x.Core, x.Key, 2, 0); return []any{c, m, ok} },
	"CoreAck":            func(x coreAsked) []any { c, n := impl.CoreAck(x.Core, 2, 9, false); return []any{c, n} },
	"CoreAck of all":     func(x coreAsked) []any { c, n := impl.CoreAck(x.Core, 2, 9, true); return []any{c, n} },
	"CoreAck of none":    func(x coreAsked) []any { c, n := impl.CoreAck(x.Core, 5, 9, true); return []any{c, n} },
	"CoreNack":           func(x coreAsked) []any { c, n := impl.CoreNack(x.Core, 2, 9, false, true); return []any{c, n} },
	"CoreNack of all":    func(x coreAsked) []any { c, n := impl.CoreNack(x.Core, 2, 20, true, true); return []any{c, n} },
	"CoreNack, not back": func(x coreAsked) []any { c, n := impl.CoreNack(x.Core, 2, 9, true, false); return []any{c, n} },
	"CoreLeave":          func(x coreAsked) []any { return []any{impl.CoreLeave(x.Core, 2)} },
	"CoreLeave of none":  func(x coreAsked) []any { return []any{impl.CoreLeave(x.Core, 5)} },
	"CoreDepth":          func(x coreAsked) []any { return []any{impl.CoreDepth(x.Core, x.Key)} },
}

func TestCoreMemory(t *testing.T) {
	list := wrongCores()
	for why, c := range rightCores() {
		list[why] = c
	}
	for why, c := range list {
		for name, call := range coreCalls {
			for _, r := range [][2]string{{"f", "k"}, {"", "a"}, {"", "log"}, {"", "n"}, {"f", "no key"}} {
				wantApart(t, why+": "+name, coreAsked{Core: c, Exchange: r[0], Key: r[1], Body: "hello"}, call)
			}
		}
	}
}
