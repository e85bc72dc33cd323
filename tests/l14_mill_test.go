package tests

import (
	"fmt"
	"math"
	"slices"
	"strings"
	"testing"

	"loop.example/g00227/impl"
)

// millCore has messages that are held by lines of the connections of someMill.
func millCore() impl.Core {
	log := someStream()
	log.Name = "log"
	return impl.Core{
		Routes: coreRoutes(),
		Queues: []impl.Queue{
			{
				Name:  "a",
				Next:  9,
				Ready: []impl.Message{messageOf(2), againOf(messageOf(5)), messageOf(8)},
				Held:  []impl.Held{heldOf(1, 3, 4), heldOf(1, 7, 1), heldOf(17, 1, 6)},
			},
			{
				Name:  "m",
				Next:  4,
				Ready: []impl.Message{againOf(messageOf(3))},
				Held:  []impl.Held{heldOf(2, 9, 1), heldOf(18, 2, 2)},
			},
			{Name: "z", Next: 1},
		},
		Streams: []impl.Stream{log, {Name: "s"}},
	}
}

// millConns are three connections, of which the one between is closed.
func millConns() []impl.Conn {
	first := lineOf(1, 1)
	first.Channel.Tag = 7
	second := lineOf(3, 2)
	second.Channel = impl.Channel{Owner: 2, Tag: 9, Tx: true, Pubs: []impl.Pub{pubOf("", "z", "waits")}, Acks: []impl.AckOp{{Tag: 9}}}
	third := waitingOf(4, 17, 2, "60 40 = =z", 5, "ab")
	third.Channel.Tag = 1
	fourth := lineOf(9, 18)
	fourth.Channel.Tag = 2
	return []impl.Conn{
		{Lines: []impl.Line{first, second}},
		{Id: 1, Closed: true},
		{Id: 2, Buf: "\x08\x00", Lines: []impl.Line{third, fourth}},
	}
}

// millOf is a mill whose store keeps its core, all of it in Young.
func millOf(c impl.Core, conns ...impl.Conn) impl.Mill {
	return impl.Mill{Core: c, Store: writtenStore(impl.Table{Young: keptBy(c)}), Conns: conns, Time: 70}
}

// someMill has a store with runs, of which a part is safe.
func someMill() impl.Mill {
	m := millOf(millCore(), millConns()...)
	kept := keptBy(m.Core)
	m.Store.Table = impl.Table{
		Young: append(slices.Clone(kept[:5]), goneOf("zz")),
		Runs:  [][]impl.Pair{kept[5:20], {pairOf(kept[6].Key, "older"), pairOf("zz", "gone ahead")}, kept[20:]},
	}
	m.Store.Safe = 9
	return m
}

// keptMill is m in lists of its own, to be changed.
func keptMill(m impl.Mill) impl.Mill {
	m.Core = keptCore(m.Core)
	m.Store.Table = keptTable(m.Store.Table)
	m.Conns = slices.Clone(m.Conns)
	for i := range m.Conns {
		m.Conns[i] = keptConn(m.Conns[i])
	}
	return m
}

// changedMill is someMill with something changed in it.
func changedMill(change func(m *impl.Mill)) impl.Mill {
	m := keptMill(someMill())
	change(&m)
	return m
}

// manyConns are n connections as they begin, each with its place for Id.
func manyConns(n int) []impl.Conn {
	var out []impl.Conn
	for i := range n {
		out = append(out, impl.Conn{Id: i})
	}
	return out
}

// fullMill has as many pairs as are told: a queue, and its messages, with one
// connection on which line 1 is open.
func fullMill(pairs int) impl.Mill {
	q := impl.Queue{Name: "q", Next: pairs, Ready: manyReady(1, pairs-1)}
	return millOf(queueCore(q), impl.Conn{Lines: []impl.Line{lineOf(1, 1)}})
}

// paddingOf is a record of n bytes, which are 19 and more, that leaves nothing.
func paddingOf(n int) string {
	const ahead = 7
	var b []impl.Pair
	for left := n - 8 - 1 - 3; left > 0; {
		size := min(left, ahead+4000)
		if rest := left - size; rest > 0 && rest < ahead {
			size -= ahead
		}
		b = append(b, pairOf("k", manyBytes(size-ahead)))
		left -= size
	}
	return recordBytes(batchBytes(append(b, goneOf("k"))))
}

// loggedMill is a mill with a log of n bytes, in which there are a queue q, a
// stream s of two entries, and a connection with line 1.
func loggedMill(n int) impl.Mill {
	c := queueCore(impl.Queue{Name: "q", Next: 3, Ready: []impl.Message{{Seq: 1}, {Seq: 2, Again: true}}})
	c.Streams = []impl.Stream{streamOf(0, 5, 6)}
	m := millOf(c, impl.Conn{Lines: []impl.Line{lineOf(1, 1)}})
	for left := n - len(m.Store.Log); left > 0; {
		size := min(left, 80000)
		if rest := left - size; rest > 0 && rest < 19 {
			size -= 19
		}
		m.Store.Log += paddingOf(size)
		left -= size
	}
	return m
}

// rightMills are mills that are right, by what is to be seen in them.
func rightMills() map[string]impl.Mill {
	held := func(owner int) impl.Core {
		return queueCore(impl.Queue{Name: "q", Next: 3, Held: []impl.Held{heldOf(owner, 1, 2)}})
	}
	all := manyConns(6)
	all[5].Lines = []impl.Line{lineOf(1, 42), lineOf(2, 48)}
	out := map[string]impl.Mill{
		"nothing":                 {},
		"lists of none":           {Core: impl.Core{Queues: []impl.Queue{}}, Conns: []impl.Conn{}},
		"the greatest Time":       {Time: billion},
		"some":                    someMill(),
		"some without conns":      millOf(settledBy(millCore())),
		"six connections":         {Conns: manyConns(6)},
		"all of them closed":      {Conns: []impl.Conn{{Closed: true}, {Id: 1, Closed: true}, {Id: 2, Closed: true}}},
		"held by the first line":  millOf(held(1), impl.Conn{Lines: []impl.Line{lineOf(7, 1)}}),
		"held by the last line":   millOf(held(48), all...),
		"held by a line between":  millOf(held(42), all...),
		"300 pairs":               fullMill(300),
		"a log of 200000 bytes":   loggedMill(200000),
		"a batch of none written": {Store: storeOf(impl.Table{}, [][]impl.Pair{nil}, 0)},
		"runs of no pairs":        {Store: impl.Store{Table: impl.Table{Runs: make([][]impl.Pair, 8)}}},
	}
	for why, c := range keepCores() {
		if kept := keptBy(c); len(kept) <= 300 {
			out["a core: "+why] = millOf(settledBy(c), manyConns(2)...)
		}
	}
	for why, n := range rightConns() {
		if n.Id <= 1 {
			conns := manyConns(3)
			conns[n.Id] = n
			out["a connection: "+why] = impl.Mill{Conns: conns}
		}
	}
	return out
}

// otherCores are cores of which the store of someMill does not keep the pairs.
func otherCores() map[string]func(c *impl.Core) {
	return map[string]func(c *impl.Core){
		"nothing":               func(c *impl.Core) { *c = impl.Core{} },
		"one exchange more":     func(c *impl.Core) { c.Routes, _ = impl.Declare(c.Routes, "new", 0) },
		"another kind":          func(c *impl.Core) { c.Routes.Exchanges[0].Kind = impl.KindFanout },
		"one binding less":      func(c *impl.Core) { c.Routes.Bindings = c.Routes.Bindings[1:] },
		"one queue more":        func(c *impl.Core) { *c, _ = impl.CoreQueue(*c, "new", false) },
		"one queue less":        func(c *impl.Core) { c.Queues = c.Queues[:2] },
		"another Next":          func(c *impl.Core) { c.Queues[2].Next++ },
		"one message more":      func(c *impl.Core) { c.Queues[2], _ = impl.Push(c.Queues[2], "", "z", "") },
		"one message less":      func(c *impl.Core) { c.Queues[0].Ready = c.Queues[0].Ready[1:] },
		"one that is held less": func(c *impl.Core) { c.Queues[0].Held = c.Queues[0].Held[1:] },
		"another body":          func(c *impl.Core) { c.Queues[0].Ready[0].Body += "x" },
		"handed out before":     func(c *impl.Core) { c.Queues[0].Ready[0].Again = true },
		"never handed out":      func(c *impl.Core) { c.Queues[1].Ready[0].Again = false },
		"one stream more":       func(c *impl.Core) { *c, _ = impl.CoreQueue(*c, "new", true) },
		"one entry more":        func(c *impl.Core) { c.Streams[1], _ = impl.StreamPut(c.Streams[1], 5, "") },
		"one entry less":        func(c *impl.Core) { c.Streams[0] = impl.StreamTrim(c.Streams[0], 7, 0) },
		"another time":          func(c *impl.Core) { c.Streams[0].Entries[0].Time-- },
		"another mark":          func(c *impl.Core) { c.Streams[0].Marks[0].Offset++ },
		"one mark less":         func(c *impl.Core) { c.Streams[0].Marks = c.Streams[0].Marks[1:] },
	}
}

// wrongMills are mills that are not MillOk, by the reason why. Most of them
// break one sentence of the chapter alone.
func wrongMills() map[string]impl.Mill {
	out := map[string]impl.Mill{}
	for why, c := range wrongCores() {
		// No pairs are kept of such a core, and so does a store of none.
		out["a wrong core: "+why] = impl.Mill{Core: c}
	}
	for why, s := range wrongStores() {
		core, _ := impl.Load(impl.StoreAll(s))
		out["a wrong store: "+why] = impl.Mill{Core: core, Store: s}
	}
	for why, change := range otherCores() {
		out["another core: "+why] = changedMill(func(m *impl.Mill) { change(&m.Core) })
	}
	for why, n := range wrongConns() {
		conns := manyConns(3)
		conns[max(0, min(2, n.Id))] = n
		out["a wrong connection: "+why] = impl.Mill{Conns: conns}
	}
	for _, time := range noTimes {
		out[fmt.Sprint("a Time of ", time)] = impl.Mill{Time: time}
		out[fmt.Sprint("some with a Time of ", time)] = changedMill(func(m *impl.Mill) { m.Time = time })
	}
	for why, ids := range map[string][]int{
		"not from 0 on": {1}, "from 1 on": {1, 2, 3}, "one left out": {0, 2}, "the first twice": {0, 0}, "the last twice": {0, 1, 1}, "turned": {1, 0}, "two turned": {0, 1, 3, 2}, "one far off": {0, 1, 100}, "seven": {0, 1, 2, 3, 4, 5, 6}, "seven, one twice": {0, 1, 2, 3, 4, 5, 5},
	} {
		m := impl.Mill{Conns: manyConns(len(ids))}
		for i, id := range ids {
			m.Conns[i].Id = id
		}
		out["Ids: "+why] = m
	}
	out["many connections"] = impl.Mill{Conns: manyConns(101)}
	out["no line any more"] = changedMill(func(m *impl.Mill) { m.Conns[0] = withoutLine(m.Conns[0], 1) })
	out["no line of the last any more"] = changedMill(func(m *impl.Mill) { m.Conns[2] = withoutLine(m.Conns[2], 9) })
	out["a connection that is closed holds"] = changedMill(func(m *impl.Mill) { m.Conns[0] = impl.Conn{Closed: true} })
	out["no connections, and some is held"] = changedMill(func(m *impl.Mill) { m.Conns = nil })
	for why, change := range map[string]func(s *impl.Store){
		"a Safe of -1":       func(s *impl.Store) { s.Safe = -1 },
		"a Safe beyond":      func(s *impl.Store) { s.Safe = len(s.Log) + 1 },
		"a byte more":        func(s *impl.Store) { s.Log += "x" },
		"a byte less":        func(s *impl.Store) { s.Log = s.Log[:len(s.Log)-1] },
		"no log":             func(s *impl.Store) { s.Log, s.Safe = "", 0 },
		"a log of another":   func(s *impl.Store) { s.Log += recordBytes(batchBytes([]impl.Pair{pairOf("zz", "")})) },
		"nothing":            func(s *impl.Store) { *s = impl.Store{} },
		"one of another":     func(s *impl.Store) { *s = someStore() },
		"nine runs":          func(s *impl.Store) { s.Table.Runs = append(s.Table.Runs, make([][]impl.Pair, 6)...) },
		"a run out of order": func(s *impl.Store) { slices.Reverse(s.Table.Runs[0]) },
	} {
		out["the store: "+why] = changedMill(func(m *impl.Mill) { change(&m.Store) })
	}
	out["a log of 200001 bytes"] = loggedMill(200001)
	out["301 pairs"] = fullMill(301)
	return out
}

// wantMill wants what a call answered to be this mill.
func wantMill(t *testing.T, what string, got impl.Mill, want impl.Mill) {
	t.Helper()
	wantStore(t, what, got.Store, want.Store)
	wantSame(t, what+": Core", got.Core, want.Core)
	wantSame(t, what+": Conns", got.Conns, want.Conns)
	if got.Time != want.Time {
		t.Errorf("%s: Time = %d; want %d", what, got.Time, want.Time)
	}
}

func wantMillOk(t *testing.T, why string, m impl.Mill, want bool) {
	t.Helper()
	if got := impl.MillOk(m); got != want {
		t.Errorf("%s: MillOk = %v; want %v", why, got, want)
	}
}

// changeBy is the batch that makes one list of another, by the words of the document.
func changeBy(old []impl.Pair, next []impl.Pair) []impl.Pair {
	var out []impl.Pair
	for _, p := range next {
		if !slices.Contains(old, p) {
			out = append(out, p)
		}
	}
	for _, p := range old {
		if !slices.ContainsFunc(next, func(n impl.Pair) bool { return n.Key == p.Key }) {
			out = append(out, goneOf(p.Key))
		}
	}
	return sortPairs(out)
}

// millKeptBy is a right mill with another core, and whether that can be kept,
// by the words of the document.
func millKeptBy(m impl.Mill, c impl.Core) (impl.Mill, bool) {
	b := changeBy(toldBy(m.Store.Table), keptBy(c))
	next := m
	next.Core = c
	if len(b) == 0 {
		return next, true
	}
	store, ok := doneBy(m.Store, b)
	if !ok || len(b) > 60 {
		return m, false
	}
	next.Store = store
	return next, true
}

// millFedBy is what bytes make of a right mill, by the words of the document.
func millFedBy(m impl.Mill, at int, bytes string) (impl.Mill, string, bool) {
	c, n, said := fedBy(fedWith{m.Core, m.Conns[at], bytes, m.Time})
	next, ok := millKeptBy(m, c)
	if !ok {
		return m, "", false
	}
	next.Conns = slices.Clone(m.Conns)
	next.Conns[at] = n
	return next, said, true
}

// wantMillFed wants bytes to do with a mill what the document's words make of them.
func wantMillFed(t *testing.T, why string, m impl.Mill, at int, bytes string) (impl.Mill, string) {
	t.Helper()
	got, said, ok := impl.MillFeed(m, at, bytes)
	want, words, taken := millFedBy(m, at, bytes)
	if ok != taken || said != words {
		t.Errorf("%s: MillFeed says %q, %v; want %q, %v", why, said, ok, words, taken)
	}
	wantMill(t, why+": MillFeed", got, want)
	wantMillOk(t, why+": MillFeed", got, true)
	return got, said
}

// wantNotFed wants a mill to refuse bytes.
func wantNotFed(t *testing.T, why string, m impl.Mill, at int, bytes string) {
	t.Helper()
	got, said, ok := impl.MillFeed(m, at, bytes)
	if ok || said != "" {
		t.Errorf("%s: MillFeed says %q, %v; want nothing and false", why, said, ok)
	}
	wantMill(t, why+": MillFeed", got, m)
}

// wantNotOpened wants a mill to open no connection.
func wantNotOpened(t *testing.T, why string, m impl.Mill) {
	t.Helper()
	got, place := impl.MillOpen(m)
	if place != -1 {
		t.Errorf("%s: MillOpen at %d; want -1", why, place)
	}
	wantMill(t, why+": MillOpen", got, m)
}

// wantNotTrimmed wants a mill to trim nothing.
func wantNotTrimmed(t *testing.T, why string, m impl.Mill, stream string, count int, oldest int) {
	t.Helper()
	got, ok := impl.MillTrim(m, stream, count, oldest)
	if ok {
		t.Errorf("%s: MillTrim(%q, %d, %d) is taken", why, stream, count, oldest)
	}
	wantMill(t, why+": MillTrim", got, m)
}

func TestMillConstants(t *testing.T) {
	if impl.MaxConns != 6 {
		t.Error("MaxConns", impl.MaxConns)
	}
}

func TestMillStart(t *testing.T) {
	for _, time := range []int{0, 1, 70, 999999999, billion} {
		wantMill(t, fmt.Sprint("MillStart ", time), impl.MillStart(time), impl.Mill{Time: time})
		wantMillOk(t, fmt.Sprint("MillStart ", time), impl.MillStart(time), true)
	}
	for _, time := range noTimes {
		wantMill(t, fmt.Sprint("MillStart ", time), impl.MillStart(time), impl.Mill{})
		wantMillOk(t, fmt.Sprint("MillStart ", time), impl.MillStart(time), true)
	}
}

func TestMillOk(t *testing.T) {
	for why, m := range rightMills() {
		wantMillOk(t, why, m, true)
	}
	for why, m := range wrongMills() {
		wantMillOk(t, why, m, false)
	}
}

func TestMillOkTime(t *testing.T) {
	for _, time := range []int{0, 1, 2, 59, 999999999, billion} {
		wantMillOk(t, fmt.Sprint("a Time of ", time), changedMill(func(m *impl.Mill) { m.Time = time }), true)
	}
}

func TestMillOkConns(t *testing.T) {
	for n := range 9 {
		wantMillOk(t, fmt.Sprint(n, " connections"), impl.Mill{Conns: manyConns(n)}, n <= 6)
		for i := range n {
			m := impl.Mill{Conns: manyConns(n)}
			m.Conns[i].Buf = "x"
			wantMillOk(t, "with a part", m, n <= 6)
			m.Conns[i].Closed = true
			wantMillOk(t, "closed with a part", m, false)
			m.Conns[i].Buf = ""
			wantMillOk(t, "closed", m, n <= 6)
			m.Conns[i].Id++
			wantMillOk(t, "another Id", m, false)
		}
	}
}

// A message may be held by each owner that is a line's, and by no other.
func TestMillOkHeld(t *testing.T) {
	conns := manyConns(6)
	conns[0].Lines = []impl.Line{lineOf(1, 8)}
	conns[1].Lines = []impl.Line{lineOf(1, 9), lineOf(2, 11)}
	conns[2].Closed = true
	conns[5].Lines = []impl.Line{lineOf(1, 48), lineOf(2, 41), lineOf(65535, 45)}
	owners := []int{8, 9, 11, 48, 41, 45}
	for owner := range 1001 {
		if owner > 60 && owner < 990 {
			continue
		}
		c := impl.Core{Queues: []impl.Queue{
			{Name: "p", Next: 3, Held: []impl.Held{heldOf(9, 1, 1)}},
			{Name: "q", Next: 3, Ready: []impl.Message{messageOf(1)}, Held: []impl.Held{heldOf(owner, 1, 2)}},
			{Name: "r", Next: 3, Held: []impl.Held{heldOf(45, 1, 1)}},
		}}
		wantMillOk(t, fmt.Sprint("held by ", owner), millOf(c, conns...), slices.Contains(owners, owner))
		c.Queues[1].Held = []impl.Held{heldOf(min(9, owner), 2, 2), heldOf(max(10, owner), 5, 1)}
		c.Queues[1].Ready = nil
		least, most := slices.Contains(owners, min(9, owner)), slices.Contains(owners, max(10, owner))
		wantMillOk(t, fmt.Sprint("held by two of ", owner), millOf(c, conns...), least && most)
	}
}

// What is held is kept as what was handed out, by whichever line it is held.
func TestMillOkKept(t *testing.T) {
	for why, change := range map[string]func(m *impl.Mill){
		"settled":             func(m *impl.Mill) { m.Core = settledBy(m.Core) },
		"held by another":     func(m *impl.Mill) { m.Core.Queues[1].Held[0].Owner = 17 },
		"held by another tag": func(m *impl.Mill) { m.Core.Queues[0].Held[1].Tag = 8 },
		"all in Young":        func(m *impl.Mill) { m.Store.Table = impl.Table{Young: keptBy(m.Core)} },
		"all in a run":        func(m *impl.Mill) { m.Store.Table = impl.Table{Runs: [][]impl.Pair{keptBy(m.Core)}} },
		"nothing safe":        func(m *impl.Mill) { m.Store.Safe = 0 },
		"all safe":            func(m *impl.Mill) { m.Store.Safe = len(m.Store.Log) },
		"another log":         func(m *impl.Mill) { m.Store.Log = paddingOf(77) + m.Store.Log },
	} {
		wantMillOk(t, why, changedMill(change), true)
	}
}

func TestMillOpen(t *testing.T) {
	for _, m := range []impl.Mill{{}, impl.MillStart(billion), millOf(settledBy(millCore()))} {
		for i := range 6 {
			next, place := impl.MillOpen(m)
			want := m
			want.Conns = manyConns(i + 1)
			if place != i {
				t.Errorf("connection %d is at %d", i, place)
			}
			wantMill(t, "MillOpen", next, want)
			wantMillOk(t, "MillOpen", next, true)
			m = next
		}
		wantNotOpened(t, "a seventh", m)
	}
	next, place := impl.MillOpen(someMill())
	want := someMill()
	want.Conns = append(millConns(), impl.Conn{Id: 3})
	wantMill(t, "some", next, want)
	if place != 3 {
		t.Errorf("some: at %d", place)
	}
	// Those that are closed keep their places.
	closed := impl.Mill{Conns: manyConns(6)}
	for i := range closed.Conns {
		closed.Conns[i].Closed = true
	}
	wantNotOpened(t, "six that are closed", closed)
}

func TestMillOpenOfWrongMills(t *testing.T) {
	for why, m := range wrongMills() {
		wantNotOpened(t, why, m)
	}
}

// wantWritten wants bytes on a connection to write down these pairs, as one
// batch, and nothing where there are none; and this to be said.
func wantWritten(t *testing.T, why string, m impl.Mill, at int, bytes string, said string, pairs ...impl.Pair) impl.Mill {
	t.Helper()
	next, got := wantMillFed(t, why, m, at, bytes)
	log := m.Store.Log
	if len(pairs) > 0 {
		log += recordBytes(batchBytes(pairs))
	}
	if next.Store.Log != log {
		t.Errorf("%s: %q is written down; want %v", why, strings.TrimPrefix(next.Store.Log, m.Store.Log), pairs)
	}
	if got != said {
		t.Errorf("%s: %q is said; want %q", why, got, said)
	}
	if next.Store.Safe != m.Store.Safe || next.Time != m.Time {
		t.Errorf("%s: Safe = %d, Time = %d", why, next.Store.Safe, next.Time)
	}
	return next
}

// Bytes that change nothing of what is kept write nothing down.
func TestMillFeedNothing(t *testing.T) {
	beat := wire("0 beat")
	some := someMill()
	wantWritten(t, "no bytes", some, 0, "", "")
	wantWritten(t, "a beat", some, 0, beat, "")
	wantWritten(t, "a part", some, 0, beat[:3], "")
	wantWritten(t, "more of a part", some, 2, beat[2:5], "")
	wantWritten(t, "a line", some, 0, wire("2 20 10"), wire("2 20 11"))
	wantWritten(t, "nothing to get", some, 0, wire("1 60 70 =z"), wire("1 60 72"))
	wantWritten(t, "confirms", some, 0, wire("1 85 10 0"), wire("1 85 11"))
	wantWritten(t, "a queue that is there", some, 0, wire("1 50 10 =a 0"), wire("1 50 11 =a 3"))
	wantWritten(t, "a publish to nobody", some, 0, wire("1 60 40 = =nobody", "1 head 0"), "")
	wantWritten(t, "a publish without its body", some, 0, wire("1 60 40 = =a", "1 head 3", "1 body xy"), "")
	wantWritten(t, "a transaction", some, 0, wire("3 60 40 = =a", "3 head 1", "3 body x", "3 60 80 9 0"), "")
	wantWritten(t, "rolled back", some, 0, wire("3 90 30"), wire("3 90 31"))
	wantWritten(t, "it fails", some, 0, wire("1 60 80 77 0"), wire("1 10 50 =406 =tag"))
	wantWritten(t, "a commit that fails", some, 0, wire("3 60 80 77 0", "3 90 20"), wire("3 10 50 =541 =commit"))
	wantWritten(t, "handed out a second time", some, 2, beat[2:]+wire("9 60 70 =m"), spokenBy(9, handing("60 71 3 1 =x =k.1 0", "body 3")))
	wantWritten(t, "given back", some, 0, wire("1 60 120 7 1 1"), "")
	wantWritten(t, "a connection that is closed", some, 1, wire("1 20 10"), "")
	for at, want := range map[int]int{0: 2, 2: 3} {
		for bytes, said := range map[string]string{wire("0 10 50 = ="): byeSaid, "x": brokenSaid} {
			m := keptMill(some)
			m.Conns[at].Buf = ""
			m = wantWritten(t, "closed or broken", m, at, bytes, said)
			if held := len(m.Core.Queues[0].Held) + len(m.Core.Queues[1].Held); held != want || !m.Conns[at].Closed {
				t.Errorf("closed or broken: %d are held; want %d", held, want)
			}
			wantWritten(t, "behind that", m, at, wire("1 20 10"), "")
		}
	}
}

// Bytes that change something write all of it down as one batch.
func TestMillFeedWritten(t *testing.T) {
	some := someMill()
	none := againOf(messageOf(2))
	wantWritten(t, "an exchange", some, 0, wire("1 40 10 =new =topic"), wire("1 40 11"), kindPair("new", 2))
	wantWritten(t, "a queue", some, 0, wire("1 50 10 =new 0"), wire("1 50 11 =new 0"), nextPair("new", 1))
	wantWritten(t, "a stream", some, 0, wire("1 50 10 =new 1"), wire("1 50 11 =new 0"), spanPair("new", 0, 0))
	last := len(some.Core.Routes.Bindings)
	wantWritten(t, "a binding", some, 0, wire("1 50 20 =z =t =zz"), wire("1 50 21"), boundPair(last, impl.Binding{Exchange: "t", Key: "zz", Queue: "z"}))
	wantWritten(t, "handed out", some, 0, wire("1 60 70 =a"), spokenBy(1, handing("60 71 8 0 =x =k.1 2", "body 2")), mailPair("a", none))
	wantWritten(t, "acknowledged", some, 0, wire("1 60 80 3 0"), "", goneOf("m/a/000000004"))
	wantWritten(t, "two acknowledged", some, 0, wire("1 60 80 7 1"), "", goneOf("m/a/000000001"), goneOf("m/a/000000004"))
	wantWritten(t, "let go", some, 0, wire("1 60 120 7 0 0"), "", goneOf("m/a/000000001"))
	wantWritten(t, "handed out and acknowledged", some, 0, wire("1 60 70 =a", "1 60 80 8 0"), spokenBy(1, handing("60 71 8 0 =x =k.1 2", "body 2")), goneOf("m/a/000000002"))
	wantWritten(t, "to a queue", some, 0, wire("1 60 40 = =z", "1 head 2", "1 body hi"), "", mailPair("z", impl.Message{Seq: 1, Key: "z", Body: "hi"}), nextPair("z", 2))
	wantWritten(t, "to a stream, at Time", some, 0, wire("1 60 40 = =s", "1 head 0"), "", spanPair("s", 0, 1), timePair("s", impl.Entry{Time: 70}))
	wantWritten(t, "the rest of a body", some, 2, wire("0 beat")[2:]+wire("4 body cde"), "", mailPair("z", impl.Message{Seq: 1, Key: "z", Body: "abcde"}), nextPair("z", 2))
	wantWritten(t, "a commit", some, 0, wire("3 90 20"), wire("3 90 21"), goneOf("m/m/000000001"), mailPair("z", impl.Message{Seq: 1, Key: "z", Body: "waits"}), nextPair("z", 2))
	f := impl.Message{Exchange: "f", Key: "k", Body: "b"}
	at := func(seq int) impl.Message { f.Seq = seq; return f }
	wantWritten(t, "to all", some, 0, wire("1 60 40 =f =k", "1 head 1", "1 body b"), "",
		mailPair("a", at(9)), mailPair("m", at(4)), mailPair("z", at(1)), nextPair("a", 10), nextPair("m", 5), nextPair("z", 2),
		spanPair("log", 5, 14), spanPair("s", 0, 1), timePair("log", impl.Entry{Offset: 13, Time: 70, Body: "b"}), timePair("s", impl.Entry{Time: 70, Body: "b"}))
	// What is done ahead of a break is kept.
	wantWritten(t, "ahead of a break", some, 0, wire("1 50 10 =new 0")+"x", wire("1 50 11 =new 0")+brokenSaid, nextPair("new", 1))
}

// A binding that goes ahead of others moves their places.
func TestMillFeedBindings(t *testing.T) {
	m := millOf(impl.Core{Routes: impl.Routes{Exchanges: []impl.Exchange{{Name: "x"}}}}, impl.Conn{Lines: []impl.Line{lineOf(1, 1)}})
	b := func(key string) impl.Binding { return impl.Binding{Exchange: "x", Key: key, Queue: "q"} }
	m = wantWritten(t, "the first", m, 0, wire("1 50 20 =q =x =b"), wire("1 50 21"), boundPair(0, b("b")))
	m = wantWritten(t, "one ahead", m, 0, wire("1 50 20 =q =x =a"), wire("1 50 21"), boundPair(0, b("a")), boundPair(1, b("b")))
	wantWritten(t, "one behind", m, 0, wire("1 50 20 =q =x =c"), wire("1 50 21"), boundPair(2, b("c")))
}

// All methods and frames that are known, on each connection, by the document's words.
func TestMillFeedByTheWords(t *testing.T) {
	for i, bytes := range connScripts() {
		for at := range 3 {
			wantMillFed(t, fmt.Sprint("script ", i, " on ", at), someMill(), at, bytes)
		}
	}
	for _, words := range eachMethod {
		for _, no := range []int{1, 3} {
			bytes := impl.Say(no, asking(words))
			if strings.HasPrefix(words, "60 40") && bytes != "" {
				bytes += wire(fmt.Sprint(no, " head 1"), fmt.Sprint(no, " body x"))
			}
			wantMillFed(t, words, someMill(), 0, bytes)
		}
	}
}

// millScript is what comes on one connection, from its beginning on.
func millScript() string {
	return wire("1 20 10", "1 50 10 =q 0", "1 50 10 =s 1", "0 beat", "1 40 10 =x =fanout", "1 50 20 =q =x =", "1 50 20 =s =x =",
		"1 60 40 =x =k", "1 head 4", "1 body ab", "1 body cd", "2 20 10", "2 90 10", "2 60 40 = =q", "2 head 0", "1 60 70 =q", "2 90 20", "1 60 80 1 0", "1 60 80 9 0", "2 60 70 =q", "0 10 50 = =")
}

// In whatever pieces bytes come, they make the same core and connections, and
// say the same.
func TestMillFeedPieces(t *testing.T) {
	m, _ := impl.MillOpen(impl.MillStart(9))
	bytes := millScript()
	whole, all, ok := impl.MillFeed(m, 0, bytes)
	if !ok || len(impl.StoreAll(whole.Store)) != 7 || !strings.HasSuffix(all, byeSaid) {
		t.Fatal("the script is refused", ok, impl.StoreAll(whole.Store))
	}
	for at := range len(bytes) + 1 {
		first, said, _ := impl.MillFeed(m, 0, bytes[:at])
		wantMillOk(t, "a part", first, true)
		second, more, ok := impl.MillFeed(first, 0, bytes[at:])
		if !ok || said+more != all {
			t.Errorf("cut at %d: %q and %q are said, %v", at, said, more, ok)
		}
		wantMillOk(t, "both", second, true)
		wantSame(t, "both: Core", second.Core, whole.Core)
		wantSame(t, "both: Conns", second.Conns, whole.Conns)
		wantSame(t, "both: StoreAll", impl.StoreAll(second.Store), impl.StoreAll(whole.Store))
	}
	got, said := m, ""
	for i := range len(bytes) {
		next, words := wantMillFed(t, "byte by byte", got, 0, bytes[i:i+1])
		got, said = next, said+words
	}
	wantSame(t, "byte by byte: Core", got.Core, whole.Core)
	if said != all {
		t.Errorf("byte by byte: %q is said; want %q", said, all)
	}
}

// Connections are fed apart, and hold what they get apart.
func TestMillFeedConns(t *testing.T) {
	m := impl.MillStart(0)
	for range 6 {
		m, _ = impl.MillOpen(m)
	}
	m, _ = wantMillFed(t, "the first", m, 0, wire("1 20 10", "1 50 10 =q 0"))
	for i := range 6 {
		if i > 0 {
			m, _ = wantMillFed(t, "the others", m, i, wire("1 20 10"))
		}
		m, _ = wantMillFed(t, "a message", m, i, wire("1 60 40 = =q", "1 head 1", fmt.Sprint("1 body ", i)))
	}
	for i := range 6 {
		at := 5 - i
		next, said := wantMillFed(t, "a get", m, at, wire("1 60 70 =q"))
		if want := spokenBy(1, handing(fmt.Sprintf("60 71 1 0 = =q %d", 5-i), fmt.Sprint(i))); said != want {
			t.Errorf("connection %d: %q is said; want %q", at, said, want)
		}
		m = next
	}
	for i, h := range m.Core.Queues[0].Held {
		if h.Owner != 8*i+1 || h.Message.Body != fmt.Sprint(5-i) {
			t.Errorf("held %d: %#v", i, h)
		}
	}
	m, _ = wantMillFed(t, "one is closed", m, 2, wire("0 10 50 = ="))
	m, _ = wantMillFed(t, "one acknowledges", m, 3, wire("1 60 80 1 0"))
	if ready, held := impl.Depth(m.Core.Queues[0]); ready != 1 || held != 4 || !m.Core.Queues[0].Ready[0].Again {
		t.Errorf("%d are ready, %d are held", ready, held)
	}
}

func TestMillFeedNoConn(t *testing.T) {
	for why, m := range rightMills() {
		for _, at := range []int{math.MinInt, -1 << 32, -7, -1, len(m.Conns), len(m.Conns) + 1, 6, 7, 1 << 32, math.MaxInt} {
			for _, bytes := range []string{"", "x", wire("1 20 10")} {
				wantNotFed(t, fmt.Sprint(why, " at ", at), m, at, bytes)
			}
		}
	}
}

func TestMillFeedOfWrongMills(t *testing.T) {
	for why, m := range wrongMills() {
		for at := -1; at < 3; at++ {
			for _, bytes := range []string{"", "x", wire("1 20 10"), wire("1 50 10 =new 0")} {
				wantNotFed(t, fmt.Sprint(why, " at ", at), m, at, bytes)
			}
		}
	}
}

// publishes are n messages of so many bytes on line 1, to one queue or stream.
func publishes(n int, queue string, size int) string {
	one := wire("1 60 40 = ="+queue, fmt.Sprint("1 head ", size))
	for _, piece := range impl.Cut(manyBytes(size), 4000) {
		one += frameBytes(3, 1, len(piece), piece, 206)
	}
	return strings.Repeat(one, n)
}

// What one feed changes is one batch of at most 60 pairs.
func TestMillFeedTooManyPairs(t *testing.T) {
	m := fullMill(1)
	for _, queue := range []string{"q", "s"} {
		m, _ = wantMillFed(t, "a stream", m, 0, wire("1 50 10 =s 1"))
		next, _ := wantMillFed(t, "60 pairs", m, 0, publishes(59, queue, 0))
		if n := impl.CoreDepth(next.Core, queue); n != 59 {
			t.Errorf("%s has %d", queue, n)
		}
		for _, n := range []int{60, 61, 100} {
			wantNotFed(t, "too many pairs", m, 0, publishes(n, queue, 0))
			wantNotFed(t, "too many pairs, and a break", m, 0, publishes(n, queue, 0)+"x")
			wantNotFed(t, "too many pairs, and more", m, 0, wire("2 20 10")+publishes(n, queue, 0)+wire("1 60 70 =q"))
		}
		// In two parts there is room for them.
		next, _ = wantMillFed(t, "the first part", m, 0, publishes(30, queue, 0))
		wantMillFed(t, "the second part", next, 0, publishes(30, queue, 0))
	}
	// As many that are gone are too many too.
	full := fullMill(121)
	full, _ = wantMillFed(t, "gets", full, 0, strings.Repeat(wire("1 60 70 =q"), 60))
	full, _ = wantMillFed(t, "gets", full, 0, strings.Repeat(wire("1 60 70 =q"), 60))
	wantNotFed(t, "61 acknowledged", full, 0, wire("1 60 80 61 1"))
	next, _ := wantMillFed(t, "60 acknowledged", full, 0, wire("1 60 80 60 1"))
	if len(next.Core.Queues[0].Held) != 60 {
		t.Errorf("%d are held", len(next.Core.Queues[0].Held))
	}
	wantMillFed(t, "all given back", full, 0, wire("1 60 120 999 1 1"))
}

// The store has at most 300 pairs.
func TestMillFeedTooManyKept(t *testing.T) {
	for pairs := 290; pairs <= 300; pairs++ {
		m := fullMill(pairs)
		for n := 1; n < 13; n++ {
			bytes := publishes(n, "q", 1)
			if pairs+n > 300 {
				wantNotFed(t, fmt.Sprint(pairs, " and ", n), m, 0, bytes)
				continue
			}
			wantMillFed(t, fmt.Sprint(pairs, " and ", n), m, 0, bytes)
		}
	}
	m := fullMill(300)
	for _, words := range []string{"50 10 =new 0", "50 10 =new 1", "40 10 =x =topic"} {
		wantNotFed(t, "one pair more: "+words, m, 0, wire("1 "+words))
	}
	wantNotFed(t, "one queue more, and a line", m, 0, wire("2 20 10", "2 50 10 =new 0"))
	m, _ = wantMillFed(t, "a get", m, 0, wire("2 20 10", "1 60 70 =q"))
	wantNotFed(t, "still full", m, 0, wire("1 50 10 =new 0"))
	m, _ = wantMillFed(t, "one less", m, 0, wire("1 60 80 1 0"))
	wantMillFed(t, "room for one", m, 0, wire("1 50 10 =new 0"))
}

// The log has at most 200000 bytes, and what changes nothing needs none.
func TestMillFeedLogFull(t *testing.T) {
	bytes := wire("1 50 10 =new 0")
	size := len(recordBytes(batchBytes([]impl.Pair{nextPair("new", 1)})))
	for n := 200000 - size - 2; n <= 200000-size; n++ {
		m, said := wantMillFed(t, "room for it", loggedMill(n), 0, bytes)
		if len(m.Store.Log) != n+size || said == "" {
			t.Errorf("a log of %d bytes; want %d", len(m.Store.Log), n+size)
		}
	}
	for _, n := range []int{200000 - size + 1, 199999, 200000} {
		m := loggedMill(n)
		wantMillOk(t, "a full log", m, true)
		wantNotFed(t, "a full log", m, 0, bytes)
		wantNotFed(t, "a full log, and a line", m, 0, wire("2 20 10")+bytes)
		wantNotFed(t, "a full log, and a break", m, 0, bytes+"x")
		wantMillFed(t, "a full log, and a part", m, 0, bytes[:9])
		wantNotFed(t, "a full log: a message", m, 0, publishes(1, "q", 0))
		next, _ := wantMillFed(t, "a full log: a line", m, 0, wire("2 20 10", "2 90 10"))
		next, _ = wantMillFed(t, "a full log: a break", next, 0, "x")
		if !next.Conns[0].Closed {
			t.Error("no break")
		}
	}
	m := loggedMill(200000)
	wantNotFed(t, "handed out the first time", m, 0, wire("1 60 70 =q"))
}

// waitingMill is a mill of one queue, for which messages of these sizes wait in
// the transactions of two lines.
func waitingMill(sizes []int) impl.Mill {
	lines := []impl.Line{lineOf(1, 1), lineOf(2, 2)}
	for i, size := range sizes {
		h := &lines[i/30].Channel
		h.Pubs = append(h.Pubs, pubOf("", "q", manyBytes(size)))
	}
	lines[0].Channel.Tx, lines[1].Channel.Tx = true, true
	m := fullMill(1)
	m.Conns[0].Lines = lines
	return m
}

// A batch has at most 100000 bytes, so that a few great messages are too many.
func TestMillFeedTooLong(t *testing.T) {
	for last := 60; last < 70; last++ {
		m := waitingMill(append(slices.Repeat([]int{3000}, 33), last))
		b := []impl.Pair{nextPair("q", 35)}
		for seq := 1; seq <= 34; seq++ {
			size := 3000
			if seq == 34 {
				size = last
			}
			b = append(b, mailPair("q", impl.Message{Seq: seq, Key: "q", Body: manyBytes(size)}))
		}
		if got := len(batchBytes(b)); got != 99936+last {
			t.Fatal("a batch of", got, "bytes")
		}
		bytes := wire("1 90 20", "2 90 20")
		if last > 64 {
			wantNotFed(t, fmt.Sprint("a last one of ", last), m, 0, bytes)
			continue
		}
		wantWritten(t, fmt.Sprint("a last one of ", last), m, 0, bytes, wire("1 90 21", "2 90 21"), sortPairs(b)...)
	}
}

func TestMillTick(t *testing.T) {
	for _, m := range []impl.Mill{{}, impl.MillStart(5), someMill(), changedMill(func(m *impl.Mill) { m.Time = 1 })} {
		for _, by := range []int{0, 1, 2, 999999, 1000000} {
			want := m
			want.Time += by
			got := impl.MillTick(m, by)
			wantMill(t, fmt.Sprint("MillTick ", by), got, want)
			wantMillOk(t, fmt.Sprint("MillTick ", by), got, true)
		}
		for _, by := range []int{math.MinInt, -billion, -2, -1, 1000001, 1000002, billion, billion + 1, 1 << 32, math.MaxInt} {
			wantMill(t, fmt.Sprint("MillTick ", by), impl.MillTick(m, by), m)
		}
	}
	for _, left := range []int{0, 1, 2, 500000, 999999, 1000000, 1000001} {
		m := changedMill(func(m *impl.Mill) { m.Time = billion - left })
		for _, by := range []int{-1, 0, 1, 2, 3, 500000, 500001, 999999, 1000000, 1000001} {
			want := m
			if by >= 0 && by <= min(left, 1000000) {
				want.Time += by
			}
			wantMill(t, fmt.Sprint("MillTick ", by, " of ", left), impl.MillTick(m, by), want)
		}
	}
	for why, m := range wrongMills() {
		for _, by := range []int{-1, 0, 1, 1000000, 1000001, math.MaxInt} {
			wantMill(t, why+": MillTick", impl.MillTick(m, by), m)
		}
	}
}

// What comes behind a tick comes at the new Time.
func TestMillTickTells(t *testing.T) {
	m, _ := impl.MillOpen(impl.MillStart(3))
	m, _ = wantMillFed(t, "a stream", m, 0, wire("1 20 10", "1 50 10 =s 1"))
	for i, by := range []int{0, 4, 1000000} {
		m = impl.MillTick(m, by)
		m, _ = wantMillFed(t, "an entry", m, 0, publishes(1, "s", 1))
		if got, want := m.Core.Streams[0].Entries[i].Time, []int{3, 7, 1000007}[i]; got != want {
			t.Errorf("entry %d of %d; want %d", i, got, want)
		}
	}
}

func TestMillTrim(t *testing.T) {
	for _, r := range []struct {
		count, oldest int
		low           int
	}{
		{8, 0, 5}, {9, 10, 5}, {math.MaxInt, math.MinInt, 5}, {7, 0, 6}, {4, 0, 9}, {1, 0, 12}, {0, 0, 13},
		{100, 11, 6}, {100, 21, 9}, {100, 60, 12}, {100, 61, 13}, {100, math.MaxInt, 13}, {7, 21, 9}, {3, 21, 10},
	} {
		what := fmt.Sprintf("MillTrim(log, %d, %d)", r.count, r.oldest)
		got, ok := impl.MillTrim(someMill(), "log", r.count, r.oldest)
		core := millCore()
		core.Streams[0].Low, core.Streams[0].Entries = r.low, core.Streams[0].Entries[r.low-5:]
		want, _ := millKeptBy(someMill(), core)
		if !ok {
			t.Errorf("%s is refused", what)
		}
		wantMill(t, what, got, want)
		wantMillOk(t, what, got, true)
		log := someMill().Store.Log
		if r.low > 5 {
			b := []impl.Pair{spanPair("log", r.low, 13)}
			for offset := 5; offset < r.low; offset++ {
				b = append(b, goneOf(fmt.Sprintf("t/log/%09d", offset)))
			}
			log += recordBytes(batchBytes(b))
		}
		if got.Store.Log != log {
			t.Errorf("%s: another log", what)
		}
	}
	got, ok := impl.MillTrim(someMill(), "s", 0, billion)
	if !ok {
		t.Error("a stream of none is refused")
	}
	wantMill(t, "a stream of none", got, someMill())
}

func TestMillTrimRefused(t *testing.T) {
	for _, name := range []string{"a", "m", "z", "none", "", "lo", "logs", "LOG", "d", "f", "ben", "s/", "t/log", "\x00", strings.Repeat("n", 31)} {
		wantNotTrimmed(t, "no stream", someMill(), name, 3, 0)
		wantNotTrimmed(t, "no stream, nothing to trim", someMill(), name, 100, 0)
	}
	for _, count := range []int{-1, -2, -billion, math.MinInt} {
		for _, name := range []string{"log", "s", "a"} {
			wantNotTrimmed(t, "a count below 0", someMill(), name, count, 0)
			wantNotTrimmed(t, "a count below 0", someMill(), name, count, 40)
		}
	}
	for why, m := range wrongMills() {
		for _, name := range []string{"log", "s", "q", "some"} {
			wantNotTrimmed(t, why, m, name, 3, 0)
			wantNotTrimmed(t, why+", nothing to trim", m, name, 1000, 0)
		}
	}
}

// What cannot be kept is not trimmed.
func TestMillTrimNotKept(t *testing.T) {
	long := millOf(streamCore(impl.Stream{Name: "s", Low: 9, Next: 209, Entries: manyEntries(9, 200)}), manyConns(1)...)
	for _, r := range []struct {
		count, oldest int
		taken         bool
	}{{200, 0, true}, {199, 0, true}, {141, 0, true}, {140, 0, false}, {0, 0, false}, {200, 3 * 59, true}, {200, 3*59 + 1, false}, {141, 3*59 + 1, false}, {200, billion, false}} {
		got, ok := impl.MillTrim(long, "s", r.count, r.oldest)
		want := long
		if r.taken {
			want, _ = millKeptBy(long, streamCore(trimmed(long.Core.Streams[0], r.count, r.oldest)))
		}
		if ok != r.taken {
			t.Errorf("MillTrim(s, %d, %d): %v", r.count, r.oldest, ok)
		}
		wantMill(t, "more than a batch has", got, want)
		wantMillOk(t, "more than a batch has", got, true)
	}
	full := loggedMill(200000)
	wantNotTrimmed(t, "a full log", full, "s", 1, 0)
	wantNotTrimmed(t, "a full log", full, "s", 2, 6)
	got, ok := impl.MillTrim(full, "s", 2, 5)
	if !ok {
		t.Error("a full log: nothing to trim is refused")
	}
	wantMill(t, "a full log: nothing to trim", got, full)
	size := len(recordBytes(batchBytes([]impl.Pair{spanPair("s", 1, 2), goneOf("t/s/000000000")})))
	if _, ok := impl.MillTrim(loggedMill(200000-size), "s", 1, 0); !ok {
		t.Error("room for it: refused")
	}
	wantNotTrimmed(t, "a byte too few", loggedMill(200000-size+1), "s", 1, 0)
}

// stepArgs are kinds and places of steps, right or not.
func stepArgs() [][2]int {
	var out [][2]int
	for _, kind := range []int{math.MinInt, -1, impl.StepFlush, impl.StepMerge, 2, 3, 1 << 32, math.MaxInt} {
		for _, at := range []int{math.MinInt, -1, 0, 1, 2, 3, 7, math.MaxInt} {
			out = append(out, [2]int{kind, at})
		}
	}
	return out
}

func TestMillStep(t *testing.T) {
	some := someMill()
	table := some.Store.Table
	flushed := some
	flushed.Store.Table = impl.Table{Runs: append([][]impl.Pair{table.Young}, table.Runs...)}
	wantMill(t, "a flush", impl.MillStep(some, impl.StepFlush, 0), flushed)
	wantMill(t, "a second flush", impl.MillStep(flushed, impl.StepFlush, 0), flushed)
	merged := some
	merged.Store.Table = impl.Table{Young: table.Young, Runs: [][]impl.Pair{mergedBy(table.Runs[0], table.Runs[1], false), table.Runs[2]}}
	wantMill(t, "a merge", impl.MillStep(some, impl.StepMerge, 0), merged)
	merged.Store.Table.Runs = [][]impl.Pair{table.Runs[0], mergedBy(table.Runs[1], table.Runs[2], true)}
	wantMill(t, "a merge of the last", impl.MillStep(some, impl.StepMerge, 1), merged)
	for _, at := range []int{-1, 2, 3} {
		wantMill(t, "no such runs", impl.MillStep(some, impl.StepMerge, at), some)
	}
	for _, kind := range []int{-1, 2, 3, math.MinInt, math.MaxInt} {
		wantMill(t, "no kind", impl.MillStep(some, kind, 0), some)
	}
}

// Behind each step a mill is as right or wrong as it was, and nothing but the
// store is changed.
func TestMillStepOfEach(t *testing.T) {
	for why, m := range rightMills() {
		for _, r := range stepArgs() {
			want := m
			want.Store = impl.StoreStep(m.Store, r[0], r[1])
			got := impl.MillStep(m, r[0], r[1])
			what := fmt.Sprintf("%s: MillStep(%d, %d)", why, r[0], r[1])
			wantMill(t, what, got, want)
			wantMillOk(t, what, got, true)
		}
	}
	for why, m := range wrongMills() {
		for _, r := range stepArgs() {
			want := m
			want.Store = impl.StoreStep(m.Store, r[0], r[1])
			wantMill(t, fmt.Sprintf("%s: MillStep(%d, %d)", why, r[0], r[1]), impl.MillStep(m, r[0], r[1]), want)
		}
	}
}

func TestMillSync(t *testing.T) {
	mills := wrongMills()
	for why, m := range rightMills() {
		mills[why] = m
		wantMillOk(t, why+": MillSync", impl.MillSync(m), true)
	}
	for why, m := range mills {
		want := m
		want.Store.Safe = len(m.Store.Log)
		wantMill(t, why+": MillSync", impl.MillSync(m), want)
	}
}

// wantCrashed wants a crash to leave this core, of so many bytes of the log, as
// a right mill without connections.
func wantCrashed(t *testing.T, why string, m impl.Mill, keep int, core impl.Core, log int) impl.Mill {
	t.Helper()
	got := impl.MillCrash(m, keep)
	want := impl.Mill{Core: core, Store: impl.Store{Table: impl.Table{Young: keptBy(core)}, Log: m.Store.Log[:log], Safe: log}, Time: m.Time}
	what := fmt.Sprintf("%s: MillCrash(%d)", why, keep)
	wantMill(t, what, got, want)
	wantMillOk(t, what, got, true)
	for _, q := range got.Core.Queues {
		if len(q.Held) > 0 {
			t.Errorf("%s: %s is held still", what, q.Name)
		}
	}
	return got
}

// crashMill is a mill on which four things were done, and what its log was ahead
// of them and behind each.
func crashMill(t *testing.T) (impl.Mill, []int) {
	t.Helper()
	m, _ := impl.MillOpen(impl.MillStart(9))
	ends := []int{0}
	for _, bytes := range []string{wire("1 20 10", "1 50 10 =q 0", "1 50 10 =s 1"), publishes(2, "q", 3) + publishes(1, "s", 1), wire("1 60 70 =q"), wire("1 60 80 1 0")} {
		m, _ = wantMillFed(t, "a mill to crash", m, 0, bytes)
		ends = append(ends, len(m.Store.Log))
	}
	return m, ends
}

// crashCores are the cores behind each of these, settled.
func crashCores() []impl.Core {
	one := namedCore("q", "s")
	two := keptCore(one)
	two.Queues[0] = impl.Queue{Name: "q", Next: 3, Ready: []impl.Message{{Seq: 1, Key: "q", Body: manyBytes(3)}, {Seq: 2, Key: "q", Body: manyBytes(3)}}}
	two.Streams[0] = impl.Stream{Name: "s", Next: 1, Entries: []impl.Entry{{Time: 9, Body: manyBytes(1)}}}
	three := keptCore(two)
	three.Queues[0].Ready[0].Again = true
	four := keptCore(two)
	four.Queues[0].Ready = four.Queues[0].Ready[1:]
	return []impl.Core{{}, one, two, three, four}
}

// Wherever a mill that was synced or not is cut off, what is left are the whole
// batches that were safe or kept.
func TestMillCrash(t *testing.T) {
	whole, ends := crashMill(t)
	cores := crashCores()
	for _, safe := range ends {
		m := whole
		m.Store.Safe = safe
		for keep := -2; keep < len(m.Store.Log)+3; keep++ {
			left := leftOf(len(m.Store.Log), safe, keep)
			place, there := slices.BinarySearch(ends, left)
			if !there {
				place--
			}
			wantCrashed(t, fmt.Sprint("Safe of ", safe), m, keep, cores[place], ends[place])
		}
		place, _ := slices.BinarySearch(ends, safe)
		wantCrashed(t, "as few as may be", m, math.MinInt, cores[place], safe)
		wantCrashed(t, "as many as may be", m, math.MaxInt, cores[4], ends[4])
	}
	synced := impl.MillSync(whole)
	for _, keep := range []int{math.MinInt, -1, 0, 1, 9, math.MaxInt} {
		wantCrashed(t, "all safe", synced, keep, cores[4], ends[4])
	}
	for _, keep := range []int{math.MinInt, -1, 0, 1, 9, math.MaxInt} {
		wantCrashed(t, "nothing", impl.MillStart(billion), keep, impl.Core{}, 0)
	}
}

// What was held is ready again and was handed out before, whoever held it.
func TestMillCrashHeld(t *testing.T) {
	m := someMill()
	wantCrashed(t, "all kept", m, math.MaxInt, settledBy(millCore()), len(m.Store.Log))
	wantCrashed(t, "none kept", m, 0, impl.Core{}, 0)
	got := wantCrashed(t, "all safe", impl.MillSync(m), -1, settledBy(millCore()), len(m.Store.Log))
	if q := got.Core.Queues[0]; marked(q.Ready) == "" || len(q.Ready) != 6 || !q.Ready[0].Again || q.Ready[1].Again || !q.Ready[2].Again {
		t.Errorf("the queue a: %#v", q)
	}
	for why, m := range rightMills() {
		core := settledBy(m.Core)
		wantCrashed(t, why, impl.MillSync(m), 0, core, len(m.Store.Log))
		wantCrashed(t, why, impl.MillStep(m, impl.StepFlush, 0), math.MaxInt, core, len(m.Store.Log))
	}
}

// What is left of a log may be the pairs of no core: then there is none.
func TestMillCrashNoCore(t *testing.T) {
	m := fullMill(100)
	_, ends := logOf(slices.Collect(slices.Chunk(keptBy(m.Core), 60)))
	got := impl.MillCrash(m, ends[0])
	want := impl.Mill{Store: impl.StoreCrash(m.Store, ends[0]), Time: 70}
	wantMill(t, "messages without their queue", got, want)
	wantMillOk(t, "messages without their queue", got, false)
	if len(impl.StoreAll(got.Store)) != 60 {
		t.Error("nothing is left of the store")
	}
	mills := wrongMills()
	mills["no pairs of a core"] = impl.Mill{Store: someStore(), Conns: manyConns(3), Time: 5}
	for why, m := range mills {
		for _, keep := range []int{math.MinInt, -1, 0, 1, 40, 100, math.MaxInt} {
			store := impl.StoreCrash(m.Store, keep)
			core, _ := impl.Load(impl.StoreAll(store))
			wantMill(t, why+": MillCrash", impl.MillCrash(m, keep), impl.Mill{Core: core, Store: store, Time: m.Time})
		}
	}
	wantSame(t, "no core", impl.MillCrash(mills["no pairs of a core"], math.MaxInt).Core, impl.Core{})
}

// Behind a crash a connection is opened at place 0, and goes on with what is left.
func TestMillCrashAndOn(t *testing.T) {
	whole, ends := crashMill(t)
	cores := crashCores()
	for place, end := range ends {
		m := wantCrashed(t, "once", whole, end+2, cores[place], end)
		wantNotFed(t, "no connection", m, 0, wire("1 20 10"))
		m, at := impl.MillOpen(m)
		if at != 0 {
			t.Errorf("opened at %d", at)
		}
		m = impl.MillTick(m, 5)
		m, _ = wantMillFed(t, "on", m, 0, wire("1 20 10", "1 50 10 =q 0", "1 60 70 =q"))
		second := len(m.Store.Log)
		once := m.Core
		m, _ = wantMillFed(t, "on", m, 0, wire("1 50 10 =s 1")+publishes(3, "s", 9))
		if got := impl.CoreDepth(m.Core, "s"); got < 3 || m.Core.Streams[0].Entries[got-1].Time != 14 {
			t.Errorf("%d are in the stream", got)
		}
		wantCrashed(t, "twice, all kept", m, math.MaxInt, settledBy(m.Core), len(m.Store.Log))
		wantCrashed(t, "twice, one lost", m, len(m.Store.Log)-end-1, settledBy(once), second)
		wantCrashed(t, "twice, all lost", m, 0, cores[place], end)
		wantCrashed(t, "twice, synced", impl.MillSync(m), 0, settledBy(m.Core), len(m.Store.Log))
		again := wantCrashed(t, "thrice", impl.MillCrash(m, math.MaxInt), 0, settledBy(m.Core), len(m.Store.Log))
		wantMill(t, "what was safe", impl.MillCrash(again, -5), again)
	}
}

// millPast is what the core of a mill was, settled, and how long its log.
type millPast struct {
	core impl.Core
	log  int
}

// millWalk is a mill that began with MillStart, a twin of it that is never
// flushed nor merged, and what was done with them.
type millWalk struct {
	mill, twin impl.Mill
	past       []millPast // the core behind each beginning of what was done
	safe       int        // which of them was there at the last sync
	parts      [6]string  // what is still to come on each connection
	roll       func(n int) int
	counts     map[string]int
}

func newMillWalk(t *testing.T, seed uint32, counts map[string]int) *millWalk {
	t.Helper()
	w := &millWalk{mill: impl.MillStart(int(seed)), twin: impl.MillStart(int(seed)), past: []millPast{{}}, roll: diceOf(seed), counts: counts}
	w.setUp(t)
	return w
}

// setUp opens a first connection and lets it declare the exchanges, queues and
// streams that channelWalk asks for.
func (w *millWalk) setUp(t *testing.T) {
	t.Helper()
	w.open(t)
	list := []string{"1 20 10", "1 40 10 =d =direct", "1 40 10 =f =fanout", "1 40 10 =t =topic", "1 50 10 =a 0", "1 50 10 =m 0", "1 50 10 =z 0", "1 50 10 =log 1", "1 50 10 =s 1"}
	for _, b := range coreRoutes().Bindings {
		list = append(list, "1 50 20 ="+b.Queue+" ="+b.Exchange+" ="+b.Key)
	}
	w.feed(t, 0, wire(list...))
}

// done wants the twin to be what the mill is, but for its table, and keeps what
// the core is then.
func (w *millWalk) done(t *testing.T, what string) {
	t.Helper()
	w.counts[what]++
	want := w.mill
	want.Store.Table = w.twin.Store.Table
	wantMill(t, "the twin: "+what, w.twin, want)
	wantSame(t, "StoreAll of the twin: "+what, impl.StoreAll(w.twin.Store), impl.StoreAll(w.mill.Store))
	wantMillOk(t, what, w.mill, true)
	wantMillOk(t, "the twin: "+what, w.twin, true)
	if n := len(impl.StoreAll(w.mill.Store)); n > 240 {
		t.Fatalf("%s: %d pairs, which are more than the promise tells of", what, n)
	}
	now := millPast{settledBy(w.mill.Core), len(w.mill.Store.Log)}
	last := w.past[len(w.past)-1]
	if same(now.core, last.core) != (now.log == last.log) {
		t.Fatalf("%s: a log of %d bytes, then of %d", what, last.log, now.log)
	}
	w.past = append(w.past, now)
	if t.Failed() {
		t.FailNow()
	}
}

func (w *millWalk) open(t *testing.T) {
	t.Helper()
	n := len(w.mill.Conns)
	mill, place := impl.MillOpen(w.mill)
	twin, other := impl.MillOpen(w.twin)
	if place != other || place != n && n < 6 || place != -1 && n == 6 {
		t.Fatalf("opened at %d, and at %d", place, other)
	}
	w.mill, w.twin = mill, twin
	w.done(t, map[bool]string{true: "opened", false: "not opened"}[place >= 0])
}

func (w *millWalk) feed(t *testing.T, at int, bytes string) {
	t.Helper()
	next, said := wantMillFed(t, "a walk", w.mill, at, bytes)
	twin, same, ok := impl.MillFeed(w.twin, at, bytes)
	if said != same {
		t.Fatalf("the twin says %q; want %q", same, said)
	}
	w.mill, w.twin = next, twin
	w.done(t, map[bool]string{true: "fed", false: "refused"}[ok])
}

// frames are some that come next on a connection, most such as fit.
func (w *millWalk) frames(at int) string {
	walk := &connWalk{core: w.mill.Core, conn: w.mill.Conns[at], roll: w.roll, counts: map[string]int{}}
	out := ""
	for range 1 + w.roll(8) {
		bytes := walk.frame()
		if w.roll(150) == 0 {
			bytes = walk.wrong()
		}
		out += bytes
		walk.core, walk.conn, _ = impl.ConnFeed(walk.core, walk.conn, bytes, w.mill.Time)
	}
	return out
}

// come feeds a connection, sometimes with a part of a frame, whose rest comes
// the next time.
func (w *millWalk) come(t *testing.T) {
	t.Helper()
	at := w.roll(len(w.mill.Conns))
	closed := w.mill.Conns[at].Closed
	bytes := w.parts[at]
	if bytes == "" {
		bytes = w.frames(at)
	}
	cut := len(bytes)
	if w.roll(4) == 0 {
		cut = w.roll(len(bytes) + 1)
	}
	w.parts[at] = bytes[cut:]
	w.feed(t, at, bytes[:cut])
	if w.mill.Conns[at].Closed && !closed {
		w.parts[at] = ""
		w.counts["closed"]++
	}
}

// step flushes or merges the mill, and not its twin.
func (w *millWalk) step(t *testing.T) {
	t.Helper()
	kind, at := w.roll(2), w.roll(max(1, len(w.mill.Store.Table.Runs)-1))
	next := impl.MillStep(w.mill, kind, at)
	what := "no step"
	if !same(next.Store.Table, w.mill.Store.Table) {
		what = []string{"flushed", "merged"}[kind]
	}
	wantSame(t, "a step: Core", next.Core, w.mill.Core)
	wantSame(t, "a step: Conns", next.Conns, w.mill.Conns)
	w.mill = next
	w.done(t, what)
}

func (w *millWalk) sync(t *testing.T) {
	t.Helper()
	w.mill, w.twin = impl.MillSync(w.mill), impl.MillSync(w.twin)
	w.done(t, "synced")
	w.safe = len(w.past) - 1
}

// trim cuts a stream down, and moves the time on.
func (w *millWalk) trim(t *testing.T) {
	t.Helper()
	name := []string{"log", "s", "log", "s", "a", "none"}[w.roll(6)]
	count, oldest := w.roll(12), w.mill.Time-w.roll(40)
	mill, ok := impl.MillTrim(w.mill, name, count, oldest)
	twin, too := impl.MillTrim(w.twin, name, count, oldest)
	if ok != too {
		t.Fatalf("MillTrim(%s): %v, and %v", name, ok, too)
	}
	by := w.roll(9)
	w.mill, w.twin = impl.MillTick(mill, by), impl.MillTick(twin, by)
	w.done(t, map[bool]string{true: "trimmed", false: "not trimmed"}[ok])
}

// found is which of the past a crash must leave.
func (w *millWalk) found(keep int) int {
	left := leftOf(len(w.mill.Store.Log), w.mill.Store.Safe, keep)
	at := len(w.past) - 1
	for w.past[at].log > left {
		at--
	}
	return at
}

// wantFound wants a crash to leave the core as it was behind some beginning of
// what was done, at the last sync or later.
func (w *millWalk) wantFound(t *testing.T, keep int) impl.Mill {
	t.Helper()
	at := w.found(keep)
	if at < w.safe {
		t.Fatalf("a crash that keeps %d would lose what was safe", keep)
	}
	got := wantCrashed(t, "a walk", w.mill, keep, w.past[at].core, w.past[at].log)
	wantMill(t, "the twin crashed", impl.MillCrash(w.twin, keep), got)
	if t.Failed() {
		t.FailNow()
	}
	return got
}

// crash lets the walk go on with what a crash left.
func (w *millWalk) crash(t *testing.T, keep int) {
	t.Helper()
	at := w.found(keep)
	w.mill = w.wantFound(t, keep)
	w.twin = w.mill
	w.past, w.safe, w.parts = w.past[:at+1], at, [6]string{}
	w.done(t, "crashed")
	if len(w.mill.Core.Queues) == 0 {
		w.setUp(t)
	} else {
		w.open(t)
	}
}

// wantFoundAll wants the walk to be found wherever it is cut off: at the end of
// each batch that is not safe, within it, and elsewhere.
func (w *millWalk) wantFoundAll(t *testing.T) {
	t.Helper()
	size := len(w.mill.Store.Log) - w.mill.Store.Safe
	keeps := []int{math.MinInt, -1, 0, 1, size, size + 1, math.MaxInt}
	for i, p := range w.past {
		if i >= w.safe && (i == 0 || p.log > w.past[i-1].log) {
			end := p.log - w.mill.Store.Safe
			keeps = append(keeps, end-1, end, end+1, end+w.roll(50))
		}
	}
	for _, keep := range keeps {
		w.wantFound(t, keep)
	}
}

// TestMillByPromise walks at random: wherever the power fails, and whatever was
// kept, the core is what it was behind some beginning, with all that was safe;
// with and without flushes and merges, the same is said.
func TestMillByPromise(t *testing.T) {
	counts := map[string]int{}
	for seed := range uint32(14) {
		w := newMillWalk(t, 100+seed, counts)
		for range 150 {
			switch n := w.roll(100); {
			case n < 60:
				w.come(t)
			case n < 64:
				w.open(t)
			case n < 84:
				w.step(t)
			case n < 92:
				w.trim(t)
			case n < 97:
				// Some of the walks have nothing safe at all.
				if seed%3 > 0 {
					w.sync(t)
				}
			case n < 99:
				w.crash(t, w.roll(len(w.mill.Store.Log)-w.mill.Store.Safe+3)-1)
			}
		}
		w.wantFoundAll(t)
	}
	wantCounts(t, counts, map[string]int{"fed": 500, "opened": 60, "flushed": 60, "merged": 20, "synced": 20, "crashed": 15, "trimmed": 30, "not trimmed": 10, "closed": 3})
}

// fullStep publishes, gets or acknowledges as many messages of the queue q as
// one batch holds, so that there are up to 240 pairs.
func (w *millWalk) fullStep(t *testing.T) {
	t.Helper()
	ready, held := impl.Depth(w.mill.Core.Queues[0])
	tags := heldBy(w.mill.Core, 1)
	switch w.roll(4) {
	case 0, 1:
		w.feed(t, 0, publishes(min(59, 239-ready-held), "q", w.roll(3)))
	case 2:
		w.feed(t, 0, strings.Repeat(wire("1 60 70 =q"), 1+w.roll(60)))
	default:
		if n := min(len(tags), w.roll(60)); n > 0 {
			// What is acknowledged makes room for as many in the same batch.
			more := min(59-n, 239-ready-held+n)
			w.feed(t, 0, wire(fmt.Sprintf("1 60 80 %d 1", tags[n-1]))+publishes(more, "q", 0))
		}
	}
}

// TestMillByPromiseWhenFull walks with great batches, as many pairs as the
// promise tells of, and many that are Gone.
func TestMillByPromiseWhenFull(t *testing.T) {
	most, counts := 0, map[string]int{}
	for seed := range uint32(2) {
		w := &millWalk{past: []millPast{{}}, roll: diceOf(40 + seed), counts: counts}
		w.open(t)
		w.feed(t, 0, wire("1 20 10", "1 50 10 =q 0"))
		w.sync(t)
		for range 50 {
			w.fullStep(t)
			most = max(most, len(impl.StoreAll(w.mill.Store)))
			for range w.roll(4) {
				w.step(t)
			}
			switch w.roll(15) {
			case 0:
				w.sync(t)
			case 1:
				w.crash(t, w.roll(len(w.mill.Store.Log)-w.mill.Store.Safe+3)-1)
				w.feed(t, 0, wire("1 20 10"))
			}
		}
		w.wantFoundAll(t)
	}
	wantCounts(t, counts, map[string]int{"fed": 70, "flushed": 20, "merged": 10, "synced": 3, "crashed": 2})
	if most != 240 || counts["refused"] > 0 {
		t.Errorf("the walk came to %d pairs, and %v", most, counts)
	}
}

// millAsked is a mill and what it is asked with.
type millAsked struct {
	Mill  impl.Mill
	Bytes string
	Name  string
}

// memoryMills are mills of many kinds, right and wrong.
func memoryMills() map[string]impl.Mill {
	right, wrong := rightMills(), wrongMills()
	out := map[string]impl.Mill{}
	for _, why := range []string{"nothing", "some", "six connections", "held by the last line", "a core: names that begin others", "a core: greatest numbers and longest texts", "runs of no pairs"} {
		out[why] = right[why]
	}
	for _, why := range []string{"many connections", "no connections, and some is held", "the store: a byte more", "the store: nine runs", "the store: a run out of order", "a wrong core: queues out of order", "some with a Time of -1"} {
		out[why] = wrong[why]
	}
	for why, m := range out {
		if same(m, impl.Mill{}) != (why == "nothing") {
			panic("no such mill: " + why)
		}
	}
	out["some wrong connection"] = changedMill(func(m *impl.Mill) { m.Conns[2] = someConn() })
	out["many of a stream"] = millOf(streamCore(impl.Stream{Name: "log", Next: 90, Entries: manyEntries(0, 90)}), manyConns(3)...)
	return out
}

// millCalls are calls of all functions of the chapter.
func millCalls() map[string]func(x millAsked) []any {
	out := map[string]func(x millAsked) []any{
		"MillOk":    func(x millAsked) []any { return []any{impl.MillOk(x.Mill)} },
		"MillOpen":  func(x millAsked) []any { m, at := impl.MillOpen(x.Mill); return []any{m, at} },
		"MillSync":  func(x millAsked) []any { return []any{impl.MillSync(x.Mill)} },
		"MillStart": func(x millAsked) []any { return []any{impl.MillStart(x.Mill.Time)} },
	}
	for _, n := range []int{math.MinInt, -1, 0, 1, 2, 50, 1000001, math.MaxInt} {
		out[fmt.Sprint("MillFeed ", n)] = func(x millAsked) []any { m, said, ok := impl.MillFeed(x.Mill, n, x.Bytes); return []any{m, said, ok} }
		out[fmt.Sprint("MillTick ", n)] = func(x millAsked) []any { return []any{impl.MillTick(x.Mill, n)} }
		out[fmt.Sprint("MillTrim ", n)] = func(x millAsked) []any { m, ok := impl.MillTrim(x.Mill, x.Name, n, 20); return []any{m, ok} }
		out[fmt.Sprint("MillCrash ", n)] = func(x millAsked) []any { return []any{impl.MillCrash(x.Mill, n)} }
		out[fmt.Sprint("MillStep 0 ", n)] = func(x millAsked) []any { return []any{impl.MillStep(x.Mill, 0, n)} }
		out[fmt.Sprint("MillStep 1 ", n)] = func(x millAsked) []any { return []any{impl.MillStep(x.Mill, 1, n)} }
		out[fmt.Sprint("MillStep ", n)] = func(x millAsked) []any { return []any{impl.MillStep(x.Mill, n, 0)} }
	}
	return out
}

func TestMillMemory(t *testing.T) {
	scripts := []string{"", "x", wire("0 beat")[2:] + wire("4 body cde"), wire("7 20 10"), wire("7 20 10", "7 50 10 =new 0", "1 60 70 =a"), wire("1 60 40 =f =k", "1 head 3", "1 body abc"), wire("3 90 20", "1 20 10")[:20], publishes(60, "a", 1)}
	for why, m := range memoryMills() {
		for name, call := range millCalls() {
			list := []string{""}
			if strings.HasPrefix(name, "MillFeed") {
				list = scripts
			}
			for i, bytes := range list {
				for _, stream := range []string{"log", "none"} {
					if stream == "log" || strings.HasPrefix(name, "MillTrim") {
						wantApart(t, fmt.Sprint(why, ": ", name, ", script ", i), millAsked{m, bytes, stream}, call)
					}
				}
			}
		}
	}
}
