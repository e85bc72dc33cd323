package tests

import (
	"fmt"
	"math"
	"slices"
	"strings"
	"testing"

	"loop.example/g00227/impl"
)

const billion = 1000000000

// noOwners and noTags are numbers that are none.
var (
	noOwners = []int{math.MinInt, -1000, -1, 1001, 1002, 65536, 4294967296, 4294967299, math.MaxInt}
	noTags   = []int{math.MinInt, -billion, -1, 0, billion + 1, billion + 2, 4294967297, math.MaxInt}
)

// keptQueue is q in lists of its own, to hold it against what comes later.
func keptQueue(q impl.Queue) impl.Queue {
	q.Ready = slices.Clone(q.Ready)
	q.Held = slices.Clone(q.Held)
	return q
}

func messageOf(seq int) impl.Message {
	return impl.Message{Seq: seq, Exchange: "x", Key: "k.1", Body: fmt.Sprintf("body %d", seq)}
}

func heldOf(owner int, tag int, seq int) impl.Held {
	return impl.Held{Owner: owner, Tag: tag, Message: messageOf(seq)}
}

// someQueue is a queue with messages Ready and Held, the Held not in the order
// of their Seq, and Seq 7 gone.
func someQueue() impl.Queue {
	return impl.Queue{
		Name:  "some",
		Next:  13,
		Ready: []impl.Message{messageOf(3), messageOf(5), messageOf(8), messageOf(11)},
		Held: []impl.Held{
			heldOf(0, 4, 1),
			heldOf(2, 3, 12), heldOf(2, 5, 2), heldOf(2, 9, 9), heldOf(2, 20, 4),
			heldOf(7, 1, 10), heldOf(7, 5, 6),
		},
	}
}

// manyReady and manyHeld are n messages from a Seq on.
func manyReady(from int, n int) []impl.Message {
	var out []impl.Message
	for i := range n {
		out = append(out, impl.Message{Seq: from + i})
	}
	return out
}

func manyHeld(from int, n int) []impl.Held {
	var out []impl.Held
	for i := range n {
		out = append(out, impl.Held{Tag: i%250 + 1, Owner: i / 250, Message: impl.Message{Seq: from + i}})
	}
	return out
}

// wrongQueues are queues that are not QueueOk, by the reason why.
func wrongQueues() map[string]impl.Queue {
	out := map[string]impl.Queue{
		"nothing":          {},
		"501 ready":        {Name: "q", Next: 600, Ready: manyReady(1, 501)},
		"501 held":         {Name: "q", Next: 600, Held: manyHeld(1, 501)},
		"501 of both":      {Name: "q", Next: 600, Ready: manyReady(1, 250), Held: manyHeld(251, 251)},
		"1 and 500":        {Name: "q", Next: 600, Ready: manyReady(1, 1), Held: manyHeld(2, 500)},
		"500 and 1":        {Name: "q", Next: 600, Ready: manyReady(1, 500), Held: manyHeld(501, 1)},
		"Next is 0":        {Name: "q"},
		"Next is -1":       {Name: "q", Next: -1},
		"Next is too much": {Name: "q", Next: billion + 1},
	}
	with := func(why string, change func(q *impl.Queue)) {
		q := someQueue()
		change(&q)
		out[why] = q
	}
	with("no name", func(q *impl.Queue) { q.Name = "" })
	with("a name of 31 bytes", func(q *impl.Queue) { q.Name = strings.Repeat("n", 31) })
	with("a name with a wrong byte", func(q *impl.Queue) { q.Name = "some*" })
	with("Next is a Seq that is held", func(q *impl.Queue) { q.Next = 12 })
	with("Next is a Seq that is ready", func(q *impl.Queue) { q.Ready[3].Seq = 13 })
	with("ready out of order", func(q *impl.Queue) { q.Ready[1], q.Ready[2] = q.Ready[2], q.Ready[1] })
	with("one Seq twice in Ready", func(q *impl.Queue) { q.Ready[1].Seq = 3 })
	with("one Seq twice in Held", func(q *impl.Queue) { q.Held[6].Message.Seq = 1 })
	with("one Seq twice, of one owner", func(q *impl.Queue) { q.Held[2].Message.Seq = 12 })
	with("one Seq in Ready and Held", func(q *impl.Queue) { q.Held[6].Message.Seq = 5 })
	with("the last of Ready in Held", func(q *impl.Queue) { q.Held[0].Message.Seq = 11 })
	with("a Seq of 0 in Ready", func(q *impl.Queue) { q.Ready[0].Seq = 0 })
	with("a Seq of -1 in Held", func(q *impl.Queue) { q.Held[1].Message.Seq = -1 })
	with("a Seq beyond Next", func(q *impl.Queue) { q.Ready[3].Seq = 100 })
	with("tags that go back", func(q *impl.Queue) { q.Held[2].Tag = 2 })
	with("one tag twice of an owner", func(q *impl.Queue) { q.Held[2].Tag = 3 })
	with("owners that go back", func(q *impl.Queue) { q.Held[0].Owner = 5 })
	with("an owner in two places", func(q *impl.Queue) { q.Held[0].Owner, q.Held[0].Tag = 7, 7 })
	with("an owner of -1", func(q *impl.Queue) { q.Held[0].Owner = -1 })
	with("an owner of 1001", func(q *impl.Queue) { q.Held[6].Owner = 1001 })
	with("a tag of 0", func(q *impl.Queue) { q.Held[0].Tag = 0 })
	with("a tag that is too great", func(q *impl.Queue) { q.Held[4].Tag = billion + 1 })
	with("a body that is too long", func(q *impl.Queue) { q.Ready[3].Body = strings.Repeat("b", 3001) })
	with("a held body that is too long", func(q *impl.Queue) { q.Held[3].Message.Body = strings.Repeat("b", 3001) })
	with("no key", func(q *impl.Queue) { q.Ready[0].Key = "a b" })
	with("no key held", func(q *impl.Queue) { q.Held[6].Message.Key = strings.Repeat("k", 61) })
	with("no exchange", func(q *impl.Queue) { q.Ready[2].Exchange = "X" })
	with("no exchange held", func(q *impl.Queue) { q.Held[0].Message.Exchange = strings.Repeat("x", 31) })
	return out
}

func wantQueueOk(t *testing.T, why string, q impl.Queue, want bool) {
	t.Helper()
	wantRight(t, why, impl.QueueOk, q, want)
}

// wantPopped wants Pop to answer this queue, which is right, this message, and true.
func wantPopped(t *testing.T, q impl.Queue, owner int, tag int, want impl.Queue, first impl.Message) {
	t.Helper()
	what := fmt.Sprintf("Pop(%d, %d)", owner, tag)
	got, m, ok := impl.Pop(q, owner, tag)
	if !ok || m != first {
		t.Errorf("%s = %#v, %v; want %#v, true", what, m, ok, first)
	}
	wantSame(t, what, got, want)
	wantQueueOk(t, what, got, true)
}

// wantNonePopped wants Pop to answer the queue as it is, the zero value and false.
func wantNonePopped(t *testing.T, why string, q impl.Queue, owner int, tag int) {
	t.Helper()
	got, m, ok := impl.Pop(q, owner, tag)
	if ok || m != (impl.Message{}) {
		t.Errorf("%s: Pop(%d, %d) = %#v, %v; want the zero value, false", why, owner, tag, m, ok)
	}
	wantSame(t, fmt.Sprintf("%s: Pop(%d, %d)", why, owner, tag), got, q)
}

// wantCount wants what Drop or Return answered to be this queue, which is right, and so many.
func wantCount(t *testing.T, what string, got impl.Queue, n int, want impl.Queue, count int) {
	t.Helper()
	if n != count {
		t.Errorf("%s: how many = %d; want %d", what, n, count)
	}
	wantSame(t, what, got, want)
	wantQueueOk(t, what, got, true)
}

func TestQueueConstants(t *testing.T) {
	if impl.MaxQueue != 500 {
		t.Error("MaxQueue", impl.MaxQueue)
	}
}

func TestQueueOkNameAndNext(t *testing.T) {
	for _, name := range goodNames {
		wantQueueOk(t, "name", impl.Queue{Name: name, Next: 1}, true)
	}
	for _, name := range noNames {
		wantQueueOk(t, "name", impl.Queue{Name: name, Next: 1}, false)
	}
	for _, next := range []int{1, 2, 1000, billion - 1, billion} {
		wantQueueOk(t, "Next", impl.Queue{Name: "q", Next: next}, true)
	}
	for _, next := range []int{math.MinInt, -billion, -1, 0, billion + 1, 4294967297, math.MaxInt} {
		wantQueueOk(t, "Next", impl.Queue{Name: "q", Next: next}, false)
	}
}

func TestQueueOkSeq(t *testing.T) {
	for _, next := range []int{1, 2, 3, 100, billion} {
		for _, seq := range []int{math.MinInt, -1, 0, 1, 2, 99, 100, billion - 1, billion, math.MaxInt} {
			want := seq >= 1 && seq < next
			wantQueueOk(t, "Seq", impl.Queue{Name: "q", Next: next, Ready: []impl.Message{{Seq: seq}}}, want)
			wantQueueOk(t, "Seq", impl.Queue{Name: "q", Next: next, Held: []impl.Held{{Tag: 1, Message: impl.Message{Seq: seq}}}}, want)
		}
	}
}

func TestQueueOkOrder(t *testing.T) {
	wantQueueOk(t, "some", someQueue(), true)
	for why, q := range wrongQueues() {
		wantQueueOk(t, why, q, false)
	}
	// Each one of Ready with each Seq that there is: only those in their order
	// and not taken elsewhere are right.
	for i := range 4 {
		for seq := -1; seq < 15; seq++ {
			q := someQueue()
			q.Ready[i].Seq = seq
			want := []string{" 3 ", " 5 7 ", " 7 8 ", " 11 "}[i]
			wantQueueOk(t, "one of Ready", q, strings.Contains(want, fmt.Sprintf(" %d ", seq)))
		}
	}
	for i := range 7 {
		for seq := -1; seq < 15; seq++ {
			q := someQueue()
			wantQueueOk(t, "one of Held", impl.Queue{Name: q.Name, Next: q.Next, Ready: q.Ready, Held: withSeq(q.Held, i, seq)}, seq == 7 || seq == q.Held[i].Message.Seq)
		}
	}
}

// withSeq is a list with another Seq in one of it.
func withSeq(list []impl.Held, i int, seq int) []impl.Held {
	out := slices.Clone(list)
	out[i].Message.Seq = seq
	return out
}

func TestQueueOkHeld(t *testing.T) {
	one := func(owner int, tag int) impl.Queue {
		return impl.Queue{Name: "q", Next: 9, Held: []impl.Held{{Tag: tag, Owner: owner, Message: impl.Message{Seq: 8}}}}
	}
	for _, owner := range []int{0, 1, 999, 1000} {
		for _, tag := range []int{1, 2, 65536, billion - 1, billion} {
			wantQueueOk(t, "owner and tag", one(owner, tag), true)
		}
		for _, tag := range noTags {
			wantQueueOk(t, "tag", one(owner, tag), false)
		}
	}
	for _, owner := range noOwners {
		wantQueueOk(t, "owner", one(owner, 1), false)
	}
	two := func(owner int, tag int, other int, next int) impl.Queue {
		return impl.Queue{Name: "q", Next: 9, Held: []impl.Held{heldOf(owner, tag, 5), heldOf(other, next, 3)}}
	}
	for _, r := range []struct {
		owner, tag, other, next int
		want                    bool
	}{
		{4, 1, 4, 2, true}, {4, 2, 4, 1, false}, {4, 2, 4, 2, false}, {4, 1, 4, billion, true},
		{4, 2, 5, 2, true}, {4, 2, 5, 1, true}, {4, 1, 5, 2, true}, {4, billion, 5, 1, true},
		{5, 2, 4, 2, false}, {5, 1, 4, 2, false}, {5, 2, 4, 1, false}, {0, 1, 1000, 1, true}, {1000, 1, 0, 1, false},
	} {
		wantQueueOk(t, "two held", two(r.owner, r.tag, r.other, r.next), r.want)
	}
}

func TestQueueOkAtMost(t *testing.T) {
	for _, r := range [][2]int{{0, 0}, {499, 0}, {500, 0}, {501, 0}, {0, 499}, {0, 500}, {0, 501}, {250, 250}, {250, 251}, {251, 250}, {1, 499}, {1, 500}, {499, 1}, {500, 1}, {500, 500}} {
		q := impl.Queue{Name: "q", Next: 2000, Ready: manyReady(1, r[0]), Held: manyHeld(1001, r[1])}
		wantQueueOk(t, fmt.Sprintf("%d and %d", r[0], r[1]), q, r[0]+r[1] <= 500)
	}
}

func TestQueueOkParts(t *testing.T) {
	both := func(why string, m impl.Message, want bool) {
		t.Helper()
		m.Seq = 1
		wantQueueOk(t, why, impl.Queue{Name: "q", Next: 2, Ready: []impl.Message{m}}, want)
		wantQueueOk(t, why, impl.Queue{Name: "q", Next: 2, Held: []impl.Held{{Tag: 1, Message: m}}}, want)
	}
	both("the empty message", impl.Message{}, true)
	both("again", impl.Message{Again: true}, true)
	for _, n := range []int{0, 1, 2999, 3000, 3001, 3002, 70000} {
		both("body", impl.Message{Body: manyBytes(n)}, n <= 3000)
	}
	for _, key := range []string{"", ".", "#", "*.a", "~!", strings.Repeat("k", 60)} {
		both("key", impl.Message{Key: key}, true)
	}
	for _, key := range noKeys {
		both("key", impl.Message{Key: key}, false)
	}
	for _, name := range goodNames {
		both("exchange", impl.Message{Exchange: name}, true)
	}
	for _, name := range noNames {
		both("exchange", impl.Message{Exchange: name}, name == "")
	}
}

func TestPush(t *testing.T) {
	for _, q := range []impl.Queue{{Name: "q", Next: 1}, {Name: "q", Next: 77}, someQueue(), {Name: "held", Next: 9, Held: []impl.Held{heldOf(1000, billion, 8)}}} {
		for _, m := range []impl.Message{
			{}, {Exchange: "x", Key: "k", Body: "b"}, {Exchange: strings.Repeat("e", 30), Key: strings.Repeat("k", 60), Body: manyBytes(3000)},
			{Key: "*.#", Body: "\x00\xff"}, {Exchange: "-._09az", Body: "\n"},
		} {
			want := keptQueue(q)
			m.Seq = q.Next
			want.Ready = append(want.Ready, m)
			want.Next++
			got, ok := impl.Push(q, m.Exchange, m.Key, m.Body)
			wantDone(t, fmt.Sprintf("Push of %q, %q, %d bytes", m.Exchange, m.Key, len(m.Body)), impl.QueueOk, got, ok, want)
		}
	}
}

func TestPushOneByOne(t *testing.T) {
	q := impl.Queue{Name: "q", Next: 1}
	for i := range 500 {
		var ok bool
		if q, ok = impl.Push(q, "x", "k", fmt.Sprint(i)); !ok {
			t.Fatalf("message %d is refused", i)
		}
	}
	if len(q.Ready) != 500 || q.Next != 501 || !impl.QueueOk(q) {
		t.Errorf("500 pushed: %d are ready, Next is %d", len(q.Ready), q.Next)
	}
	for i, m := range q.Ready {
		if want := (impl.Message{Seq: i + 1, Exchange: "x", Key: "k", Body: fmt.Sprint(i)}); m != want {
			t.Errorf("message %d = %#v; want %#v", i, m, want)
		}
	}
	got, ok := impl.Push(q, "x", "k", "more")
	wantLeft(t, "message 501", got, ok, q)
	// What is held counts, what is dropped does not.
	q, _, _ = impl.Pop(q, 3, 3)
	got, ok = impl.Push(q, "x", "k", "more")
	wantLeft(t, "message 501 with one held", got, ok, q)
	q, _ = impl.Drop(q, 3, 3, false)
	want := keptQueue(q)
	want.Ready = append(want.Ready, impl.Message{Seq: 501, Exchange: "x", Key: "k", Body: "more"})
	want.Next = 502
	got, ok = impl.Push(q, "x", "k", "more")
	wantDone(t, "one more with one dropped", impl.QueueOk, got, ok, want)
}

func TestPushAtMost(t *testing.T) {
	for _, r := range [][2]int{{499, 0}, {0, 499}, {200, 299}, {500, 0}, {0, 500}, {200, 300}, {1, 499}, {499, 1}} {
		q := impl.Queue{Name: "q", Next: 2000, Ready: manyReady(1, r[0]), Held: manyHeld(1001, r[1])}
		got, ok := impl.Push(q, "", "k", "")
		if r[0]+r[1] == 500 {
			wantLeft(t, fmt.Sprintf("Push behind %d and %d", r[0], r[1]), got, ok, q)
			continue
		}
		want := keptQueue(q)
		want.Ready = append(want.Ready, impl.Message{Seq: 2000, Key: "k"})
		want.Next = 2001
		wantDone(t, fmt.Sprintf("Push behind %d and %d", r[0], r[1]), impl.QueueOk, got, ok, want)
	}
	q := impl.Queue{Name: "q", Next: billion - 1}
	last, ok := impl.Push(q, "", "k", "")
	wantDone(t, "the last number", impl.QueueOk, last, ok, impl.Queue{Name: "q", Next: billion, Ready: []impl.Message{{Seq: billion - 1, Key: "k"}}})
	got, ok := impl.Push(last, "", "k", "")
	wantLeft(t, "one number too many", got, ok, last)
	got, ok = impl.Push(impl.Queue{Name: "q", Next: billion}, "", "k", "")
	wantLeft(t, "one number too many", got, ok, impl.Queue{Name: "q", Next: billion})
}

func TestPushRefused(t *testing.T) {
	for _, q := range []impl.Queue{{Name: "q", Next: 1}, someQueue()} {
		for _, name := range noNames {
			if name != "" {
				got, ok := impl.Push(q, name, "k", "b")
				wantLeft(t, fmt.Sprintf("Push of exchange %q", name), got, ok, q)
			}
		}
		for _, key := range noKeys {
			got, ok := impl.Push(q, "x", key, "b")
			wantLeft(t, fmt.Sprintf("Push of key %q", key), got, ok, q)
		}
		for _, n := range []int{3001, 3002, 6000, 70000} {
			got, ok := impl.Push(q, "x", "k", manyBytes(n))
			wantLeft(t, fmt.Sprintf("Push of %d bytes", n), got, ok, q)
		}
	}
	for why, q := range wrongQueues() {
		got, ok := impl.Push(q, "x", "k", "b")
		wantLeft(t, why+": Push", got, ok, q)
	}
}

func TestPop(t *testing.T) {
	for _, r := range []struct{ owner, tag, at int }{
		{0, 5, 1}, {0, 6, 1}, {0, billion, 1},
		{1, 1, 1}, {1, 3, 1}, {1, 4, 1}, {1, 100, 1}, {1, billion, 1},
		{2, 21, 5}, {2, billion, 5},
		{3, 1, 5}, {6, 20, 5}, {6, 21, 5},
		{7, 6, 7}, {7, 9, 7}, {7, billion, 7},
		{8, 1, 7}, {8, 5, 7}, {1000, 1, 7}, {1000, billion, 7},
	} {
		q := someQueue()
		want := someQueue()
		want.Ready = want.Ready[1:]
		want.Held = slices.Insert(want.Held, r.at, heldOf(r.owner, r.tag, 3))
		wantPopped(t, q, r.owner, r.tag, want, messageOf(3))
	}
}

func TestPopTellsAgain(t *testing.T) {
	first := impl.Message{Seq: 4, Exchange: "e", Key: "k", Body: "b", Again: true}
	q := impl.Queue{Name: "q", Next: 9, Ready: []impl.Message{first, messageOf(7)}}
	want := impl.Queue{Name: "q", Next: 9, Ready: []impl.Message{messageOf(7)}, Held: []impl.Held{{Tag: 2, Owner: 1, Message: first}}}
	wantPopped(t, q, 1, 2, want, first)
	q.Ready[0].Again = false
	want.Held[0].Message.Again = false
	wantPopped(t, q, 1, 2, want, q.Ready[0])
}

func TestPopTags(t *testing.T) {
	q := impl.Queue{Name: "q", Next: 9, Ready: manyReady(1, 8)}
	for _, owner := range []int{0, 1, 999, 1000} {
		for _, tag := range []int{1, 2, 1001, billion - 1, billion} {
			want := impl.Queue{Name: "q", Next: 9, Ready: manyReady(2, 7), Held: []impl.Held{{Tag: tag, Owner: owner, Message: impl.Message{Seq: 1}}}}
			wantPopped(t, q, owner, tag, want, impl.Message{Seq: 1})
			// The same tag or a lesser one of that owner is none any more, another owner's is.
			wantNonePopped(t, "the same", want, owner, tag)
			wantNonePopped(t, "a lesser one", want, owner, tag-1)
			wantNonePopped(t, "the least one", want, owner, 1)
			if tag < billion {
				next := keptQueue(want)
				next.Ready = next.Ready[1:]
				next.Held = append(next.Held, impl.Held{Tag: tag + 1, Owner: owner, Message: impl.Message{Seq: 2}})
				wantPopped(t, want, owner, tag+1, next, impl.Message{Seq: 2})
			}
		}
	}
}

func TestPopTagsOfOthers(t *testing.T) {
	q := someQueue()
	for owner, highest := range map[int]int{0: 4, 2: 20, 7: 5} {
		for tag := 1; tag <= highest; tag++ {
			wantNonePopped(t, "not above all tags", q, owner, tag)
		}
	}
	// A tag that is gone from there may come again.
	q, _ = impl.Drop(q, 2, 20, false)
	want := keptQueue(q)
	want.Ready = want.Ready[1:]
	want.Held = slices.Insert(want.Held, 4, heldOf(2, 10, 3))
	wantPopped(t, q, 2, 10, want, messageOf(3))
}

func TestPopRefused(t *testing.T) {
	for _, q := range []impl.Queue{{Name: "q", Next: 9, Ready: manyReady(1, 8)}, someQueue()} {
		for _, owner := range noOwners {
			for _, tag := range []int{1, 100, billion} {
				wantNonePopped(t, "owner", q, owner, tag)
			}
		}
		for _, tag := range noTags {
			for _, owner := range []int{0, 1, 2, 7, 1000} {
				wantNonePopped(t, "tag", q, owner, tag)
			}
		}
	}
	for _, q := range []impl.Queue{{Name: "q", Next: 1}, {Name: "q", Next: billion}, {Name: "q", Next: 20, Held: someQueue().Held}} {
		wantNonePopped(t, "none is ready", q, 2, 30)
		wantNonePopped(t, "none is ready", q, 500, 1)
	}
	for why, q := range wrongQueues() {
		wantNonePopped(t, why, q, 2, 30)
		wantNonePopped(t, why, q, 500, 1)
	}
}

// heldRows are what is taken out of someQueue, by its places in Held.
var heldRows = []struct {
	owner, tag int
	all        bool
	gone       []int
}{
	{0, 4, false, []int{0}}, {0, 4, true, []int{0}}, {0, 5, true, []int{0}}, {0, 3, true, nil}, {0, 3, false, nil}, {0, 5, false, nil},
	{2, 3, false, []int{1}}, {2, 5, false, []int{2}}, {2, 9, false, []int{3}}, {2, 20, false, []int{4}},
	{2, 3, true, []int{1}}, {2, 5, true, []int{1, 2}}, {2, 9, true, []int{1, 2, 3}}, {2, 20, true, []int{1, 2, 3, 4}},
	{2, 2, true, nil}, {2, 4, true, []int{1}}, {2, 8, true, []int{1, 2}}, {2, 19, true, []int{1, 2, 3}}, {2, 21, true, []int{1, 2, 3, 4}},
	{2, 1, false, nil}, {2, 4, false, nil}, {2, 21, false, nil},
	{2, 0, true, nil}, {2, 0, false, nil}, {2, -1, true, nil}, {2, -20, false, nil}, {2, math.MinInt, true, nil},
	{2, billion, true, []int{1, 2, 3, 4}}, {2, billion + 1, true, []int{1, 2, 3, 4}}, {2, math.MaxInt, true, []int{1, 2, 3, 4}}, {2, math.MaxInt, false, nil},
	{7, 1, false, []int{5}}, {7, 5, false, []int{6}}, {7, 1, true, []int{5}}, {7, 5, true, []int{5, 6}}, {7, 100, true, []int{5, 6}}, {7, 20, false, nil},
	{1, 4, false, nil}, {1, 4, true, nil}, {1, billion, true, nil}, {3, billion, true, nil}, {6, 5, false, nil}, {8, 5, false, nil}, {8, billion, true, nil},
	{1000, billion, true, nil}, {-1, billion, true, nil}, {1001, billion, true, nil}, {math.MaxInt, math.MaxInt, true, nil}, {math.MinInt, 4, false, nil},
}

// withoutHeld is someQueue without some of Held.
func withoutHeld(gone []int) impl.Queue {
	q := someQueue()
	for _, i := range slices.Backward(gone) {
		q.Held = slices.Delete(q.Held, i, i+1)
	}
	return q
}

func TestDrop(t *testing.T) {
	for _, r := range heldRows {
		what := fmt.Sprintf("Drop(%d, %d, %v)", r.owner, r.tag, r.all)
		want := withoutHeld(r.gone)
		got, n := impl.Drop(someQueue(), r.owner, r.tag, r.all)
		wantCount(t, what, got, n, want, len(r.gone))
		again, n := impl.Drop(got, r.owner, r.tag, r.all)
		wantCount(t, what+" again", again, n, want, 0)
	}
}

func TestReturn(t *testing.T) {
	for _, r := range heldRows {
		what := fmt.Sprintf("Return(%d, %d, %v)", r.owner, r.tag, r.all)
		want := withoutHeld(r.gone)
		for _, i := range r.gone {
			m := someQueue().Held[i].Message
			m.Again = true
			want.Ready = append(want.Ready, m)
		}
		slices.SortFunc(want.Ready, func(a impl.Message, b impl.Message) int { return a.Seq - b.Seq })
		got, n := impl.Return(someQueue(), r.owner, r.tag, r.all)
		wantCount(t, what, got, n, want, len(r.gone))
		again, n := impl.Return(got, r.owner, r.tag, r.all)
		wantCount(t, what+" again", again, n, want, 0)
	}
}

// marked tells the Seq of messages, each with a sign where it is there again.
func marked(list []impl.Message) string {
	var out []string
	for _, m := range list {
		text := fmt.Sprint(m.Seq)
		if m.Again {
			text += "!"
		}
		out = append(out, text)
	}
	return strings.Join(out, " ")
}

func TestReturnPlaces(t *testing.T) {
	for _, r := range []struct {
		owner, tag int
		all        bool
		want       string
	}{
		{0, 4, false, "1! 3 5 8 11"},
		{2, 20, false, "3 4! 5 8 11"},
		{2, 3, false, "3 5 8 11 12!"},
		{7, 1, false, "3 5 8 10! 11"},
		{7, 5, true, "3 5 6! 8 10! 11"},
		{2, 5, true, "2! 3 5 8 11 12!"},
		{2, 20, true, "2! 3 4! 5 8 9! 11 12!"},
	} {
		got, _ := impl.Return(someQueue(), r.owner, r.tag, r.all)
		if marked(got.Ready) != r.want {
			t.Errorf("Return(%d, %d, %v): ready are %s; want %s", r.owner, r.tag, r.all, marked(got.Ready), r.want)
		}
	}
	all := someQueue()
	for _, owner := range []int{2, 0, 7} {
		all, _ = impl.Return(all, owner, 100, true)
	}
	if want := "1! 2! 3 4! 5 6! 8 9! 10! 11 12!"; marked(all.Ready) != want || len(all.Held) != 0 {
		t.Errorf("all put back: %s; want %s", marked(all.Ready), want)
	}
}

func TestReturnMany(t *testing.T) {
	// 500 held, in an order far from that of their Seq: 7 shares no factor with 501.
	q := impl.Queue{Name: "q", Next: 501}
	for i := range 500 {
		q.Held = append(q.Held, impl.Held{Tag: i + 1, Owner: 9, Message: impl.Message{Seq: (i + 1) * 7 % 501}})
	}
	want := impl.Queue{Name: "q", Next: 501, Ready: manyReady(1, 500)}
	for i := range want.Ready {
		want.Ready[i].Again = true
	}
	got, n := impl.Return(q, 9, 500, true)
	wantCount(t, "500 put back", got, n, want, 500)
	one := q
	for tag := range 500 {
		var n int
		if one, n = impl.Return(one, 9, tag+1, false); n != 1 {
			t.Fatalf("tag %d: %d put back", tag+1, n)
		}
	}
	wantSame(t, "500 put back one by one", one, want)
	got, n = impl.Drop(q, 9, 500, true)
	wantCount(t, "500 dropped", got, n, impl.Queue{Name: "q", Next: 501}, 500)
}

func TestReturnTwice(t *testing.T) {
	q := impl.Queue{Name: "q", Next: 1}
	for _, body := range []string{"a", "b", "c"} {
		q, _ = impl.Push(q, "", "k", body)
	}
	q, _, _ = impl.Pop(q, 1, 1)
	q, _, _ = impl.Pop(q, 1, 2)
	for range 3 {
		q, _ = impl.Return(q, 1, 2, true)
		if marked(q.Ready) != "1! 2! 3" || len(q.Held) != 0 || !impl.QueueOk(q) {
			t.Errorf("put back: %s", marked(q.Ready))
		}
		// What is nobody's any more is put back by nobody.
		again, n := impl.Return(q, 1, 2, true)
		wantCount(t, "put back at once again", again, n, q, 0)
		var m impl.Message
		var ok bool
		for i, want := range []string{"a", "b"} {
			if q, m, ok = impl.Pop(q, 1, i+1); !ok || m.Body != want || m.Seq != i+1 || !m.Again {
				t.Errorf("handed out again: %#v, %v; want %s", m, ok, want)
			}
		}
	}
	// The one that was never handed out is not told as such.
	_, m, ok := impl.Pop(q, 1, 3)
	if !ok || m.Seq != 3 || m.Again {
		t.Errorf("the third: %#v, %v", m, ok)
	}
}

func TestDropAndReturnOfWrongQueues(t *testing.T) {
	for why, q := range wrongQueues() {
		for _, r := range heldRows {
			got, n := impl.Drop(q, r.owner, r.tag, r.all)
			if n != 0 {
				t.Errorf("%s: Drop(%d, %d, %v) counts %d", why, r.owner, r.tag, r.all, n)
			}
			wantSame(t, why+": Drop", got, q)
			got, n = impl.Return(q, r.owner, r.tag, r.all)
			if n != 0 {
				t.Errorf("%s: Return(%d, %d, %v) counts %d", why, r.owner, r.tag, r.all, n)
			}
			wantSame(t, why+": Return", got, q)
		}
	}
}

func TestDepth(t *testing.T) {
	list := []impl.Queue{{}, {Name: "q", Next: 1}, someQueue(),
		{Name: "q", Next: 9, Ready: manyReady(1, 8)}, {Name: "q", Next: 9, Held: manyHeld(1, 8)},
		{Name: "q", Next: 501, Ready: manyReady(1, 500)}, {Name: "q", Next: 501, Held: manyHeld(1, 500)}}
	// The document names no other answer for wrong queues: they are counted too.
	for _, q := range wrongQueues() {
		list = append(list, q)
	}
	for _, q := range list {
		if r, h := impl.Depth(q); r != len(q.Ready) || h != len(q.Held) {
			t.Errorf("Depth = %d, %d; want %d, %d", r, h, len(q.Ready), len(q.Held))
		}
	}
}

// plainQueue keeps each message at its number, and who holds it: a queue by
// the promise's words.
type plainQueue struct {
	bodies []string // by Seq
	state  []int    // ready, gone, or above these who holds it
	tags   []int
	again  []bool
	last   map[int]int
}

const (
	plainReady = -1
	plainGone  = -2
)

func (p *plainQueue) queue() impl.Queue {
	q := impl.Queue{Name: "q", Next: len(p.bodies)}
	for seq := 1; seq < len(p.bodies); seq++ {
		m := impl.Message{Seq: seq, Exchange: "x", Key: "k", Body: p.bodies[seq], Again: p.again[seq]}
		switch p.state[seq] {
		case plainGone:
		case plainReady:
			q.Ready = append(q.Ready, m)
		default:
			q.Held = append(q.Held, impl.Held{Tag: p.tags[seq], Owner: p.state[seq], Message: m})
		}
	}
	slices.SortFunc(q.Held, func(a impl.Held, b impl.Held) int {
		if a.Owner != b.Owner {
			return a.Owner - b.Owner
		}
		return a.Tag - b.Tag
	})
	return q
}

func (p *plainQueue) push(body string) {
	p.bodies, p.state, p.tags, p.again = append(p.bodies, body), append(p.state, plainReady), append(p.tags, 0), append(p.again, false)
}

// pop hands out the least that is ready; 0 where there is none.
func (p *plainQueue) pop(owner int) int {
	for seq := 1; seq < len(p.bodies); seq++ {
		if p.state[seq] == plainReady {
			p.last[owner]++
			p.state[seq], p.tags[seq] = owner, p.last[owner]
			return seq
		}
	}
	return 0
}

// give lets go of what an owner holds, and tells how many that were.
func (p *plainQueue) give(owner int, tag int, all bool, to int) int {
	n := 0
	for seq := 1; seq < len(p.bodies); seq++ {
		if p.state[seq] == owner && (p.tags[seq] == tag || all && p.tags[seq] < tag) {
			p.state[seq] = to
			p.again[seq] = true
			n++
		}
	}
	return n
}

func TestQueueByPromise(t *testing.T) {
	plain := &plainQueue{bodies: []string{""}, state: []int{plainGone}, tags: []int{0}, again: []bool{false}, last: map[int]int{}}
	q := plain.queue()
	roll := diceOf(1)
	for step := range 4000 {
		owner := roll(3)
		all := roll(3) == 0
		tag := plain.last[owner] - roll(8)
		switch roll(8) {
		case 0, 1, 2:
			body := fmt.Sprintf("step %d", step)
			var ok bool
			if r, h := impl.Depth(q); r+h < impl.MaxQueue {
				plain.push(body)
				if q, ok = impl.Push(q, "x", "k", body); !ok {
					t.Fatalf("step %d: Push is refused", step)
				}
			}
		case 3, 4, 5:
			seq := plain.pop(owner)
			next, m, ok := impl.Pop(q, owner, max(plain.last[owner], 1))
			if ok != (seq > 0) || m.Seq != seq || m.Body != plain.bodies[seq] || m.Again != plain.again[seq] {
				t.Fatalf("step %d: Pop = %#v, %v; want Seq %d", step, m, ok, seq)
			}
			q = next
		case 6:
			next, n := impl.Drop(q, owner, tag, all)
			if want := plain.give(owner, tag, all, plainGone); n != want {
				t.Fatalf("step %d: Drop counts %d; want %d", step, n, want)
			}
			q = next
		case 7:
			next, n := impl.Return(q, owner, tag, all)
			if want := plain.give(owner, tag, all, plainReady); n != want {
				t.Fatalf("step %d: Return counts %d; want %d", step, n, want)
			}
			q = next
		}
		if want := plain.queue(); !same(q, want) || !impl.QueueOk(q) {
			t.Fatalf("step %d: the queue is %#v; want %#v", step, q, want)
		}
	}
}

// queueAsked is a queue and what it is asked with.
type queueAsked struct {
	Queue               impl.Queue
	Exchange, Key, Body string
}

// pushed, popped, dropped and returned are calls with what is asked.
func pushed(x queueAsked) []any {
	q, ok := impl.Push(x.Queue, x.Exchange, x.Key, x.Body)
	return []any{q, ok}
}

func popped(owner int, tag int) func(x queueAsked) []any {
	return func(x queueAsked) []any {
		q, m, ok := impl.Pop(x.Queue, owner, tag)
		return []any{q, m, ok}
	}
}

func dropped(owner int, tag int, all bool) func(x queueAsked) []any {
	return func(x queueAsked) []any {
		q, n := impl.Drop(x.Queue, owner, tag, all)
		return []any{q, n}
	}
}

func returned(owner int, tag int, all bool) func(x queueAsked) []any {
	return func(x queueAsked) []any {
		q, n := impl.Return(x.Queue, owner, tag, all)
		return []any{q, n}
	}
}

var queueCalls = map[string]func(x queueAsked) []any{
	"Push":                 pushed,
	"Pop":                  popped(2, 30),
	"Pop of a first owner": popped(1, 30),
	"Pop of no tag":        popped(2, 20),
	"Pop of no owner":      popped(-2, 20),
	"Drop":                 dropped(2, 5, false),
	"Drop of all":          dropped(2, 9, true),
	"Drop of nothing":      dropped(1, 9, true),
	"Return":               returned(2, 5, false),
	"Return of all":        returned(2, 20, true),
	"Return of nothing":    returned(1, 20, true),
	"QueueOk":              func(x queueAsked) []any { return []any{impl.QueueOk(x.Queue)} },
	"Depth":                func(x queueAsked) []any { r, h := impl.Depth(x.Queue); return []any{r, h} },
}

func TestQueueMemory(t *testing.T) {
	list := wrongQueues()
	list["right"] = someQueue()
	list["ready alone"] = impl.Queue{Name: "q", Next: 50, Ready: manyReady(1, 20)}
	list["held alone"] = impl.Queue{Name: "q", Next: 50, Held: someQueue().Held}
	list["empty"] = impl.Queue{Name: "q", Next: 50}
	for why, q := range list {
		for name, call := range queueCalls {
			wantApart(t, why+": "+name, queueAsked{Queue: q, Exchange: "x", Key: "k", Body: "b"}, call)
			wantApart(t, why+": "+name+", no key", queueAsked{Queue: q, Exchange: "x", Key: "k k", Body: "b"}, call)
		}
	}
}
