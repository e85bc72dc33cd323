package tests

import (
	"fmt"
	"math"
	"slices"
	"strconv"
	"strings"
	"testing"

	"loop.example/g00227/impl"
)

// asking is the method that these words tell, right or not.
func asking(words string) impl.Method {
	var m impl.Method
	for i, word := range strings.Split(words, " ") {
		text, is := strings.CutPrefix(word, "=")
		n, _ := strconv.Atoi(word)
		switch {
		case is:
			m.Texts = append(m.Texts, text)
		case i == 0:
			m.Class = n
		case i == 1:
			m.Id = n
		default:
			m.Nums = append(m.Nums, n)
		}
	}
	return m
}

// saying is what is said without a body, by the words of each.
func saying(words ...string) []impl.Reply {
	var out []impl.Reply
	for _, w := range words {
		out = append(out, impl.Reply{Method: asking(w)})
	}
	return out
}

// handing is what is said with a message that is handed out.
func handing(words string, body string) []impl.Reply {
	return []impl.Reply{{Method: asking(words), HasBody: true, Body: body}}
}

// keptChannel is h in lists of its own, to be changed.
func keptChannel(h impl.Channel) impl.Channel {
	h.Pubs = slices.Clone(h.Pubs)
	h.Acks = slices.Clone(h.Acks)
	return h
}

// closedBy is h as a failure leaves it.
func closedBy(h impl.Channel) impl.Channel {
	h.Closed, h.Pubs, h.Acks = true, nil, nil
	return h
}

// askedOf is a core and a channel with what they are asked.
type askedOf struct {
	Core    impl.Core
	Channel impl.Channel
	Method  impl.Method
	Body    string
	Time    int
}

// wantSaid wants a method to make these of the core and the channel, and this
// to be said.
func wantSaid(t *testing.T, why string, x askedOf, c impl.Core, h impl.Channel, said []impl.Reply) (impl.Core, impl.Channel) {
	t.Helper()
	what := why + ": ChannelDo(" + told(x.Method) + ")"
	core, channel, replies := impl.ChannelDo(x.Core, x.Channel, x.Method, x.Body, x.Time)
	wantSame(t, what+": what is said", replies, said)
	wantSame(t, what+": the channel", channel, h)
	wantSame(t, what+": the core", core, c)
	return core, channel
}

// wantFailed wants a method to fail with a code and a text.
func wantFailed(t *testing.T, why string, x askedOf, code string, text string) {
	t.Helper()
	wantSaid(t, why, x, x.Core, closedBy(x.Channel), saying("10 50 ="+code+" ="+text))
}

// These are channels without parts, one of each mode.
var (
	plainChannel   = impl.Channel{Owner: 9}
	txChannel      = impl.Channel{Owner: 2, Tag: 40, Tx: true, Count: 3}
	confirmChannel = impl.Channel{Owner: 2, Tag: 40, Confirm: true, Count: 3}
)

func pubOf(exchange string, key string, body string) impl.Pub {
	return impl.Pub{Exchange: exchange, Key: key, Body: body}
}

// manyPubs and manyAcks are n parts of a transaction that someCore takes.
func manyPubs(n int) []impl.Pub {
	var out []impl.Pub
	for i := range n {
		out = append(out, impl.Pub{Exchange: []string{"f", "d", "t", ""}[i%4], Key: []string{"k", "some", "a.b", "m"}[i%4], Body: fmt.Sprint("part ", i)})
	}
	return out
}

func manyAcks(n int) []impl.AckOp {
	var out []impl.AckOp
	for i := range n {
		out = append(out, impl.AckOp{Tag: i + 1, All: i%3 == 0, Nack: i%2 == 0, Back: i%4 == 0})
	}
	return out
}

// rightChannels are channels that are right, by what is to be seen in them.
func rightChannels() map[string]impl.Channel {
	return map[string]impl.Channel{
		"nothing":              {},
		"some":                 plainChannel,
		"a transaction":        txChannel,
		"confirms":             confirmChannel,
		"closed":               {Owner: 3, Tag: 4, Count: 5, Closed: true},
		"closed with Tx":       {Tx: true, Closed: true},
		"closed with Confirm":  {Confirm: true, Count: 7, Closed: true},
		"all at the greatest":  {Owner: 1000, Tag: billion, Count: billion},
		"lists of none":        {Pubs: []impl.Pub{}, Acks: []impl.AckOp{}},
		"30 messages":          {Tx: true, Pubs: manyPubs(30)},
		"30 acknowledgements":  {Tx: true, Acks: manyAcks(30)},
		"30 of each":           {Owner: 2, Tag: 40, Tx: true, Pubs: manyPubs(30), Acks: manyAcks(30)},
		"one message":          {Tx: true, Pubs: manyPubs(1)},
		"one acknowledgement":  {Tx: true, Acks: manyAcks(1)},
		"parts that will fail": {Owner: 2, Tx: true, Pubs: []impl.Pub{{Exchange: "no name", Key: "no key", Body: strings.Repeat("b", 4000)}}, Acks: []impl.AckOp{{Tag: -1}, {Tag: math.MaxInt, Back: true}}},
	}
}

// wrongChannels are channels that are not ChannelOk, by the reason why.
func wrongChannels() map[string]impl.Channel {
	return map[string]impl.Channel{
		"an owner of -1":                  {Owner: -1},
		"an owner of 1001":                {Owner: 1001},
		"the least owner":                 {Owner: math.MinInt},
		"the greatest owner":              {Owner: math.MaxInt},
		"a tag of -1":                     {Owner: 9, Tag: -1},
		"a tag that is too great":         {Owner: 9, Tag: billion + 1},
		"the least tag":                   {Owner: 9, Tag: math.MinInt},
		"the greatest tag":                {Owner: 9, Tag: math.MaxInt},
		"a count of -1":                   {Owner: 9, Confirm: true, Count: -1},
		"a count that is too great":       {Owner: 9, Confirm: true, Count: billion + 1},
		"the least count":                 {Owner: 9, Confirm: true, Count: math.MinInt},
		"the greatest count":              {Owner: 9, Confirm: true, Count: math.MaxInt},
		"a wrong count alone":             {Count: -1},
		"Tx and Confirm":                  {Owner: 2, Tag: 40, Tx: true, Confirm: true},
		"Tx and Confirm with parts":       {Owner: 2, Tag: 40, Tx: true, Confirm: true, Count: 4, Pubs: manyPubs(2), Acks: []impl.AckOp{{Tag: 9}}},
		"Tx and Confirm, closed":          {Tx: true, Confirm: true, Closed: true},
		"31 messages":                     {Owner: 2, Tx: true, Pubs: manyPubs(31)},
		"31 acknowledgements":             {Owner: 2, Tx: true, Acks: manyAcks(31)},
		"31 messages and 30 others":       {Owner: 2, Tx: true, Pubs: manyPubs(31), Acks: manyAcks(30)},
		"30 messages and 31 others":       {Owner: 2, Tx: true, Pubs: manyPubs(30), Acks: manyAcks(31)},
		"many of each":                    {Owner: 2, Tx: true, Pubs: manyPubs(45), Acks: manyAcks(50)},
		"messages without Tx":             {Owner: 2, Pubs: manyPubs(1)},
		"acknowledgements without Tx":     {Owner: 2, Acks: manyAcks(1)},
		"both without Tx":                 {Owner: 2, Pubs: manyPubs(3), Acks: manyAcks(3)},
		"messages with Confirm":           {Owner: 2, Confirm: true, Pubs: manyPubs(1)},
		"acknowledgements with Confirm":   {Owner: 2, Confirm: true, Acks: manyAcks(1)},
		"messages where it is closed":     {Owner: 2, Tx: true, Closed: true, Pubs: manyPubs(1)},
		"others where it is closed":       {Owner: 2, Tx: true, Closed: true, Acks: manyAcks(1)},
		"both where it is closed":         {Owner: 2, Tx: true, Closed: true, Pubs: manyPubs(2), Acks: manyAcks(2)},
		"closed with parts, without Tx":   {Owner: 2, Closed: true, Pubs: manyPubs(2), Acks: manyAcks(2)},
		"closed with a wrong owner":       {Owner: -1, Closed: true},
		"a wrong owner in a transaction":  {Owner: 1001, Tx: true, Pubs: manyPubs(2)},
		"a wrong tag in a transaction":    {Owner: 2, Tag: -1, Tx: true, Acks: manyAcks(2)},
		"closed with 31 messages":         {Tx: true, Closed: true, Pubs: manyPubs(31)},
		"closed with 31 acknowledgements": {Tx: true, Closed: true, Acks: manyAcks(31)},
	}
}

// madeBy is what a method makes of a core and a channel and what is said to it,
// by the words of the document; its failure, if there is one, is a code and a text.
func madeBy(x askedOf) (impl.Core, impl.Channel, []impl.Reply, string) {
	c, h, m := x.Core, keptChannel(x.Channel), x.Method
	if !impl.MethodOk(m) {
		return c, h, nil, "=503 =method"
	}
	switch fmt.Sprint(m.Class, " ", m.Id) {
	case "40 10":
		kind := slices.Index([]string{"direct", "fanout", "topic"}, m.Texts[1])
		routes, ok := impl.Declare(c.Routes, m.Texts[0], kind)
		if kind < 0 || !ok {
			return c, h, nil, "=406 =exchange"
		}
		c.Routes = routes
		return c, h, saying("40 11"), ""
	case "50 10":
		next, ok := impl.CoreQueue(c, m.Texts[0], m.Nums[0] == 1)
		if m.Nums[0] > 1 || !ok {
			return c, h, nil, "=406 =queue"
		}
		return next, h, saying(fmt.Sprintf("50 11 =%s %d", m.Texts[0], impl.CoreDepth(next, m.Texts[0]))), ""
	case "50 20":
		routes, ok := impl.Bind(c.Routes, m.Texts[1], m.Texts[2], m.Texts[0])
		if !ok {
			return c, h, nil, "=404 =bind"
		}
		c.Routes = routes
		return c, h, saying("50 21"), ""
	case "60 40":
		return publishMadeBy(c, h, x)
	case "60 70":
		return getMadeBy(c, h, m.Texts[0])
	case "60 80", "60 120":
		op := impl.AckOp{Tag: m.Nums[0], All: m.Nums[1] != 0, Nack: m.Id == 120, Back: m.Id == 120 && m.Nums[len(m.Nums)-1] != 0}
		if h.Tx && len(h.Acks) >= 30 {
			return c, h, nil, "=406 =many"
		}
		if h.Tx {
			h.Acks = append(h.Acks, op)
			return c, h, nil, ""
		}
		next, n := impl.CoreNack(c, h.Owner, op.Tag, op.All, op.Back)
		if n == 0 {
			return c, h, nil, "=406 =tag"
		}
		return next, h, nil, ""
	case "85 10":
		if h.Tx {
			return c, h, nil, "=406 =mode"
		}
		h.Confirm = true
		return c, h, saying("85 11"), ""
	case "90 10":
		if h.Confirm {
			return c, h, nil, "=406 =mode"
		}
		h.Tx = true
		return c, h, saying("90 11"), ""
	case "90 20":
		return commitMadeBy(c, h, x.Time)
	case "90 30":
		if !h.Tx {
			return c, h, nil, "=406 =mode"
		}
		h.Pubs, h.Acks = nil, nil
		return c, h, saying("90 31"), ""
	}
	return c, h, nil, "=503 =method"
}

func publishMadeBy(c impl.Core, h impl.Channel, x askedOf) (impl.Core, impl.Channel, []impl.Reply, string) {
	if h.Tx {
		if len(h.Pubs) >= 30 {
			return c, h, nil, "=406 =many"
		}
		h.Pubs = append(h.Pubs, impl.Pub{Exchange: x.Method.Texts[0], Key: x.Method.Texts[1], Body: x.Body})
		return c, h, nil, ""
	}
	next, n := impl.CorePublish(c, x.Method.Texts[0], x.Method.Texts[1], x.Body, x.Time)
	if !h.Confirm {
		if n == -1 {
			return c, h, nil, "=404 =publish"
		}
		return next, h, nil, ""
	}
	h.Count++
	if n == -1 {
		return c, h, saying(fmt.Sprintf("60 120 %d 0 0", h.Count)), ""
	}
	return next, h, saying(fmt.Sprintf("60 80 %d 0", h.Count)), ""
}

func getMadeBy(c impl.Core, h impl.Channel, queue string) (impl.Core, impl.Channel, []impl.Reply, string) {
	if !slices.ContainsFunc(c.Queues, func(q impl.Queue) bool { return q.Name == queue }) {
		return c, h, nil, "=404 =get"
	}
	next, m, ok := impl.CoreGet(c, queue, h.Owner, h.Tag+1)
	if !ok {
		return c, h, saying("60 72"), ""
	}
	h.Tag++
	again := map[bool]int{true: 1}[m.Again]
	words := fmt.Sprintf("60 71 %d %d =%s =%s %d", h.Tag, again, m.Exchange, m.Key, impl.CoreDepth(next, queue))
	return next, h, handing(words, m.Body), ""
}

func commitMadeBy(c impl.Core, h impl.Channel, time int) (impl.Core, impl.Channel, []impl.Reply, string) {
	if !h.Tx {
		return c, h, nil, "=406 =mode"
	}
	next, n := c, 0
	for _, p := range h.Pubs {
		if next, n = impl.CorePublish(next, p.Exchange, p.Key, p.Body, time); n == -1 {
			return c, h, nil, "=541 =commit"
		}
	}
	for _, a := range h.Acks {
		if next, n = impl.CoreNack(next, h.Owner, a.Tag, a.All, a.Nack && a.Back); n == 0 {
			return c, h, nil, "=541 =commit"
		}
	}
	h.Pubs, h.Acks = nil, nil
	return next, h, saying("90 21"), ""
}

// wantMade wants a method to do what the document's words make of it.
func wantMade(t *testing.T, why string, x askedOf) (impl.Core, impl.Channel) {
	t.Helper()
	if x.Channel.Closed {
		return wantSaid(t, why, x, x.Core, x.Channel, nil)
	}
	c, h, said, failed := madeBy(x)
	if failed != "" {
		return wantSaid(t, why, x, x.Core, closedBy(x.Channel), saying("10 50 "+failed))
	}
	return wantSaid(t, why, x, c, h, said)
}

// eachMethod are the methods that a channel does, with what fits someCore and
// what does not.
var eachMethod = []string{
	"40 10 =new direct", "40 10 =new =direct", "40 10 =new =fanout", "40 10 =new =topic", "40 10 =d =direct", "40 10 =d =topic", "40 10 =d =what", "40 10 =New =direct", "40 10 = =direct",
	"50 10 =new 0", "50 10 =new 1", "50 10 =new 2", "50 10 =a 0", "50 10 =a 1", "50 10 =log 0", "50 10 =log 1", "50 10 =No 0", "50 10 = 1",
	"50 20 =a =d =new", "50 20 =a =d =some", "50 20 =nobody =t =#", "50 20 =a =none =k", "50 20 =A =d =k", "50 20 =a =d =\xff",
	"60 40 =d =some", "60 40 =d =none", "60 40 =f =k", "60 40 =t =a.log", "60 40 = =z", "60 40 = =log", "60 40 =none =k", "60 40 =d =\x7f",
	"60 70 =a", "60 70 =m", "60 70 =z", "60 70 =log", "60 70 =s", "60 70 =none", "60 70 =",
	"60 80 9 0", "60 80 9 1", "60 80 5 255", "60 80 0 0", "60 80 77 0", "60 80 9223372036854775807 1",
	"60 120 9 0 0", "60 120 9 0 1", "60 120 9 1 0", "60 120 9 1 1", "60 120 3 7 9", "60 120 77 1 1", "60 120 0 1 1",
	"85 10 0", "85 10 1", "85 10 255", "90 10", "90 20", "90 30",
}

func TestFail(t *testing.T) {
	texts := []string{"", "4", "406", "many", "no such thing", "\x00\xff\n", "é", manyBytes(254), manyBytes(255)}
	long := []string{manyBytes(256), manyBytes(257), manyBytes(511), manyBytes(512), manyBytes(65536)}
	for _, code := range texts {
		for _, text := range texts {
			want := impl.Reply{Method: impl.Method{Class: 10, Id: 50, Texts: []string{code, text}}}
			got := impl.Fail(code, text)
			wantSame(t, fmt.Sprintf("Fail(%q, %q)", code, text), got, want)
			if !impl.MethodOk(got.Method) {
				t.Errorf("Fail(%q, %q) is no method", code, text)
			}
		}
	}
	empty := saying("10 50 = =")[0]
	for _, more := range long {
		for _, text := range slices.Concat(texts, long) {
			what := fmt.Sprintf("Fail with %d and %d bytes", len(more), len(text))
			wantSame(t, what, impl.Fail(more, text), empty)
			wantSame(t, what+", the other way round", impl.Fail(text, more), empty)
		}
	}
}

// A channel that is Closed does nothing, whatever it is and is asked.
func TestChannelDoClosed(t *testing.T) {
	list := wrongChannels()
	for why, h := range rightChannels() {
		list[why] = h
	}
	for why, h := range list {
		h.Closed = true
		for _, words := range append([]string{"10 50 = =", "20 10", "7 7", "60 71"}, eachMethod...) {
			x := askedOf{someCore(), h, asking(words), "body", 70}
			wantSaid(t, why, x, someCore(), h, nil)
		}
	}
	for why, c := range wrongCores() {
		h := impl.Channel{Owner: 2, Closed: true}
		wantSaid(t, why, askedOf{c, h, asking("60 70 =a"), "", 70}, c, h, nil)
	}
}

func TestChannelDoNoMethod(t *testing.T) {
	done := []string{"40 10", "50 10", "50 20", "60 40", "60 70", "60 80", "60 120", "85 10", "90 10", "90 20", "90 30"}
	for why, h := range rightChannels() {
		if h.Closed {
			continue
		}
		for _, k := range knownMethods {
			if !slices.Contains(done, fmt.Sprint(k.class, " ", k.id)) {
				wantFailed(t, why, askedOf{someCore(), h, k.plain(), "b", 70}, "503", "method")
			}
		}
	}
	for _, p := range unknownPairs() {
		for _, h := range []impl.Channel{plainChannel, txChannel, confirmChannel} {
			m := impl.Method{Class: p[0], Id: p[1]}
			wantFailed(t, "not known", askedOf{someCore(), h, m, "b", 70}, "503", "method")
		}
	}
}

// A method that has another form than its own is none, though it were enough
// for what is done.
func TestChannelDoWrongForms(t *testing.T) {
	for _, words := range []string{
		"40 10", "40 10 =x", "40 10 =x =direct =more", "40 10 =x =direct 0",
		"50 10", "50 10 =x", "50 10 0", "50 10 =x 0 0", "50 10 =x =y 0", "50 10 =x 256", "50 10 =x -1",
		"50 20", "50 20 =a =d", "50 20 =a =d =k =k", "50 20 =a =d =k 0",
		"60 40", "60 40 =d", "60 40 =d =some =k", "60 40 =d =some 0",
		"60 70", "60 70 =a =a", "60 70 =a 0",
		"60 80", "60 80 9", "60 80 9 0 0", "60 80 =9 9 0", "60 80 -1 0", "60 80 9 256", "60 80 9 -1",
		"60 120", "60 120 9", "60 120 9 0", "60 120 9 0 0 0", "60 120 9 0 256", "60 120 9 256 0", "60 120 -9 1 1", "60 120 9 0 -1",
		"85 10", "85 10 =x", "85 10 0 0", "85 10 256", "85 10 -1",
		"90 10 0", "90 10 =x", "90 20 0", "90 20 =x", "90 30 0", "90 30 =x",
	} {
		for _, h := range []impl.Channel{{Owner: 2}, txChannel, confirmChannel, {Tx: true, Pubs: manyPubs(2)}} {
			wantFailed(t, "a wrong form", askedOf{someCore(), h, asking(words), "b", 70}, "503", "method")
		}
	}
	for _, m := range []impl.Method{
		{Class: 40, Id: 10, Texts: []string{manyBytes(256), "direct"}},
		{Class: 40, Id: 10, Texts: []string{"x", manyBytes(256)}},
		{Class: 50, Id: 20, Texts: []string{"a", "d", manyBytes(256)}},
		{Class: 60, Id: 40, Texts: []string{"", manyBytes(256)}},
		{Class: 60, Id: 70, Texts: []string{manyBytes(1000)}},
	} {
		for _, h := range []impl.Channel{plainChannel, txChannel, confirmChannel} {
			wantFailed(t, "a text that is too long", askedOf{someCore(), h, m, "b", 70}, "503", "method")
		}
	}
}

func TestChannelDoExchange(t *testing.T) {
	kinds := map[string]int{"direct": impl.KindDirect, "fanout": impl.KindFanout, "topic": impl.KindTopic}
	for word, kind := range kinds {
		for _, name := range goodNames {
			want := someCore()
			want.Routes.Exchanges = append(want.Routes.Exchanges, impl.Exchange{Name: name, Kind: kind})
			slices.SortFunc(want.Routes.Exchanges, func(a, b impl.Exchange) int { return strings.Compare(a.Name, b.Name) })
			for _, h := range []impl.Channel{plainChannel, txChannel, confirmChannel} {
				x := askedOf{someCore(), h, asking("40 10 =" + name + " =" + word), "", 0}
				got, _ := wantSaid(t, "a new one", x, want, h, saying("40 11"))
				x.Core = got
				wantSaid(t, "there as the same", x, want, h, saying("40 11"))
				for other := range kinds {
					x.Method = asking("40 10 =" + name + " =" + other)
					if other != word {
						wantFailed(t, "there as another", x, "406", "exchange")
					}
				}
			}
		}
	}
}

func TestChannelDoNoExchange(t *testing.T) {
	for _, word := range []string{"", "Direct", "DIRECT", "direct ", " direct", "direc", "directs", "fan", "fanouts", "topics", "headers", "0", "1", "2", "d", "\x00", manyBytes(255)} {
		m := impl.Method{Class: 40, Id: 10, Texts: []string{"new", word}}
		wantFailed(t, "no kind", askedOf{someCore(), plainChannel, m, "", 0}, "406", "exchange")
		m.Texts[0] = "d"
		wantFailed(t, "no kind of what is there", askedOf{someCore(), txChannel, m, "", 0}, "406", "exchange")
		wantFailed(t, "no kind in nothing", askedOf{impl.Core{}, plainChannel, m, "", 0}, "406", "exchange")
	}
	for _, name := range noNames[:len(noNames)-1] {
		m := impl.Method{Class: 40, Id: 10, Texts: []string{name, "topic"}}
		wantFailed(t, "no name", askedOf{someCore(), confirmChannel, m, "", 0}, "406", "exchange")
	}
	full := impl.Core{Routes: impl.Routes{Exchanges: manyExchanges(60)}}
	wantFailed(t, "one too many", askedOf{full, plainChannel, asking("40 10 =zzz =fanout"), "", 0}, "406", "exchange")
	full.Routes.Exchanges = manyExchanges(59)
	want := keptCore(full)
	want.Routes.Exchanges = append(want.Routes.Exchanges, impl.Exchange{Name: "zzz", Kind: impl.KindFanout})
	wantSaid(t, "the sixtieth", askedOf{full, plainChannel, asking("40 10 =zzz =fanout"), "", 0}, want, plainChannel, saying("40 11"))
}

func TestChannelDoQueue(t *testing.T) {
	for _, h := range []impl.Channel{plainChannel, txChannel, confirmChannel} {
		for _, name := range []string{"0", "b", "nn", "zz", strings.Repeat("n", 30)} {
			for stream, is := range []bool{false, true} {
				want, _ := impl.CoreQueue(someCore(), name, is)
				x := askedOf{someCore(), h, asking(fmt.Sprintf("50 10 =%s %d", name, stream)), "", 0}
				got, _ := wantSaid(t, "a new one", x, want, h, saying("50 11 ="+name+" 0"))
				x.Core = got
				wantSaid(t, "there as that", x, want, h, saying("50 11 ="+name+" 0"))
				x.Method = asking(fmt.Sprintf("50 10 =%s %d", name, 1-stream))
				wantFailed(t, "there as the other", x, "406", "queue")
			}
		}
		for words, told := range map[string]string{"a 0": "a 4", "m 0": "m 2", "z 0": "z 0", "log 1": "log 8", "s 1": "s 0"} {
			x := askedOf{someCore(), h, asking("50 10 =" + words), "", 0}
			wantSaid(t, "how many are there", x, someCore(), h, saying("50 11 ="+told))
		}
		for _, words := range []string{"a 1", "m 1", "z 1", "log 0", "s 0"} {
			x := askedOf{someCore(), h, asking("50 10 =" + words), "", 0}
			wantFailed(t, "there as the other", x, "406", "queue")
		}
	}
	c := namedCore("q", "s")
	c.Queues[0] = impl.Queue{Name: "q", Next: 600, Ready: manyReady(1, 300), Held: manyHeld(301, 200)}
	c.Streams[0] = fullStream("s", 400)
	wantSaid(t, "those that are ready", askedOf{c, plainChannel, asking("50 10 =q 0"), "", 0}, c, plainChannel, saying("50 11 =q 300"))
	wantSaid(t, "all entries", askedOf{c, plainChannel, asking("50 10 =s 1"), "", 0}, c, plainChannel, saying("50 11 =s 400"))
}

func TestChannelDoNoQueue(t *testing.T) {
	for _, n := range []int{2, 3, 10, 127, 128, 254, 255} {
		for _, name := range []string{"new", "a", "log"} {
			x := askedOf{someCore(), plainChannel, asking(fmt.Sprintf("50 10 =%s %d", name, n)), "", 0}
			wantFailed(t, "neither 0 nor 1", x, "406", "queue")
		}
	}
	for _, name := range noNames[:len(noNames)-1] {
		for n := range 2 {
			m := impl.Method{Class: 50, Id: 10, Texts: []string{name}, Nums: []int{n}}
			wantFailed(t, "no name", askedOf{someCore(), txChannel, m, "", 0}, "406", "queue")
		}
	}
	full := impl.Core{Queues: manyQueues(20), Streams: manyStreams(20)}
	wantFailed(t, "a queue too many", askedOf{full, plainChannel, asking("50 10 =zz 0"), "", 0}, "406", "queue")
	wantFailed(t, "a stream too many", askedOf{full, plainChannel, asking("50 10 =zz 1"), "", 0}, "406", "queue")
	wantSaid(t, "one of twenty", askedOf{full, plainChannel, asking("50 10 =q01 0"), "", 0}, full, plainChannel, saying("50 11 =q01 0"))
}

func TestChannelDoBind(t *testing.T) {
	for _, b := range []impl.Binding{
		{Exchange: "d", Key: "new", Queue: "a"}, {Exchange: "d", Key: "", Queue: "a"}, {Exchange: "f", Key: "k", Queue: "a"}, {Exchange: "t", Key: "#.*.x", Queue: "nobody"},
		{Exchange: "t", Key: strings.Repeat("k", 60), Queue: strings.Repeat("n", 30)}, {Exchange: "d", Key: "f", Queue: "t"}, {Exchange: "d", Key: "d", Queue: "d"}, {Exchange: "t", Key: "log", Queue: "log"},
	} {
		for _, h := range []impl.Channel{plainChannel, txChannel, confirmChannel} {
			want := someCore()
			want.Routes.Bindings = append(want.Routes.Bindings, b)
			slices.SortFunc(want.Routes.Bindings, func(a, b impl.Binding) int {
				return slices.Compare([]string{a.Exchange, a.Key, a.Queue}, []string{b.Exchange, b.Key, b.Queue})
			})
			m := impl.Method{Class: 50, Id: 20, Texts: []string{b.Queue, b.Exchange, b.Key}}
			got, _ := wantSaid(t, "a new one", askedOf{someCore(), h, m, "", 0}, want, h, saying("50 21"))
			wantSaid(t, "one that is there", askedOf{got, h, m, "", 0}, want, h, saying("50 21"))
		}
	}
	for _, texts := range [][]string{
		{"a", "none", "k"}, {"a", "", "k"}, {"a", "a", "k"}, {"a", "log", "k"}, {"d", "a", "k"}, {"A", "d", "k"}, {"", "d", "k"}, {"a", "d", "no key"}, {"a", "d", "\xff"},
		{"a", "d", strings.Repeat("k", 61)}, {strings.Repeat("n", 31), "d", "k"}, {"a", strings.Repeat("d", 31), "k"}, {"k", "a", "d"}, {"a", "k", "d"},
	} {
		m := impl.Method{Class: 50, Id: 20, Texts: texts}
		wantFailed(t, "none", askedOf{someCore(), plainChannel, m, "", 0}, "404", "bind")
		wantFailed(t, "none within a transaction", askedOf{someCore(), impl.Channel{Tx: true, Pubs: manyPubs(1), Acks: manyAcks(1)}, m, "", 0}, "404", "bind")
	}
	c := impl.Core{Routes: impl.Routes{Exchanges: []impl.Exchange{{Name: "x"}}, Bindings: manyBindings("x", 60)}}
	wantFailed(t, "one too many", askedOf{c, plainChannel, asking("50 20 =zz =x =zz"), "", 0}, "404", "bind")
}

// published are messages for someCore at the time 60, and to how many they go.
var published = []struct {
	exchange, key string
	count         int
}{
	{"d", "some", 2}, {"d", "one", 1}, {"d", "stay", 1}, {"d", "none", 0}, {"d", "gone", 0}, {"f", "", 5}, {"f", "k", 5}, {"t", "a.b", 2}, {"t", "a.log", 4}, {"t", "x", 0},
	{"", "a", 1}, {"", "z", 1}, {"", "log", 1}, {"", "nobody", 0}, {"", "", 0},
	{"none", "k", -1}, {"D", "some", -1}, {"d", "no key", -1}, {"", "no key", -1}, {"a", "some", -1}, {"d", strings.Repeat("k", 61), -1},
}

func TestChannelDoPublish(t *testing.T) {
	for _, r := range published {
		m := impl.Method{Class: 60, Id: 40, Texts: []string{r.exchange, r.key}}
		for _, body := range []string{"", "hello", "\x00\xff", strings.Repeat("b", 3000)} {
			want, count := publishedBy(someCore(), r.exchange, r.key, body, 60)
			if count != r.count {
				t.Errorf("%q %q goes to %d; want %d", r.exchange, r.key, count, r.count)
			}
			x := askedOf{someCore(), plainChannel, m, body, 60}
			confirmed := confirmChannel
			confirmed.Count = 4
			if count == -1 {
				wantFailed(t, "not taken", x, "404", "publish")
				x.Channel = confirmChannel
				wantSaid(t, "not taken, with Confirm", x, someCore(), confirmed, saying("60 120 4 0 0"))
				continue
			}
			wantSaid(t, "taken", x, want, plainChannel, nil)
			x.Channel = confirmChannel
			wantSaid(t, "taken, with Confirm", x, want, confirmed, saying("60 80 4 0"))
		}
	}
}

// The time and the body of a message count, and what its queues can take.
func TestChannelDoPublishNotTaken(t *testing.T) {
	full := fanCore()
	full.Queues[2] = fullQueue("f", 500)
	for why, x := range map[string]askedOf{
		"a time ahead of the last":   {someCore(), plainChannel, asking("60 40 =f =k"), "b", 59},
		"a time of -1":               {someCore(), plainChannel, asking("60 40 = =s"), "b", -1},
		"a time that is too great":   {someCore(), plainChannel, asking("60 40 = =s"), "b", billion + 1},
		"a body of 3001 bytes":       {someCore(), plainChannel, asking("60 40 =d =some"), manyBytes(3001), 60},
		"one of six that is full":    {full, plainChannel, asking("60 40 =f =k"), "b", 5000},
		"a core of which all is one": {impl.Core{}, plainChannel, asking("60 40 =f =k"), "b", 60},
	} {
		wantFailed(t, why, x, "404", "publish")
		x.Channel = impl.Channel{Owner: 1, Confirm: true}
		confirmed := impl.Channel{Owner: 1, Confirm: true, Count: 1}
		core, channel := wantSaid(t, why, x, x.Core, confirmed, saying("60 120 1 0 0"))
		x.Core, x.Channel = core, channel
		confirmed.Count = 2
		wantSaid(t, why+", again", x, x.Core, confirmed, saying("60 120 2 0 0"))
	}
}

// Count counts those that are taken and those that are not, one by one.
func TestChannelDoConfirms(t *testing.T) {
	c, h := someCore(), impl.Channel{Owner: 5}
	c, h = wantSaid(t, "select", askedOf{c, h, asking("85 10 1"), "", 0}, c, impl.Channel{Owner: 5, Confirm: true}, saying("85 11"))
	for i, r := range slices.Concat(published, published, published) {
		m := impl.Method{Class: 60, Id: 40, Texts: []string{r.exchange, r.key}}
		want, count := publishedBy(c, r.exchange, r.key, "b", 60+i)
		next := h
		next.Count = i + 1
		said := saying(fmt.Sprintf("60 80 %d 0", i+1))
		if count == -1 {
			said = saying(fmt.Sprintf("60 120 %d 0 0", i+1))
		}
		c, h = wantSaid(t, "with Confirm", askedOf{c, h, m, "b", 60 + i}, want, next, said)
		// What else is asked between counts for nothing.
		c, h = wantSaid(t, "between", askedOf{c, h, asking("50 10 =z 0"), "", 0}, c, h, saying(fmt.Sprintf("50 11 =z %d", impl.CoreDepth(c, "z"))))
	}
	for from, words := range map[int]string{0: "60 80 1 0", 254: "60 80 255 0", billion - 1: "60 80 1000000000 0"} {
		x := askedOf{someCore(), impl.Channel{Confirm: true, Count: from}, asking("60 40 = =nobody"), "", 0}
		wantSaid(t, "a count", x, someCore(), impl.Channel{Confirm: true, Count: from + 1}, saying(words))
	}
}

func TestChannelDoPublishWaits(t *testing.T) {
	for _, r := range published {
		m := impl.Method{Class: 60, Id: 40, Texts: []string{r.exchange, r.key}}
		for _, body := range []string{"", "hello", strings.Repeat("b", 5000)} {
			for n := range 30 {
				h := txChannel
				h.Pubs, h.Acks = manyPubs(n), manyAcks(n)
				want := h
				want.Pubs = append(manyPubs(n), impl.Pub{Exchange: r.exchange, Key: r.key, Body: body})
				wantSaid(t, "with Tx", askedOf{someCore(), h, m, body, -1}, someCore(), want, nil)
			}
		}
		h := txChannel
		h.Pubs, h.Acks = manyPubs(30), manyAcks(3)
		wantFailed(t, "31 of a transaction", askedOf{someCore(), h, m, "b", 60}, "406", "many")
	}
}

func TestChannelDoAckWaits(t *testing.T) {
	for words, op := range map[string]impl.AckOp{
		"60 80 9 0":                   {Tag: 9},
		"60 80 9 1":                   {Tag: 9, All: true},
		"60 80 77 255":                {Tag: 77, All: true},
		"60 80 0 0":                   {},
		"60 80 9223372036854775807 2": {Tag: math.MaxInt, All: true},
		"60 120 9 0 0":                {Tag: 9, Nack: true},
		"60 120 9 1 0":                {Tag: 9, All: true, Nack: true},
		"60 120 9 0 1":                {Tag: 9, Nack: true, Back: true},
		"60 120 8 128 255":            {Tag: 8, All: true, Nack: true, Back: true},
	} {
		for n := range 30 {
			h := txChannel
			h.Pubs, h.Acks = manyPubs(n), manyAcks(n)
			want := h
			want.Acks = append(manyAcks(n), op)
			wantSaid(t, "with Tx", askedOf{someCore(), h, asking(words), "", 0}, someCore(), want, nil)
		}
		h := txChannel
		h.Pubs, h.Acks = manyPubs(3), manyAcks(30)
		wantFailed(t, "31 of a transaction", askedOf{someCore(), h, asking(words), "", 0}, "406", "many")
	}
}

func TestChannelDoGet(t *testing.T) {
	c, h := someCore(), impl.Channel{Owner: 5, Tag: 6, Count: 2}
	for i, seq := range []int{3, 5, 8, 11} {
		want, m, _ := impl.CoreGet(c, "a", 5, 7+i)
		next := h
		next.Tag = 7 + i
		if m != messageOf(seq) {
			t.Fatalf("the message is %#v", m)
		}
		said := handing(fmt.Sprintf("60 71 %d 0 =x =k.1 %d", 7+i, 3-i), fmt.Sprintf("body %d", seq))
		c, h = wantSaid(t, "one by one", askedOf{c, h, asking("60 70 =a"), "", 0}, want, next, said)
	}
	c, h = wantSaid(t, "all handed out", askedOf{c, h, asking("60 70 =a"), "", 0}, c, h, saying("60 72"))
	want, _ := givenBy(c, 5, 9, true, true)
	c, h = wantSaid(t, "three are given back", askedOf{c, h, asking("60 120 9 1 1"), "", 0}, want, h, nil)
	want, _, _ = impl.CoreGet(c, "a", 5, 11)
	next := h
	next.Tag = 11
	c, h = wantSaid(t, "the first again", askedOf{c, h, asking("60 70 =a"), "", 0}, want, next, handing("60 71 11 1 =x =k.1 2", "body 3"))
	want, _, _ = impl.CoreGet(c, "m", 5, 12)
	next.Tag = 12
	wantSaid(t, "of another queue", askedOf{c, h, asking("60 70 =m"), "", 0}, want, next, handing("60 71 12 0 =x =k.1 1", "body 2"))
}

// What is handed out is told with a body though that be empty, and all of it as
// it was published.
func TestChannelDoGetAsPublished(t *testing.T) {
	for _, p := range []impl.Pub{
		{Exchange: "", Key: "z", Body: ""}, {Exchange: "d", Key: "some", Body: "\x00\xff\n"}, {Exchange: "f", Key: strings.Repeat("k", 60), Body: strings.Repeat("b", 3000)},
	} {
		for _, h := range []impl.Channel{plainChannel, txChannel, confirmChannel} {
			c, n := impl.CorePublish(someCore(), p.Exchange, p.Key, p.Body, 60)
			if n < 1 {
				t.Fatalf("%#v is not taken", p)
			}
			want, _, _ := impl.CoreGet(c, "z", h.Owner, h.Tag+1)
			next := h
			next.Tag++
			words := fmt.Sprintf("60 71 %d 0 =%s =%s 0", next.Tag, p.Exchange, p.Key)
			wantSaid(t, "as published", askedOf{c, h, asking("60 70 =z"), "", 0}, want, next, handing(words, p.Body))
		}
	}
}

func TestChannelDoNotGot(t *testing.T) {
	for _, name := range append([]string{"none", "b", "aa", "log", "s", "d"}, noNames[:len(noNames)-1]...) {
		m := impl.Method{Class: 60, Id: 70, Texts: []string{name}}
		for _, h := range []impl.Channel{plainChannel, txChannel, confirmChannel, {Tx: true, Pubs: manyPubs(2), Acks: manyAcks(2)}} {
			wantFailed(t, "no such queue", askedOf{someCore(), h, m, "", 0}, "404", "get")
			wantFailed(t, "no queue at all", askedOf{impl.Core{}, h, m, "", 0}, "404", "get")
		}
	}
	for why, h := range map[string]impl.Channel{
		"no tag is left":          {Owner: 9, Tag: billion},
		"a tag not above others":  {Owner: 2, Tag: 19},
		"a tag far below others":  {Owner: 2, Tag: 3},
		"no tag of another owner": {Owner: 1000, Tag: billion},
	} {
		wantSaid(t, why, askedOf{someCore(), h, asking("60 70 =a"), "", 0}, someCore(), h, saying("60 72"))
	}
	for _, h := range []impl.Channel{plainChannel, txChannel, confirmChannel} {
		wantSaid(t, "an empty queue", askedOf{someCore(), h, asking("60 70 =z"), "", 0}, someCore(), h, saying("60 72"))
	}
	h, next := impl.Channel{Owner: 2, Tag: 20}, impl.Channel{Owner: 2, Tag: 21}
	want, _, _ := impl.CoreGet(someCore(), "a", 2, 21)
	wantSaid(t, "a tag just above", askedOf{someCore(), h, asking("60 70 =a"), "", 0}, want, next, handing("60 71 21 0 =x =k.1 3", "body 3"))
	h, next = impl.Channel{Owner: 9, Tag: billion - 1}, impl.Channel{Owner: 9, Tag: billion}
	want, _, _ = impl.CoreGet(someCore(), "a", 9, billion)
	wantSaid(t, "the last tag", askedOf{someCore(), h, asking("60 70 =a"), "", 0}, want, next, handing("60 71 1000000000 0 =x =k.1 3", "body 3"))
}

func TestChannelDoAcks(t *testing.T) {
	for _, r := range coreTags {
		if r.tag < 0 {
			continue
		}
		for _, all := range []int{0, 1, 2, 255} {
			if r.all != (all != 0) {
				continue
			}
			for _, confirm := range []bool{false, true} {
				h := impl.Channel{Owner: r.owner, Tag: 50, Confirm: confirm}
				for words, back := range map[string]bool{"60 80 %d %d": false, "60 120 %d %d 0": false, "60 120 %d %d 1": true, "60 120 %d %d 200": true} {
					want, n := givenBy(someCore(), r.owner, r.tag, r.all, back)
					x := askedOf{someCore(), h, asking(fmt.Sprintf(words, r.tag, all)), "", 0}
					if n == 0 {
						wantFailed(t, "none of those", x, "406", "tag")
						continue
					}
					core, channel := wantSaid(t, "some of those", x, want, h, nil)
					x.Core, x.Channel = core, channel
					wantFailed(t, "and once more", x, "406", "tag")
				}
			}
		}
	}
}

func TestChannelDoModes(t *testing.T) {
	for _, n := range []int{0, 1, 2, 255} {
		confirm := asking(fmt.Sprint("85 10 ", n))
		h, want := impl.Channel{Owner: 9, Tag: 3, Count: 2}, impl.Channel{Owner: 9, Tag: 3, Count: 2, Confirm: true}
		_, got := wantSaid(t, "confirm", askedOf{someCore(), h, confirm, "", 0}, someCore(), want, saying("85 11"))
		wantSaid(t, "confirm twice", askedOf{someCore(), got, confirm, "", 0}, someCore(), want, saying("85 11"))
		wantFailed(t, "a transaction behind confirm", askedOf{someCore(), got, asking("90 10"), "", 0}, "406", "mode")
		wantFailed(t, "confirm in a transaction", askedOf{someCore(), impl.Channel{Owner: 9, Tx: true}, confirm, "", 0}, "406", "mode")
		wantFailed(t, "confirm with parts", askedOf{someCore(), impl.Channel{Owner: 9, Tx: true, Pubs: manyPubs(3), Acks: manyAcks(3)}, confirm, "", 0}, "406", "mode")
	}
	h, want := impl.Channel{Owner: 9, Tag: 3, Count: 2}, impl.Channel{Owner: 9, Tag: 3, Count: 2, Tx: true}
	_, got := wantSaid(t, "a transaction", askedOf{someCore(), h, asking("90 10"), "", 0}, someCore(), want, saying("90 11"))
	wantSaid(t, "a transaction twice", askedOf{someCore(), got, asking("90 10"), "", 0}, someCore(), want, saying("90 11"))
	want.Pubs, want.Acks = manyPubs(3), manyAcks(3)
	wantSaid(t, "once more with parts", askedOf{someCore(), want, asking("90 10"), "", 0}, someCore(), want, saying("90 11"))
	for _, words := range []string{"90 20", "90 30"} {
		for _, h := range []impl.Channel{{}, plainChannel, confirmChannel} {
			wantFailed(t, "without a transaction", askedOf{someCore(), h, asking(words), "", 0}, "406", "mode")
		}
	}
	for _, words := range []string{"90 20", "90 30"} {
		told := map[string]string{"90 20": "90 21", "90 30": "90 31"}[words]
		for why, c := range rightCores() {
			wantSaid(t, why+", with nothing to do", askedOf{c, txChannel, asking(words), "", 0}, c, txChannel, saying(told))
		}
	}
}

// goodParts are parts of a transaction of owner 2 on someCore that all are done.
func goodParts() impl.Channel {
	h := txChannel
	h.Pubs = []impl.Pub{pubOf("f", "k", "first"), pubOf("d", "some", "second"), pubOf("d", "none", "to nobody"), pubOf("", "log", "fourth"), pubOf("t", "a.b", "")}
	h.Acks = []impl.AckOp{{Tag: 3}, {Tag: 4, Nack: true, Back: true}, {Tag: 5, Nack: true}, {Tag: 9, All: true, Nack: true, Back: true}, {Tag: 20, All: true}}
	return h
}

// badPubs and badAcks are parts that would fail, wherever they stand.
func badPubs() []impl.Pub {
	return []impl.Pub{pubOf("none", "k", "b"), pubOf("d", "no key", "b"), pubOf("D", "some", "b"), pubOf("d", "some", manyBytes(3001))}
}

func badAcks() []impl.AckOp {
	return []impl.AckOp{{Tag: 77}, {Tag: 0}, {Tag: 2, All: true}, {Tag: 1, Nack: true, Back: true}, {Tag: 0, All: true, Nack: true, Back: true}, {Tag: -5}, {Tag: 77, Nack: true}}
}

func TestChannelDoCommit(t *testing.T) {
	h := goodParts()
	want := someCore()
	for _, p := range h.Pubs {
		want, _ = publishedBy(want, p.Exchange, p.Key, p.Body, 60)
	}
	counts := []int{1, 1, 1, 2, 1}
	for i, a := range h.Acks {
		n := 0
		if want, n = givenBy(want, 2, a.Tag, a.All, a.Nack && a.Back); n != counts[i] {
			t.Errorf("part %d lets go of %d; want %d", i, n, counts[i])
		}
	}
	left := h
	left.Pubs, left.Acks = nil, nil
	wantSaid(t, "all of it", askedOf{someCore(), h, asking("90 20"), "not looked at", 60}, want, left, saying("90 21"))
	wantSaid(t, "none of it", askedOf{someCore(), h, asking("90 30"), "not looked at", 60}, someCore(), left, saying("90 31"))
	// The time is that of the commit.
	wantFailed(t, "at a time that has gone", askedOf{someCore(), h, asking("90 20"), "", 59}, "541", "commit")
	wantSaid(t, "none at a time that has gone", askedOf{someCore(), h, asking("90 30"), "", 59}, someCore(), left, saying("90 31"))
}

// One part that would fail is enough, wherever it stands.
func TestChannelDoCommitAllOrNone(t *testing.T) {
	for at := range 6 {
		for _, p := range badPubs() {
			h := goodParts()
			h.Pubs = slices.Insert(h.Pubs, at, p)
			wantFailed(t, fmt.Sprintf("message %d of 6", at), askedOf{someCore(), h, asking("90 20"), "", 60}, "541", "commit")
			h.Acks = nil
			wantFailed(t, fmt.Sprintf("message %d of 6 alone", at), askedOf{someCore(), h, asking("90 20"), "", 60}, "541", "commit")
		}
		for _, a := range badAcks() {
			h := goodParts()
			h.Acks = slices.Insert(h.Acks, at, a)
			wantFailed(t, fmt.Sprintf("acknowledgement %d of 6", at), askedOf{someCore(), h, asking("90 20"), "", 60}, "541", "commit")
			h.Pubs = nil
			wantFailed(t, fmt.Sprintf("acknowledgement %d of 6 alone", at), askedOf{someCore(), h, asking("90 20"), "", 60}, "541", "commit")
		}
	}
	for _, p := range badPubs() {
		wantFailed(t, "one message", askedOf{someCore(), impl.Channel{Owner: 2, Tx: true, Pubs: []impl.Pub{p}}, asking("90 20"), "", 60}, "541", "commit")
	}
	for _, a := range badAcks() {
		wantFailed(t, "one acknowledgement", askedOf{someCore(), impl.Channel{Owner: 2, Tx: true, Acks: []impl.AckOp{a}}, asking("90 20"), "", 60}, "541", "commit")
	}
}

// A part may be what another one needs, or takes away.
func TestChannelDoCommitInOrder(t *testing.T) {
	h := impl.Channel{Owner: 2, Tx: true, Acks: []impl.AckOp{{Tag: 5}, {Tag: 9, All: true}}}
	want, _ := givenBy(someCore(), 2, 9, true, false)
	left := impl.Channel{Owner: 2, Tx: true}
	wantSaid(t, "one, then all", askedOf{someCore(), h, asking("90 20"), "", 60}, want, left, saying("90 21"))
	h.Acks[1].Back = true
	wantSaid(t, "an acknowledgement gives nothing back", askedOf{someCore(), h, asking("90 20"), "", 60}, want, left, saying("90 21"))
	slices.Reverse(h.Acks)
	wantFailed(t, "all, then one", askedOf{someCore(), h, asking("90 20"), "", 60}, "541", "commit")
	h.Acks = []impl.AckOp{{Tag: 9}, {Tag: 9}}
	wantFailed(t, "one twice", askedOf{someCore(), h, asking("90 20"), "", 60}, "541", "commit")

	// Messages come first: there is no room yet that an acknowledgement makes.
	c := namedCore("q", "")
	c.Queues[0] = impl.Queue{Name: "q", Next: 600, Ready: manyReady(1, 300), Held: manyHeld(301, 200)}
	h = impl.Channel{Owner: 0, Tx: true, Pubs: []impl.Pub{pubOf("", "q", "b")}, Acks: []impl.AckOp{{Tag: 7}}}
	wantFailed(t, "a full queue", askedOf{c, h, asking("90 20"), "", 60}, "541", "commit")
	c.Queues[0].Ready = manyReady(1, 299)
	want, _ = publishedBy(c, "", "q", "b", 60)
	want, _ = givenBy(want, 0, 7, false, false)
	wantSaid(t, "one less", askedOf{c, h, asking("90 20"), "", 60}, want, impl.Channel{Tx: true}, saying("90 21"))
	h.Pubs = append(h.Pubs, impl.Pub{Key: "q"})
	wantFailed(t, "two of which one has room", askedOf{c, h, asking("90 20"), "", 60}, "541", "commit")
}

func TestChannelDoCommitMany(t *testing.T) {
	c, h := someCore(), impl.Channel{Owner: 30, Tx: true}
	// In a transaction, what is handed out is so at once.
	for i := range 30 {
		if i%5 == 0 {
			c, _ = impl.CorePublish(c, "f", "k", fmt.Sprint("body ", i), 60+i)
		}
		c, h, _ = impl.ChannelDo(c, h, asking([]string{"60 70 =a", "60 70 =m", "60 70 =z"}[i%3]), "", 0)
	}
	was := keptCore(c)
	want := c
	held := []int{}
	for _, q := range c.Queues {
		for _, x := range q.Held {
			if x.Owner == 30 {
				held = append(held, x.Tag)
			}
		}
	}
	if len(held) < 15 {
		t.Fatalf("%d are held only", len(held))
	}
	for i := range 30 {
		p := manyPubs(30)[i]
		want, _ = publishedBy(want, p.Exchange, p.Key, p.Body, 200)
		c, h = wantSaid(t, "a message waits", askedOf{c, h, impl.Method{Class: 60, Id: 40, Texts: []string{p.Exchange, p.Key}}, p.Body, 100 + i}, was, withPub(h, p), nil)
	}
	for i, tag := range held {
		want, _ = givenBy(want, 30, tag, false, i%2 == 0)
		words := []string{"60 120 %d 0 1", "60 80 %d 0"}[i%2]
		op := impl.AckOp{Tag: tag, Nack: i%2 == 0, Back: i%2 == 0}
		next := keptChannel(h)
		next.Acks = append(next.Acks, op)
		c, h = wantSaid(t, "an acknowledgement waits", askedOf{c, h, asking(fmt.Sprintf(words, tag)), "", 0}, was, next, nil)
	}
	left := h
	left.Pubs, left.Acks = nil, nil
	wantSaid(t, "rolled back", askedOf{c, h, asking("90 30"), "", 200}, was, left, saying("90 31"))
	done, h := wantSaid(t, "committed", askedOf{c, h, asking("90 20"), "", 200}, want, left, saying("90 21"))
	wantCoreOk(t, "committed", done, true)
	wantSaid(t, "committed again", askedOf{done, h, asking("90 20"), "", 200}, want, left, saying("90 21"))
}

func withPub(h impl.Channel, p impl.Pub) impl.Channel {
	h = keptChannel(h)
	h.Pubs = append(h.Pubs, p)
	return h
}

func TestChannelOk(t *testing.T) {
	for why, h := range rightChannels() {
		wantRight(t, why, impl.ChannelOk, h, true)
	}
	for why, h := range wrongChannels() {
		wantRight(t, why, impl.ChannelOk, h, false)
	}
}

func TestChannelOkNumbers(t *testing.T) {
	for _, n := range []int{0, 1, 2, 999, 1000} {
		wantRight(t, "an owner", impl.ChannelOk, impl.Channel{Owner: n}, true)
	}
	for _, n := range noOwners {
		wantRight(t, "no owner", impl.ChannelOk, impl.Channel{Owner: n}, false)
	}
	for _, n := range []int{0, 1, 1000, 1001, billion - 1, billion} {
		wantRight(t, "a tag", impl.ChannelOk, impl.Channel{Tag: n}, true)
		wantRight(t, "a count", impl.ChannelOk, impl.Channel{Count: n}, true)
	}
	for _, n := range noTimes {
		wantRight(t, "no tag", impl.ChannelOk, impl.Channel{Tag: n}, false)
		wantRight(t, "no count", impl.ChannelOk, impl.Channel{Count: n}, false)
	}
}

// All choices of flags, with no parts, with as many as may be and with one more.
func TestChannelOkFlags(t *testing.T) {
	for i := range 8 {
		tx, confirm, closed := i&1 > 0, i&2 > 0, i&4 > 0
		for _, pubs := range []int{0, 1, 29, 30, 31, 60} {
			for _, acks := range []int{0, 1, 29, 30, 31, 60} {
				h := impl.Channel{Tx: tx, Confirm: confirm, Closed: closed, Pubs: manyPubs(pubs), Acks: manyAcks(acks)}
				want := !(tx && confirm) && pubs <= 30 && acks <= 30 && (pubs+acks == 0 || tx && !closed)
				wantRight(t, "flags and parts", impl.ChannelOk, h, want)
			}
		}
	}
}

// channelWalk is some channels on one core, and what they must be.
type channelWalk struct {
	core     impl.Core
	channels []impl.Channel
	roll     func(n int) int
	time     int
	counts   map[string]int
}

// method is one that is asked of a channel next.
func (w *channelWalk) method(h impl.Channel) impl.Method {
	roll := w.roll
	switch kind := roll(20); {
	case kind < 6:
		exchange := []string{"", "", "", "d", "f", "f", "t", "t", "none"}[roll(9)]
		return asking("60 40 =" + exchange + " =" + []string{"a", "m", "z", "log", "some", "a.b", "a.log"}[roll(7)])
	case kind < 10:
		return asking("60 70 =" + []string{"a", "m", "z"}[roll(3)])
	case kind < 15:
		tag := h.Tag - roll(6)
		if tags := heldBy(w.core, h.Owner); len(tags) > 0 && roll(8) > 0 {
			tag = tags[roll(len(tags))]
		}
		all := max(0, roll(5)-3)
		if roll(2) == 0 {
			return asking(fmt.Sprintf("60 80 %d %d", max(0, tag), all))
		}
		return asking(fmt.Sprintf("60 120 %d %d %d", max(0, tag), all, roll(2)))
	case kind < 19:
		return asking([]string{"90 20", "90 20", "90 30", "90 10", "85 10 0", "50 10 =z 0"}[roll(6)])
	}
	return asking(eachMethod[roll(len(eachMethod))])
}

// heldBy are the tags that an owner holds.
func heldBy(c impl.Core, owner int) []int {
	var out []int
	for _, q := range c.Queues {
		for _, x := range q.Held {
			if x.Owner == owner {
				out = append(out, x.Tag)
			}
		}
	}
	return out
}

// kindOfStep is what a step was, to count how many there were of each.
func kindOfStep(h impl.Channel, m impl.Method, said []impl.Reply) string {
	mode := map[bool]string{true: "tx "}[h.Tx] + map[bool]string{true: "confirm "}[h.Confirm]
	kind := fmt.Sprint(mode, m.Class, " ", m.Id)
	for _, r := range said {
		kind += fmt.Sprint(" -> ", r.Method.Class, " ", r.Method.Id)
		if r.Method.Class == 10 {
			kind += " " + r.Method.Texts[0]
		}
	}
	return kind
}

func TestChannelByPromise(t *testing.T) {
	w := &channelWalk{core: someCore(), roll: diceOf(11), time: 61, counts: map[string]int{}}
	for i := range 3 {
		w.channels = append(w.channels, impl.Channel{Owner: 20 + i})
	}
	for step := range 4000 {
		at := w.roll(3)
		h := w.channels[at]
		if h.Closed {
			w.core = impl.CoreLeave(w.core, h.Owner)
			h = impl.Channel{Owner: h.Owner}
			if w.roll(2) == 0 {
				h.Tx = w.roll(2) == 0
				h.Confirm = !h.Tx
			}
		}
		w.time += w.roll(2)
		m := w.method(h)
		x := askedOf{w.core, h, m, fmt.Sprintf("step %d", step), w.time - w.roll(10)/9}
		c, next := wantMade(t, fmt.Sprintf("step %d", step), x)
		_, _, said := impl.ChannelDo(x.Core, x.Channel, x.Method, x.Body, x.Time)
		w.counts[kindOfStep(h, m, said)]++
		// Within a transaction nothing of it happens until it is committed.
		if waits := m.Class == 60 && m.Id != 70 || m.Class == 90 && m.Id == 30; h.Tx && waits {
			wantSame(t, "the core within a transaction", c, x.Core)
		}
		if next.Closed {
			wantSame(t, "the core behind a failure", c, x.Core)
		}
		if !impl.CoreOk(c) || !impl.ChannelOk(next) || t.Failed() {
			t.Fatalf("step %d: wrong behind %s", step, told(m))
		}
		w.core, w.channels[at] = c, next
		// Streams are trimmed, that they never be full.
		for i := range w.core.Streams {
			w.core.Streams[i] = impl.StreamTrim(w.core.Streams[i], 20, 0)
		}
	}
	wantCounts(t, w.counts, map[string]int{
		"60 40": 50, "60 40 -> 10 50 404": 20, "60 70 -> 60 71": 50, "60 80": 20, "60 120": 20, "60 80 -> 10 50 406": 5,
		"confirm 60 40 -> 60 80": 50, "confirm 60 40 -> 60 120": 10, "confirm 90 10 -> 10 50 406": 5,
		"tx 60 40": 50, "tx 60 80": 20, "tx 60 120": 20, "tx 60 70 -> 60 71": 20, "tx 90 20 -> 90 21": 30, "tx 90 20 -> 10 50 541": 20, "tx 90 30 -> 90 31": 10, "tx 85 10 -> 10 50 406": 3,
	})
}

// Channels that are not ChannelOk, and cores that are not CoreOk, have an
// answer for each method too.
func TestChannelDoOfWrongChannels(t *testing.T) {
	list := wrongChannels()
	for why, h := range rightChannels() {
		list[why] = h
	}
	for why, h := range list {
		for _, words := range eachMethod {
			for _, time := range []int{60, 59, -1, billion + 1} {
				wantMade(t, why, askedOf{someCore(), h, asking(words), "body", time})
			}
		}
	}
}

func TestChannelDoOfWrongCores(t *testing.T) {
	for why, c := range wrongCores() {
		for _, h := range []impl.Channel{{Owner: 2, Tag: 40}, txChannel, confirmChannel, goodParts(), {Owner: 2, Tx: true, Acks: manyAcks(30)}} {
			for _, words := range eachMethod {
				wantMade(t, why, askedOf{c, h, asking(words), "body", 5000})
			}
		}
	}
	for why, c := range rightCores() {
		for _, h := range []impl.Channel{{Owner: 2, Tag: 40}, txChannel, confirmChannel, goodParts()} {
			for _, words := range eachMethod {
				wantMade(t, why, askedOf{c, h, asking(words), "body", 5000})
			}
		}
	}
}

// A core that is wrong in its routes alone, or in all but them, is taken by
// what the document names: Declare and Bind look at the routes alone.
func TestChannelDoOfHalfWrongCores(t *testing.T) {
	c := namedCore("b a", "s")
	want := keptCore(c)
	want.Routes.Exchanges = []impl.Exchange{{Name: "x", Kind: impl.KindTopic}}
	got, _ := wantSaid(t, "queues out of order", askedOf{c, plainChannel, asking("40 10 =x =topic"), "", 0}, want, plainChannel, saying("40 11"))
	want.Routes.Bindings = []impl.Binding{{Exchange: "x", Key: "k", Queue: "a"}}
	got, _ = wantSaid(t, "queues out of order", askedOf{got, plainChannel, asking("50 20 =a =x =k"), "", 0}, want, plainChannel, saying("50 21"))
	for _, name := range []string{"a", "b"} {
		wantSaid(t, "queues out of order", askedOf{got, plainChannel, asking("60 70 =" + name), "", 0}, want, plainChannel, saying("60 72"))
	}
	wantFailed(t, "queues out of order", askedOf{got, plainChannel, asking("60 70 =s"), "", 0}, "404", "get")
	wantFailed(t, "queues out of order", askedOf{got, plainChannel, asking("50 10 =a 0"), "", 0}, "406", "queue")
	wantFailed(t, "queues out of order", askedOf{got, plainChannel, asking("60 40 = =a"), "", 0}, "404", "publish")
	wantSaid(t, "with nothing to do", askedOf{got, txChannel, asking("90 20"), "", 0}, want, txChannel, saying("90 21"))
}

func TestChannelMemory(t *testing.T) {
	wrong := namedCore("m a", "s")
	wrong.Queues[1] = someCore().Queues[0]
	list := wrongChannels()
	for why, h := range rightChannels() {
		list[why] = h
	}
	list["good parts"] = goodParts()
	do := func(x askedOf) []any {
		c, h, said := impl.ChannelDo(x.Core, x.Channel, x.Method, x.Body, x.Time)
		return []any{c, h, said}
	}
	for why, h := range list {
		for i, words := range append([]string{"", "7 7 =x 1", "60 71 1 0 =x =k 1"}, eachMethod...) {
			for _, c := range []impl.Core{someCore(), []impl.Core{{}, wrong}[i%2]} {
				wantApart(t, why+": "+words, askedOf{c, h, asking(words), "body", 60}, do)
			}
		}
		wantApart(t, why+": ChannelOk", h, func(h impl.Channel) []any { return []any{impl.ChannelOk(h)} })
	}
	for _, texts := range [][2]string{{"406", "many"}, {"4", "m"}, {"", "many"}, {"406", ""}, {manyBytes(255), manyBytes(255)}, {manyBytes(256), "many"}, {"406", manyBytes(256)}} {
		wantApart(t, "Fail", impl.Pub{Key: texts[0], Body: texts[1]}, func(p impl.Pub) []any { return []any{impl.Fail(p.Key, p.Body)} })
	}
}
