package tests

import (
	"fmt"
	"math"
	"slices"
	"strings"
	"testing"

	"loop.example/g00227/impl"
)

// noKeys are texts that are no keys.
var noKeys = []string{" ", "a b", "a.b ", " a", "\x00", "\x1f", "\x7f", "\x80", "\xff", "é", "a\n", "a\t", strings.Repeat("k", 61), strings.Repeat(".", 61), strings.Repeat("#.", 31), manyBytes(300)}

// noNames are texts that are no names.
var noNames = []string{"", " ", "A", "aB", "a b", "a/b", "a*", "#", "é", "a\x00", "\xff", strings.Repeat("n", 31), strings.Repeat("n", 300)}

// goodNames are names of all the bytes and lengths that there are.
var goodNames = []string{"a", "z", "0", "9", "-", ".", "_", "a.b", "q-1_x", strings.Repeat("n", 29), strings.Repeat("n", 30)}

var noExchangeKinds = []int{math.MinInt, -256, -2, -1, 3, 4, 256, 258, 4294967296, 4294967298, math.MaxInt}

// keptRoutes is r in memory of its own, to hold it against what comes later.
func keptRoutes(r impl.Routes) impl.Routes {
	return impl.Routes{Exchanges: slices.Clone(r.Exchanges), Bindings: slices.Clone(r.Bindings)}
}

// someRoutes are three exchanges, one of each kind, with bindings.
func someRoutes() impl.Routes {
	return impl.Routes{
		Exchanges: []impl.Exchange{{Name: "d", Kind: impl.KindDirect}, {Name: "f", Kind: impl.KindFanout}, {Name: "t", Kind: impl.KindTopic}},
		Bindings: []impl.Binding{
			{Exchange: "d", Key: "", Queue: "none"},
			{Exchange: "d", Key: "a.*", Queue: "star"},
			{Exchange: "d", Key: "a.b", Queue: "q2"},
			{Exchange: "d", Key: "a.b", Queue: "q9"},
			{Exchange: "d", Key: "c", Queue: "q1"},
			{Exchange: "f", Key: "a.b", Queue: "z"},
			{Exchange: "f", Key: "c", Queue: "m"},
			{Exchange: "f", Key: "d", Queue: "a"},
			{Exchange: "f", Key: "d", Queue: "z"},
			{Exchange: "t", Key: "#", Queue: "all"},
			{Exchange: "t", Key: "#.b", Queue: "q2"},
			{Exchange: "t", Key: "*.b", Queue: "q2"},
			{Exchange: "t", Key: "a.*", Queue: "one"},
			{Exchange: "t", Key: "a.b", Queue: "just"},
		},
	}
}

// manyExchanges are n direct exchanges, named in their order.
func manyExchanges(n int) []impl.Exchange {
	var out []impl.Exchange
	for i := range n {
		out = append(out, impl.Exchange{Name: fmt.Sprintf("x%03d", i)})
	}
	return out
}

// manyBindings are n bindings of one exchange, in their order.
func manyBindings(exchange string, n int) []impl.Binding {
	var out []impl.Binding
	for i := range n {
		out = append(out, impl.Binding{Exchange: exchange, Key: fmt.Sprintf("k%03d", i), Queue: "q"})
	}
	return out
}

// wrongRoutes are routes that are not RoutesOk, by the reason why.
func wrongRoutes() map[string]impl.Routes {
	out := map[string]impl.Routes{
		"61 exchanges": {Exchanges: manyExchanges(61)},
		"61 bindings":  {Exchanges: manyExchanges(1), Bindings: manyBindings("x000", 61)},
	}
	with := func(why string, change func(r *impl.Routes)) {
		r := someRoutes()
		change(&r)
		out[why] = r
	}
	with("exchanges out of order", func(r *impl.Routes) { r.Exchanges[1], r.Exchanges[2] = r.Exchanges[2], r.Exchanges[1] })
	with("two exchanges alike", func(r *impl.Routes) { r.Exchanges = append(r.Exchanges, r.Exchanges[2]) })
	with("two exchanges of one name", func(r *impl.Routes) { r.Exchanges = append(r.Exchanges, impl.Exchange{Name: "t", Kind: 0}) })
	with("an exchange without a name", func(r *impl.Routes) { r.Exchanges = append([]impl.Exchange{{}}, r.Exchanges...) })
	with("a name of 31 bytes", func(r *impl.Routes) {
		r.Exchanges = append(r.Exchanges, impl.Exchange{Name: strings.Repeat("u", 31)})
	})
	with("a name with a wrong byte", func(r *impl.Routes) { r.Exchanges = append(r.Exchanges, impl.Exchange{Name: "u#"}) })
	with("kind 3", func(r *impl.Routes) { r.Exchanges[2].Kind = 3 })
	with("kind -1", func(r *impl.Routes) { r.Exchanges[0].Kind = -1 })
	with("bindings out of order", func(r *impl.Routes) { r.Bindings[7], r.Bindings[8] = r.Bindings[8], r.Bindings[7] })
	with("two bindings alike", func(r *impl.Routes) { r.Bindings[8] = r.Bindings[7] })
	with("a binding of no exchange", func(r *impl.Routes) { r.Bindings[13].Exchange = "u" })
	with("a binding of the empty exchange", func(r *impl.Routes) { r.Bindings[0].Exchange = "" })
	with("a binding of no key", func(r *impl.Routes) { r.Bindings[13].Key = "a.b c" })
	with("a binding of too long a key", func(r *impl.Routes) { r.Bindings[13].Key = strings.Repeat("b", 61) })
	with("a binding of no queue", func(r *impl.Routes) { r.Bindings[0].Queue = "" })
	with("a binding of a wrong queue", func(r *impl.Routes) { r.Bindings[13].Queue = "No" })
	with("bindings without exchanges", func(r *impl.Routes) { r.Exchanges = nil })
	return out
}

func wantRoutes(t *testing.T, what string, got impl.Routes, want impl.Routes) {
	t.Helper()
	wantSame(t, what, got, want)
}

// wantOk wants RoutesOk of r to be so.
func wantOk(t *testing.T, why string, r impl.Routes, want bool) {
	t.Helper()
	wantRight(t, why, impl.RoutesOk, r, want)
}

// wantTaken wants what a call answered to be these routes, which are right, and true.
func wantTaken(t *testing.T, what string, got impl.Routes, ok bool, want impl.Routes) {
	t.Helper()
	wantDone(t, what, impl.RoutesOk, got, ok, want)
}

// wantKept wants what a call answered to be the routes as they were, and false.
func wantKept(t *testing.T, what string, got impl.Routes, ok bool, was impl.Routes) {
	t.Helper()
	wantLeft(t, what, got, ok, was)
}

func TestRouteConstants(t *testing.T) {
	if impl.KindDirect != 0 || impl.KindFanout != 1 || impl.KindTopic != 2 || impl.MaxRoutes != 60 {
		t.Error("constants", impl.KindDirect, impl.KindFanout, impl.KindTopic, impl.MaxRoutes)
	}
}

func TestKeyOk(t *testing.T) {
	for _, key := range []string{"", ".", "..", ".a", "a.", "a..b", "a.b.c", "!", "~", "*", "#", "A", "a/b", "=", "{}", "#.*.#",
		strings.Repeat("k", 59), strings.Repeat("k", 60), strings.Repeat(".", 60)} {
		if !impl.KeyOk(key) {
			t.Errorf("KeyOk(%q) = false", key)
		}
	}
	for _, key := range noKeys {
		if impl.KeyOk(key) {
			t.Errorf("KeyOk(%q) = true", key)
		}
	}
	for b := range 256 {
		one := string([]byte{byte(b)})
		for _, key := range []string{one, "a" + one, one + "a", "a." + one + ".a", strings.Repeat("k", 59) + one} {
			if got, want := impl.KeyOk(key), b >= 33 && b <= 126; got != want {
				t.Errorf("KeyOk(%q) = %v; want %v", key, got, want)
			}
		}
	}
}

func TestRoutesOkExchanges(t *testing.T) {
	for _, name := range goodNames {
		for _, kind := range []int{0, 1, 2} {
			wantOk(t, "exchange", impl.Routes{Exchanges: []impl.Exchange{{Name: name, Kind: kind}}}, true)
		}
		for _, kind := range noExchangeKinds {
			wantOk(t, "exchange", impl.Routes{Exchanges: []impl.Exchange{{Name: name, Kind: kind}}}, false)
		}
	}
	for _, name := range noNames {
		wantOk(t, "exchange", impl.Routes{Exchanges: []impl.Exchange{{Name: name}}}, false)
	}
	for _, n := range []int{0, 1, 2, 59, 60, 61, 62, 200} {
		wantOk(t, "so many exchanges", impl.Routes{Exchanges: manyExchanges(n)}, n <= 60)
	}
}

func TestRoutesOkOrder(t *testing.T) {
	// Names are compared byte by byte, a beginning ahead of what it begins.
	right := []string{"-", ".", "0", "10", "2", "_", "a", "a-", "a.", "a0", "aa", "ab", "b"}
	var list []impl.Exchange
	for _, name := range right {
		list = append(list, impl.Exchange{Name: name, Kind: len(list) % 3})
	}
	wantOk(t, "in order", impl.Routes{Exchanges: list}, true)
	for i := range list {
		for k := range i {
			other := slices.Clone(list)
			other[i], other[k] = other[k], other[i]
			wantOk(t, "two in each other's place", impl.Routes{Exchanges: other}, false)
			other = slices.Clone(list)
			other[i].Name = other[k].Name
			wantOk(t, "two alike", impl.Routes{Exchanges: other}, false)
		}
	}
}

func TestRoutesOkBindings(t *testing.T) {
	wantOk(t, "some", someRoutes(), true)
	for why, r := range wrongRoutes() {
		wantOk(t, why, r, false)
	}
	for _, n := range []int{0, 1, 2, 59, 60, 61, 62, 200} {
		wantOk(t, "so many bindings", impl.Routes{Exchanges: manyExchanges(60), Bindings: manyBindings("x059", n)}, n <= 60)
	}
}

func TestRoutesOkBindingParts(t *testing.T) {
	one := func(b impl.Binding) impl.Routes {
		return impl.Routes{Exchanges: []impl.Exchange{{Name: "x"}}, Bindings: []impl.Binding{b}}
	}
	for _, name := range goodNames {
		wantOk(t, "binding", one(impl.Binding{Exchange: "x", Queue: name}), true)
		wantOk(t, "binding", one(impl.Binding{Exchange: name, Queue: "q"}), false)
	}
	for _, name := range noNames {
		for _, b := range []impl.Binding{{Exchange: "x", Queue: name}, {Exchange: name, Queue: "q"}} {
			wantOk(t, "binding", one(b), false)
		}
	}
	for _, key := range noKeys {
		wantOk(t, "binding", one(impl.Binding{Exchange: "x", Key: key, Queue: "q"}), false)
	}
	wantOk(t, "binding", one(impl.Binding{Exchange: "x", Key: strings.Repeat("k", 60), Queue: "q"}), true)
}

func TestRoutesOkBindingOrder(t *testing.T) {
	// Each one of the pairs is right as it stands and wrong the other way round.
	pairs := [][2]impl.Binding{
		{{Exchange: "x", Key: "k", Queue: "q"}, {Exchange: "y", Key: "k", Queue: "q"}},
		{{Exchange: "x", Key: "k", Queue: "q"}, {Exchange: "x", Key: "l", Queue: "q"}},
		{{Exchange: "x", Key: "k", Queue: "q"}, {Exchange: "x", Key: "k", Queue: "r"}},
		{{Exchange: "x", Key: "", Queue: "q"}, {Exchange: "x", Key: "!", Queue: "q"}},
		{{Exchange: "x", Key: "z", Queue: "z"}, {Exchange: "y", Key: "a", Queue: "a"}},
		{{Exchange: "x", Key: "a", Queue: "z"}, {Exchange: "x", Key: "b", Queue: "a"}},
		// One by one, and not as one text of all three.
		{{Exchange: "x", Key: "b", Queue: "z"}, {Exchange: "x", Key: "bb", Queue: "a"}},
		{{Exchange: "x", Key: "z", Queue: "a"}, {Exchange: "xx", Key: "a", Queue: "a"}},
		{{Exchange: "x", Key: "a", Queue: "bc"}, {Exchange: "x", Key: "ab", Queue: "c"}},
	}
	exchanges := []impl.Exchange{{Name: "x"}, {Name: "xx"}, {Name: "y"}}
	for _, p := range pairs {
		wantOk(t, "in order", impl.Routes{Exchanges: exchanges, Bindings: p[:]}, true)
		for _, other := range [][2]impl.Binding{{p[1], p[0]}, {p[0], p[0]}, {p[1], p[1]}} {
			wantOk(t, "not in order", impl.Routes{Exchanges: exchanges, Bindings: other[:]}, false)
		}
	}
}

func TestTopicMatch(t *testing.T) {
	rows := []struct {
		pattern string
		fits    []string
		not     []string
	}{
		{"", []string{""}, []string{"a", ".", "#", "*"}},
		{"a", []string{"a"}, []string{"", "b", "aa", "A", "a.", ".a", "a.a", "*", "#"}},
		{"*", []string{"a", "", "*", "#", "aa"}, []string{".", "a.b", "a."}},
		{"#", []string{"", ".", "..", "a", "a.b.c", "a..b", "#", "*"}, nil},
		{"a.b", []string{"a.b"}, []string{"a", "b", "b.a", "a.b.c", "a..b", "a.b.", ".a.b", "ab"}},
		{"*.b", []string{"a.b", ".b", "*.b"}, []string{"b", "a.c", "a.a.b", "a.b.c"}},
		{"a.*", []string{"a.b", "a.", "a.*", "a.#"}, []string{"a", "a.b.c", "b.b", "a.."}},
		{"a.*.c", []string{"a.b.c", "a..c"}, []string{"a.c", "a.b.b.c", "a.b", "a.b.d"}},
		{"*.*", []string{"a.b", "."}, []string{"", "a", "a.b.c", ".."}},
		{"#.a", []string{"a", "b.a", ".a", "b.c.a", "a.a", "..a"}, []string{"", "b", "a.b", "a.", "ba"}},
		{"a.#", []string{"a", "a.", "a.b", "a.b.c", "a.."}, []string{"", "b", "b.a", "ab", ".a"}},
		{"a.#.c", []string{"a.c", "a.b.c", "a.b.b.c", "a..c", "a.c.c", "a.c.b.c"}, []string{"a", "c", "a.c.b", "a.b", "c.a", "ac"}},
		{"#.a.#", []string{"a", "a.b", "b.a", "b.a.b", "a.a", ".a."}, []string{"", "b", "b.b", "ab.ba"}},
		{"#.#", []string{"", "a", "a.b", "."}, nil},
		{"#.#.#.#", []string{"", "a", "a.b", "."}, nil},
		{"#.*", []string{"", "a", "a.b", ".", "a.b.c"}, nil},
		{"*.#", []string{"", "a", "a.b", ".", "a.b.c"}, nil},
		{"*.#.*", []string{"a.b", ".", "a.b.c"}, []string{"", "a"}},
		{"#.*.*", []string{"a.b", "a.b.c"}, []string{"", "a"}},
		{"#.*.#", []string{"", "a", "a.b.c"}, nil},
		{".", []string{"."}, []string{"", "a", "a.", ".a", ".."}},
		{".a", []string{".a"}, []string{"a", "a.", ".", "b.a", "..a"}},
		{"a.", []string{"a."}, []string{"a", ".a", "a.b", "a.."}},
		{"a..b", []string{"a..b"}, []string{"a.b", "a.c.b", "a...b"}},
		{".#", []string{"", ".", ".a", ".a.b"}, []string{"a", "a."}},
		{"#.", []string{"", ".", "a.", "a.b."}, []string{"a", ".a"}},
		{".*.", []string{".a.", ".."}, []string{".", "..."}},
		// A word that only begins or ends with a sign stands for itself.
		{"*a", []string{"*a"}, []string{"a", "ba", "*"}},
		{"a*", []string{"a*"}, []string{"a", "ab"}},
		{"#a", []string{"#a"}, []string{"a", "ba", "", "b.a"}},
		{"a#", []string{"a#"}, []string{"a", "ab", "a.b"}},
		{"**", []string{"**"}, []string{"*", "a", "ab", "a.b"}},
		{"##", []string{"##"}, []string{"#", "", "a", "a.b"}},
		{"*#", []string{"*#"}, []string{"", "a", "a.b"}},
		{"a.#b.c", []string{"a.#b.c"}, []string{"a.c", "a.b.c", "a.x.b.c"}},
	}
	for _, r := range rows {
		for _, key := range r.fits {
			if !impl.TopicMatch(r.pattern, key) {
				t.Errorf("TopicMatch(%q, %q) = false", r.pattern, key)
			}
		}
		for _, key := range r.not {
			if impl.TopicMatch(r.pattern, key) {
				t.Errorf("TopicMatch(%q, %q) = true", r.pattern, key)
			}
		}
	}
}

// standsFor is the rule in the document's words: the first word of the pattern
// stands for what it may, and the others for what is left.
func standsFor(pattern []string, words []string) bool {
	if len(pattern) == 0 {
		return len(words) == 0
	}
	if pattern[0] == "#" {
		for n := range len(words) + 1 {
			if standsFor(pattern[1:], words[n:]) {
				return true
			}
		}
		return false
	}
	return len(words) > 0 && (pattern[0] == "*" || pattern[0] == words[0]) && standsFor(pattern[1:], words[1:])
}

// joined are all the texts of 1 to most of these words, with dots between.
func joined(words []string, most int) []string {
	out := slices.Clone(words)
	last := words
	for range most - 1 {
		var next []string
		for _, text := range last {
			for _, word := range words {
				next = append(next, text+"."+word)
			}
		}
		out = append(out, next...)
		last = next
	}
	return out
}

func TestTopicMatchByRule(t *testing.T) {
	keys := joined([]string{"", "a", "b", "*"}, 4)
	for _, pattern := range joined([]string{"", "a", "b", "*", "#"}, 4) {
		parts := strings.Split(pattern, ".")
		for _, key := range keys {
			if got, want := impl.TopicMatch(pattern, key), standsFor(parts, strings.Split(key, ".")); got != want {
				t.Fatalf("TopicMatch(%q, %q) = %v; want %v", pattern, key, got, want)
			}
		}
	}
}

func TestTopicMatchOfNoKeys(t *testing.T) {
	for _, no := range noKeys {
		for _, other := range []string{"#", "*", "", "a", no} {
			if impl.TopicMatch(no, other) || impl.TopicMatch(other, no) {
				t.Errorf("TopicMatch of %q and %q = %v, %v; want false", no, other, impl.TopicMatch(no, other), impl.TopicMatch(other, no))
			}
		}
	}
}

func TestTopicMatchLong(t *testing.T) {
	words := strings.Repeat("a.", 29) + "a"
	dots := strings.Repeat(".", 60)
	signs := strings.Repeat("#.", 29)
	for _, r := range []struct {
		pattern string
		key     string
		want    bool
	}{
		{signs + "#", words, true}, {signs + "#", dots, true}, {signs + "#", "", true},
		{signs + "a", words, true}, {signs + "b", words, false}, {signs + "b", dots, false},
		{"b" + strings.Repeat(".#", 29), words, false}, {"a" + strings.Repeat(".#", 29), words, true},
		{strings.Repeat("#.a.", 14) + "#", words, true}, {strings.Repeat("#.a.", 14) + "b", words, false},
		{strings.Repeat("#.a.", 14) + "#.b", words, false}, {strings.Repeat("#..", 20), dots, true},
		{strings.Repeat("#..", 19) + "#.b", dots, false}, {strings.Repeat("#.*.", 14) + "b", words, false},
		{strings.Repeat("*.", 29) + "*", words, true}, {strings.Repeat("*.", 28) + "*", words, false},
		{dots, dots, true}, {dots, dots[1:], false}, {dots[1:], dots, false},
		{strings.Repeat("k", 60), strings.Repeat("k", 60), true}, {strings.Repeat("k", 60), strings.Repeat("k", 59), false},
	} {
		if got := impl.TopicMatch(r.pattern, r.key); got != r.want {
			t.Errorf("TopicMatch(%q, %q) = %v; want %v", r.pattern, r.key, got, r.want)
		}
	}
}

func TestDeclare(t *testing.T) {
	r := someRoutes()
	for _, row := range []struct {
		name string
		at   int
	}{{"a", 0}, {"-", 0}, {"dd", 1}, {"e", 1}, {"d.", 1}, {"g", 2}, {"s", 2}, {"tt", 3}, {"z", 3}, {strings.Repeat("z", 30), 3}} {
		for kind := range 3 {
			want := someRoutes()
			want.Exchanges = slices.Insert(want.Exchanges, row.at, impl.Exchange{Name: row.name, Kind: kind})
			got, ok := impl.Declare(r, row.name, kind)
			wantTaken(t, fmt.Sprintf("Declare(%q, %d)", row.name, kind), got, ok, want)
			// What is there with that kind stays as it is.
			again, ok := impl.Declare(got, row.name, kind)
			wantTaken(t, fmt.Sprintf("Declare(%q, %d) again", row.name, kind), again, ok, want)
			for other := -1; other < 4; other++ {
				if other != kind {
					again, ok = impl.Declare(got, row.name, other)
					wantKept(t, fmt.Sprintf("Declare(%q, %d) behind %d", row.name, other, kind), again, ok, want)
				}
			}
		}
	}
}

func TestDeclareFirst(t *testing.T) {
	for _, name := range goodNames {
		got, ok := impl.Declare(impl.Routes{}, name, impl.KindTopic)
		wantTaken(t, fmt.Sprintf("Declare(%q)", name), got, ok, impl.Routes{Exchanges: []impl.Exchange{{Name: name, Kind: 2}}})
	}
	// In whichever order they come, they are ascending.
	r := impl.Routes{}
	for i, name := range []string{"m", "c", "x", "a", "z", "n", "l"} {
		r, _ = impl.Declare(r, name, i%3)
	}
	wantRoutes(t, "seven exchanges", r, impl.Routes{Exchanges: []impl.Exchange{{Name: "a", Kind: 0}, {Name: "c", Kind: 1}, {Name: "l", Kind: 0}, {Name: "m", Kind: 0}, {Name: "n", Kind: 2}, {Name: "x", Kind: 2}, {Name: "z", Kind: 1}}})
}

func TestDeclareRefused(t *testing.T) {
	for _, r := range []impl.Routes{{}, someRoutes(), {Exchanges: manyExchanges(60), Bindings: manyBindings("x007", 60)}} {
		for _, name := range noNames {
			for kind := range 3 {
				got, ok := impl.Declare(r, name, kind)
				wantKept(t, fmt.Sprintf("Declare(%q, %d)", name, kind), got, ok, r)
			}
		}
		for _, kind := range noExchangeKinds {
			got, ok := impl.Declare(r, "new", kind)
			wantKept(t, fmt.Sprintf("Declare(new, %d)", kind), got, ok, r)
		}
	}
	for why, r := range wrongRoutes() {
		for _, name := range []string{"new", "d", "f", "t", "x000", ""} {
			for kind := range 3 {
				got, ok := impl.Declare(r, name, kind)
				wantKept(t, fmt.Sprintf("%s: Declare(%q, %d)", why, name, kind), got, ok, r)
			}
		}
	}
}

func TestDeclareAtMost(t *testing.T) {
	r := impl.Routes{Exchanges: manyExchanges(59), Bindings: manyBindings("x007", 60)}
	for _, row := range []struct {
		name string
		at   int
	}{{"a", 0}, {"x030a", 31}, {"z", 59}} {
		want := keptRoutes(r)
		want.Exchanges = slices.Insert(want.Exchanges, row.at, impl.Exchange{Name: row.name, Kind: 1})
		full, ok := impl.Declare(r, row.name, 1)
		wantTaken(t, "the 60th exchange "+row.name, full, ok, want)
		for _, name := range []string{"0", "x011a", "zz"} {
			got, ok := impl.Declare(full, name, 0)
			wantKept(t, "the 61st exchange "+name, got, ok, want)
		}
		got, ok := impl.Declare(full, row.name, 1)
		wantTaken(t, "one that is there, of 60, "+row.name, got, ok, want)
	}
}

func TestBind(t *testing.T) {
	r := someRoutes()
	for _, row := range []struct {
		more impl.Binding
		at   int
	}{
		{impl.Binding{Exchange: "d", Key: "", Queue: "a"}, 0},
		{impl.Binding{Exchange: "d", Key: "", Queue: "nonf"}, 1},
		{impl.Binding{Exchange: "d", Key: "a", Queue: "zz"}, 1},
		{impl.Binding{Exchange: "d", Key: "a.b", Queue: "q3"}, 3},
		{impl.Binding{Exchange: "d", Key: "~", Queue: "q"}, 5},
		{impl.Binding{Exchange: "f", Key: "", Queue: "z"}, 5},
		{impl.Binding{Exchange: "f", Key: "c", Queue: "z"}, 7},
		{impl.Binding{Exchange: "f", Key: "#", Queue: "all"}, 5},
		{impl.Binding{Exchange: "t", Key: "", Queue: "all"}, 9},
		{impl.Binding{Exchange: "t", Key: "a.b", Queue: "just.one"}, 14},
		{impl.Binding{Exchange: "t", Key: "a.b", Queue: strings.Repeat("q", 30)}, 14},
		{impl.Binding{Exchange: "t", Key: strings.Repeat("~", 60), Queue: "q"}, 14},
	} {
		want := someRoutes()
		want.Bindings = slices.Insert(want.Bindings, row.at, row.more)
		got, ok := impl.Bind(r, row.more.Exchange, row.more.Key, row.more.Queue)
		wantTaken(t, fmt.Sprintf("Bind of %q", row.more), got, ok, want)
		again, ok := impl.Bind(got, row.more.Exchange, row.more.Key, row.more.Queue)
		wantTaken(t, fmt.Sprintf("Bind of %q again", row.more), again, ok, want)
	}
	for _, b := range r.Bindings {
		got, ok := impl.Bind(r, b.Exchange, b.Key, b.Queue)
		wantTaken(t, fmt.Sprintf("Bind of %q that is there", b), got, ok, someRoutes())
	}
}

func TestBindOneByOne(t *testing.T) {
	want := someRoutes()
	for by := range 5 {
		r := impl.Routes{Exchanges: want.Exchanges}
		for i := range want.Bindings {
			// 1, 3, 5, 9 and 11 share no factor with 14: each comes once.
			b := want.Bindings[i*[]int{1, 3, 5, 9, 11}[by]%len(want.Bindings)]
			var ok bool
			if r, ok = impl.Bind(r, b.Exchange, b.Key, b.Queue); !ok {
				t.Errorf("Bind of %q is refused", b)
			}
		}
		wantRoutes(t, "all bound", r, want)
	}
}

func TestBindRefused(t *testing.T) {
	full := impl.Routes{Exchanges: someRoutes().Exchanges, Bindings: manyBindings("d", 60)}
	for _, r := range []impl.Routes{{}, someRoutes(), full} {
		for _, exchange := range append(slices.Clone(noNames), "e", "dd", "none", "a") {
			got, ok := impl.Bind(r, exchange, "k", "q")
			wantKept(t, fmt.Sprintf("Bind of exchange %q", exchange), got, ok, r)
		}
		for _, exchange := range []string{"d", "f", "t"} {
			for _, key := range noKeys {
				got, ok := impl.Bind(r, exchange, key, "q")
				wantKept(t, fmt.Sprintf("Bind of key %q", key), got, ok, r)
			}
			for _, queue := range noNames {
				got, ok := impl.Bind(r, exchange, "k", queue)
				wantKept(t, fmt.Sprintf("Bind of queue %q", queue), got, ok, r)
			}
		}
	}
	for why, r := range wrongRoutes() {
		for _, exchange := range []string{"d", "f", "t", "x000", "u", ""} {
			for _, key := range []string{"new", "d", "k000"} {
				got, ok := impl.Bind(r, exchange, key, "q")
				wantKept(t, fmt.Sprintf("%s: Bind of %q, %q", why, exchange, key), got, ok, r)
			}
		}
	}
}

func TestBindAtMost(t *testing.T) {
	r := impl.Routes{Exchanges: manyExchanges(60), Bindings: manyBindings("x007", 59)}
	for _, row := range []struct {
		more impl.Binding
		at   int
	}{{impl.Binding{Exchange: "x000", Key: "a", Queue: "q"}, 0}, {impl.Binding{Exchange: "x007", Key: "k030", Queue: "r"}, 31}, {impl.Binding{Exchange: "x059", Key: "a", Queue: "q"}, 59}} {
		want := keptRoutes(r)
		want.Bindings = slices.Insert(want.Bindings, row.at, row.more)
		full, ok := impl.Bind(r, row.more.Exchange, row.more.Key, row.more.Queue)
		wantTaken(t, fmt.Sprintf("the 60th binding %q", row.more), full, ok, want)
		for _, exchange := range []string{"x000", "x007", "x059"} {
			got, ok := impl.Bind(full, exchange, "more", "q")
			wantKept(t, "the 61st binding of "+exchange, got, ok, want)
		}
		got, ok := impl.Bind(full, row.more.Exchange, row.more.Key, row.more.Queue)
		wantTaken(t, fmt.Sprintf("one that is there, of 60, %q", row.more), got, ok, want)
	}
}

func TestUnbind(t *testing.T) {
	r := someRoutes()
	for _, row := range []struct {
		queue string
		gone  []int
	}{
		{"nobody", nil}, {"", nil}, {"q", nil}, {"A b", nil}, {"a.b", nil},
		{"none", []int{0}}, {"a", []int{7}}, {"just", []int{13}}, {"z", []int{5, 8}}, {"q2", []int{2, 10, 11}},
	} {
		want := someRoutes()
		for _, i := range slices.Backward(row.gone) {
			want.Bindings = slices.Delete(want.Bindings, i, i+1)
		}
		got := impl.Unbind(r, row.queue)
		wantTaken(t, fmt.Sprintf("Unbind of %q", row.queue), got, true, want)
		wantRoutes(t, fmt.Sprintf("Unbind of %q again", row.queue), impl.Unbind(got, row.queue), want)
	}
	wantRoutes(t, "Unbind of nothing", impl.Unbind(impl.Routes{}, "q"), impl.Routes{})
	all := impl.Routes{Exchanges: manyExchanges(60), Bindings: manyBindings("x007", 60)}
	wantRoutes(t, "Unbind of all", impl.Unbind(all, "q"), impl.Routes{Exchanges: manyExchanges(60)})
	// The document names no answer for wrong routes: they too lose the bindings.
	for why, r := range wrongRoutes() {
		want := keptRoutes(r)
		want.Bindings = slices.DeleteFunc(want.Bindings, func(b impl.Binding) bool { return b.Queue == "q2" })
		wantRoutes(t, why+": Unbind", impl.Unbind(r, "q2"), want)
	}
}

func TestUnbindThenRoute(t *testing.T) {
	r := impl.Unbind(someRoutes(), "q2")
	wantQueues(t, r, "d", "a.b", "q9")
	wantQueues(t, r, "t", "a.b", "all", "just", "one")
	back, ok := impl.Bind(r, "t", "*.b", "q2")
	if !ok {
		t.Error("Bind behind Unbind is refused")
	}
	wantQueues(t, back, "t", "a.b", "all", "just", "one", "q2")
}

func wantQueues(t *testing.T, r impl.Routes, exchange string, key string, want ...string) {
	t.Helper()
	if got, ok := impl.Route(r, exchange, key); !ok || !slices.Equal(got, want) {
		t.Errorf("Route(%q, %q) = %q, %v; want %q, true", exchange, key, got, ok, want)
	}
}

func wantNoRoute(t *testing.T, why string, r impl.Routes, exchange string, key string) {
	t.Helper()
	if got, ok := impl.Route(r, exchange, key); ok || len(got) != 0 {
		t.Errorf("%s: Route(%q, %q) = %q, %v; want nothing and false", why, exchange, key, got, ok)
	}
}

func TestRoute(t *testing.T) {
	r := someRoutes()
	wantQueues(t, r, "d", "", "none")
	wantQueues(t, r, "d", "a.*", "star")
	wantQueues(t, r, "d", "a.b", "q2", "q9")
	wantQueues(t, r, "d", "c", "q1")
	for _, key := range []string{"a", "a.c", "#", "*", "d", "C", "a.b.", "cc"} {
		wantQueues(t, r, "d", key)
	}
	for _, key := range []string{"", "a.b", "c", "d", "whatever", "#", strings.Repeat("k", 60)} {
		wantQueues(t, r, "f", key, "a", "m", "z")
	}
	wantQueues(t, r, "t", "", "all")
	wantQueues(t, r, "t", "b", "all", "q2")
	wantQueues(t, r, "t", "a", "all")
	wantQueues(t, r, "t", "a.b", "all", "just", "one", "q2")
	wantQueues(t, r, "t", "a.c", "all", "one")
	wantQueues(t, r, "t", "c.b", "all", "q2")
	wantQueues(t, r, "t", "x.y.b", "all", "q2")
	wantQueues(t, r, "t", "a.", "all", "one")
}

func TestRouteUnbound(t *testing.T) {
	for kind := range 3 {
		r := impl.Routes{Exchanges: []impl.Exchange{{Name: "x", Kind: kind}, {Name: "y", Kind: kind}}, Bindings: []impl.Binding{{Exchange: "y", Key: "k", Queue: "q"}}}
		wantQueues(t, r, "x", "k")
		wantQueues(t, r, "y", "k", "q")
	}
}

// The order of the queues is their own and not that of their bindings.
func TestRouteAscending(t *testing.T) {
	for kind := range 3 {
		r := impl.Routes{Exchanges: []impl.Exchange{{Name: "x", Kind: kind}}}
		queues := []string{"m", "a", "z", "a1", "b", "0", "-", "m", "z"}
		for i, queue := range queues {
			key := "k"
			if kind != impl.KindDirect {
				key = []string{"k", "*", "#", "#.k", "k.#", "#.#", "#.*", "*.#", "#.k.#"}[(i*4)%9]
			}
			r, _ = impl.Bind(r, "x", key, queue)
		}
		wantQueues(t, r, "x", "k", "-", "0", "a", "a1", "b", "m", "z")
	}
}

func TestRouteMany(t *testing.T) {
	r := impl.Routes{Exchanges: []impl.Exchange{{Name: "x", Kind: impl.KindTopic}}}
	var want []string
	for i := range 60 {
		queue := fmt.Sprintf("q%02d", i)
		want = append(want, queue)
		r, _ = impl.Bind(r, "x", strings.Repeat("#.", 29)+"#", queue)
	}
	wantQueues(t, r, "x", strings.Repeat(".", 60), want...)
}

func TestRouteOfEmptyExchange(t *testing.T) {
	for _, r := range []impl.Routes{{}, someRoutes()} {
		for _, key := range []string{"some", "q2", "d", "a.b", "-", strings.Repeat("q", 30)} {
			wantQueues(t, r, "", key, key)
		}
		// A key that is no name is told too: what is asked for is a key alone.
		for _, key := range []string{"", "A", "#", "*.b", strings.Repeat("q", 31), strings.Repeat("q", 60)} {
			wantQueues(t, r, "", key, key)
		}
		for _, key := range noKeys {
			wantNoRoute(t, "no key", r, "", key)
		}
	}
}

func TestRouteRefused(t *testing.T) {
	for _, r := range []impl.Routes{{}, someRoutes()} {
		for _, exchange := range append(slices.Clone(noNames)[1:], "e", "dd", "none", "a") {
			wantNoRoute(t, "no exchange", r, exchange, "a.b")
		}
		for _, exchange := range []string{"", "d", "f", "t"} {
			for _, key := range noKeys {
				wantNoRoute(t, "no key", r, exchange, key)
			}
		}
	}
	for why, r := range wrongRoutes() {
		for _, exchange := range []string{"", "d", "f", "t", "u", "x000"} {
			for _, key := range []string{"", "a.b", "k000"} {
				wantNoRoute(t, why, r, exchange, key)
			}
		}
	}
}

// A message goes to just the queues whose bindings say so, held against the
// rule for many keys and patterns.
func TestRouteByRule(t *testing.T) {
	patterns := joined([]string{"a", "b", "*", "#"}, 3)
	keys := joined([]string{"a", "b", "*", ""}, 3)
	for kind := range 3 {
		for from := 0; from < len(patterns); from += 7 {
			r := impl.Routes{Exchanges: []impl.Exchange{{Name: "w", Kind: (kind + 1) % 3}, {Name: "x", Kind: kind}}}
			r, _ = impl.Bind(r, "w", "a", "other")
			var bound []impl.Binding
			for i := range 20 {
				b := impl.Binding{Exchange: "x", Key: patterns[(from+i*5)%len(patterns)], Queue: fmt.Sprintf("q%d", i*7%9)}
				r, _ = impl.Bind(r, b.Exchange, b.Key, b.Queue)
				bound = append(bound, b)
			}
			for _, key := range keys {
				var want []string
				for _, b := range bound {
					if kind == 1 || kind == 0 && b.Key == key || kind == 2 && standsFor(strings.Split(b.Key, "."), strings.Split(key, ".")) {
						want = append(want, b.Queue)
					}
				}
				slices.Sort(want)
				wantQueues(t, r, "x", key, slices.Compact(want)...)
			}
		}
	}
}

// roomy is r with spare room behind its lists, which is filled.
func roomy(r impl.Routes) (impl.Routes, []impl.Exchange, []impl.Binding) {
	exchanges := append(slices.Clone(r.Exchanges), impl.Exchange{Name: "spare", Kind: 7}, impl.Exchange{Name: "room", Kind: 8})
	bindings := append(slices.Clone(r.Bindings), impl.Binding{Exchange: "spare", Key: "k", Queue: "q"}, impl.Binding{Exchange: "room"})
	return impl.Routes{Exchanges: exchanges[:len(r.Exchanges)], Bindings: bindings[:len(r.Bindings)]}, exchanges, bindings
}

// routeCalls are calls that answer routes, taken and refused.
var routeCalls = map[string]func(r impl.Routes) impl.Routes{
	"Declare in front":    func(r impl.Routes) impl.Routes { r, _ = impl.Declare(r, "a", 1); return r },
	"Declare behind":      func(r impl.Routes) impl.Routes { r, _ = impl.Declare(r, "z", 1); return r },
	"Declare there":       func(r impl.Routes) impl.Routes { r, _ = impl.Declare(r, "d", 0); return r },
	"Declare other kind":  func(r impl.Routes) impl.Routes { r, _ = impl.Declare(r, "d", 1); return r },
	"Declare of no name":  func(r impl.Routes) impl.Routes { r, _ = impl.Declare(r, "", 1); return r },
	"Bind in front":       func(r impl.Routes) impl.Routes { r, _ = impl.Bind(r, "d", "", "a"); return r },
	"Bind behind":         func(r impl.Routes) impl.Routes { r, _ = impl.Bind(r, "t", "z", "z"); return r },
	"Bind there":          func(r impl.Routes) impl.Routes { r, _ = impl.Bind(r, "d", "c", "q1"); return r },
	"Bind of no exchange": func(r impl.Routes) impl.Routes { r, _ = impl.Bind(r, "no", "c", "q1"); return r },
	"Bind of no queue":    func(r impl.Routes) impl.Routes { r, _ = impl.Bind(r, "d", "c", ""); return r },
	"Unbind of first":     func(r impl.Routes) impl.Routes { return impl.Unbind(r, "none") },
	"Unbind of several":   func(r impl.Routes) impl.Routes { return impl.Unbind(r, "q2") },
	"Unbind of none":      func(r impl.Routes) impl.Routes { return impl.Unbind(r, "nobody") },
	"Route": func(r impl.Routes) impl.Routes {
		impl.Route(r, "t", "a.b")
		impl.Route(r, "f", "a.b")
		impl.Route(r, "d", "a.b")
		impl.RoutesOk(r)
		return impl.Routes{}
	},
}

func TestRoutesAreNotWrittenInto(t *testing.T) {
	list := wrongRoutes()
	list["right"] = someRoutes()
	for why, plain := range list {
		for call, do := range routeCalls {
			r, exchanges, bindings := roomy(plain)
			wasExchanges, wasBindings := slices.Clone(exchanges), slices.Clone(bindings)
			got := do(r)
			if !slices.Equal(exchanges, wasExchanges) || !slices.Equal(bindings, wasBindings) {
				t.Errorf("%s, %s: the routes are written into", call, why)
			}
			// What is written into an answer shows in no argument, spare room and all.
			all, rest := got.Exchanges[:cap(got.Exchanges)], got.Bindings[:cap(got.Bindings)]
			for i := range all {
				all[i] = impl.Exchange{Name: "over", Kind: 9}
			}
			for i := range rest {
				rest[i] = impl.Binding{Exchange: "over"}
			}
			if !slices.Equal(exchanges, wasExchanges) || !slices.Equal(bindings, wasBindings) {
				t.Errorf("%s, %s: the answer shares its lists with the routes", call, why)
			}
		}
	}
}

// textsOf are all the texts of some routes.
func textsOf(r impl.Routes) []string {
	var out []string
	for _, e := range r.Exchanges {
		out = append(out, e.Name)
	}
	for _, b := range r.Bindings {
		out = append(out, b.Exchange, b.Key, b.Queue)
	}
	return out
}

func TestRouteAnswersAreNewMemory(t *testing.T) {
	r := someRoutes()
	given := textsOf(r)
	for call, do := range routeCalls {
		for _, text := range given {
			wantOwnMemory(t, call, text, textsOf(do(r)))
		}
	}
	for _, exchange := range []string{"d", "f", "t"} {
		queues, _ := impl.Route(r, exchange, "a.b")
		for _, text := range given {
			wantOwnMemory(t, "Route", text, queues)
		}
	}
	name := strings.Clone("a-new-one")
	more, _ := impl.Declare(r, name, 1)
	wantOwnMemory(t, "Declare of a new one", name, textsOf(more))
	exchange, key, queue := strings.Clone("d"), strings.Clone("new.key"), strings.Clone("new-queue")
	more, _ = impl.Bind(r, exchange, key, queue)
	for _, text := range []string{exchange, key, queue} {
		wantOwnMemory(t, "Bind of a new one", text, textsOf(more))
	}
	queues, _ := impl.Route(r, "", queue)
	wantOwnMemory(t, "Route of the empty exchange", queue, queues)
}
