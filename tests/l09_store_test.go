package tests

import (
	"fmt"
	"math"
	"slices"
	"strings"
	"testing"

	"loop.example/g00227/impl"
)

// toldBy is what a table tells, by the words of the document: what its lists
// leave that are set one behind the other, the oldest first.
func toldBy(x impl.Table) []impl.Pair {
	lists := append([][]impl.Pair{x.Young}, x.Runs...)
	slices.Reverse(lists)
	return leftBy(lists)
}

// storeOf is a store of a table, and of batches that were written.
func storeOf(x impl.Table, list [][]impl.Pair, safe int) impl.Store {
	log, _ := logOf(list)
	return impl.Store{Table: x, Log: log, Safe: safe}
}

// writtenStore is a store of a table, in whose log stands what it tells.
func writtenStore(x impl.Table) impl.Store {
	return storeOf(x, slices.Collect(slices.Chunk(toldBy(x), 60)), 0)
}

// someWritten are batches that leave what someTable tells.
func someWritten() [][]impl.Pair {
	return [][]impl.Pair{
		{pairOf("z", "3 z"), pairOf("e", "3 e"), pairOf("c", "3 c")},
		{goneOf("e"), pairOf("h", "2 h"), pairOf("k", "2 k")},
		{},
		{pairOf("e", "1 e"), pairOf("h", "1 h"), goneOf("c"), goneOf("o")},
		{pairOf("a", "0 a"), pairOf("m", "0 m"), pairOf("n", "0 n"), pairOf("f", "0 f")},
		{goneOf("b"), pairOf("d", "young d"), pairOf("f", ""), goneOf("k")},
	}
}

// someStore has pairs in Young and in runs, and a part of its log is safe.
func someStore() impl.Store {
	_, ends := logOf(someWritten())
	return storeOf(someTable(), someWritten(), ends[1])
}

// longStore is a store whose log has n bytes, of whole records.
func longStore(n int) impl.Store {
	log, list := sizedLog(n)
	return impl.Store{Table: impl.Table{Young: leftBy(list)}, Log: log}
}

// rightStores are stores that are right, by what is to be seen in them.
func rightStores() map[string]impl.Store {
	some := someStore()
	there := someThere()
	out := map[string]impl.Store{
		"nothing":                       {},
		"no pairs and no runs":          {Table: impl.Table{Young: []impl.Pair{}, Runs: [][]impl.Pair{}}},
		"some":                          some,
		"Young alone":                   storeOf(impl.Table{Young: there}, someWritten(), 0),
		"a run alone":                   storeOf(impl.Table{Runs: [][]impl.Pair{there}}, someWritten(), 0),
		"the last of 8 runs":            storeOf(impl.Table{Runs: append(make([][]impl.Pair, 7), there)}, someWritten(), 0),
		"Young and a run":               storeOf(impl.Table{Young: there[:3], Runs: [][]impl.Pair{there[3:]}}, someWritten(), 0),
		"Young ahead in keys":           storeOf(impl.Table{Young: there[3:], Runs: [][]impl.Pair{there[:3]}}, someWritten(), 0),
		"all in Young and in a run":     storeOf(impl.Table{Young: there, Runs: [][]impl.Pair{there}}, someWritten(), 0),
		"Gone ones that never were":     storeOf(impl.Table{Young: []impl.Pair{goneOf("q")}, Runs: [][]impl.Pair{there}}, someWritten(), 0),
		"8 runs":                        writtenStore(impl.Table{Young: there, Runs: manyRuns(8)}),
		"runs of no pairs":              {Table: impl.Table{Runs: make([][]impl.Pair, 8)}},
		"a batch of none":               storeOf(impl.Table{}, [][]impl.Pair{nil}, 0),
		"batches that leave nothing":    storeOf(impl.Table{}, [][]impl.Pair{{pairOf("a", "v")}, {goneOf("a")}}, 0),
		"a pair without a value":        storeOf(impl.Table{Young: []impl.Pair{pairOf("a", "")}}, [][]impl.Pair{{pairOf("a", "")}}, 0),
		"299 pairs":                     writtenStore(impl.Table{Young: manyPairs(299, 0)}),
		"300 pairs in Young":            writtenStore(impl.Table{Young: manyPairs(300, 0)}),
		"300 pairs in a run":            writtenStore(impl.Table{Runs: [][]impl.Pair{manyPairs(300, 0)}}),
		"150 in Young, 150 in a run":    writtenStore(impl.Table{Young: manyPairs(150, 0), Runs: [][]impl.Pair{manyPairs(150, 1)}}),
		"300 in a run, all there twice": writtenStore(impl.Table{Young: manyPairs(300, 0), Runs: [][]impl.Pair{manyPairs(300, 0)}}),
		"300 in a run, 300 Gone ahead":  writtenStore(impl.Table{Young: allGone(manyPairs(300, 1)), Runs: [][]impl.Pair{manyPairs(300, 0), manyPairs(300, 1)}}),
		"300 Gone and none there":       {Table: impl.Table{Young: allGone(manyPairs(300, 0))}},
		"a log of 199999 bytes":         longStore(199999),
		"a log of 200000 bytes":         longStore(200000),
	}
	for _, safe := range []int{0, 1, some.Safe - 1, some.Safe, some.Safe + 1, len(some.Log) - 1, len(some.Log)} {
		some.Safe = safe
		out[fmt.Sprintf("Safe of %d", safe)] = some
	}
	return out
}

// withTable is someStore with another table.
func withTable(x impl.Table) impl.Store { return storeOf(x, someWritten(), 0) }

// changedThere is what someStore tells, with one pair changed.
func changedThere(i int, p impl.Pair) []impl.Pair {
	out := someThere()
	out[i] = p
	return out
}

// otherTables are right tables that tell something else than the log of someStore.
func otherTables() map[string]impl.Table {
	there := someThere()
	out := map[string]impl.Table{
		"nothing":                {},
		"8 runs of no pairs":     {Runs: make([][]impl.Pair, 8)},
		"all Gone ahead":         {Young: allGone(there), Runs: [][]impl.Pair{there}},
		"Gone in a run ahead":    {Runs: [][]impl.Pair{{goneOf("e")}, there}},
		"Gone in Young":          {Young: []impl.Pair{goneOf("m")}, Runs: [][]impl.Pair{there}},
		"another value in Young": {Young: []impl.Pair{pairOf("m", "other")}, Runs: [][]impl.Pair{there}},
		"another value in a run": {Runs: [][]impl.Pair{{pairOf("m", "0 m ")}, there}},
		"a pair more in Young":   {Young: []impl.Pair{pairOf("c", "")}, Runs: [][]impl.Pair{there}},
		"a pair more in a run":   {Young: there, Runs: [][]impl.Pair{{pairOf("zz", "v")}}},
		"the older ahead":        {Young: there, Runs: [][]impl.Pair{{pairOf("k", "2 k")}}},
	}
	for i, p := range there {
		out[fmt.Sprintf("pair %d less", i)] = impl.Table{Young: slices.Delete(someThere(), i, i+1)}
		out[fmt.Sprintf("pair %d Gone", i)] = impl.Table{Young: changedThere(i, goneOf(p.Key))}
		out[fmt.Sprintf("pair %d of another value", i)] = impl.Table{Young: changedThere(i, pairOf(p.Key, p.Value+"x"))}
		out[fmt.Sprintf("pair %d of another key", i)] = impl.Table{Young: changedThere(i, pairOf(p.Key+"x", p.Value))}
		out[fmt.Sprintf("a pair more behind %d", i)] = impl.Table{Young: slices.Insert(someThere(), i+1, pairOf(p.Key+"x", ""))}
	}
	return out
}

// wrongStores are stores that are not StoreOk, by the reason why.
func wrongStores() map[string]impl.Store {
	some := someStore()
	size := len(some.Log)
	out := map[string]impl.Store{
		"301 pairs":                   writtenStore(impl.Table{Young: manyPairs(300, 0), Runs: [][]impl.Pair{manyPairs(1, 1)}}),
		"301 pairs in runs":           writtenStore(impl.Table{Runs: [][]impl.Pair{manyPairs(1, 1), manyPairs(300, 0)}}),
		"600 pairs":                   writtenStore(impl.Table{Young: manyPairs(300, 0), Runs: [][]impl.Pair{manyPairs(300, 1)}}),
		"301 pairs, 300 in the table": {Table: impl.Table{Young: manyPairs(300, 0)}, Log: writtenStore(impl.Table{Young: manyPairs(301, 0)}).Log},
		"a log of 200001 bytes":       longStore(200001),
		"a log of 250000 bytes":       longStore(250000),
		"a long log and no pairs":     {Log: longStore(200001).Log},
		"bytes alone":                 {Log: "x"},
		"bytes of no batch":           {Log: recordBytes("no batch")},
		"no log":                      {Table: some.Table},
		"no table":                    {Log: some.Log},
	}
	for _, safe := range []int{math.MinInt, -size, -2, -1, size + 1, size + 2, 200000, 200001, math.MaxInt} {
		out[fmt.Sprintf("Safe of %d", safe)] = impl.Store{Table: some.Table, Log: some.Log, Safe: safe}
	}
	for _, safe := range []int{-1, 1} {
		out[fmt.Sprintf("nothing with Safe of %d", safe)] = impl.Store{Safe: safe}
	}
	none := recordBytes("\x00")
	for why, log := range map[string]string{
		"a byte behind":              some.Log + "x",
		"a nought behind":            some.Log + "\x00",
		"a record behind, cut off":   some.Log + none[:len(none)-1],
		"a record ahead, cut off":    none[1:] + some.Log,
		"a record behind, a sum off": some.Log + "x" + none[1:],
		"a byte ahead":               "x" + some.Log,
		"cut off":                    some.Log[:size-1],
		"cut off ahead":              some.Log[1:],
		"one record less":            some.Log[:size-len(recordBytes(batchBytes(someWritten()[5])))],
		"one record":                 recordBytes(batchBytes(someWritten()[0])),
		"another record behind":      some.Log + recordBytes(batchBytes([]impl.Pair{goneOf("a")})),
		"the records backward":       backwardLog(),
	} {
		out["a log: "+why] = impl.Store{Table: some.Table, Log: log}
	}
	for why, x := range otherTables() {
		out["another table: "+why] = withTable(x)
	}
	for why, x := range wrongTables() {
		out["a wrong table: "+why] = writtenStore(x)
	}
	return out
}

// backwardLog has the batches of someStore from the last to the first.
func backwardLog() string {
	list := someWritten()
	slices.Reverse(list)
	log, _ := logOf(list)
	return log
}

// youngBy is a list with each pair of a batch in it, and whether it never has
// too many, by the words of the document.
func youngBy(young []impl.Pair, b []impl.Pair) ([]impl.Pair, bool) {
	out := slices.Clone(young)
	for _, p := range b {
		if at := slices.IndexFunc(out, func(o impl.Pair) bool { return o.Key == p.Key }); at >= 0 {
			out[at] = p
		} else {
			out = append(out, p)
		}
	}
	slices.SortFunc(out, func(a, b impl.Pair) int { return strings.Compare(a.Key, b.Key) })
	return out, len(out) <= 300
}

// doneBy is what a right batch makes of a right store, by the words of the document.
func doneBy(s impl.Store, b []impl.Pair) (impl.Store, bool) {
	put := batchBytes(b)
	next := impl.Store{Log: s.Log + recordBytes(put), Safe: s.Safe}
	if len(put) > 100000 || len(next.Log) > 200000 {
		return s, false
	}
	young, ok := youngBy(s.Table.Young, b)
	next.Table = impl.Table{Young: young, Runs: s.Table.Runs}
	if !ok {
		young, ok = youngBy(toldBy(s.Table), b)
		next.Table = impl.Table{Young: young}
	}
	if !ok || len(toldBy(next.Table)) > 300 {
		return s, false
	}
	return next, true
}

func wantStoreOk(t *testing.T, why string, s impl.Store, want bool) {
	t.Helper()
	if got := impl.StoreOk(s); got != want {
		t.Errorf("%s: StoreOk = %v; want %v", why, got, want)
	}
}

// wantStore wants what a call answered to be this store.
func wantStore(t *testing.T, what string, got impl.Store, want impl.Store) {
	t.Helper()
	if got.Log != want.Log {
		t.Errorf("%s: a log of %d bytes; want another one, of %d", what, len(got.Log), len(want.Log))
	}
	if got.Safe != want.Safe {
		t.Errorf("%s: Safe = %d; want %d", what, got.Safe, want.Safe)
	}
	wantSame(t, what+": Table", got.Table, want.Table)
}

// wantDo wants a store to take a batch, and to be this then.
func wantDo(t *testing.T, what string, s impl.Store, b []impl.Pair, want impl.Store) impl.Store {
	t.Helper()
	got, ok := impl.StoreDo(s, b)
	if !ok {
		t.Errorf("%s: refused", what)
	}
	wantStore(t, what, got, want)
	wantStoreOk(t, what, got, true)
	return got
}

// wantNotDone wants a store to refuse a batch.
func wantNotDone(t *testing.T, what string, s impl.Store, b []impl.Pair) {
	t.Helper()
	got, ok := impl.StoreDo(s, b)
	if ok {
		t.Errorf("%s: taken", what)
	}
	wantStore(t, what, got, s)
}

// wantDoBy wants a store to do with a batch what the words of the document say.
func wantDoBy(t *testing.T, what string, s impl.Store, b []impl.Pair) (impl.Store, bool) {
	t.Helper()
	want, ok := doneBy(s, b)
	if !ok {
		wantNotDone(t, what, s, b)
		return s, false
	}
	return wantDo(t, what, s, b, want), true
}

func TestStoreConstants(t *testing.T) {
	if impl.StepFlush != 0 || impl.StepMerge != 1 {
		t.Error("StepFlush, StepMerge", impl.StepFlush, impl.StepMerge)
	}
}

func TestStoreOk(t *testing.T) {
	for why, s := range rightStores() {
		wantStoreOk(t, why, s, true)
	}
	for why, s := range wrongStores() {
		wantStoreOk(t, why, s, false)
	}
}

func TestStoreOkSafe(t *testing.T) {
	s := someStore()
	for safe := -3; safe <= len(s.Log)+3; safe++ {
		s.Safe = safe
		wantStoreOk(t, fmt.Sprintf("Safe of %d", safe), s, safe >= 0 && safe <= len(s.Log))
	}
}

// A log that is cut off anywhere but at a record's end is not right, whatever
// the table tells.
func TestStoreOkOfLogsCutOff(t *testing.T) {
	list := someWritten()
	log, ends := logOf(list)
	for cut := range len(log) + 1 {
		at, there := slices.BinarySearch(append([]int{0}, ends...), cut)
		if !there {
			at--
		}
		s := impl.Store{Table: impl.Table{Young: leftBy(list[:at])}, Log: log[:cut]}
		wantStoreOk(t, fmt.Sprintf("cut off at %d", cut), s, there)
	}
}

// Pairs in any two lists, up to as many as there may be and beyond.
func TestStoreOkCounts(t *testing.T) {
	for _, young := range []int{0, 1, 100, 149, 150, 299, 300} {
		for _, run := range []int{0, 1, 100, 149, 150, 151, 200, 201, 299, 300} {
			x := impl.Table{Young: manyPairs(young, 0), Runs: [][]impl.Pair{nil, manyPairs(run, 1)}}
			wantStoreOk(t, fmt.Sprintf("%d in Young, %d in a run", young, run), writtenStore(x), young+run <= 300)
		}
	}
}

func TestStoreDo(t *testing.T) {
	for _, r := range []struct {
		why   string
		b     []impl.Pair
		young []impl.Pair
	}{
		{"none", nil, nil},
		{"one pair", []impl.Pair{pairOf("a", "v")}, []impl.Pair{pairOf("a", "v")}},
		{"one without a value", []impl.Pair{pairOf("a", "")}, []impl.Pair{pairOf("a", "")}},
		{"out of order", []impl.Pair{pairOf("c", "1"), pairOf("a", "2"), goneOf("b")}, []impl.Pair{pairOf("a", "2"), goneOf("b"), pairOf("c", "1")}},
		{"a key twice", []impl.Pair{pairOf("a", "z"), pairOf("a", "b")}, []impl.Pair{pairOf("a", "b")}},
		{"a key twice, others between", []impl.Pair{pairOf("a", "1"), pairOf("b", "2"), pairOf("a", "")}, []impl.Pair{pairOf("a", ""), pairOf("b", "2")}},
		{"set and Gone", []impl.Pair{pairOf("a", "v"), goneOf("a")}, []impl.Pair{goneOf("a")}},
		{"Gone and set", []impl.Pair{goneOf("a"), pairOf("a", "v")}, []impl.Pair{pairOf("a", "v")}},
		{"set, Gone and set", []impl.Pair{pairOf("a", "v"), goneOf("a"), pairOf("a", "w")}, []impl.Pair{pairOf("a", "w")}},
		{"Gone twice", []impl.Pair{goneOf("a"), goneOf("a")}, []impl.Pair{goneOf("a")}},
		{"Gone, never there", []impl.Pair{goneOf("a")}, []impl.Pair{goneOf("a")}},
		{"60 pairs", manyPairs(60, 0), manyPairs(60, 0)},
		{"60 Gone", allGone(manyPairs(60, 0)), allGone(manyPairs(60, 0))},
		{"the longest key and value", []impl.Pair{pairOf(manyBytes(100), manyBytes(4000))}, []impl.Pair{pairOf(manyBytes(100), manyBytes(4000))}},
		{"60 times one key", slices.Repeat([]impl.Pair{pairOf("a", "v")}, 60), []impl.Pair{pairOf("a", "v")}},
	} {
		want := storeOf(impl.Table{Young: r.young}, [][]impl.Pair{r.b}, 0)
		wantDo(t, r.why, impl.Store{}, r.b, want)
		for safe, why := range map[int]string{0: "nothing safe", 7: "a part safe", len(want.Log): "all safe"} {
			// Behind the batch itself: Young and Safe stay, and the log has it twice.
			was := impl.Store{Table: want.Table, Log: want.Log, Safe: safe}
			then := impl.Store{Table: want.Table, Log: want.Log + want.Log, Safe: safe}
			wantDo(t, r.why+" again, "+why, was, r.b, then)
		}
	}
}

func TestStoreDoWithRuns(t *testing.T) {
	b, d, f, k := goneOf("b"), pairOf("d", "young d"), pairOf("f", ""), goneOf("k")
	for _, r := range []struct {
		why   string
		batch []impl.Pair
		young []impl.Pair
	}{
		{"none", nil, []impl.Pair{b, d, f, k}},
		{"a new one", []impl.Pair{pairOf("q", "v")}, []impl.Pair{b, d, f, k, pairOf("q", "v")}},
		{"one of a run", []impl.Pair{pairOf("m", "v")}, []impl.Pair{b, d, f, k, pairOf("m", "v")}},
		{"one of a run Gone", []impl.Pair{goneOf("a")}, []impl.Pair{goneOf("a"), b, d, f, k}},
		{"one of Young Gone", []impl.Pair{goneOf("d")}, []impl.Pair{b, goneOf("d"), f, k}},
		{"one that is Gone set", []impl.Pair{pairOf("k", "back"), pairOf("c", "back")}, []impl.Pair{b, pairOf("c", "back"), d, f, pairOf("k", "back")}},
		{"one that never was Gone", []impl.Pair{goneOf("y")}, []impl.Pair{b, d, f, k, goneOf("y")}},
		{"some", []impl.Pair{pairOf("d", "1"), goneOf("h"), pairOf("d", "2"), pairOf("h", "3"), goneOf("f")}, []impl.Pair{b, pairOf("d", "2"), goneOf("f"), pairOf("h", "3"), k}},
	} {
		s := someStore()
		want := impl.Store{Table: impl.Table{Young: r.young, Runs: s.Table.Runs}, Log: s.Log + recordBytes(batchBytes(r.batch)), Safe: s.Safe}
		wantDo(t, r.why, s, r.batch, want)
	}
}

func TestStoreDoRefused(t *testing.T) {
	for where, s := range map[string]impl.Store{"nothing": {}, "some": someStore()} {
		for why, b := range wrongBatches() {
			wantNotDone(t, why+" to "+where, s, b)
		}
		for why, b := range rightBatches() {
			wantDoBy(t, why+" to "+where, s, b)
		}
		// Right, but of more bytes than a record holds.
		wantNotDone(t, "100001 bytes to "+where, s, sizedBatch(100001))
	}
	for why, s := range wrongStores() {
		for _, b := range [][]impl.Pair{nil, {pairOf("a", "v")}, {goneOf("a")}, someBatch(), {{}}} {
			wantNotDone(t, why, s, b)
		}
	}
	// The batch would make it right: it is refused as it stands.
	wrong := withTable(impl.Table{Young: append(someThere(), pairOf("zz", "v"))})
	wantNotDone(t, "the pair that the log lacks", wrong, []impl.Pair{pairOf("zz", "v")})
	many := writtenStore(impl.Table{Young: manyPairs(300, 0), Runs: [][]impl.Pair{manyPairs(1, 1)}})
	wantNotDone(t, "the 301st pair Gone", many, allGone(manyPairs(1, 1)))
}

func TestStoreDoMaxLog(t *testing.T) {
	for why, b := range map[string][]impl.Pair{
		"none": nil, "a pair": {pairOf("k00", "v")}, "a Gone pair": {goneOf("k00")}, "60 pairs": manyPairs(60, 0), "a long one": sizedBatch(90000), "100000 bytes": sizedBatch(100000),
	} {
		size := 8 + len(batchBytes(b))
		for more := -2; more <= 2; more++ {
			s := longStore(200000 - size + more)
			s.Safe = 200000 - size - 100
			_, ok := wantDoBy(t, fmt.Sprintf("%s up to %d bytes", why, 200000+more), s, b)
			if ok != (more <= 0) {
				t.Errorf("%s up to %d bytes: %v", why, 200000+more, ok)
			}
		}
	}
	full := longStore(200000)
	wantNotDone(t, "none to a full log", full, nil)
	wantNotDone(t, "what frees room to a full log", full, []impl.Pair{goneOf("k00")})
}

func TestStoreDoFullYoung(t *testing.T) {
	many := manyPairs(300, 0)
	more := pairOf("more", "v")
	for _, r := range []struct {
		why  string
		x    impl.Table
		b    []impl.Pair
		want impl.Table
	}{
		{"one Gone makes room", impl.Table{Young: append(goneOfFirst(1), many[1:]...)}, []impl.Pair{more}, impl.Table{Young: append(slices.Clone(many[1:]), more)}},
		{"all Gone make room", impl.Table{Young: allGone(many)}, []impl.Pair{more}, impl.Table{Young: []impl.Pair{more}}},
		{"all Gone, and a run that they hide", impl.Table{Young: allGone(many), Runs: [][]impl.Pair{many}}, []impl.Pair{more}, impl.Table{Young: []impl.Pair{more}}},
		{"what a run has comes to Young", impl.Table{Young: allGone(many), Runs: [][]impl.Pair{manyPairs(1, 1), many, {pairOf("z", "old")}}},
			[]impl.Pair{more}, impl.Table{Young: []impl.Pair{pairOf("k0001", "0 of 1"), more, pairOf("z", "old")}}},
		{"a Gone pair that never was", impl.Table{Young: append(goneOfFirst(1), many[1:]...)}, []impl.Pair{goneOf("more")}, impl.Table{Young: append(slices.Clone(many[1:]), goneOf("more"))}},
		// The first pair finds room, the second does not: both are in the new table.
		{"from the first pair on", impl.Table{Young: append(goneOfFirst(2), many[2:299]...)}, []impl.Pair{more, pairOf("most", "w")},
			impl.Table{Young: append(slices.Clone(many[2:299]), more, pairOf("most", "w"))}},
		{"Gone on the way, and set", impl.Table{Young: append(goneOfFirst(2), many[2:]...)}, []impl.Pair{goneOf("k0004"), more, pairOf("most", "w")},
			impl.Table{Young: append([]impl.Pair{goneOf("k0004")}, append(slices.Clone(many[3:]), more, pairOf("most", "w"))...)}},
		// What is Gone in the batch stays as a Gone pair in the new table.
		{"a key that is Gone in a run", impl.Table{Young: append(goneOfFirst(1), many[1:]...), Runs: [][]impl.Pair{{goneOf("x")}, {pairOf("x", "old")}}},
			[]impl.Pair{goneOf("x")}, impl.Table{Young: append(slices.Clone(many[1:]), goneOf("x"))}},
	} {
		s := writtenStore(r.x)
		s.Safe = min(20, len(s.Log))
		wantStoreOk(t, r.why, s, true)
		want := impl.Store{Table: r.want, Log: s.Log + recordBytes(batchBytes(r.b)), Safe: s.Safe}
		wantDo(t, r.why, s, r.b, want)
		wantDoBy(t, r.why, s, r.b)
	}
}

// goneOfFirst are the first keys of manyPairs, Gone.
func goneOfFirst(n int) []impl.Pair { return allGone(manyPairs(n, 0)) }

// As long as Young has room, the runs stay as they are.
func TestStoreDoKeepsRuns(t *testing.T) {
	x := impl.Table{Young: manyPairs(250, 0), Runs: [][]impl.Pair{manyPairs(50, 1), allGone(manyPairs(60, 1))}}
	s := writtenStore(x)
	over := manyPairs(50, 1)
	for i := range over {
		over[i].Value = "anew"
	}
	// Young has 300 then, all that there are.
	full, _ := wantDoBy(t, "up to 300 in Young", s, over)
	if len(full.Table.Young) != 300 || len(full.Table.Runs) != 2 {
		t.Errorf("%d in Young and %d runs", len(full.Table.Young), len(full.Table.Runs))
	}
	wantNotDone(t, "the 301st", s, []impl.Pair{pairOf("more", "v")})
	wantNotDone(t, "the 301st in Young", full, []impl.Pair{pairOf("more", "v")})
	wantNotDone(t, "the 301st in Young, Gone", full, []impl.Pair{goneOf("more")})
	wantNotDone(t, "the 301st in Young on the way", s, append(slices.Clone(over), goneOf("more")))
	// With room in Young one may be Gone for another, in either order.
	for _, b := range [][]impl.Pair{{goneOf("k0000"), pairOf("more", "v")}, {pairOf("more", "v"), goneOf("k0000")}, {goneOf("k0001"), pairOf("more", "v")}, {pairOf("more", "v"), goneOf("k0001")}} {
		got, ok := wantDoBy(t, "one for another", s, b)
		if !ok || len(got.Table.Runs) != 2 || len(impl.StoreAll(got)) != 300 {
			t.Errorf("one for another: %v, %d runs, %d pairs", ok, len(got.Table.Runs), len(impl.StoreAll(got)))
		}
	}
}

func TestStoreDoFullTable(t *testing.T) {
	for why, x := range map[string]impl.Table{
		"Young":           {Young: manyPairs(300, 0)},
		"a run":           {Runs: [][]impl.Pair{manyPairs(300, 0)}},
		"Young and a run": {Young: manyPairs(300, 0)[100:], Runs: [][]impl.Pair{manyPairs(100, 0)}},
	} {
		s := writtenStore(x)
		wantNotDone(t, why+": the 301st", s, []impl.Pair{pairOf("more", "v")})
		wantNotDone(t, why+": the 301st without a value", s, []impl.Pair{pairOf("a", "")})
		wantNotDone(t, why+": one again and the 301st", s, []impl.Pair{pairOf("k0000", "again"), pairOf("more", "v")})
		wantNotDone(t, why+": one for two", s, []impl.Pair{goneOf("k0000"), pairOf("more", "v"), pairOf("most", "v")})
		for _, p := range manyPairs(300, 0) {
			again, _ := wantDoBy(t, why+": one again", s, []impl.Pair{pairOf(p.Key, "again")})
			if value, ok := impl.StoreGet(again, p.Key); value != "again" || !ok || len(impl.StoreAll(again)) != 300 {
				t.Errorf("%s: %s again: %q, %v", why, p.Key, value, ok)
			}
		}
	}
}

// A key that is dropped makes room for another one in a batch behind; within
// one batch, what is Gone takes its place in a Young that is full.
func TestStoreDoOneForAnother(t *testing.T) {
	s := writtenStore(impl.Table{Young: manyPairs(300, 0)})
	one, two := goneOf("k0000"), pairOf("more", "v")
	wantNotDone(t, "both in one batch", s, []impl.Pair{one, two})
	wantNotDone(t, "both in one batch, the other way round", s, []impl.Pair{two, one})
	// Replay would tell the same as before, but a pair finds no room on the way.
	wantNotDone(t, "set and Gone at once", s, []impl.Pair{two, goneOf("more")})
	wantNotDone(t, "Gone that never was", s, []impl.Pair{goneOf("more")})
	s, _ = wantDoBy(t, "one dropped", s, []impl.Pair{one})
	if len(s.Table.Young) != 300 || len(impl.StoreAll(s)) != 299 {
		t.Errorf("one dropped: %d in Young, %d there", len(s.Table.Young), len(impl.StoreAll(s)))
	}
	s, _ = wantDoBy(t, "another put", s, []impl.Pair{two})
	wantSame(t, "another put: StoreAll", impl.StoreAll(s), append(manyPairs(300, 0)[1:], two))
	wantNotDone(t, "one more", s, []impl.Pair{pairOf("k0000", "v")})
}

func TestStoreSync(t *testing.T) {
	stores := rightStores()
	for why, s := range wrongStores() {
		// The document names no other answer for a store that is not StoreOk.
		stores["wrong: "+why] = s
	}
	for why, s := range stores {
		want := s
		want.Safe = len(s.Log)
		got := impl.StoreSync(s)
		wantStore(t, why, got, want)
		wantStore(t, why+" once more", impl.StoreSync(got), want)
		if impl.StoreOk(s) {
			wantStoreOk(t, why, got, true)
		}
	}
}

// crashedBy is what a crash leaves of a log of batches with its first bytes, by
// the words of the document.
func crashedBy(list [][]impl.Pair, left int) impl.Store {
	log, ends := logOf(list)
	whole := 0
	for whole < len(ends) && ends[whole] <= left {
		whole++
	}
	if whole == 0 {
		return impl.Store{}
	}
	end := ends[whole-1]
	return impl.Store{Table: impl.Table{Young: leftBy(list[:whole])}, Log: log[:end], Safe: end}
}

// leftOf is how many bytes of a log a crash leaves.
func leftOf(size int, safe int, keep int) int {
	safe = max(0, min(safe, size))
	if keep > size-safe {
		return size
	}
	return safe + max(0, keep)
}

func TestStoreCrash(t *testing.T) {
	list := someWritten()
	log, ends := logOf(list)
	size := len(log)
	first := len(recordBytes(batchBytes(list[0])))
	for _, r := range []struct {
		why        string
		safe, keep int
		whole      int // how many batches are left
	}{
		{"nothing safe, nothing kept", 0, 0, 0},
		{"a byte kept", 0, 1, 0},
		{"a part of a record kept", 0, first - 1, 0},
		{"one record kept", 0, first, 1},
		{"one and a byte kept", 0, first + 1, 1},
		{"one and a part kept", 0, ends[1] - 1, 1},
		{"two kept", 0, ends[1], 2},
		{"two and the batch of none kept", 0, ends[2], 3},
		{"all but a byte kept", 0, size - 1, 5},
		{"all kept", 0, size, 6},
		{"more than all kept", 0, size + 1, 6},
		{"very many kept", 0, math.MaxInt, 6},
		{"less than nothing kept", 0, -1, 0},
		{"very much less than nothing kept", 0, math.MinInt, 0},
		{"one safe, nothing kept", first, 0, 1},
		{"one safe, a part kept", first, ends[1] - first - 1, 1},
		{"one safe, one kept", first, ends[1] - first, 2},
		{"one safe, less than nothing kept", first, -1, 1},
		{"one safe, as much less than nothing kept", first, -first, 1},
		{"one safe, very much less kept", first, math.MinInt, 1},
		{"one safe, very many kept", first, math.MaxInt, 6},
		{"a part of one safe, nothing kept", first - 1, 0, 0},
		{"a part of one safe, the rest kept", first - 1, 1, 1},
		{"one and a part safe, nothing kept", first + 3, 0, 1},
		{"one and a part safe, the rest kept", first + 3, ends[1] - first - 3, 2},
		{"all safe, nothing kept", size, 0, 6},
		{"all safe, less than nothing kept", size, -1, 6},
		{"all safe, very many kept", size, math.MaxInt, 6},
		{"Safe below 0, nothing kept", -5, 0, 0},
		{"Safe below 0, one kept", -5, first, 1},
		{"Safe below 0, less than one kept", -5, first - 1, 0},
		{"Safe below 0, very many kept", math.MinInt, math.MaxInt, 6},
		{"Safe and kept below 0", math.MinInt, math.MinInt, 0},
		{"Safe beyond the end", size + 1, 0, 6},
		{"Safe beyond the end, less than nothing kept", size + 1, -2, 6},
		{"Safe very far beyond the end", math.MaxInt, 1, 6},
		{"Safe and kept very far", math.MaxInt, math.MaxInt, 6},
		{"Safe very far, very much less kept", math.MaxInt, math.MinInt, 6},
	} {
		want := impl.Store{Table: impl.Table{Young: leftBy(list[:r.whole])}}
		if r.whole > 0 {
			want.Log, want.Safe = log[:ends[r.whole-1]], ends[r.whole-1]
		}
		// Its table has runs, which are gone then.
		got := impl.StoreCrash(impl.Store{Table: someTable(), Log: log, Safe: r.safe}, r.keep)
		wantStore(t, r.why, got, want)
		wantStoreOk(t, r.why, got, true)
		// The table counts for nothing.
		got = impl.StoreCrash(impl.Store{Table: impl.Table{Runs: manyRuns(9)}, Log: log, Safe: r.safe}, r.keep)
		wantStore(t, r.why+", a wrong table", got, want)
		wantStore(t, r.why+", and once more", impl.StoreCrash(want, r.keep), want)
	}
	wantStore(t, "nothing", impl.StoreCrash(impl.Store{}, 5), impl.Store{})
	wantStore(t, "no log", impl.StoreCrash(impl.Store{Table: someTable()}, 5), impl.Store{})
}

func TestStoreCrashAnywhere(t *testing.T) {
	list := someWritten()
	log, _ := logOf(list)
	for safe := -2; safe <= len(log)+2; safe++ {
		for _, keep := range []int{math.MinInt, -1, 0, 1, 2, 7, 8, 9, 20, 40, 60, 100, len(log), math.MaxInt} {
			got := impl.StoreCrash(impl.Store{Table: someTable(), Log: log, Safe: safe}, keep)
			wantStore(t, fmt.Sprintf("Safe of %d, %d kept", safe, keep), got, crashedBy(list, leftOf(len(log), safe, keep)))
		}
	}
}

func TestStoreCrashOfWrongLogs(t *testing.T) {
	list := someWritten()
	log, ends := logOf(list)
	for _, junk := range []string{"x", "\x00", manyBytes(40), recordBytes("no batch"), recordBytes("\x00")[1:]} {
		// Behind bytes of no record nothing is found, be it safe.
		behind := log[:ends[2]] + junk + log
		ahead := junk + log
		for _, safe := range []int{0, ends[2], ends[2] + 1, len(behind)} {
			got := impl.StoreCrash(impl.Store{Log: behind, Safe: safe}, math.MaxInt)
			wantStore(t, "bytes of no record between", got, crashedBy(list, ends[2]))
			got = impl.StoreCrash(impl.Store{Log: ahead, Safe: safe}, math.MaxInt)
			wantStore(t, "bytes of no record ahead", got, impl.Store{})
		}
		wantStore(t, "fewer kept than ahead of them", impl.StoreCrash(impl.Store{Log: behind}, ends[2]-1), crashedBy(list, ends[1]))
	}
	for i := range len(log) {
		other := log[:i] + string([]byte{log[i] ^ 0x40}) + log[i+1:]
		got := impl.StoreCrash(impl.Store{Log: other, Safe: len(other)}, 0)
		wantStore(t, fmt.Sprintf("byte %d changed", i), got, crashedBy(list, i))
	}
}

func TestStoreCrashOfLongLogs(t *testing.T) {
	log, list := sizedLog(250000)
	for _, left := range []int{79999, 80000, 199999, 200000} {
		want := crashedBy(list, left)
		wantStore(t, fmt.Sprintf("%d bytes kept", left), impl.StoreCrash(impl.Store{Log: log}, left), want)
		wantStore(t, fmt.Sprintf("%d bytes safe", left), impl.StoreCrash(impl.Store{Log: log, Safe: left}, 0), want)
		wantStore(t, fmt.Sprintf("%d bytes safe and kept", left), impl.StoreCrash(impl.Store{Log: log, Safe: left - 9}, 9), want)
	}
	// Of more than 200000 bytes Records tells nothing.
	for _, left := range []int{200001, 240000, 250000, 250001} {
		wantStore(t, fmt.Sprintf("%d bytes kept", left), impl.StoreCrash(impl.Store{Log: log}, left), impl.Store{})
		wantStore(t, fmt.Sprintf("%d bytes safe", left), impl.StoreCrash(impl.Store{Log: log, Safe: left}, -1), impl.Store{})
	}
	// A log may leave more pairs than a store may have: the document names no other answer.
	many := writtenStore(impl.Table{Young: manyPairs(360, 0)})
	got := impl.StoreCrash(many, math.MaxInt)
	wantStore(t, "360 pairs", got, impl.Store{Table: impl.Table{Young: manyPairs(360, 0)}, Log: many.Log, Safe: len(many.Log)})
	wantStoreOk(t, "360 pairs", got, false)
}

func TestStoreStepFlush(t *testing.T) {
	for n := range 10 {
		for _, young := range [][]impl.Pair{nil, {}, {goneOf("x")}, {pairOf("x", "")}, someThere(), manyPairs(280, 0)} {
			x := impl.Table{Young: young, Runs: manyRuns(n)}
			s := writtenStore(x)
			s.Safe = min(9, len(s.Log))
			want := s
			if len(young) > 0 && n < 8 {
				want.Table = impl.Table{Runs: append([][]impl.Pair{young}, x.Runs...)}
			}
			for _, at := range []int{math.MinInt, -1, 0, 1, 7, math.MaxInt} {
				got := impl.StoreStep(s, impl.StepFlush, at)
				what := fmt.Sprintf("StepFlush of %d in Young and %d runs at %d", len(young), n, at)
				wantStore(t, what, got, want)
				wantStoreOk(t, what, got, n < 9)
				wantSame(t, what+": StoreAll", impl.StoreAll(got), impl.StoreAll(s))
			}
		}
	}
}

func TestStoreStepMerge(t *testing.T) {
	some := someStore()
	for n := range 10 {
		for _, s := range []impl.Store{writtenStore(impl.Table{Young: someThere(), Runs: manyRuns(n)}), {Table: impl.Table{Runs: manyRuns(n)}, Log: "no log", Safe: -1}} {
			for at := -2; at < 12; at++ {
				want := s
				if at >= 0 && at+1 < n && n < 9 {
					want.Table = keptTable(s.Table)
					want.Table.Runs = slices.Replace(want.Table.Runs, at, at+2, mergedBy(s.Table.Runs[at], s.Table.Runs[at+1], at+2 == n))
				}
				what := fmt.Sprintf("StepMerge of %d runs at %d", n, at)
				got := impl.StoreStep(s, impl.StepMerge, at)
				wantStore(t, what, got, want)
				wantStoreOk(t, what, got, n < 9 && s.Safe == 0)
				wantSame(t, what+": StoreAll", impl.StoreAll(got), impl.StoreAll(s))
			}
		}
	}
	for at := range 3 {
		want := someStore()
		want.Table.Runs = slices.Replace(want.Table.Runs, at, at+2, mergedBy(some.Table.Runs[at], some.Table.Runs[at+1], at == 2))
		got := impl.StoreStep(some, impl.StepMerge, at)
		wantStore(t, fmt.Sprintf("some: StepMerge at %d", at), got, want)
		wantStoreOk(t, fmt.Sprintf("some: StepMerge at %d", at), got, true)
	}
	for _, at := range []int{math.MinInt, -1 << 32, -1, 3, 4, 1 << 32, math.MaxInt - 1, math.MaxInt} {
		wantStore(t, fmt.Sprintf("some: StepMerge at %d", at), impl.StoreStep(some, impl.StepMerge, at), some)
	}
	// Two runs may have too many pairs together.
	many := impl.Store{Table: impl.Table{Runs: [][]impl.Pair{allGone(manyPairs(300, 0)), manyPairs(1, 1), nil}}}
	wantStore(t, "301 pairs together", impl.StoreStep(many, impl.StepMerge, 0), many)
}

func TestStoreStepRefused(t *testing.T) {
	for _, kind := range []int{math.MinInt, -1 << 32, -2, -1, 2, 3, 7, 8, 255, 256, 1 << 32, 1<<32 + 1, math.MaxInt} {
		for why, s := range rightStores() {
			for _, at := range []int{-1, 0, 1} {
				wantStore(t, fmt.Sprintf("%s: kind %d at %d", why, kind, at), impl.StoreStep(s, kind, at), s)
			}
		}
	}
	for why, x := range wrongTables() {
		s := withTable(x)
		for kind := -1; kind < 3; kind++ {
			for at := -1; at < 4; at++ {
				wantStore(t, fmt.Sprintf("%s: kind %d at %d", why, kind, at), impl.StoreStep(s, kind, at), s)
			}
		}
	}
}

func TestStoreGetAndAll(t *testing.T) {
	stores := rightStores()
	for why, s := range wrongStores() {
		// What is asked is the table alone, be it what the log makes or not.
		stores["wrong: "+why] = s
	}
	for why, s := range stores {
		right := impl.TableOk(s.Table)
		var all []impl.Pair
		if right {
			all = toldBy(s.Table)
		}
		wantSame(t, why+": StoreAll", impl.StoreAll(s), all)
		there := map[string]impl.Pair{}
		for _, p := range all {
			there[p.Key] = p
		}
		for _, key := range allKeys(s.Table) {
			p, is := there[key]
			if value, ok := impl.StoreGet(s, key); value != p.Value || ok != is {
				t.Errorf("%s: StoreGet(%q) = %q, %v; want %q, %v", why, key, value, ok, p.Value, is)
			}
		}
	}
	for _, p := range someThere() {
		if value, ok := impl.StoreGet(someStore(), p.Key); value != p.Value || !ok {
			t.Errorf("StoreGet(%q) = %q, %v; want %q, true", p.Key, value, ok, p.Value)
		}
	}
	for _, key := range []string{"b", "k", "c", "g", "p", "w", "o", "v", "", "aa", "y", strings.Repeat("k", 101)} {
		if value, ok := impl.StoreGet(someStore(), key); value != "" || ok {
			t.Errorf("StoreGet(%q) = %q, %v; want nothing and false", key, value, ok)
		}
	}
}

// storeWalk is a store that began empty, and what was done with it.
type storeWalk struct {
	store  impl.Store
	list   [][]impl.Pair
	safe   int // how many of the batches are safe
	counts map[string]int
}

// do lets the store do a batch of at most so many pairs, of so many keys.
func (w *storeWalk) do(t *testing.T, roll func(n int) int, most int, keys int) {
	t.Helper()
	var b []impl.Pair
	for range roll(most + 1) {
		p := impl.Pair{Key: fmt.Sprintf("k%03d", roll(keys)), Gone: roll(4) == 0}
		if !p.Gone {
			p.Value = strings.Repeat("v", roll(3)) + fmt.Sprint(len(w.list))
		}
		b = append(b, p)
	}
	_, room := youngBy(w.store.Table.Young, b)
	next, ok := wantDoBy(t, "a walk: StoreDo", w.store, b)
	if !ok {
		w.counts["refused"]++
		return
	}
	w.counts["done"]++
	if !room {
		w.counts["in a new table"]++
	}
	w.store = next
	w.list = append(w.list, b)
}

// step flushes or merges, which changes nothing of what is told.
func (w *storeWalk) step(t *testing.T, roll func(n int) int) {
	t.Helper()
	kind, at := roll(2), roll(len(w.store.Table.Runs)+2)-1
	next := impl.StoreStep(w.store, kind, at)
	if !same(next.Table, w.store.Table) {
		w.counts[[]string{"flushed", "merged"}[kind]]++
	}
	wantSame(t, "a walk: StoreStep: StoreAll", impl.StoreAll(next), impl.StoreAll(w.store))
	wantStore(t, "a walk: StoreStep", impl.Store{Table: w.store.Table, Log: next.Log, Safe: next.Safe}, w.store)
	w.store = next
}

func (w *storeWalk) sync() {
	w.store = impl.StoreSync(w.store)
	w.safe = len(w.list)
	w.counts["synced"]++
}

// wantFound wants a crash to leave a beginning of the batches, with all that
// was safe, and answers it and how many batches it has.
func (w *storeWalk) wantFound(t *testing.T, keep int) (impl.Store, int) {
	t.Helper()
	got := impl.StoreCrash(w.store, keep)
	what := fmt.Sprintf("a crash that keeps %d of %d bytes", keep, len(w.store.Log)-w.store.Safe)
	wantStoreOk(t, what, got, true)
	batches, _ := impl.Records(got.Log)
	whole := len(batches)
	if whole < w.safe || whole > len(w.list) {
		t.Fatalf("%s: %d batches are left of %d, %d of which were safe", what, whole, len(w.list), w.safe)
	}
	if !same(batches, w.list[:whole]) {
		t.Errorf("%s: what is left are not the first %d batches", what, whole)
	}
	log, _ := logOf(w.list[:whole])
	wantStore(t, what, got, impl.Store{Table: impl.Table{Young: leftBy(w.list[:whole])}, Log: log, Safe: len(log)})
	if next := w.list[whole:]; len(next) > 0 && keep >= 0 && w.store.Safe+keep >= len(log)+len(recordBytes(batchBytes(next[0]))) {
		t.Errorf("%s: a batch is lost that was kept", what)
	}
	return got, whole
}

// crash lets the walk go on with what a crash left.
func (w *storeWalk) crash(t *testing.T, keep int) {
	t.Helper()
	got, whole := w.wantFound(t, keep)
	w.store, w.list, w.safe = got, w.list[:whole], whole
	w.counts["crashed"]++
}

func wantCounts(t *testing.T, counts map[string]int, least map[string]int) {
	t.Helper()
	for what, n := range least {
		if counts[what] < n {
			t.Errorf("the walk came to %v only", counts)
			return
		}
	}
}

// TestStoreByPromise walks at random with small batches: wherever the power
// fails, and whatever was kept, a beginning of the batches is found again.
func TestStoreByPromise(t *testing.T) {
	roll := diceOf(9)
	counts := map[string]int{}
	for range 25 {
		w := storeWalk{counts: counts}
		for range 40 {
			switch n := roll(20); {
			case n < 10:
				w.do(t, roll, 4, 12)
			case n < 16:
				w.step(t, roll)
			case n < 18:
				w.sync()
			case n < 19:
				w.crash(t, roll(len(w.store.Log)-w.store.Safe+2)-1)
			}
			wantStoreOk(t, "a walk", w.store, true)
			wantSame(t, "a walk: StoreAll", impl.StoreAll(w.store), leftBy(w.list))
			if t.Failed() {
				t.FailNow()
			}
		}
		for keep := -1; keep <= len(w.store.Log)-w.store.Safe+1; keep++ {
			w.wantFound(t, keep)
		}
		for _, keep := range []int{math.MinInt, math.MaxInt} {
			w.wantFound(t, keep)
		}
	}
	wantCounts(t, counts, map[string]int{"done": 400, "flushed": 100, "merged": 20, "synced": 80, "crashed": 40})
}

// TestStoreByPromiseWhenFull walks with great batches of many keys, so that
// Young and the whole table are full now and then.
func TestStoreByPromiseWhenFull(t *testing.T) {
	roll := diceOf(4)
	counts := map[string]int{}
	for _, keys := range []int{330, 350, 370, 400} {
		w := storeWalk{counts: counts}
		for range 150 {
			switch n := roll(60); {
			case n < 50:
				w.do(t, roll, 60, keys)
			case n < 56:
				w.step(t, roll)
			case n < 59:
				w.sync()
			default:
				w.crash(t, roll(len(w.store.Log)-w.store.Safe+2)-1)
			}
			wantSame(t, "a walk: StoreAll", impl.StoreAll(w.store), leftBy(w.list))
			w.wantFound(t, roll(3000)-5)
			if t.Failed() {
				t.FailNow()
			}
		}
	}
	wantCounts(t, counts, map[string]int{"done": 400, "refused": 10, "in a new table": 20, "flushed": 20, "merged": 3, "synced": 20, "crashed": 10})
}

// storeAsked is a store and what it is asked with.
type storeAsked struct {
	Store impl.Store
	Batch []impl.Pair
	Key   string
}

func steppedAt(kind int, at int) func(x storeAsked) []any {
	return func(x storeAsked) []any { return []any{impl.StoreStep(x.Store, kind, at)} }
}

func crashedAt(keep int) func(x storeAsked) []any {
	return func(x storeAsked) []any { return []any{impl.StoreCrash(x.Store, keep)} }
}

func TestStoreMemory(t *testing.T) {
	calls := map[string]func(x storeAsked) []any{
		"StoreOk":             func(x storeAsked) []any { return []any{impl.StoreOk(x.Store)} },
		"StoreDo":             func(x storeAsked) []any { s, ok := impl.StoreDo(x.Store, x.Batch); return []any{s, ok} },
		"StoreSync":           func(x storeAsked) []any { return []any{impl.StoreSync(x.Store)} },
		"StoreCrash(-1)":      crashedAt(-1),
		"StoreCrash(0)":       crashedAt(0),
		"StoreCrash(50)":      crashedAt(50),
		"StoreCrash(MaxInt)":  crashedAt(math.MaxInt),
		"StoreStep(0, 0)":     steppedAt(impl.StepFlush, 0),
		"StoreStep(1, 0)":     steppedAt(impl.StepMerge, 0),
		"StoreStep(1, 2)":     steppedAt(impl.StepMerge, 2),
		"StoreStep(1, 3)":     steppedAt(impl.StepMerge, 3),
		"StoreStep(-1, 0)":    steppedAt(-1, 0),
		"StoreStep(2, 0)":     steppedAt(2, 0),
		"StoreGet":            func(x storeAsked) []any { v, ok := impl.StoreGet(x.Store, x.Key); return []any{v, ok} },
		"StoreAll":            func(x storeAsked) []any { return []any{impl.StoreAll(x.Store)} },
		"StoreDo of no batch": func(x storeAsked) []any { s, ok := impl.StoreDo(x.Store, nil); return []any{s, ok} },
	}
	stores := map[string]impl.Store{
		"nothing":         {},
		"some":            someStore(),
		"Young alone":     withTable(impl.Table{Young: someThere()}),
		"a run alone":     withTable(impl.Table{Runs: [][]impl.Pair{someThere()}}),
		"8 runs":          writtenStore(impl.Table{Young: someThere(), Runs: manyRuns(8)}),
		"300 pairs":       writtenStore(impl.Table{Young: manyPairs(300, 0)}),
		"a full Young":    writtenStore(impl.Table{Young: append(goneOfFirst(40), manyPairs(300, 0)[40:]...), Runs: [][]impl.Pair{manyPairs(300, 0)[:30], {goneOf("x")}}}),
		"9 runs":          writtenStore(impl.Table{Young: someThere(), Runs: manyRuns(9)}),
		"another table":   withTable(impl.Table{Young: someThere()[1:]}),
		"a cut off log":   {Table: someTable(), Log: someStore().Log[:70], Safe: 20},
		"Safe beyond":     {Table: someTable(), Log: someStore().Log, Safe: math.MaxInt},
		"a log too long":  {Table: impl.Table{Young: someThere()}, Log: strings.Repeat("x", 200001)},
		"bytes of no log": {Table: someTable(), Log: "xyz"},
	}
	batches := [][]impl.Pair{{goneOf("a")}, {pairOf("a", "v"), goneOf("b"), pairOf("a", "w")}, someBatch(), manyPairs(60, 1), manyPairs(61, 0), {{}}}
	for why, s := range stores {
		for name, call := range calls {
			for i, b := range batches {
				x := storeAsked{Store: s, Batch: b, Key: []string{"a", "d", "b", "zz", "k0100", ""}[i]}
				wantApart(t, fmt.Sprintf("%s: %s, batch %d", why, name, i), x, call)
			}
		}
	}
}
