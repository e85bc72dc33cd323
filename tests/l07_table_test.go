package tests

import (
	"fmt"
	"math"
	"slices"
	"strings"
	"testing"

	"loop.example/g00227/impl"
)

// pairOf and goneOf are pairs of a key.
func pairOf(key string, value string) impl.Pair { return impl.Pair{Key: key, Value: value} }

func goneOf(key string) impl.Pair { return impl.Pair{Key: key, Gone: true} }

// keptTable is t in lists of its own, to be changed.
func keptTable(t impl.Table) impl.Table {
	runs := make([][]impl.Pair, len(t.Runs))
	for i, run := range t.Runs {
		runs[i] = slices.Clone(run)
	}
	return impl.Table{Young: slices.Clone(t.Young), Runs: runs}
}

// someTable has keys that are there and Gone in all the ways that count.
func someTable() impl.Table {
	return impl.Table{
		Young: []impl.Pair{goneOf("b"), pairOf("d", "young d"), pairOf("f", ""), goneOf("k")},
		Runs: [][]impl.Pair{
			{pairOf("a", "0 a"), pairOf("b", "0 b"), goneOf("c"), pairOf("f", "0 f"), goneOf("g"), pairOf("m", "0 m"), pairOf("n", "0 n")},
			{pairOf("c", "1 c"), goneOf("d"), pairOf("e", "1 e"), pairOf("g", "1 g"), pairOf("h", "1 h"), goneOf("n"), goneOf("o")},
			{pairOf("c", "2 c"), goneOf("e"), pairOf("h", "2 h"), pairOf("k", "2 k"), goneOf("p"), goneOf("w")},
			{pairOf("c", "3 c"), pairOf("e", "3 e"), pairOf("p", "3 p"), goneOf("v"), pairOf("w", ""), pairOf("z", "3 z")},
		},
	}
}

// someThere is what someTable tells.
func someThere() []impl.Pair {
	return []impl.Pair{pairOf("a", "0 a"), pairOf("d", "young d"), pairOf("e", "1 e"), pairOf("f", ""), pairOf("h", "1 h"), pairOf("m", "0 m"), pairOf("n", "0 n"), pairOf("z", "3 z")}
}

// manyPairs are n pairs, the keys of which are even (or, with odd, odd) numbers.
func manyPairs(n int, odd int) []impl.Pair {
	var out []impl.Pair
	for i := range n {
		out = append(out, pairOf(fmt.Sprintf("k%04d", 2*i+odd), fmt.Sprintf("%d of %d", i, odd)))
	}
	return out
}

// allGone are the same keys, Gone.
func allGone(list []impl.Pair) []impl.Pair {
	var out []impl.Pair
	for _, p := range list {
		out = append(out, goneOf(p.Key))
	}
	return out
}

// manyRuns are n runs of two pairs, one key of which is in all of them.
func manyRuns(n int) [][]impl.Pair {
	var out [][]impl.Pair
	for i := range n {
		out = append(out, []impl.Pair{pairOf(fmt.Sprintf("k%d", i), "own"), pairOf("x", fmt.Sprintf("of %d", i))})
	}
	return out
}

// inEach calls with a table that has a list as Young, and as each of its runs.
func inEach(list []impl.Pair, call func(where string, t impl.Table)) {
	call("Young", impl.Table{Young: list})
	call("the only run", impl.Table{Runs: [][]impl.Pair{list}})
	for i := range 4 {
		t := someTable()
		t.Runs[i] = list
		call(fmt.Sprintf("run %d", i), t)
	}
	t := someTable()
	t.Young = list
	call("Young ahead of runs", t)
}

// wrongLists are lists of pairs that are none of a table, by the reason why.
func wrongLists() map[string][]impl.Pair {
	long := strings.Repeat("k", 101)
	return map[string][]impl.Pair{
		"a key of 0 bytes":                {pairOf("", "v")},
		"a first key of 0 bytes":          {pairOf("", "v"), pairOf("a", "v")},
		"a Gone key of 0 bytes":           {goneOf("")},
		"a key of 101 bytes":              {pairOf(long, "v")},
		"a Gone key of 101 bytes":         {goneOf(long)},
		"a first key of 101 bytes":        {pairOf(long, "v"), pairOf("z", "v")},
		"a last key of 101 bytes":         {pairOf("a", "v"), pairOf("b", "v"), pairOf(long, "v")},
		"two keys out of order":           {pairOf("b", "v"), pairOf("a", "v")},
		"the first out of order":          {pairOf("b", "v"), pairOf("a", "v"), pairOf("c", "v"), pairOf("d", "v")},
		"the last out of order":           {pairOf("a", "v"), pairOf("b", "v"), pairOf("d", "v"), pairOf("c", "v")},
		"one between out of order":        {pairOf("a", "v"), pairOf("c", "v"), pairOf("b", "v"), pairOf("d", "v")},
		"a Gone one out of order":         {pairOf("b", "v"), goneOf("a")},
		"order of letters, not of bytes":  {pairOf("a", "v"), pairOf("B", "v")},
		"a longer key ahead of a shorter": {pairOf("aa", "v"), pairOf("a", "v")},
		"the first twice":                 {pairOf("a", "v"), pairOf("a", "w"), pairOf("b", "v")},
		"the last twice":                  {pairOf("a", "v"), pairOf("b", "v"), pairOf("b", "w")},
		"one pair twice":                  {pairOf("a", "v"), pairOf("a", "v")},
		"one key there and Gone":          {pairOf("a", "v"), goneOf("a")},
		"one key Gone and there":          {goneOf("a"), pairOf("a", "v")},
		"one key Gone twice":              {goneOf("a"), goneOf("a")},
		"a value of 4001 bytes":           {pairOf("a", manyBytes(4001))},
		"a last value of 4001 bytes":      {pairOf("a", "v"), pairOf("b", manyBytes(4001))},
		"a first value of 4001 bytes":     {pairOf("a", manyBytes(4001)), pairOf("b", "v")},
		"a Gone pair with a Value":        {{Key: "a", Value: "v", Gone: true}},
		"a first one Gone with a Value":   {{Key: "a", Value: "v", Gone: true}, pairOf("b", "v")},
		"a last one Gone with a Value":    {pairOf("a", "v"), {Key: "b", Value: "\x00", Gone: true}},
		"301 pairs":                       manyPairs(301, 0),
		"301 Gone pairs":                  allGone(manyPairs(301, 1)),
	}
}

// wrongTables are tables that are not TableOk, by the reason why.
func wrongTables() map[string]impl.Table {
	out := map[string]impl.Table{
		"9 runs":                {Runs: manyRuns(9)},
		"9 runs and Young":      {Young: []impl.Pair{pairOf("x", "y")}, Runs: manyRuns(9)},
		"9 runs of no pairs":    {Runs: make([][]impl.Pair, 9)},
		"9 runs, one has pairs": {Runs: append(make([][]impl.Pair, 8), manyPairs(2, 0))},
	}
	for why, list := range wrongLists() {
		inEach(list, func(where string, t impl.Table) { out[why+" in "+where] = t })
	}
	return out
}

// allKeys are the keys of a table, each with a shorter and a longer one.
func allKeys(t impl.Table) []string {
	keys := []string{"", "\x00", "~", "\xff", strings.Repeat("k", 101)}
	for _, list := range append([][]impl.Pair{t.Young}, t.Runs...) {
		for _, p := range list {
			keys = append(keys, p.Key, p.Key+"\x00", p.Key[:max(0, len(p.Key)-1)])
		}
	}
	slices.Sort(keys)
	return slices.Compact(keys)
}

// newestBy is the newest pair of a key, by the words of the document.
func newestBy(t impl.Table, key string) (impl.Pair, bool) {
	for _, list := range append([][]impl.Pair{t.Young}, t.Runs...) {
		for _, p := range list {
			if p.Key == key {
				return p, true
			}
		}
	}
	return impl.Pair{}, false
}

// thereBy are the newest pairs that are not Gone, by the words of the document.
func thereBy(t impl.Table, from string, to string) []impl.Pair {
	var out []impl.Pair
	for _, key := range allKeys(t) {
		p, there := newestBy(t, key)
		if there && !p.Gone && key >= from && (to == "" || key < to) {
			out = append(out, p)
		}
	}
	return out
}

func wantTableOk(t *testing.T, why string, x impl.Table, want bool) {
	t.Helper()
	wantRight(t, why, impl.TableOk, x, want)
}

// wantTableDone wants what a call answered to be this table, which is right, and true.
func wantTableDone(t *testing.T, what string, got impl.Table, ok bool, want impl.Table) {
	t.Helper()
	wantDone(t, what, impl.TableOk, got, ok, want)
}

func wantGot(t *testing.T, why string, x impl.Table, key string, value string, there bool) {
	t.Helper()
	if got, ok := impl.TableGet(x, key); got != value || ok != there {
		t.Errorf("%s: TableGet(%q) = %q, %v; want %q, %v", why, key, got, ok, value, there)
	}
}

// wantAllGot wants each key of a table to be got by the words of the document.
func wantAllGot(t *testing.T, why string, x impl.Table) {
	t.Helper()
	for _, key := range allKeys(x) {
		p, there := newestBy(x, key)
		wantGot(t, why, x, key, p.Value, there && !p.Gone)
	}
}

// wantSameTold wants two tables to tell the same of all keys of the first.
func wantSameTold(t *testing.T, why string, was impl.Table, x impl.Table) {
	t.Helper()
	for _, key := range allKeys(was) {
		value, there := impl.TableGet(was, key)
		wantGot(t, why, x, key, value, there)
	}
	for _, ends := range [][2]string{{"", ""}, {"c", ""}, {"", "h"}, {"c", "n"}, {"k0100", "k0200"}} {
		wantSame(t, why+": TableScan", impl.TableScan(x, ends[0], ends[1]), impl.TableScan(was, ends[0], ends[1]))
	}
}

func TestTableConstants(t *testing.T) {
	if impl.MaxKeys != 300 || impl.MaxRuns != 8 {
		t.Error("MaxKeys, MaxRuns", impl.MaxKeys, impl.MaxRuns)
	}
}

func TestTableOk(t *testing.T) {
	wantTableOk(t, "nothing", impl.Table{}, true)
	wantTableOk(t, "no pairs and no runs", impl.Table{Young: []impl.Pair{}, Runs: [][]impl.Pair{}}, true)
	wantTableOk(t, "some", someTable(), true)
	for why, x := range wrongTables() {
		wantTableOk(t, why, x, false)
	}
}

func TestTableOkLists(t *testing.T) {
	right := map[string][]impl.Pair{
		"no pairs":                       nil,
		"one pair":                       {pairOf("a", "v")},
		"a Gone pair":                    {goneOf("a")},
		"a pair without a value":         {pairOf("a", "")},
		"all without a value":            {pairOf("a", ""), goneOf("b"), pairOf("c", "")},
		"keys of 1 byte":                 {pairOf("\x00", "v"), pairOf("A", "v"), pairOf("a", "v"), pairOf("\xff", "v")},
		"a shorter key ahead of longer":  {pairOf("a", "v"), pairOf("a\x00", "v"), pairOf("aa", "v")},
		"bytes that are no letters":      {pairOf("\x7f", "v"), pairOf("\x80", "\x00"), pairOf("\xc3", "\xff"), pairOf("\xc3\xa9", "v")},
		"keys of 99 and of 100 bytes":    {pairOf(strings.Repeat("k", 99), "v"), goneOf(strings.Repeat("k", 100))},
		"values of 3999 and 4000 bytes":  {pairOf("a", manyBytes(3999)), pairOf("b", manyBytes(4000))},
		"values that do not ascend":      {pairOf("a", "z"), pairOf("b", "a"), pairOf("c", "z")},
		"299 pairs":                      manyPairs(299, 0),
		"300 pairs":                      manyPairs(300, 0),
		"300 Gone pairs":                 allGone(manyPairs(300, 1)),
		"what is Gone among what is not": {goneOf("a"), pairOf("b", "v"), goneOf("c"), pairOf("d", "v")},
	}
	for why, list := range right {
		inEach(list, func(where string, x impl.Table) { wantTableOk(t, why+" in "+where, x, true) })
	}
}

func TestTableOkSizes(t *testing.T) {
	for _, n := range []int{0, 1, 2, 99, 100, 101, 102, 255, 256, 4000} {
		for _, p := range []impl.Pair{pairOf(strings.Repeat("k", n), "v"), goneOf(strings.Repeat("\xff", n))} {
			inEach([]impl.Pair{p}, func(where string, x impl.Table) {
				wantTableOk(t, fmt.Sprintf("a key of %d bytes in %s", n, where), x, n >= 1 && n <= 100)
			})
		}
	}
	for _, n := range []int{0, 1, 100, 3999, 4000, 4001, 4002, 65536, 100001} {
		for i := range 3 {
			list := []impl.Pair{pairOf("a", "v"), pairOf("b", "v"), pairOf("c", "v")}
			list[i].Value = manyBytes(n)
			inEach(list, func(where string, x impl.Table) {
				wantTableOk(t, fmt.Sprintf("a value of %d bytes in %s", n, where), x, n <= 4000)
			})
			list[i].Gone = true
			inEach(list, func(where string, x impl.Table) {
				wantTableOk(t, fmt.Sprintf("a Gone value of %d bytes in %s", n, where), x, n == 0)
			})
		}
	}
}

func TestTableOkCounts(t *testing.T) {
	for n := range 303 {
		inEach(manyPairs(n, 0), func(where string, x impl.Table) {
			wantTableOk(t, fmt.Sprintf("%d pairs in %s", n, where), x, n <= 300)
		})
	}
	for n := range 12 {
		wantTableOk(t, fmt.Sprintf("%d runs", n), impl.Table{Runs: manyRuns(n)}, n <= 8)
		wantTableOk(t, fmt.Sprintf("%d runs of no pairs", n), impl.Table{Runs: make([][]impl.Pair, n)}, n <= 8)
	}
	full := impl.Table{Young: manyPairs(300, 0)}
	for i := range 8 {
		full.Runs = append(full.Runs, manyPairs(300, i%2))
	}
	wantTableOk(t, "all that may be", full, true)
}

func TestTableOkOneKeyInSeveral(t *testing.T) {
	for _, a := range []impl.Pair{pairOf("x", "one"), pairOf("x", ""), goneOf("x")} {
		for _, b := range []impl.Pair{pairOf("x", "two"), pairOf("x", "one"), goneOf("x")} {
			list := func(p impl.Pair) []impl.Pair { return []impl.Pair{p} }
			wantTableOk(t, "in Young and in a run", impl.Table{Young: list(a), Runs: [][]impl.Pair{list(b)}}, true)
			wantTableOk(t, "in two runs", impl.Table{Runs: [][]impl.Pair{list(a), list(b)}}, true)
			wantTableOk(t, "in Young and two runs", impl.Table{Young: list(a), Runs: [][]impl.Pair{list(b), nil, list(a)}}, true)
			wantTableOk(t, "twice in Young", impl.Table{Young: []impl.Pair{a, b}}, false)
			wantTableOk(t, "twice in a run", impl.Table{Runs: [][]impl.Pair{{a, b}}}, false)
		}
	}
	// What stands in one list need not be behind what stands in another.
	wantTableOk(t, "runs that go back", impl.Table{Young: []impl.Pair{pairOf("z", "v")}, Runs: [][]impl.Pair{{pairOf("m", "v")}, {pairOf("a", "v")}}}, true)
}

func TestTableGet(t *testing.T) {
	x := someTable()
	for _, p := range someThere() {
		wantGot(t, "some", x, p.Key, p.Value, true)
	}
	for _, key := range []string{
		"b", "k", // Gone in Young, there in the first and in a later run
		"c", "g", // Gone in the first run, there in the second one
		"p", "w", // Gone in the third run, there in the fourth
		"o", "v", // Gone and nowhere else
		"", "a\x00", "aa", "A", "B", "i", "y", "zz", "\xff", strings.Repeat("k", 100), strings.Repeat("k", 101),
	} {
		wantGot(t, "some", x, key, "", false)
	}
	wantAllGot(t, "some", x)
	for _, key := range []string{"", "a", "x"} {
		wantGot(t, "nothing", impl.Table{}, key, "", false)
		wantGot(t, "runs of no pairs", impl.Table{Runs: make([][]impl.Pair, 8)}, key, "", false)
	}
}

// TestTableGetNewest tries one key in Young and three runs, in each of them
// there, there without a value, Gone, or not.
func TestTableGetNewest(t *testing.T) {
	for n := range 256 {
		var x impl.Table
		for i := range 4 {
			list := []impl.Pair{pairOf("a", "a"), pairOf("z", "z")}
			switch n >> (2 * i) & 3 {
			case 0:
				list = slices.Insert(list, 1, pairOf("key", fmt.Sprintf("of %d", i)))
			case 1:
				list = slices.Insert(list, 1, pairOf("key", ""))
			case 2:
				list = slices.Insert(list, 1, goneOf("key"))
			}
			if i == 0 {
				x.Young = list
			} else {
				x.Runs = append(x.Runs, list)
			}
		}
		what := fmt.Sprintf("case %d", n)
		wantAllGot(t, what, x)
		wantSame(t, what, impl.TableScan(x, "", ""), thereBy(x, "", ""))
	}
}

func TestTableGetPlaces(t *testing.T) {
	for n := range 34 {
		inEach(manyPairs(n, 1), func(where string, x impl.Table) { wantAllGot(t, where, x) })
	}
	full := impl.Table{Young: manyPairs(300, 0), Runs: [][]impl.Pair{manyPairs(300, 1), manyPairs(200, 0), allGone(manyPairs(300, 0))}}
	wantAllGot(t, "300 pairs", full)
	long := strings.Repeat("k", 100)
	value := manyBytes(4000)
	x := impl.Table{Runs: [][]impl.Pair{{pairOf("j", "v"), pairOf(long, value)}}}
	wantGot(t, "the longest", x, long, value, true)
	wantGot(t, "one byte less", x, long[:99], "", false)
	wantGot(t, "one byte more", x, long+"k", "", false)
}

func TestTableGetOfWrongTables(t *testing.T) {
	for why, x := range wrongTables() {
		for _, key := range []string{"", "a", "b", "d", "x", "z", "k0000", "k0", strings.Repeat("k", 101)} {
			wantGot(t, why, x, key, "", false)
		}
		for _, list := range append([][]impl.Pair{x.Young}, x.Runs...) {
			for _, p := range list[:min(3, len(list))] {
				wantGot(t, why, x, p.Key, "", false)
			}
		}
	}
}

func TestTablePut(t *testing.T) {
	b, d, f, k := goneOf("b"), pairOf("d", "young d"), pairOf("f", ""), goneOf("k")
	for _, r := range []struct {
		key, value string
		want       []impl.Pair
	}{
		{"a", "new", []impl.Pair{pairOf("a", "new"), b, d, f, k}}, // ahead of all others
		{"\x00", "", []impl.Pair{pairOf("\x00", ""), b, d, f, k}},
		{"c", "new", []impl.Pair{b, pairOf("c", "new"), d, f, k}}, // between
		{"dd", "\xff", []impl.Pair{b, d, pairOf("dd", "\xff"), f, k}},
		{"e", "", []impl.Pair{b, d, pairOf("e", ""), f, k}},
		{"z", "new", []impl.Pair{b, d, f, k, pairOf("z", "new")}}, // behind
		{"k\x00", "new", []impl.Pair{b, d, f, k, pairOf("k\x00", "new")}},
		{"d", "new", []impl.Pair{b, pairOf("d", "new"), f, k}}, // there
		{"d", "", []impl.Pair{b, pairOf("d", ""), f, k}},
		{"f", "new", []impl.Pair{b, d, pairOf("f", "new"), k}},
		{"d", "young d", []impl.Pair{b, d, f, k}}, // the same once more
		{"f", "", []impl.Pair{b, d, f, k}},
		{"b", "new", []impl.Pair{pairOf("b", "new"), d, f, k}}, // Gone
		{"k", "", []impl.Pair{b, d, f, pairOf("k", "")}},
	} {
		want := someTable()
		want.Young = r.want
		got, ok := impl.TablePut(someTable(), r.key, r.value)
		what := fmt.Sprintf("TablePut(%q, %q)", r.key, r.value)
		wantTableDone(t, what, got, ok, want)
		wantGot(t, what, got, r.key, r.value, true)
		again, ok := impl.TablePut(got, r.key, r.value)
		wantTableDone(t, what+" once more", again, ok, want)
	}
	got, ok := impl.TablePut(impl.Table{}, "a", "v")
	wantTableDone(t, "the first of all", got, ok, impl.Table{Young: []impl.Pair{pairOf("a", "v")}})
}

func TestTableDrop(t *testing.T) {
	b, d, f, k := goneOf("b"), pairOf("d", "young d"), pairOf("f", ""), goneOf("k")
	for key, young := range map[string][]impl.Pair{
		"A":   {goneOf("A"), b, d, f, k}, // nowhere: it is Gone all the same
		"bb":  {b, goneOf("bb"), d, f, k},
		"zz":  {b, d, f, k, goneOf("zz")},
		"a":   {goneOf("a"), b, d, f, k}, // in a run alone
		"e":   {b, d, goneOf("e"), f, k},
		"z":   {b, d, f, k, goneOf("z")},
		"c":   {b, goneOf("c"), d, f, k}, // Gone in a run
		"d":   {b, goneOf("d"), f, k},    // there in Young
		"f":   {b, d, goneOf("f"), k},
		"b":   {b, d, f, k}, // Gone in Young
		"k":   {b, d, f, k},
		"k\n": {b, d, f, k, goneOf("k\n")},
	} {
		want := someTable()
		want.Young = young
		got, ok := impl.TableDrop(someTable(), key)
		what := fmt.Sprintf("TableDrop(%q)", key)
		wantTableDone(t, what, got, ok, want)
		wantGot(t, what, got, key, "", false)
		again, ok := impl.TableDrop(got, key)
		wantTableDone(t, what+" once more", again, ok, want)
		want.Young = slices.Clone(young)
		at := slices.IndexFunc(young, func(p impl.Pair) bool { return p.Key == key })
		want.Young[at] = pairOf(key, "back")
		back, ok := impl.TablePut(got, key, "back")
		wantTableDone(t, what+" and put", back, ok, want)
		wantGot(t, what+" and put", back, key, "back", true)
	}
	got, ok := impl.TableDrop(impl.Table{}, "a")
	wantTableDone(t, "the first of all", got, ok, impl.Table{Young: []impl.Pair{goneOf("a")}})
}

func TestTablePutAndDropSizes(t *testing.T) {
	for _, x := range []impl.Table{{}, someTable(), {Runs: manyRuns(8)}} {
		for _, n := range []int{0, 1, 99, 100, 101, 102, 300} {
			key := strings.Repeat("~", n)
			with, isPut := impl.TablePut(x, key, "v")
			without, isDropped := impl.TableDrop(x, key)
			if n < 1 || n > 100 {
				wantLeft(t, fmt.Sprintf("TablePut of a key of %d", n), with, isPut, x)
				wantLeft(t, fmt.Sprintf("TableDrop of a key of %d", n), without, isDropped, x)
				continue
			}
			want := keptTable(x)
			want.Young = append(want.Young, pairOf(key, "v"))
			wantTableDone(t, fmt.Sprintf("TablePut of a key of %d", n), with, isPut, want)
			want.Young[len(want.Young)-1] = goneOf(key)
			wantTableDone(t, fmt.Sprintf("TableDrop of a key of %d", n), without, isDropped, want)
		}
		for _, n := range []int{0, 1, 3999, 4000, 4001, 4002, 100000} {
			got, ok := impl.TablePut(x, "~", manyBytes(n))
			if n > 4000 {
				wantLeft(t, fmt.Sprintf("a value of %d", n), got, ok, x)
				continue
			}
			want := keptTable(x)
			want.Young = append(want.Young, pairOf("~", manyBytes(n)))
			wantTableDone(t, fmt.Sprintf("a value of %d", n), got, ok, want)
		}
	}
	// A value that is too long does not take the place of one that is there.
	got, ok := impl.TablePut(someTable(), "d", manyBytes(4001))
	wantLeft(t, "a value of 4001 for a key that is there", got, ok, someTable())
}

func TestTablePutAndDropAtMost(t *testing.T) {
	x := impl.Table{Young: manyPairs(299, 0), Runs: manyRuns(3)}
	for _, key := range []string{"a", "k0001", "k0301", "z"} {
		for _, p := range []impl.Pair{pairOf(key, "v"), goneOf(key)} {
			want := keptTable(x)
			want.Young = append(want.Young, p)
			slices.SortFunc(want.Young, func(a, b impl.Pair) int { return strings.Compare(a.Key, b.Key) })
			full, ok := impl.TablePut(x, key, "v")
			if p.Gone {
				full, ok = impl.TableDrop(x, key)
			}
			wantTableDone(t, "the 300th pair", full, ok, want)
			for _, more := range []string{"A", "k0003", "k0303", "zz", "x"} {
				got, ok := impl.TablePut(full, more, "v")
				wantLeft(t, "the 301st pair", got, ok, want)
				got, ok = impl.TableDrop(full, more)
				wantLeft(t, "the 301st pair, Gone", got, ok, want)
			}
		}
	}
	full := impl.Table{Young: manyPairs(300, 0)}
	for i, p := range full.Young {
		want := keptTable(full)
		want.Young[i].Value = "again"
		got, ok := impl.TablePut(full, p.Key, "again")
		wantTableDone(t, "one of 300 again", got, ok, want)
		want.Young[i] = goneOf(p.Key)
		got, ok = impl.TableDrop(full, p.Key)
		wantTableDone(t, "one of 300 dropped", got, ok, want)
	}
}

func TestTablePutAndDropOfWrongTables(t *testing.T) {
	for why, x := range wrongTables() {
		for _, key := range []string{"", "a", "b", "k0000", "z"} {
			got, ok := impl.TablePut(x, key, "v")
			wantLeft(t, "TablePut: "+why, got, ok, x)
			got, ok = impl.TableDrop(x, key)
			wantLeft(t, "TableDrop: "+why, got, ok, x)
		}
	}
	// The pair would make it right: it is refused as it stands.
	wrong := impl.Table{Young: []impl.Pair{{Key: "a", Value: "v", Gone: true}}}
	got, ok := impl.TablePut(wrong, "a", "v")
	wantLeft(t, "a wrong pair put right", got, ok, wrong)
	got, ok = impl.TableDrop(wrong, "a")
	wantLeft(t, "a wrong pair dropped", got, ok, wrong)
}

func TestTableFlush(t *testing.T) {
	x := someTable()
	got, ok := impl.TableFlush(x)
	wantTableDone(t, "TableFlush", got, ok, impl.Table{Runs: append([][]impl.Pair{x.Young}, x.Runs...)})
	wantSameTold(t, "TableFlush", x, got)
	again, ok := impl.TableFlush(got)
	wantLeft(t, "TableFlush with an empty Young", again, ok, got)
	for _, young := range [][]impl.Pair{{goneOf("x")}, {pairOf("x", "")}, {pairOf("a", "v"), pairOf("x", "w")}, manyPairs(300, 0), allGone(manyPairs(300, 0))} {
		for n := range 9 {
			x := impl.Table{Young: young, Runs: manyRuns(n)}
			what := fmt.Sprintf("TableFlush with %d runs", n)
			got, ok := impl.TableFlush(x)
			if n == 8 {
				wantLeft(t, what, got, ok, x)
				continue
			}
			wantTableDone(t, what, got, ok, impl.Table{Runs: append([][]impl.Pair{young}, x.Runs...)})
			wantSameTold(t, what, x, got)
		}
	}
	// A run of no pairs is one of the runs.
	x = impl.Table{Young: []impl.Pair{pairOf("a", "v")}, Runs: make([][]impl.Pair, 7)}
	got, ok = impl.TableFlush(x)
	wantTableDone(t, "7 runs of no pairs", got, ok, impl.Table{Runs: append([][]impl.Pair{x.Young}, x.Runs...)})
	x.Runs = make([][]impl.Pair, 8)
	got, ok = impl.TableFlush(x)
	wantLeft(t, "8 runs of no pairs", got, ok, x)
}

func TestTableFlushRefused(t *testing.T) {
	for n := range 9 {
		for _, young := range [][]impl.Pair{nil, {}} {
			x := impl.Table{Young: young, Runs: manyRuns(n)}
			got, ok := impl.TableFlush(x)
			wantLeft(t, "an empty Young", got, ok, x)
		}
	}
	for why, x := range wrongTables() {
		got, ok := impl.TableFlush(x)
		wantLeft(t, why, got, ok, x)
	}
}

// mergedBy are two runs as one, by the words of the document.
func mergedBy(a []impl.Pair, b []impl.Pair, last bool) []impl.Pair {
	var out []impl.Pair
	two := impl.Table{Runs: [][]impl.Pair{a, b}}
	for _, key := range allKeys(two) {
		p, there := newestBy(two, key)
		if there && !(last && p.Gone) {
			out = append(out, p)
		}
	}
	return out
}

func TestTableMerge(t *testing.T) {
	x := someTable()
	for from, run := range [][]impl.Pair{
		{pairOf("a", "0 a"), pairOf("b", "0 b"), goneOf("c"), goneOf("d"), pairOf("e", "1 e"), pairOf("f", "0 f"), goneOf("g"), pairOf("h", "1 h"), pairOf("m", "0 m"), pairOf("n", "0 n"), goneOf("o")},
		{pairOf("c", "1 c"), goneOf("d"), pairOf("e", "1 e"), pairOf("g", "1 g"), pairOf("h", "1 h"), pairOf("k", "2 k"), goneOf("n"), goneOf("o"), goneOf("p"), goneOf("w")},
		{pairOf("c", "2 c"), pairOf("h", "2 h"), pairOf("k", "2 k"), pairOf("z", "3 z")},
	} {
		want := someTable()
		want.Runs = slices.Replace(want.Runs, from, from+2, run)
		got, ok := impl.TableMerge(x, from)
		what := fmt.Sprintf("TableMerge(%d)", from)
		wantTableDone(t, what, got, ok, want)
		wantSameTold(t, what, x, got)
	}
	for _, from := range []int{3, 4, 5, 8, 1 << 32, math.MaxInt - 1, math.MaxInt, -1, -2, -1 << 32, math.MinInt} {
		got, ok := impl.TableMerge(x, from)
		wantLeft(t, fmt.Sprintf("TableMerge(%d)", from), got, ok, someTable())
	}
}

func TestTableMergeFewRuns(t *testing.T) {
	for _, young := range [][]impl.Pair{nil, {pairOf("a", "v"), goneOf("b")}} {
		for _, runs := range [][][]impl.Pair{nil, {}, {nil}, {{pairOf("a", "v")}}, {{goneOf("b"), pairOf("x", "y")}}} {
			x := impl.Table{Young: young, Runs: runs}
			for _, from := range []int{math.MinInt, -2, -1, 0, 1, 2, math.MaxInt} {
				got, ok := impl.TableMerge(x, from)
				wantLeft(t, fmt.Sprintf("TableMerge(%d) of %d runs", from, len(runs)), got, ok, x)
			}
		}
	}
}

// TestTableMergeOneKey tries one key in both runs, in each of them there, there
// without a value, Gone, or not, with no run behind, one without it, and one with it.
func TestTableMergeOneKey(t *testing.T) {
	lists := [][]impl.Pair{nil, {pairOf("x", "new")}, {pairOf("x", "")}, {goneOf("x")}}
	for _, a := range lists {
		for _, b := range lists {
			for _, behind := range [][][]impl.Pair{nil, {nil}, {{pairOf("w", "old")}}, {{pairOf("x", "old")}}, {{goneOf("x")}}} {
				for _, ahead := range [][][]impl.Pair{nil, {{pairOf("x", "first")}}, {{goneOf("x")}}} {
					x := impl.Table{Runs: slices.Concat(ahead, [][]impl.Pair{a, b}, behind)}
					want := impl.Table{Runs: slices.Concat(ahead, [][]impl.Pair{mergedBy(a, b, behind == nil)}, behind)}
					got, ok := impl.TableMerge(x, len(ahead))
					what := fmt.Sprintf("TableMerge(%d) of %v", len(ahead), x.Runs)
					wantTableDone(t, what, got, ok, want)
					wantSameTold(t, what, x, got)
				}
			}
		}
	}
}

func TestTableMergeToNothing(t *testing.T) {
	some := []impl.Pair{pairOf("a", "v"), pairOf("b", "w")}
	for why, two := range map[string][][]impl.Pair{
		"both of no pairs":      {nil, {}},
		"all Gone":              {{goneOf("a")}, {goneOf("b")}},
		"Gone and there":        {allGone(some), some},
		"of no pairs, all Gone": {nil, allGone(some)},
		"all Gone, of no pairs": {allGone(some), nil},
	} {
		// The run stays, of no pairs, as any run may be.
		got, ok := impl.TableMerge(impl.Table{Runs: two}, 0)
		wantTableDone(t, why, got, ok, impl.Table{Runs: [][]impl.Pair{nil}})
		x := impl.Table{Young: some, Runs: append([][]impl.Pair{some}, two...)}
		got, ok = impl.TableMerge(x, 1)
		wantTableDone(t, why, got, ok, impl.Table{Young: some, Runs: [][]impl.Pair{some, nil}})
		wantSameTold(t, why, x, got)
	}
	// With a run behind, be it one of no pairs, what is Gone stays.
	got, ok := impl.TableMerge(impl.Table{Runs: [][]impl.Pair{{goneOf("a")}, {goneOf("b")}, nil}}, 0)
	wantTableDone(t, "a run of no pairs behind", got, ok, impl.Table{Runs: [][]impl.Pair{{goneOf("a"), goneOf("b")}, nil}})
}

func TestTableMergeAtMost(t *testing.T) {
	old := []impl.Pair{pairOf("k0000", "old"), pairOf("z", "old")}
	for _, r := range []struct {
		why        string
		a, b       []impl.Pair
		last, then bool // whether it can be where it is the last run, and where it is not
	}{
		{"150 and 150", manyPairs(150, 0), manyPairs(150, 1), true, true},
		{"150 and 151", manyPairs(150, 0), manyPairs(151, 1), false, false},
		{"151 and 150", manyPairs(151, 0), manyPairs(150, 1), false, false},
		{"300 and 0", manyPairs(300, 0), nil, true, true},
		{"0 and 300", nil, manyPairs(300, 0), true, true},
		{"300 and 1 other", manyPairs(300, 0), manyPairs(1, 1), false, false},
		{"1 other and 300", manyPairs(1, 1), manyPairs(300, 0), false, false},
		{"300 and the same", manyPairs(300, 0), manyPairs(300, 0), true, true},
		{"300 and 299 of them", manyPairs(300, 0), manyPairs(299, 0), true, true},
		{"300 and 300 others", manyPairs(300, 0), manyPairs(300, 1), false, false},
		{"300 and one Gone", manyPairs(300, 0), allGone(manyPairs(1, 1)), true, false},
		{"one Gone and 300", allGone(manyPairs(1, 1)), manyPairs(300, 0), true, false},
		{"300 Gone and 300 others", allGone(manyPairs(300, 0)), manyPairs(300, 1), true, false},
		{"300 Gone and the same", allGone(manyPairs(300, 0)), manyPairs(300, 0), true, true},
		{"300 Gone and 300 other Gone", allGone(manyPairs(300, 0)), allGone(manyPairs(300, 1)), true, false},
	} {
		x := impl.Table{Young: old, Runs: [][]impl.Pair{old, r.a, r.b}}
		got, ok := impl.TableMerge(x, 1)
		if r.last {
			wantTableDone(t, r.why+", the last", got, ok, impl.Table{Young: old, Runs: [][]impl.Pair{old, mergedBy(r.a, r.b, true)}})
			wantSameTold(t, r.why, x, got)
		} else {
			wantLeft(t, r.why+", the last", got, ok, x)
		}
		x = impl.Table{Runs: [][]impl.Pair{r.a, r.b, old}}
		got, ok = impl.TableMerge(x, 0)
		if r.then {
			wantTableDone(t, r.why, got, ok, impl.Table{Runs: [][]impl.Pair{mergedBy(r.a, r.b, false), old}})
			wantSameTold(t, r.why, x, got)
		} else {
			wantLeft(t, r.why, got, ok, x)
		}
	}
}

func TestTableMergeOfWrongTables(t *testing.T) {
	for why, x := range wrongTables() {
		for _, from := range []int{math.MinInt, -1, 0, 1, 2, 3, 7, 8, math.MaxInt} {
			got, ok := impl.TableMerge(x, from)
			wantLeft(t, why, got, ok, x)
		}
	}
	// Merged, nine runs would be eight: they are refused as they stand.
	wrong := impl.Table{Runs: manyRuns(9)}
	got, ok := impl.TableMerge(wrong, 4)
	wantLeft(t, "nine runs", got, ok, wrong)
	full := impl.Table{Runs: manyRuns(8)}
	for from := range 7 {
		want := keptTable(full)
		want.Runs = slices.Replace(want.Runs, from, from+2, mergedBy(full.Runs[from], full.Runs[from+1], from == 6))
		got, ok := impl.TableMerge(full, from)
		wantTableDone(t, "eight runs", got, ok, want)
		wantSameTold(t, "eight runs", full, got)
	}
}

func TestTableScan(t *testing.T) {
	all := someThere() // a d e f h m n z
	for _, r := range []struct {
		from, to string
		want     []impl.Pair
	}{
		{"", "", all}, {"a", "", all}, {"\x00", "", all}, {"a\x00", "", all[1:]}, {"d", "", all[1:]},
		{"z", "", all[7:]}, {"z\x00", "", nil}, {"zz", "", nil}, {"\xff", "", nil},
		{"", "z", all[:7]}, {"", "z\x00", all}, {"", "zz", all}, {"", "\xff", all}, {"", "a", nil}, {"", "a\x00", all[:1]}, {"", "A", nil},
		{"d", "h", all[1:4]}, {"d", "hh", all[1:5]}, {"dd", "h", all[2:4]}, {"dd", "hh", all[2:5]}, // keys, and between two
		{"b", "d", nil}, {"b", "d\x00", all[1:2]}, {"g", "k", all[4:5]}, {"o", "x", nil}, {"c", "c\x00", nil}, // at Gone ones
		{"d", "d", nil}, {"d", "d\x00", all[1:2]}, {"i", "j", nil}, {"i", "i", nil},
		{"h", "d", nil}, {"z", "a", nil}, {"zz", "zy", nil}, {"\xff", "\x00", nil}, // from above to
		{strings.Repeat("k", 200), "", all[5:]}, {"", strings.Repeat("k", 200), all[:5]},
	} {
		wantSame(t, fmt.Sprintf("TableScan(%q, %q)", r.from, r.to), impl.TableScan(someTable(), r.from, r.to), r.want)
	}
	for _, x := range []impl.Table{{}, {Runs: make([][]impl.Pair, 8)}, {Young: []impl.Pair{goneOf("a")}}, {Young: allGone(manyPairs(300, 0)), Runs: [][]impl.Pair{manyPairs(300, 0)}}} {
		for _, from := range []string{"", "a", "k0000", "z"} {
			wantSame(t, "nothing there", impl.TableScan(x, from, ""), nil)
		}
	}
}

func TestTableScanByRule(t *testing.T) {
	x := someTable()
	keys := allKeys(x)
	for _, from := range keys {
		for _, to := range keys {
			wantSame(t, fmt.Sprintf("TableScan(%q, %q)", from, to), impl.TableScan(x, from, to), thereBy(x, from, to))
		}
	}
	// All that a table may tell: more pairs than one run may have.
	full := impl.Table{Young: manyPairs(300, 0), Runs: [][]impl.Pair{manyPairs(300, 1)}}
	var want []impl.Pair
	for i := range 300 {
		want = append(want, full.Young[i], full.Runs[0][i])
	}
	wantSame(t, "600 pairs", impl.TableScan(full, "", ""), want)
	wantSame(t, "some of 600 pairs", impl.TableScan(full, "k0100", "k0301"), want[100:301])
	for range 7 {
		full.Runs = append(full.Runs, allGone(manyPairs(300, 0)))
	}
	wantSame(t, "600 pairs over Gone ones", impl.TableScan(full, "", ""), want)
}

func TestTableScanOfWrongTables(t *testing.T) {
	for why, x := range wrongTables() {
		for _, ends := range [][2]string{{"", ""}, {"a", ""}, {"", "z"}, {"a", "c"}, {"z", "a"}} {
			wantSame(t, why, impl.TableScan(x, ends[0], ends[1]), nil)
		}
	}
}

func TestTableSize(t *testing.T) {
	for _, r := range []struct {
		why  string
		x    impl.Table
		want int
	}{
		{"nothing", impl.Table{}, 0},
		{"runs of no pairs", impl.Table{Runs: make([][]impl.Pair, 8)}, 0},
		{"some", someTable(), 30},
		{"one in Young", impl.Table{Young: []impl.Pair{pairOf("a", "v")}}, 1},
		{"one Gone in Young", impl.Table{Young: []impl.Pair{goneOf("a")}}, 1},
		{"one in a run", impl.Table{Runs: [][]impl.Pair{nil, {goneOf("a")}}}, 1},
		{"one key in all", impl.Table{Young: []impl.Pair{pairOf("a", "v")}, Runs: [][]impl.Pair{{goneOf("a")}, {pairOf("a", "v")}, {pairOf("a", "v")}}}, 4},
		{"8 runs", impl.Table{Young: manyPairs(300, 0), Runs: manyRuns(8)}, 316},
		// The document names no other answer for a table that is not TableOk.
		{"9 runs", impl.Table{Runs: manyRuns(9)}, 18},
		{"out of order", impl.Table{Young: []impl.Pair{pairOf("b", "v"), pairOf("a", "v"), pairOf("b", "v")}, Runs: [][]impl.Pair{{pairOf("", "v")}}}, 4},
		{"a Gone pair with a Value", impl.Table{Young: []impl.Pair{{Key: "a", Value: "v", Gone: true}}}, 1},
		{"301 pairs", impl.Table{Young: manyPairs(301, 0), Runs: [][]impl.Pair{manyPairs(400, 0)}}, 701},
	} {
		if got := impl.TableSize(r.x); got != r.want {
			t.Errorf("%s: TableSize = %d; want %d", r.why, got, r.want)
		}
	}
	for why, x := range wrongTables() {
		want := len(x.Young)
		for _, run := range x.Runs {
			want += len(run)
		}
		if got := impl.TableSize(x); got != want {
			t.Errorf("%s: TableSize = %d; want %d", why, got, want)
		}
	}
}

// TestTableByPromise walks at random beside a map of what is there: what was
// put is got, what was dropped is not, and to flush and to merge changes nothing.
func TestTableByPromise(t *testing.T) {
	there := map[string]string{}
	var x impl.Table
	roll := diceOf(11)
	done := map[string]int{}
	for step := range 6000 {
		key := fmt.Sprintf("k%02d", roll(60))
		what, next, ok, want := "", x, true, true
		switch n := roll(20); {
		case n < 9:
			value := strings.Repeat("v", roll(3)) + fmt.Sprint(step % 7)[:roll(2)]
			next, ok = impl.TablePut(x, key, value)
			there[key] = value
			what = "put"
		case n < 16:
			next, ok = impl.TableDrop(x, key)
			delete(there, key)
			what = "drop"
		case n < 18:
			next, ok = impl.TableFlush(x)
			want = len(x.Young) > 0 && len(x.Runs) < 8
			what = "flush"
		default:
			from := roll(10) - 1
			next, ok = impl.TableMerge(x, from)
			want = from >= 0 && from+1 < len(x.Runs)
			what = "merge"
		}
		if ok != want {
			t.Fatalf("step %d: %s of %#v is %v; want %v", step, what, x, ok, want)
		}
		if ok {
			done[what]++
		} else {
			wantSame(t, "what is refused", next, x)
		}
		x = next
		wantTableOk(t, "a walk", x, true)
		var list []impl.Pair
		for i := range 60 {
			key := fmt.Sprintf("k%02d", i)
			value, is := there[key]
			wantGot(t, fmt.Sprintf("step %d", step), x, key, value, is)
			if is {
				list = append(list, pairOf(key, value))
			}
		}
		wantSame(t, fmt.Sprintf("step %d: TableScan", step), impl.TableScan(x, "", ""), list)
		if t.Failed() {
			t.Fatalf("step %d: %#v", step, x)
		}
	}
	if done["put"] < 2000 || done["drop"] < 1500 || done["flush"] < 200 || done["merge"] < 200 {
		t.Errorf("the walk came to %v only", done)
	}
}

// tableAsked is a table and what it is asked with.
type tableAsked struct {
	Table impl.Table
	Key   string
	Value string
}

// asked is a call that answers a table and whether it could be.
func asked(x impl.Table, ok bool) []any { return []any{x, ok} }

func mergedAt(from int) func(x tableAsked) []any {
	return func(x tableAsked) []any { return asked(impl.TableMerge(x.Table, from)) }
}

// tableCalls are calls with a table, a key and a value.
var tableCalls = map[string]func(x tableAsked) []any{
	"TablePut":          func(x tableAsked) []any { return asked(impl.TablePut(x.Table, x.Key, x.Value)) },
	"TableDrop":         func(x tableAsked) []any { return asked(impl.TableDrop(x.Table, x.Key)) },
	"TableFlush":        func(x tableAsked) []any { return asked(impl.TableFlush(x.Table)) },
	"TableMerge(0)":     mergedAt(0),
	"TableMerge(1)":     mergedAt(1),
	"TableMerge(2)":     mergedAt(2),
	"TableMerge(-1)":    mergedAt(-1),
	"TableMerge(3)":     mergedAt(3),
	"TableGet":          func(x tableAsked) []any { v, ok := impl.TableGet(x.Table, x.Key); return []any{v, ok} },
	"TableScan":         func(x tableAsked) []any { return []any{impl.TableScan(x.Table, "", "")} },
	"TableScan from":    func(x tableAsked) []any { return []any{impl.TableScan(x.Table, x.Key, x.Value)} },
	"TableScan up to":   func(x tableAsked) []any { return []any{impl.TableScan(x.Table, "", x.Key)} },
	"TableOk and -Size": func(x tableAsked) []any { return []any{impl.TableOk(x.Table), impl.TableSize(x.Table)} },
}

func TestTableMemory(t *testing.T) {
	list := map[string]impl.Table{
		"right":             someTable(),
		"nothing":           {},
		"Young alone":       {Young: someThere()},
		"one run":           {Runs: [][]impl.Pair{someThere()}},
		"runs alone":        {Runs: someTable().Runs},
		"a run of no pairs": {Young: someThere(), Runs: [][]impl.Pair{{}, someThere(), {}}},
		"8 runs":            {Young: someThere(), Runs: manyRuns(8)},
		"9 runs":            {Young: someThere(), Runs: manyRuns(9)},
		"too many together": {Runs: [][]impl.Pair{manyPairs(40, 0), manyPairs(300, 1)}},
	}
	for why, wrong := range wrongLists() {
		if len(wrong) < 10 {
			list[why] = impl.Table{Young: wrong, Runs: [][]impl.Pair{someThere(), wrong}}
		}
	}
	for why, x := range list {
		for name, call := range tableCalls {
			// Keys ahead of, between and behind the others, one that is there, Gone ones, and none.
			for _, key := range []string{"A", "dd", "zz", "d", "b", "c", "z", ""} {
				wantApart(t, why+": "+name, tableAsked{Table: x, Key: key, Value: "value"}, call)
			}
		}
	}
}

// TestTableMemoryOfOneArray gives a table whose lists stand one behind the other
// in one array, so that the room behind each is the next one.
func TestTableMemoryOfOneArray(t *testing.T) {
	was := someTable()
	all := slices.Concat(append([][]impl.Pair{was.Young}, was.Runs...)...)
	runs := make([][]impl.Pair, 0, 10)
	x := impl.Table{Young: all[:len(was.Young)]}
	at := len(was.Young)
	for _, run := range was.Runs {
		runs = append(runs, all[at:at+len(run)])
		at += len(run)
	}
	// More runs stand in the room behind these.
	runs = append(runs, all[:1], all[1:2])
	x.Runs = runs[:4]
	for name, call := range tableCalls {
		for _, key := range []string{"A", "dd", "zz", "d", "b", "c", "z", ""} {
			answer := call(tableAsked{Table: x, Key: key, Value: "value"})
			wantSame(t, name, x, was)
			wantSame(t, name+": the array", all, slices.Concat(append([][]impl.Pair{was.Young}, was.Runs...)...))
			wantSame(t, name+": the room behind the runs", runs[4:6], [][]impl.Pair{was.Young[:1], was.Young[1:2]})
			wantSame(t, name, answer, call(tableAsked{Table: was, Key: key, Value: "value"}))
		}
	}
}
