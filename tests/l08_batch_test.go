package tests

import (
	"fmt"
	"hash/crc32"
	"maps"
	"slices"
	"strings"
	"testing"

	"loop.example/g00227/impl"
)

// fourBytes is a number as four bytes, the highest first.
func fourBytes(n int) string {
	return string([]byte{byte(n >> 24), byte(n >> 16), byte(n >> 8), byte(n)})
}

// pairBytes are the bytes of a pair, right or not, by the words of the document.
func pairBytes(p impl.Pair) string {
	key := string([]byte{byte(len(p.Key))}) + p.Key
	if p.Gone {
		return "\x01" + key
	}
	return "\x00" + key + fourBytes(len(p.Value)) + p.Value
}

// batchBytes are the bytes of a batch, right or not, by the words of the document.
func batchBytes(b []impl.Pair) string {
	var out strings.Builder
	out.WriteByte(byte(len(b)))
	for _, p := range b {
		out.WriteString(pairBytes(p))
	}
	return out.String()
}

// recordBytes are bytes with their sum and their length ahead, be they a batch or not.
func recordBytes(put string) string {
	sum := crc32.Checksum([]byte(put), crc32.MakeTable(crc32.Castagnoli))
	return fourBytes(int(sum)) + fourBytes(len(put)) + put
}

func someBatch() []impl.Pair {
	return []impl.Pair{pairOf("ann", "first"), goneOf("ben"), pairOf("cid", ""), pairOf("\x00\xff", "\x01\x00")}
}

// sizedBatch is a batch whose bytes are n, which is 1, or 10 and more.
func sizedBatch(n int) []impl.Pair {
	const ahead = 9
	var out []impl.Pair
	for left := n - 1; left > 0; {
		size := min(left, ahead+4000)
		// What is left must be a pair, or nothing.
		if rest := left - size; rest > 0 && rest < ahead {
			size -= ahead
		}
		out = append(out, pairOf(fmt.Sprintf("k%02d", len(out)), manyBytes(size-ahead)))
		left -= size
	}
	return out
}

// sizedLog is a log of whole records that has n bytes, which are 18 and more,
// and the batches of it.
func sizedLog(n int) (string, [][]impl.Pair) {
	const least = 18
	var log strings.Builder
	var list [][]impl.Pair
	for left := n; left > 0; {
		size := min(left, 80000)
		if rest := left - size; rest > 0 && rest < least {
			size -= least
		}
		b := sizedBatch(size - 8)
		log.WriteString(recordBytes(batchBytes(b)))
		list = append(list, b)
		left -= size
	}
	return log.String(), list
}

// logOf is the log of batches, and behind which byte each of its records ends.
func logOf(list [][]impl.Pair) (string, []int) {
	log := ""
	var ends []int
	for _, b := range list {
		log += recordBytes(batchBytes(b))
		ends = append(ends, len(log))
	}
	return log, ends
}

// someBatches have keys that are set, Gone and set again, and batches of none.
func someBatches() [][]impl.Pair {
	return [][]impl.Pair{
		someBatch(),
		{pairOf("ben", "back")},
		{},
		{goneOf("ann"), pairOf("dan", "x"), goneOf("dan"), pairOf("cid", "now")},
		{goneOf("eve")},
		{},
		{pairOf("ann", "again"), pairOf("ann", "at last")},
	}
}

// rightBatches are batches, by what is to be seen in them.
func rightBatches() map[string][]impl.Pair {
	full := manyPairs(60, 0)
	return map[string][]impl.Pair{
		"none":                       nil,
		"one pair":                   {pairOf("a", "v")},
		"a Gone pair":                {goneOf("a")},
		"a pair without a value":     {pairOf("a", "")},
		"one of each":                {pairOf("a", "v"), goneOf("b")},
		"Gone ahead":                 {goneOf("b"), pairOf("a", "v")},
		"some":                       someBatch(),
		"keys out of order":          {pairOf("c", "v"), pairOf("a", "v"), goneOf("b")},
		"one key twice":              {pairOf("a", "v"), pairOf("a", "w")},
		"one pair twice":             {pairOf("a", "v"), pairOf("a", "v")},
		"one key there and Gone":     {pairOf("a", "v"), goneOf("a"), goneOf("a"), pairOf("a", "")},
		"keys of 1 and 100 bytes":    {pairOf("k", "v"), pairOf(manyBytes(100), "v"), goneOf(manyBytes(100)), goneOf("k")},
		"values of 255 and 256":      {pairOf("a", manyBytes(255)), pairOf("b", manyBytes(256)), pairOf("c", manyBytes(257))},
		"values of 4000 bytes":       {pairOf("a", manyBytes(3999)), pairOf("b", manyBytes(4000)), goneOf("c")},
		"bytes that look like pairs": {pairOf("\x00\x01a", "\x01\x01b"), goneOf("\x01"), pairOf("\x00", "\x00\x00\x00\x00\x00")},
		"59 pairs":                   full[:59],
		"60 pairs":                   full,
		"60 Gone pairs":              allGone(full),
		"100000 bytes":               sizedBatch(100000),
		"the greatest of all":        slices.Repeat([]impl.Pair{pairOf(manyBytes(100), manyBytes(4000))}, 60),
	}
}

// wrongPairs are pairs that are none of a batch, by the reason why.
func wrongPairs() map[string]impl.Pair {
	return map[string]impl.Pair{
		"the zero value":               {},
		"a key of 0 bytes":             pairOf("", "v"),
		"a Gone key of 0 bytes":        goneOf(""),
		"a key of 101 bytes":           pairOf(manyBytes(101), "v"),
		"a Gone key of 101 bytes":      goneOf(manyBytes(101)),
		"a key of 255 bytes":           pairOf(manyBytes(255), "v"),
		"a key of 256 bytes":           pairOf(manyBytes(256), "v"),
		"a key of 257 bytes":           goneOf(manyBytes(257)),
		"a value of 4001 bytes":        pairOf("a", manyBytes(4001)),
		"a value of 100001 bytes":      pairOf("a", manyBytes(100001)),
		"Gone with a Value":            {Key: "a", Value: "v", Gone: true},
		"Gone with a Value of nought":  {Key: "a", Value: "\x00", Gone: true},
		"Gone with a Value of 4000":    {Key: "a", Value: manyBytes(4000), Gone: true},
		"neither key nor right value":  pairOf("", manyBytes(4001)),
		"Gone, with a Value, no key":   {Value: "v", Gone: true},
		"both the key and value wrong": pairOf(manyBytes(101), manyBytes(4001)),
	}
}

// wrongBatches are lists that are no batch, by the reason why.
func wrongBatches() map[string][]impl.Pair {
	out := map[string][]impl.Pair{
		"61 pairs":      manyPairs(61, 0),
		"61 Gone pairs": allGone(manyPairs(61, 0)),
		"256 pairs":     slices.Repeat(someBatch(), 64),
		"257 pairs":     append(slices.Repeat(someBatch(), 64), goneOf("a")),
	}
	for why, p := range wrongPairs() {
		out[why] = []impl.Pair{p}
		out[why+" as the first"] = []impl.Pair{p, pairOf("x", "v"), goneOf("y")}
		out[why+" between"] = []impl.Pair{pairOf("x", "v"), p, goneOf("y")}
		out[why+" as the last"] = []impl.Pair{pairOf("x", "v"), goneOf("y"), p}
		out[why+" as number 60"] = append(manyPairs(59, 0), p)
	}
	return out
}

// noBatchBytes are bytes of no batch, by the reason why.
func noBatchBytes() map[string]string {
	some := batchBytes(someBatch())
	return map[string]string{
		"nothing":                          "",
		"none with a byte behind":          "\x00\x00",
		"none with another byte behind":    "\x00x",
		"none with a pair behind":          "\x00" + pairBytes(goneOf("a")),
		"how many alone":                   "\x01",
		"how many of 61 alone":             "\x3d",
		"how many of 255 alone":            "\xff",
		"how many of 61 and 61 pairs":      batchBytes(manyPairs(61, 0)),
		"how many of 61 and 60 pairs":      "\x3d" + batchBytes(manyPairs(60, 0))[1:],
		"how many of 255 and 255 pairs":    batchBytes(slices.Repeat([]impl.Pair{goneOf("a")}, 255)),
		"how many of one less":             "\x03" + some[1:],
		"how many of one more":             "\x05" + some[1:],
		"Gone told by 2":                   "\x01\x02\x01a",
		"Gone told by 2, with a value":     "\x01\x02\x01a\x00\x00\x00\x01v",
		"Gone told by 255":                 "\x01\xff\x01a",
		"Gone told by the digit":           "\x011\x01a",
		"a later Gone told by 2":           "\x02\x01\x01a\x02\x01b",
		"Gone with a value":                "\x01\x01\x01a\x00\x00\x00\x01v",
		"Gone with an empty value":         "\x01\x01\x01a\x00\x00\x00\x00",
		"not Gone without a value":         "\x01\x00\x01a",
		"a key of no bytes":                batchBytes([]impl.Pair{pairOf("", "v")}),
		"a Gone key of no bytes":           batchBytes([]impl.Pair{goneOf("")}),
		"a key of 101 bytes":               batchBytes([]impl.Pair{pairOf(manyBytes(101), "v")}),
		"a Gone key of 101 bytes":          batchBytes([]impl.Pair{goneOf(manyBytes(101))}),
		"a later key of 101 bytes":         batchBytes([]impl.Pair{goneOf("a"), goneOf(manyBytes(101))}),
		"a key of 255 bytes":               batchBytes([]impl.Pair{goneOf(manyBytes(255))}),
		"a value of 4001 bytes":            batchBytes([]impl.Pair{pairOf("a", manyBytes(4001))}),
		"a later value of 4001 bytes":      batchBytes([]impl.Pair{goneOf("a"), pairOf("b", manyBytes(4001))}),
		"a value of 100000 bytes":          batchBytes([]impl.Pair{pairOf("a", manyBytes(100000))}),
		"a value of 100001 bytes":          batchBytes([]impl.Pair{pairOf("a", manyBytes(100001))}),
		"a Gone key that reaches 1 far":    "\x01\x01\x03ab",
		"a Gone key that reaches 2 far":    "\x01\x01\x04ab",
		"a Gone key that reaches very far": "\x01\x01\x64ab",
		"a Gone key of 255 that has 2":     "\x01\x01\xffab",
		"a key that takes all behind it":   "\x01\x00\x05a\x00\x00\x00\x01",
		"a key that reaches 1 far":         "\x01\x00\x06a\x00\x00\x00\x01",
		"a key that reaches very far":      "\x01\x00\x64a\x00\x00\x00\x01v",
		"a key of 255 that has 6":          "\x01\x00\xffa\x00\x00\x00\x01v",
		"a value that reaches 1 far":       "\x01\x00\x01a\x00\x00\x00\x03vw",
		"a value that reaches 2 far":       "\x01\x00\x01a\x00\x00\x00\x04vw",
		"a value of 256 that has 2":        "\x01\x00\x01a\x00\x00\x01\x00vw",
		"a value of 4000 that has 2":       "\x01\x00\x01a\x00\x00\x0f\xa0vw",
		"a value of 65536 that has 2":      "\x01\x00\x01a\x00\x01\x00\x00vw",
		"a value of 16777217 that has 1":   "\x01\x00\x01a\x01\x00\x00\x01v",
		"a value of 2^31 - 1 that has 2":   "\x01\x00\x01a\x7f\xff\xff\xffvw",
		"a value of 2^31 that has 2":       "\x01\x00\x01a\x80\x00\x00\x00vw",
		"a value of 2^32 - 1 that has 2":   "\x01\x00\x01a\xff\xff\xff\xffvw",
		"a value of 2^31 + 1 that has 1":   "\x01\x00\x01a\x80\x00\x00\x01v",
		"a later value that reaches far":   "\x02\x00\x01a\x00\x00\x00\x01v\x00\x01b\x00\x00\x00\x02w",
		"a length of three bytes":          "\x01\x00\x01a\x00\x00\x00",
		"a length the lowest byte first":   "\x01\x00\x01a\x01\x00\x00\x00v",
		"a byte more behind":               some + "\x00",
		"a pair more behind":               some + pairBytes(goneOf("a")),
		"the batch twice":                  some + some,
		"a byte more ahead":                "\x00" + some,
		"a text":                           "no batch at all",
		"the record in its place":          recordBytes(some),
	}
}

// batchBy is the batch of bytes, by the words of the document.
func batchBy(s string) ([]impl.Pair, bool) {
	if s == "" || s[0] > 60 {
		return nil, false
	}
	n, s := int(s[0]), s[1:]
	var out []impl.Pair
	for range n {
		if len(s) < 2 || s[0] > 1 || s[1] < 1 || s[1] > 100 || len(s) < 2+int(s[1]) {
			return nil, false
		}
		p := impl.Pair{Key: s[2 : 2+s[1]], Gone: s[0] == 1}
		s = s[2+len(p.Key):]
		if !p.Gone {
			if len(s) < 4 {
				return nil, false
			}
			size := int(s[0])<<24 + int(s[1])<<16 + int(s[2])<<8 + int(s[3])
			if size > 4000 || size > len(s)-4 {
				return nil, false
			}
			p.Value, s = s[4:4+size], s[4+size:]
		}
		out = append(out, p)
	}
	return out, s == ""
}

// leftBy is what batches leave, by the words of the document.
func leftBy(list [][]impl.Pair) []impl.Pair {
	there := map[string]impl.Pair{}
	for _, b := range list {
		for _, p := range b {
			if p.Gone {
				delete(there, p.Key)
			} else {
				there[p.Key] = p
			}
		}
	}
	var out []impl.Pair
	for _, key := range slices.Sorted(maps.Keys(there)) {
		out = append(out, there[key])
	}
	return out
}

func wantBatch(t *testing.T, why string, s string, want []impl.Pair) {
	t.Helper()
	got, ok := impl.GetBatch(s)
	if !ok {
		t.Errorf("%s: GetBatch finds none", why)
	}
	wantSame(t, why+": GetBatch", got, want)
}

func wantNoBatch(t *testing.T, why string, s string) {
	t.Helper()
	if got, ok := impl.GetBatch(s); len(got) != 0 || ok {
		t.Errorf("%s: GetBatch = %#v, %v; want nothing and false", why, got, ok)
	}
}

// wantRecords wants these batches of a log, its end, and what is left of them.
func wantRecords(t *testing.T, why string, log string, want [][]impl.Pair, end int) {
	t.Helper()
	got, behind := impl.Records(log)
	if behind != end {
		t.Errorf("%s: Records end at %d; want %d", why, behind, end)
	}
	if !same(got, want) {
		t.Errorf("%s: Records are %d; want these %d: %.300s", why, len(got), len(want), fmt.Sprintf("%#v", want))
	}
	wantSame(t, why+": Replay", impl.Replay(log), leftBy(want))
}

func TestBatchConstants(t *testing.T) {
	if impl.MaxBatch != 60 || impl.MaxLog != 200000 {
		t.Error("MaxBatch, MaxLog", impl.MaxBatch, impl.MaxLog)
	}
}

func TestBatchOk(t *testing.T) {
	wantRight(t, "no pairs", impl.BatchOk, []impl.Pair{}, true)
	for why, b := range rightBatches() {
		wantRight(t, why, impl.BatchOk, b, true)
	}
	for why, b := range wrongBatches() {
		wantRight(t, why, impl.BatchOk, b, false)
	}
	for n := range 64 {
		wantRight(t, fmt.Sprintf("%d pairs", n), impl.BatchOk, manyPairs(n, 0), n <= 60)
		wantRight(t, fmt.Sprintf("%d Gone pairs", n), impl.BatchOk, allGone(manyPairs(n, 0)), n <= 60)
	}
}

func TestBatchOkSizes(t *testing.T) {
	for i := range 3 {
		list := []impl.Pair{pairOf("c", "v"), goneOf("b"), pairOf("a", "v")}
		for _, n := range []int{0, 1, 2, 99, 100, 101, 102, 255, 256, 257, 356} {
			list[i] = pairOf(manyBytes(n), "v")
			wantRight(t, fmt.Sprintf("key %d of %d bytes", i, n), impl.BatchOk, list, n >= 1 && n <= 100)
			list[i] = goneOf(manyBytes(n))
			wantRight(t, fmt.Sprintf("Gone key %d of %d bytes", i, n), impl.BatchOk, list, n >= 1 && n <= 100)
		}
		for _, n := range []int{0, 1, 255, 256, 3999, 4000, 4001, 4002, 65536, 100000, 100001} {
			list[i] = pairOf("x", manyBytes(n))
			wantRight(t, fmt.Sprintf("value %d of %d bytes", i, n), impl.BatchOk, list, n <= 4000)
			list[i].Gone = true
			wantRight(t, fmt.Sprintf("Gone value %d of %d bytes", i, n), impl.BatchOk, list, n == 0)
		}
	}
}

func TestPutBatch(t *testing.T) {
	for _, r := range []struct {
		b    []impl.Pair
		want string
	}{
		{nil, "\x00"},
		{[]impl.Pair{}, "\x00"},
		{[]impl.Pair{goneOf("a")}, "\x01\x01\x01a"},
		{[]impl.Pair{pairOf("a", "")}, "\x01\x00\x01a\x00\x00\x00\x00"},
		{[]impl.Pair{pairOf("ab", "xyz")}, "\x01\x00\x02ab\x00\x00\x00\x03xyz"},
		{[]impl.Pair{goneOf("b"), pairOf("a", "v"), goneOf("b")}, "\x03\x01\x01b\x00\x01a\x00\x00\x00\x01v\x01\x01b"},
		{[]impl.Pair{pairOf("a", manyBytes(255))}, "\x01\x00\x01a\x00\x00\x00\xff" + manyBytes(255)},
		{[]impl.Pair{pairOf("a", manyBytes(256))}, "\x01\x00\x01a\x00\x00\x01\x00" + manyBytes(256)},
		{[]impl.Pair{pairOf(manyBytes(100), manyBytes(4000))}, "\x01\x00\x64" + manyBytes(100) + "\x00\x00\x0f\xa0" + manyBytes(4000)},
		{slices.Repeat([]impl.Pair{goneOf("\xff")}, 60), "\x3c" + strings.Repeat("\x01\x01\xff", 60)},
	} {
		wantSame(t, fmt.Sprintf("PutBatch(%.100s)", fmt.Sprintf("%#v", r.b)), impl.PutBatch(r.b), r.want)
	}
	for why, b := range rightBatches() {
		wantSame(t, why+": PutBatch", impl.PutBatch(b), batchBytes(b))
	}
	for why, b := range wrongBatches() {
		wantSame(t, why+": PutBatch", impl.PutBatch(b), "")
	}
}

func TestGetBatch(t *testing.T) {
	for why, b := range rightBatches() {
		s := batchBytes(b)
		wantBatch(t, why, s, b)
		wantBatch(t, why+", of PutBatch", impl.PutBatch(b), b)
		wantNoBatch(t, why+" and a byte more", s+"\x00")
		wantNoBatch(t, why+" and another byte more", s+"\x01")
		wantNoBatch(t, why+" and itself", s+s)
	}
	for why, s := range noBatchBytes() {
		wantNoBatch(t, why, s)
	}
	for why, b := range wrongBatches() {
		// A Gone pair has no value in its bytes, so a wrong one leaves none there.
		if !slices.ContainsFunc(b, func(p impl.Pair) bool { return p.Gone && p.Value != "" || len(p.Key) > 255 }) && len(b) < 256 {
			wantNoBatch(t, why, batchBytes(b))
		}
	}
}

func TestGetBatchHowMany(t *testing.T) {
	pair := pairBytes(goneOf("a"))
	for n := range 256 {
		s := string([]byte{byte(n)}) + strings.Repeat(pair, n)
		if n <= 60 {
			wantBatch(t, fmt.Sprintf("%d pairs", n), s, slices.Repeat([]impl.Pair{goneOf("a")}, n))
		} else {
			wantNoBatch(t, fmt.Sprintf("%d pairs", n), s)
		}
		wantNoBatch(t, fmt.Sprintf("%d pairs and one more", n), s+pair)
		if n > 0 {
			wantNoBatch(t, fmt.Sprintf("%d pairs less one", n), s[:len(s)-len(pair)])
		}
	}
}

func TestGetBatchCutOff(t *testing.T) {
	for why, b := range rightBatches() {
		s := batchBytes(b)
		// The greatest have too many places for each to be tried.
		step := 1
		if len(s) > 20000 {
			step = 97
		}
		for cut := 0; cut < len(s); cut += step {
			wantNoBatch(t, fmt.Sprintf("%s cut off at %d of %d", why, cut, len(s)), s[:cut])
		}
		wantNoBatch(t, why+" less a byte", s[:len(s)-1])
	}
}

// TestGetBatchNoOtherBytes changes each byte to each other one: what comes out,
// if something does, has just these bytes.
func TestGetBatchNoOtherBytes(t *testing.T) {
	for _, b := range [][]impl.Pair{nil, {goneOf("a")}, {pairOf("a", "")}, someBatch(), {goneOf("ab"), goneOf("\x01\x01\x01"), pairOf("\x00\x00", "\x00\x01a\x00")}} {
		s := []byte(batchBytes(b))
		for i, was := range s {
			for n := range 256 {
				s[i] = byte(n)
				want, right := batchBy(string(s))
				if !right {
					wantNoBatch(t, fmt.Sprintf("%q", s), string(s))
					continue
				}
				wantBatch(t, fmt.Sprintf("%q", s), string(s), want)
				wantSame(t, "PutBatch of it", impl.PutBatch(want), string(s))
				if byte(n) != was && same(want, b) {
					t.Errorf("%q and %q are one batch", s, batchBytes(b))
				}
			}
			s[i] = was
		}
	}
}

// TestGetBatchOfAllShort tries all texts of some bytes up to eight of them.
func TestGetBatchOfAllShort(t *testing.T) {
	found := map[string]int{}
	var try func(s string)
	try = func(s string) {
		want, right := batchBy(s)
		got, ok := impl.GetBatch(s)
		if ok != right || right && !same(got, want) || !right && len(got) != 0 {
			t.Fatalf("GetBatch(%q) = %#v, %v; want %#v, %v", s, got, ok, want, right)
		}
		if right {
			wantSame(t, "PutBatch of GetBatch", impl.PutBatch(got), s)
			key := fmt.Sprintf("%#v", got)
			if found[key]++; found[key] > 1 {
				t.Fatalf("%s comes from %q too", key, s)
			}
		}
		if len(s) < 8 {
			for _, more := range []string{"\x00", "\x01", "\x02", "a"} {
				try(s + more)
			}
		}
	}
	try("")
	if len(found) < 50 {
		t.Errorf("only %d batches were found", len(found))
	}
}

func TestGetBatchOfAnyBytes(t *testing.T) {
	roll := diceOf(8)
	right := 0
	for range 60000 {
		s := []byte(batchBytes(someBatch()[:roll(5)]))
		for range roll(4) {
			switch i := roll(len(s) + 1); roll(3) {
			case 0:
				s = slices.Insert(s, i, byte(roll(256)))
			case 1:
				s = slices.Delete(s, i, min(len(s), i+1+roll(3)))
			default:
				s = append(s[:i:i], byte(roll(3)))
			}
		}
		want, ok := batchBy(string(s))
		if !ok {
			wantNoBatch(t, fmt.Sprintf("%q", s), string(s))
			continue
		}
		right++
		wantBatch(t, fmt.Sprintf("%q", s), string(s), want)
	}
	if right < 5000 {
		t.Errorf("only %d were right", right)
	}
}

func TestRecord(t *testing.T) {
	for _, r := range []struct {
		b    []impl.Pair
		want string
	}{
		{nil, "\x52\x7d\x53\x51\x00\x00\x00\x01\x00"},
		{[]impl.Pair{goneOf("a")}, recordBytes("\x01\x01\x01a")},
		{[]impl.Pair{pairOf("a", "v")}, recordBytes("\x01\x00\x01a\x00\x00\x00\x01v")},
		{slices.Repeat([]impl.Pair{goneOf("b")}, 60), recordBytes("\x3c" + strings.Repeat("\x01\x01b", 60))},
	} {
		wantSame(t, fmt.Sprintf("Record(%.100s)", fmt.Sprintf("%#v", r.b)), impl.Record(r.b), r.want)
	}
	for why, b := range rightBatches() {
		put := batchBytes(b)
		if len(put) > 100000 {
			continue
		}
		got := impl.Record(b)
		wantSame(t, why+": Record", got, recordBytes(put))
		wantSame(t, why+": its sum", got[:4], fourBytes(int(sumByBits(put))))
		wantSame(t, why+": its length", got[4:8], fourBytes(len(put)))
		wantSame(t, why+": what is behind", got[8:], put)
	}
	for why, b := range wrongBatches() {
		wantSame(t, why+": Record", impl.Record(b), "")
	}
}

// A long text has at most 100000 bytes, but a batch may have more.
func TestRecordOfLongBatches(t *testing.T) {
	for _, n := range []int{99999, 100000, 100001, 100002, 131072, 200000, 240000} {
		b := sizedBatch(n)
		wantRight(t, fmt.Sprintf("%d bytes", n), impl.BatchOk, b, true)
		put := impl.PutBatch(b)
		if len(put) != n {
			t.Fatalf("%d bytes are %d", n, len(put))
		}
		wantBatch(t, fmt.Sprintf("%d bytes", n), put, b)
		want := ""
		if n <= 100000 {
			want = recordBytes(put)
		}
		if got := impl.Record(b); got != want {
			t.Errorf("Record of %d bytes has %d bytes; want %d", n, len(got), len(want))
		}
		log, ok := impl.Append("log", b)
		if ok != (want != "") || log != "log"+want {
			t.Errorf("Append of %d bytes: %d bytes, %v", n, len(log), ok)
		}
		// Bytes with a right sum that no Record has.
		if n > 100000 && n < 199000 {
			wantRecords(t, fmt.Sprintf("%d bytes", n), recordBytes(put), nil, 0)
			one := recordBytes(batchBytes(someBatch()))
			wantRecords(t, fmt.Sprintf("%d bytes behind one", n), one+recordBytes(put), [][]impl.Pair{someBatch()}, len(one))
		}
	}
}

func TestRecords(t *testing.T) {
	wantRecords(t, "the empty log", "", nil, 0)
	for why, b := range rightBatches() {
		put := batchBytes(b)
		if len(put) > 100000 {
			continue
		}
		log := recordBytes(put)
		wantRecords(t, why, log, [][]impl.Pair{b}, len(log))
		if len(log) < 20000 {
			wantRecords(t, why+" three times", strings.Repeat(log, 3), [][]impl.Pair{b, b, b}, 3*len(log))
			some, _ := logOf(someBatches())
			wantRecords(t, why+" behind some", some+log, append(someBatches(), b), len(some)+len(log))
		}
	}
	all := someBatches()
	for n := range len(all) + 1 {
		log, _ := logOf(all[:n])
		wantRecords(t, fmt.Sprintf("%d records", n), log, all[:n], len(log))
	}
	wantRecords(t, "a batch of none", "\x52\x7d\x53\x51\x00\x00\x00\x01\x00", [][]impl.Pair{nil}, 9)
}

func TestRecordsCutOff(t *testing.T) {
	all := someBatches()
	log, ends := logOf(all)
	for cut := range len(log) + 1 {
		whole, end := 0, 0
		for whole < len(ends) && ends[whole] <= cut {
			end = ends[whole]
			whole++
		}
		wantRecords(t, fmt.Sprintf("cut off at %d", cut), log[:cut], all[:whole], end)
	}
}

func TestRecordsOneByteChanged(t *testing.T) {
	all := someBatches()
	log, ends := logOf(all)
	whole, end := 0, 0
	for i := range len(log) {
		if i == ends[whole] {
			end = ends[whole]
			whole++
		}
		for _, turn := range []byte{1, 2, 4, 8, 16, 32, 64, 128, 255} {
			other := []byte(log)
			other[i] ^= turn
			wantRecords(t, fmt.Sprintf("byte %d of record %d by %d", i-end, whole, turn), string(other), all[:whole], end)
		}
	}
}

func TestRecordsBytesBehind(t *testing.T) {
	for n := range len(someBatches()) + 1 {
		list := someBatches()[:n]
		log, _ := logOf(list)
		for _, behind := range []string{
			"x", "xx", "\x00", "\x00\x00\x00\x00", strings.Repeat("\x00", 8), strings.Repeat("\x00", 9), strings.Repeat("\xff", 50), "\x52\x7d\x53\x51\x00\x00\x00\x01",
			"\x52\x7d\x53\x51\x00\x00\x00\x02\x00", "\x51\x53\x7d\x52\x01\x00\x00\x00\x00", batchBytes(someBatch()), manyBytes(1000),
		} {
			wantRecords(t, fmt.Sprintf("%d records and %.20q", n, behind), log+behind, list, len(log))
			// A right record behind bytes that are none is not found any more.
			wantRecords(t, fmt.Sprintf("%d records, %.20q and one", n, behind), log+behind+recordBytes("\x01\x01\x01a"), list, len(log))
		}
	}
}

func TestRecordsLengths(t *testing.T) {
	put := batchBytes(someBatch())
	sum := recordBytes(put)[:4]
	for n := range 3 {
		list := someBatches()[:n]
		log, _ := logOf(list)
		for _, length := range []int{len(put) + 1, len(put) + 2, len(put) + 256, 99999, 100000, 100001, 200000, 1 << 24, 1<<31 - 1, 1 << 31, 1<<31 + len(put), 1<<32 - 1, len(put) - 1, 1, 0} {
			wantRecords(t, fmt.Sprintf("a length of %d behind %d", length, n), log+sum+fourBytes(length)+put, list, len(log))
		}
		wantRecords(t, "a length of none", log+sum+fourBytes(len(put)), list, len(log))
		wantRecords(t, "the right length", log+sum+fourBytes(len(put))+put, append(slices.Clone(list), someBatch()), len(log)+8+len(put))
	}
}

func TestRecordsOfNoBatch(t *testing.T) {
	for why, put := range noBatchBytes() {
		wrong := recordBytes(put)
		for n := range 3 {
			list := someBatches()[:n]
			log, _ := logOf(list)
			wantRecords(t, fmt.Sprintf("%s behind %d records", why, n), log+wrong, list, len(log))
			if len(wrong) < 100000 {
				wantRecords(t, fmt.Sprintf("%s between %d records and one", why, n), log+wrong+recordBytes("\x00"), list, len(log))
			}
		}
	}
}

func TestRecordsMaxLog(t *testing.T) {
	for _, n := range []int{18, 19, 100, 80000, 80001, 199998, 199999, 200000} {
		log, list := sizedLog(n)
		if len(log) != n {
			t.Fatalf("a log of %d bytes has %d", n, len(log))
		}
		wantRecords(t, fmt.Sprintf("%d bytes", n), log, list, n)
	}
	log, list := sizedLog(199999)
	wantRecords(t, "199999 bytes and one", log+"x", list, 199999)
	wantRecords(t, "199999 bytes and two", log+"xx", nil, 0)
	log, list = sizedLog(200000)
	wantRecords(t, "200000 bytes and one", log+"x", nil, 0)
	wantRecords(t, "200000 bytes less one", log[:199999], list[:len(list)-1], 8+len(batchBytes(list[0]))+8+len(batchBytes(list[1])))
	for _, n := range []int{200001, 200009, 250000} {
		log, _ := sizedLog(n)
		wantRecords(t, fmt.Sprintf("%d bytes of whole records", n), log, nil, 0)
	}
	none := recordBytes("\x00")
	wantRecords(t, "22222 batches of none and two bytes", strings.Repeat(none, 22222)+"xx", make([][]impl.Pair, 22222), 199998)
	wantRecords(t, "22223 batches of none", strings.Repeat(none, 22223), nil, 0)
	wantRecords(t, "200000 noughts", strings.Repeat("\x00", 200000), nil, 0)
	wantRecords(t, "200001 noughts", strings.Repeat("\x00", 200001), nil, 0)
}

func wantAppended(t *testing.T, why string, log string, b []impl.Pair) {
	t.Helper()
	got, ok := impl.Append(log, b)
	if want := log + recordBytes(batchBytes(b)); got != want || !ok {
		t.Errorf("%s: Append = %.200q of %d bytes, %v; want %.200q of %d bytes", why, got, len(got), ok, want, len(want))
	}
}

func wantNotAppended(t *testing.T, why string, log string, b []impl.Pair) {
	t.Helper()
	if got, ok := impl.Append(log, b); got != log || ok {
		t.Errorf("%s: Append = %.200q of %d bytes, %v; want the log of %d bytes and false", why, got, len(got), ok, len(log))
	}
}

func TestAppend(t *testing.T) {
	some, _ := logOf(someBatches())
	logs := map[string]string{
		"the empty log": "", "some records": some, "a batch of none": recordBytes("\x00"), "a byte of no record": "x",
		"bytes of no record": manyBytes(500), "records and bytes of none": some + "xyz", "records cut off": some[:len(some)-1],
	}
	for where, log := range logs {
		for why, b := range rightBatches() {
			if len(batchBytes(b)) <= 100000 {
				wantAppended(t, why+" to "+where, log, b)
			} else {
				wantNotAppended(t, why+" to "+where, log, b)
			}
		}
		for why, b := range wrongBatches() {
			wantNotAppended(t, why+" to "+where, log, b)
		}
	}
	log := ""
	for _, b := range someBatches() {
		log, _ = impl.Append(log, b)
	}
	wantSame(t, "a log by Append", log, some)
	// Behind bytes that are no record nothing is found.
	log, _ = impl.Append("xyz", someBatch())
	wantRecords(t, "behind bytes of no record", log, nil, 0)
}

func TestAppendMaxLog(t *testing.T) {
	for why, b := range rightBatches() {
		size := 8 + len(batchBytes(b))
		if size > 100008 {
			continue
		}
		for _, less := range []int{0, 1, 2} {
			log, _ := sizedLog(200000 - size - less)
			wantAppended(t, fmt.Sprintf("%s up to %d bytes", why, 200000-less), log, b)
			wantAppended(t, fmt.Sprintf("%s up to %d bytes of no record", why, 200000-less), strings.Repeat("x", 200000-size-less), b)
		}
		for _, more := range []int{1, 2, size, 100000} {
			log, _ := sizedLog(200000 - size + more)
			wantNotAppended(t, fmt.Sprintf("%s up to %d bytes", why, 200000+more), log, b)
			wantNotAppended(t, fmt.Sprintf("%s up to %d bytes of no record", why, 200000+more), strings.Repeat("x", 200000-size+more), b)
		}
	}
	log, list := sizedLog(200000 - 9)
	wantAppended(t, "a batch of none up to 200000 bytes", log, nil)
	wantRecords(t, "200000 bytes by Append", log+recordBytes("\x00"), append(list, nil), 200000)
	for _, n := range []int{199992, 200000, 200001, 300000} {
		wantNotAppended(t, fmt.Sprintf("a batch of none to %d bytes", n), strings.Repeat("x", n), nil)
		wantNotAppended(t, fmt.Sprintf("no batch to %d bytes", n), strings.Repeat("x", n), []impl.Pair{{}})
	}
}

func TestReplay(t *testing.T) {
	for _, r := range []struct {
		why  string
		list [][]impl.Pair
		want []impl.Pair
	}{
		{"the empty log", nil, nil},
		{"a batch of none", [][]impl.Pair{nil}, nil},
		{"one pair", [][]impl.Pair{{pairOf("a", "v")}}, []impl.Pair{pairOf("a", "v")}},
		{"one without a value", [][]impl.Pair{{pairOf("a", "")}}, []impl.Pair{pairOf("a", "")}},
		{"set twice in one", [][]impl.Pair{{pairOf("a", "z"), pairOf("a", "b")}}, []impl.Pair{pairOf("a", "b")}},
		{"set twice in two", [][]impl.Pair{{pairOf("a", "z")}, {pairOf("a", "b")}}, []impl.Pair{pairOf("a", "b")}},
		{"set to nothing", [][]impl.Pair{{pairOf("a", "z")}, {pairOf("a", "")}}, []impl.Pair{pairOf("a", "")}},
		{"set and Gone in one", [][]impl.Pair{{pairOf("a", "v"), goneOf("a")}}, nil},
		{"set and Gone in two", [][]impl.Pair{{pairOf("a", "v")}, {goneOf("a")}}, nil},
		{"Gone and set in one", [][]impl.Pair{{goneOf("a"), pairOf("a", "v")}}, []impl.Pair{pairOf("a", "v")}},
		{"Gone and set in two", [][]impl.Pair{{goneOf("a")}, {pairOf("a", "v")}}, []impl.Pair{pairOf("a", "v")}},
		{"set, Gone and set in one", [][]impl.Pair{{pairOf("a", "v"), goneOf("a"), pairOf("a", "w")}}, []impl.Pair{pairOf("a", "w")}},
		{"set, Gone and set in three", [][]impl.Pair{{pairOf("a", "v")}, {goneOf("a")}, {pairOf("a", "w")}}, []impl.Pair{pairOf("a", "w")}},
		{"set, and Gone twice", [][]impl.Pair{{pairOf("a", "v"), goneOf("a")}, {goneOf("a")}}, nil},
		{"never set and Gone", [][]impl.Pair{{goneOf("a")}}, nil},
		{"another Gone", [][]impl.Pair{{pairOf("a", "v")}, {goneOf("b"), goneOf("aa"), goneOf("A")}}, []impl.Pair{pairOf("a", "v")}},
		{"out of order in one", [][]impl.Pair{{pairOf("c", "1"), pairOf("a", "2"), pairOf("b", "3")}}, []impl.Pair{pairOf("a", "2"), pairOf("b", "3"), pairOf("c", "1")}},
		{"out of order in three", [][]impl.Pair{{pairOf("c", "1")}, {pairOf("a", "2")}, {pairOf("b", "3")}}, []impl.Pair{pairOf("a", "2"), pairOf("b", "3"), pairOf("c", "1")}},
		{"order of bytes", [][]impl.Pair{{pairOf("\xff", "1"), pairOf("a", "2"), pairOf("B", "3"), pairOf("aa", "4"), pairOf("\x00", "5"), pairOf("a\x00", "6")}},
			[]impl.Pair{pairOf("\x00", "5"), pairOf("B", "3"), pairOf("a", "2"), pairOf("a\x00", "6"), pairOf("aa", "4"), pairOf("\xff", "1")}},
		{"some", someBatches(), []impl.Pair{pairOf("\x00\xff", "\x01\x00"), pairOf("ann", "at last"), pairOf("ben", "back"), pairOf("cid", "now")}},
	} {
		log, _ := logOf(r.list)
		wantSame(t, r.why+": Replay", impl.Replay(log), r.want)
		wantSame(t, r.why+", bytes behind: Replay", impl.Replay(log+"x"), r.want)
		long := log + strings.Repeat("x", 200000-len(log))
		wantSame(t, r.why+", bytes up to 200000: Replay", impl.Replay(long), r.want)
		wantSame(t, r.why+", bytes up to 200001: Replay", impl.Replay(long+"x"), nil)
	}
	for _, n := range []int{200001, 250000} {
		log, _ := sizedLog(n)
		wantSame(t, fmt.Sprintf("Replay of %d bytes", n), impl.Replay(log), nil)
	}
}

// More keys than a table may have in one run, each set anew and some Gone.
func TestReplayOfManyKeys(t *testing.T) {
	var list [][]impl.Pair
	size := 0
	roll := diceOf(21)
	for {
		var b []impl.Pair
		for range 1 + roll(60) {
			key := fmt.Sprintf("%04x", roll(9000))
			if roll(4) == 0 {
				b = append(b, goneOf(key))
			} else {
				b = append(b, pairOf(key, fmt.Sprint(len(list))))
			}
		}
		if size += len(recordBytes(batchBytes(b))); size > 200000 {
			break
		}
		list = append(list, b)
	}
	log, _ := logOf(list)
	wantRecords(t, "many keys", log, list, len(log))
	if n := len(impl.Replay(log)); n < 1000 {
		t.Errorf("only %d keys are left", n)
	}
}

// TestBatchByPromise writes batches at random: each comes back from its record,
// and of the log that is cut off anywhere the whole records ahead are left.
func TestBatchByPromise(t *testing.T) {
	roll := diceOf(5)
	for range 60 {
		var list [][]impl.Pair
		log, ends := "", []int{0}
		for range roll(7) {
			var b []impl.Pair
			for range roll(8) {
				p := impl.Pair{Key: manyBytes(300)[roll(200):][:1+roll(4)], Gone: roll(3) == 0}
				if !p.Gone {
					p.Value = manyBytes(300)[roll(200):][:roll(20)]
				}
				b = append(b, p)
			}
			next, ok := impl.Append(log, b)
			if !ok || next != log+impl.Record(b) {
				t.Fatalf("Append(%q, %#v) = %q, %v", log, b, next, ok)
			}
			wantBatch(t, "a batch", impl.PutBatch(b), b)
			wantRecords(t, "a record", impl.Record(b), [][]impl.Pair{b}, len(next)-len(log))
			log = next
			list = append(list, b)
			ends = append(ends, len(log))
		}
		for cut := range len(log) + 1 {
			whole, there := slices.BinarySearch(ends, cut)
			if !there {
				whole--
			}
			wantRecords(t, "a log cut off", log[:cut], list[:whole], ends[whole])
			if cut > ends[whole] {
				other := log[:cut-1] + string([]byte{log[cut-1] + byte(1+roll(255))}) + log[cut:]
				wantRecords(t, "a byte changed", other, list[:whole], ends[whole])
			}
		}
		if t.Failed() {
			t.FailNow()
		}
	}
}

// batchAsked is a log and a batch that are handed in together.
type batchAsked struct {
	Log   string
	Batch []impl.Pair
}

func TestBatchMemory(t *testing.T) {
	calls := map[string]func(x batchAsked) []any{
		"BatchOk":  func(x batchAsked) []any { return []any{impl.BatchOk(x.Batch)} },
		"PutBatch": func(x batchAsked) []any { return []any{impl.PutBatch(x.Batch)} },
		"GetBatch": func(x batchAsked) []any { b, ok := impl.GetBatch(x.Log); return []any{b, ok} },
		"Record":   func(x batchAsked) []any { return []any{impl.Record(x.Batch)} },
		"Records":  func(x batchAsked) []any { list, end := impl.Records(x.Log); return []any{list, end} },
		"Append":   func(x batchAsked) []any { log, ok := impl.Append(x.Log, x.Batch); return []any{log, ok} },
		"Replay":   func(x batchAsked) []any { return []any{impl.Replay(x.Log)} },
	}
	some, _ := logOf(someBatches())
	many, _ := logOf([][]impl.Pair{manyPairs(60, 0), manyPairs(60, 1), manyPairs(60, 0), allGone(manyPairs(30, 1))})
	logs := []string{"", "x", "\x00", batchBytes(nil), batchBytes(someBatch()), batchBytes(manyPairs(60, 0)), recordBytes("\x00"), some, some + "xyz", some[:len(some)-1], many, strings.Repeat("x", 200000), strings.Repeat("x", 200001)}
	batches := [][]impl.Pair{nil, {goneOf("a")}, {pairOf("a", "")}, someBatch(), manyPairs(60, 0), manyPairs(61, 0), {{}}, {{Key: "a", Value: "v", Gone: true}}, {pairOf("b", "v"), pairOf("", "v")}}
	for name, call := range calls {
		for _, log := range logs {
			for i, b := range batches {
				wantApart(t, fmt.Sprintf("%s of %.30q and batch %d", name, log, i), batchAsked{Log: log, Batch: b}, call)
			}
		}
	}
}

// TestBatchKeepsNothing asks twice and changes what was answered between.
func TestBatchKeepsNothing(t *testing.T) {
	log, _ := logOf(someBatches())
	put := batchBytes(someBatch())
	for range 2 {
		wantBatch(t, "a batch asked for again", put, someBatch())
		wantRecords(t, "a log asked for again", log, someBatches(), len(log))
		b, _ := impl.GetBatch(put)
		clear(b[:cap(b)])
		list, _ := impl.Records(log)
		for _, b := range list {
			clear(b[:cap(b)])
		}
		left := impl.Replay(log)
		clear(left[:cap(left)])
	}
}
