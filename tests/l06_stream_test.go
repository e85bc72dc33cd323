package tests

import (
	"fmt"
	"math"
	"slices"
	"strings"
	"testing"

	"loop.example/g00227/impl"
)

// noTimes are numbers that are no Time.
var noTimes = []int{math.MinInt, -billion, -1, billion + 1, billion + 2, 4294967296, math.MaxInt}

// keptStream is s in lists of its own, to be changed.
func keptStream(s impl.Stream) impl.Stream {
	s.Entries = slices.Clone(s.Entries)
	s.Marks = slices.Clone(s.Marks)
	return s
}

func entryOf(offset int, time int) impl.Entry {
	return impl.Entry{Offset: offset, Time: time, Body: fmt.Sprintf("body %d", offset)}
}

// entriesAt are entries from an offset on, one for each time.
func entriesAt(low int, times ...int) []impl.Entry {
	var out []impl.Entry
	for i, time := range times {
		out = append(out, entryOf(low+i, time))
	}
	return out
}

// streamOf is a stream with entries from low on, one for each time, without marks.
func streamOf(low int, times ...int) impl.Stream {
	return impl.Stream{Name: "s", Low: low, Next: low + len(times), Entries: entriesAt(low, times...)}
}

// someStream has the offsets 5 .. 12 and marks, one of them behind what is trimmed.
func someStream() impl.Stream {
	s := streamOf(5, 10, 20, 20, 20, 30, 45, 45, 60)
	s.Name = "some"
	s.Marks = []impl.Mark{{Reader: "ben", Offset: 7}, {Reader: "cat", Offset: 0}, {Reader: "eve", Offset: 13}}
	return s
}

// trimmedStream has no entries any more.
func trimmedStream() impl.Stream {
	return impl.Stream{Name: "old", Low: 9, Next: 9, Marks: []impl.Mark{{Reader: "ann", Offset: 9}, {Reader: "ben", Offset: 2}}}
}

// manyEntries are n entries from low on, each of its own time.
func manyEntries(low int, n int) []impl.Entry {
	var out []impl.Entry
	for i := range n {
		out = append(out, impl.Entry{Offset: low + i, Time: 3 * i})
	}
	return out
}

func manyMarks(n int) []impl.Mark {
	var out []impl.Mark
	for i := range n {
		out = append(out, impl.Mark{Reader: fmt.Sprintf("r%02d", 2*i+1), Offset: i % 3})
	}
	return out
}

// wrongStreams are streams that are not StreamOk, by the reason why.
func wrongStreams() map[string]impl.Stream {
	out := map[string]impl.Stream{
		"nothing":               {},
		"401 entries":           {Name: "s", Next: 401, Entries: manyEntries(0, 401)},
		"401 entries from 7 on": {Name: "s", Low: 7, Next: 408, Entries: manyEntries(7, 401)},
		"21 marks":              {Name: "s", Low: 5, Next: 5, Marks: manyMarks(21)},
		"Next is -1":            {Name: "s", Low: -1, Next: -1},
		"Next is too much":      {Name: "s", Low: billion + 1, Next: billion + 1},
		"Low is -1":             {Name: "s", Low: -1, Entries: entriesAt(-1, 4)},
		"entries that lack":     {Name: "s", Low: 5, Next: 6},
		"Low beyond Next":       {Name: "s", Low: 6, Next: 5},
		"no Low but the least":  {Name: "s", Low: math.MinInt, Next: 3},
		"nothing but entries":   {Name: "s", Entries: entriesAt(0, 4)},
	}
	with := func(why string, change func(s *impl.Stream)) {
		s := someStream()
		change(&s)
		out[why] = s
	}
	with("no name", func(s *impl.Stream) { s.Name = "" })
	with("a name of 31 bytes", func(s *impl.Stream) { s.Name = strings.Repeat("n", 31) })
	with("a name with a wrong byte", func(s *impl.Stream) { s.Name = "some*" })
	with("Next is one more", func(s *impl.Stream) { s.Next++ })
	with("Next is one less", func(s *impl.Stream) { s.Next--; s.Marks = nil })
	with("Low is one more", func(s *impl.Stream) { s.Low++ })
	with("Low is one less", func(s *impl.Stream) { s.Low-- })
	with("Low and Next are one more", func(s *impl.Stream) { s.Low++; s.Next++ })
	with("Low and Next are one less", func(s *impl.Stream) { s.Low--; s.Next--; s.Marks = nil })
	with("the first is left out", func(s *impl.Stream) { s.Entries = s.Entries[1:] })
	with("the last is left out", func(s *impl.Stream) { s.Entries = s.Entries[:7] })
	with("one is left out", func(s *impl.Stream) { s.Entries = slices.Delete(s.Entries, 3, 4) })
	with("one is left out, one more at the end", func(s *impl.Stream) {
		s.Entries = append(slices.Delete(s.Entries, 3, 4), entryOf(13, 60))
	})
	with("one offset twice", func(s *impl.Stream) { s.Entries[4].Offset = 8 })
	with("two offsets in each other's place", func(s *impl.Stream) { s.Entries[4].Offset, s.Entries[5].Offset = 10, 9 })
	with("offsets from 0 on", func(s *impl.Stream) {
		for i := range s.Entries {
			s.Entries[i].Offset = i
		}
	})
	with("a time that goes back", func(s *impl.Stream) { s.Entries[4].Time = 19 })
	with("a last time that goes back", func(s *impl.Stream) { s.Entries[7].Time = 44 })
	with("a first time that is later", func(s *impl.Stream) { s.Entries[0].Time = 21 })
	with("a time of -1", func(s *impl.Stream) { s.Entries[0].Time = -1 })
	with("a time that is too great", func(s *impl.Stream) { s.Entries[7].Time = billion + 1 })
	with("a body that is too long", func(s *impl.Stream) { s.Entries[7].Body = strings.Repeat("b", 3001) })
	with("a first body that is too long", func(s *impl.Stream) { s.Entries[0].Body = strings.Repeat("b", 3001) })
	with("a reader that is no name", func(s *impl.Stream) { s.Marks[1].Reader = "Cat" })
	with("a reader without a name", func(s *impl.Stream) { s.Marks[0].Reader = "" })
	with("a reader of 31 bytes", func(s *impl.Stream) { s.Marks[2].Reader = strings.Repeat("n", 31) })
	with("marks out of order", func(s *impl.Stream) { s.Marks[0], s.Marks[1] = s.Marks[1], s.Marks[0] })
	with("a reader twice", func(s *impl.Stream) { s.Marks[1].Reader = "ben" })
	with("a reader twice with one offset", func(s *impl.Stream) { s.Marks[2] = s.Marks[1] })
	with("a mark at -1", func(s *impl.Stream) { s.Marks[1].Offset = -1 })
	with("a mark beyond Next", func(s *impl.Stream) { s.Marks[2].Offset = 14 })
	with("a first mark beyond Next", func(s *impl.Stream) { s.Marks[0].Offset = 14 })
	return out
}

func wantStreamOk(t *testing.T, why string, s impl.Stream, want bool) {
	t.Helper()
	wantRight(t, why, impl.StreamOk, s, want)
}

// wantStreamDone wants what a call answered to be this stream, which is right, and true.
func wantStreamDone(t *testing.T, what string, got impl.Stream, ok bool, want impl.Stream) {
	t.Helper()
	wantDone(t, what, impl.StreamOk, got, ok, want)
}

func TestStreamConstants(t *testing.T) {
	if impl.MaxStream != 400 {
		t.Error("MaxStream", impl.MaxStream)
	}
}

func TestStreamOkName(t *testing.T) {
	for _, name := range goodNames {
		wantStreamOk(t, "name", impl.Stream{Name: name}, true)
	}
	for _, name := range noNames {
		wantStreamOk(t, "name", impl.Stream{Name: name}, false)
	}
}

func TestStreamOkLowAndNext(t *testing.T) {
	ends := []int{math.MinInt, -billion, -1, 0, 1, 2, 5, 400, 401, billion - 1, billion, billion + 1, 4294967297, math.MaxInt}
	for _, next := range ends {
		for _, low := range ends {
			// Without entries Low must be Next.
			wantStreamOk(t, "no entries", impl.Stream{Name: "s", Low: low, Next: next}, low == next && low >= 0 && low <= billion)
		}
		for _, n := range []int{1, 2, 3} {
			s := impl.Stream{Name: "s", Low: next - n, Next: next, Entries: manyEntries(next-n, n)}
			wantStreamOk(t, fmt.Sprintf("%d entries", n), s, next >= n && next <= billion)
		}
	}
}

func TestStreamOkEntries(t *testing.T) {
	wantStreamOk(t, "some", someStream(), true)
	wantStreamOk(t, "all trimmed", trimmedStream(), true)
	for why, s := range wrongStreams() {
		wantStreamOk(t, why, s, false)
	}
	for n := range 403 {
		for _, low := range []int{0, 1, 700, billion - n} {
			wantStreamOk(t, fmt.Sprintf("%d entries", n), impl.Stream{Name: "s", Low: low, Next: low + n, Entries: manyEntries(low, n)}, n <= 400)
		}
	}
	// Each entry with each offset: only its own is right.
	for i := range 8 {
		for offset := -1; offset < 16; offset++ {
			s := someStream()
			s.Entries[i].Offset = offset
			wantStreamOk(t, "an offset", s, offset == 5+i)
		}
	}
}

func TestStreamOkTimes(t *testing.T) {
	for _, time := range []int{0, 1, 65536, billion - 1, billion} {
		wantStreamOk(t, "one time", streamOf(3, time), true)
		wantStreamOk(t, "a time that stays", streamOf(3, time, time, time), true)
		wantStreamOk(t, "a time behind 0", streamOf(3, 0, time), true)
		wantStreamOk(t, "a time ahead of the last", streamOf(3, time, billion), true)
		wantStreamOk(t, "a time that goes back", streamOf(3, time, time-1), false)
		wantStreamOk(t, "a time that goes back later", streamOf(3, 0, time, time-1), false)
	}
	for _, time := range noTimes {
		wantStreamOk(t, "no time", streamOf(3, time), false)
		wantStreamOk(t, "no time ahead", streamOf(3, time, 5), false)
		wantStreamOk(t, "no time behind", streamOf(3, 5, time), false)
	}
	// Each entry with each time: only what lies between those beside it is right.
	times := []int{10, 20, 20, 20, 30, 45, 45, 60}
	for i := range times {
		for time := -1; time < 70; time++ {
			s := someStream()
			s.Entries[i].Time = time
			want := time >= 0 && (i == 0 || times[i-1] <= time) && (i == 7 || time <= times[i+1])
			wantStreamOk(t, "a time", s, want)
		}
	}
}

func TestStreamOkBodies(t *testing.T) {
	for _, n := range []int{0, 1, 2999, 3000, 3001, 4000, 100001} {
		for i := range 8 {
			s := someStream()
			s.Entries[i].Body = manyBytes(n)
			wantStreamOk(t, fmt.Sprintf("a body of %d", n), s, n <= 3000)
		}
	}
}

func TestStreamOkMarks(t *testing.T) {
	for n := range 25 {
		wantStreamOk(t, fmt.Sprintf("%d marks", n), impl.Stream{Name: "s", Low: 2, Next: 2, Marks: manyMarks(n)}, n <= 20)
	}
	for _, offset := range []int{math.MinInt, -1, 0, 1, 4, 5, 12, 13, 14, billion, math.MaxInt} {
		for i := range 3 {
			s := someStream()
			s.Marks[i].Offset = offset
			wantStreamOk(t, "a mark", s, offset >= 0 && offset <= 13)
		}
	}
	one := func(reader string) impl.Stream {
		return impl.Stream{Name: "s", Marks: []impl.Mark{{Reader: reader}}}
	}
	for _, reader := range goodNames {
		wantStreamOk(t, "a reader", one(reader), true)
	}
	for _, reader := range noNames {
		wantStreamOk(t, "no reader", one(reader), false)
	}
	two := func(a string, b string) impl.Stream {
		return impl.Stream{Name: "s", Marks: []impl.Mark{{Reader: a}, {Reader: b}}}
	}
	for _, a := range goodNames {
		for _, b := range goodNames {
			wantStreamOk(t, "two readers", two(a, b), a < b)
		}
	}
}

func TestStreamPut(t *testing.T) {
	s := someStream()
	for _, time := range []int{60, 61, 1000, billion} {
		want := someStream()
		want.Next = 14
		want.Entries = append(want.Entries, impl.Entry{Offset: 13, Time: time, Body: "new"})
		got, ok := impl.StreamPut(s, time, "new")
		wantStreamDone(t, fmt.Sprintf("StreamPut at %d", time), got, ok, want)
	}
	for _, time := range append([]int{0, 10, 45, 58, 59}, noTimes...) {
		got, ok := impl.StreamPut(s, time, "new")
		wantLeft(t, fmt.Sprintf("StreamPut at %d", time), got, ok, someStream())
	}
}

func TestStreamPutFirst(t *testing.T) {
	for _, time := range []int{0, 1, 59, billion} {
		// With no entry there is no time that it could be behind.
		got, ok := impl.StreamPut(impl.Stream{Name: "s"}, time, "a")
		wantStreamDone(t, "the first of all", got, ok, impl.Stream{Name: "s", Next: 1, Entries: []impl.Entry{{Time: time, Body: "a"}}})
		want := trimmedStream()
		want.Next = 10
		want.Entries = []impl.Entry{{Offset: 9, Time: time, Body: "a"}}
		got, ok = impl.StreamPut(trimmedStream(), time, "a")
		wantStreamDone(t, "the first behind a trim", got, ok, want)
	}
	for _, time := range noTimes {
		got, ok := impl.StreamPut(impl.Stream{Name: "s"}, time, "a")
		wantLeft(t, fmt.Sprintf("the first of all at %d", time), got, ok, impl.Stream{Name: "s"})
		got, ok = impl.StreamPut(trimmedStream(), time, "a")
		wantLeft(t, fmt.Sprintf("the first behind a trim at %d", time), got, ok, trimmedStream())
	}
}

func TestStreamPutAtMost(t *testing.T) {
	for _, low := range []int{0, 12} {
		s := impl.Stream{Name: "s", Low: low, Next: low + 399, Entries: manyEntries(low, 399)}
		want := impl.Stream{Name: "s", Low: low, Next: low + 400, Entries: append(manyEntries(low, 399), impl.Entry{Offset: low + 399, Time: billion, Body: "b"})}
		full, ok := impl.StreamPut(s, billion, "b")
		wantStreamDone(t, "399 and one more", full, ok, want)
		got, ok := impl.StreamPut(full, billion, "b")
		wantLeft(t, "400 and one more", got, ok, want)
		// Where one is trimmed there is room for one.
		got, ok = impl.StreamPut(impl.StreamTrim(full, 399, 0), billion, "c")
		want.Low, want.Next = low+1, low+401
		want.Entries = append(want.Entries[1:], impl.Entry{Offset: low + 400, Time: billion, Body: "c"})
		wantStreamDone(t, "one more behind a trim", got, ok, want)
	}
}

func TestStreamPutLastNext(t *testing.T) {
	s := impl.Stream{Name: "s", Low: billion - 1, Next: billion - 1}
	want := impl.Stream{Name: "s", Low: billion - 1, Next: billion, Entries: []impl.Entry{{Offset: billion - 1, Time: 4, Body: "b"}}}
	last, ok := impl.StreamPut(s, 4, "b")
	wantStreamDone(t, "the last offset", last, ok, want)
	got, ok := impl.StreamPut(last, 4, "b")
	wantLeft(t, "one offset too many", got, ok, want)
	end := impl.Stream{Name: "s", Low: billion, Next: billion}
	got, ok = impl.StreamPut(end, 4, "b")
	wantLeft(t, "one offset too many, all trimmed", got, ok, end)
}

func TestStreamPutBodies(t *testing.T) {
	for _, n := range []int{0, 1, 2999, 3000, 3001, 3002, 100000} {
		body := manyBytes(n)
		got, ok := impl.StreamPut(someStream(), 60, body)
		if n > 3000 {
			wantLeft(t, fmt.Sprintf("a body of %d", n), got, ok, someStream())
			continue
		}
		want := someStream()
		want.Next = 14
		want.Entries = append(want.Entries, impl.Entry{Offset: 13, Time: 60, Body: body})
		wantStreamDone(t, fmt.Sprintf("a body of %d", n), got, ok, want)
	}
}

func TestStreamPutToWrongStreams(t *testing.T) {
	for why, s := range wrongStreams() {
		for _, time := range []int{0, 60, billion} {
			got, ok := impl.StreamPut(s, time, "b")
			wantLeft(t, why, got, ok, s)
		}
	}
	// One entry more would make it right: it is refused as it stands.
	lacks := impl.Stream{Name: "s", Low: 3, Next: 4}
	got, ok := impl.StreamPut(lacks, 1, "b")
	wantLeft(t, "a stream that lacks one", got, ok, lacks)
}

// trimmed is s without its first entries, gone by the words of the document.
func trimmed(s impl.Stream, count int, oldest int) impl.Stream {
	s = keptStream(s)
	for len(s.Entries) > 0 && (len(s.Entries) > count || s.Entries[0].Time < oldest) {
		s.Entries = s.Entries[1:]
		s.Low++
	}
	return s
}

func TestStreamTrim(t *testing.T) {
	for _, r := range []struct {
		count, oldest int
		low           int // the first offset that is left
	}{
		{8, 0, 5}, {9, 0, 5}, {math.MaxInt, 0, 5}, {7, 0, 6}, {4, 0, 9}, {1, 0, 12}, {0, 0, 13}, // by count
		{100, 9, 5}, {100, 10, 5}, {100, 11, 6}, {100, 20, 6}, {100, 21, 9}, {100, 30, 9}, {100, 31, 10}, // by oldest
		{100, 45, 10}, {100, 46, 12}, {100, 60, 12}, {100, 61, 13}, {100, math.MaxInt, 13}, {100, math.MinInt, 5}, {100, -1, 5},
		{8, 10, 5}, {8, 11, 6}, {7, 10, 6}, {7, 11, 6}, {7, 20, 6}, {7, 21, 9}, {4, 21, 9}, {3, 21, 10}, {4, 31, 10}, {0, 9, 13}, {8, 61, 13}, // by both
	} {
		got := impl.StreamTrim(someStream(), r.count, r.oldest)
		want := someStream()
		want.Low = r.low
		want.Entries = want.Entries[r.low-5:]
		what := fmt.Sprintf("StreamTrim(%d, %d)", r.count, r.oldest)
		wantSame(t, what, got, want)
		wantStreamOk(t, what, got, true)
	}
}

func TestStreamTrimByRule(t *testing.T) {
	list := []impl.Stream{someStream(), trimmedStream(), {Name: "s"}, streamOf(0, 5), streamOf(0, 0, 0, 7),
		{Name: "s", Low: billion - 400, Next: billion, Entries: manyEntries(billion-400, 400)}}
	for _, s := range list {
		for _, count := range []int{0, 1, 2, 3, 5, 7, 8, 9, 199, 399, 400, 401, math.MaxInt} {
			for oldest := -2; oldest < 70; oldest++ {
				got := impl.StreamTrim(s, count, oldest)
				wantSame(t, fmt.Sprintf("StreamTrim(%d, %d)", count, oldest), got, trimmed(s, count, oldest))
				wantStreamOk(t, "what is left", got, true)
				// What is left is trimmed already.
				wantSame(t, "trimmed twice", impl.StreamTrim(got, count, oldest), got)
			}
		}
	}
}

func TestStreamTrimRefused(t *testing.T) {
	for _, count := range []int{-1, -2, -billion, math.MinInt} {
		for _, oldest := range []int{0, 21, 100} {
			wantSame(t, fmt.Sprintf("StreamTrim(%d, %d)", count, oldest), impl.StreamTrim(someStream(), count, oldest), someStream())
		}
	}
	for why, s := range wrongStreams() {
		for _, count := range []int{-1, 0, 3, 1000} {
			wantSame(t, why, impl.StreamTrim(s, count, 40), s)
		}
	}
}

func TestStreamRead(t *testing.T) {
	all := someStream().Entries
	for _, r := range []struct {
		offset, most int
		want         []impl.Entry
	}{
		{5, 8, all}, {5, 9, all}, {5, 7, all[:7]}, {5, 1, all[:1]}, {5, math.MaxInt, all},
		{4, 2, all[:2]}, {0, 2, all[:2]}, {-1, 3, all[:3]}, {math.MinInt, 100, all}, {math.MinInt, math.MaxInt, all},
		{6, 1, all[1:2]}, {8, 3, all[3:6]}, {8, 5, all[3:]}, {8, 6, all[3:]}, {8, math.MaxInt, all[3:]},
		{12, 1, all[7:]}, {12, 100, all[7:]}, {12, math.MaxInt, all[7:]},
		{13, 1, nil}, {14, 100, nil}, {math.MaxInt, 1, nil}, {math.MaxInt, math.MaxInt, nil},
		{5, 0, nil}, {5, -1, nil}, {0, 0, nil}, {8, math.MinInt, nil}, {13, 0, nil},
	} {
		wantSame(t, fmt.Sprintf("StreamRead(%d, %d)", r.offset, r.most), impl.StreamRead(someStream(), r.offset, r.most), r.want)
	}
	for _, s := range []impl.Stream{{Name: "s"}, trimmedStream(), {Name: "s", Low: billion, Next: billion}} {
		for _, offset := range []int{math.MinInt, -1, 0, 8, 9, 10, billion, math.MaxInt} {
			wantSame(t, "of no entries", impl.StreamRead(s, offset, 5), nil)
		}
	}
}

func TestStreamReadByRule(t *testing.T) {
	full := impl.Stream{Name: "s", Low: billion - 400, Next: billion, Entries: manyEntries(billion-400, 400)}
	for _, s := range []impl.Stream{someStream(), full, streamOf(0, 1, 2, 3)} {
		for offset := s.Low - 3; offset < s.Next+3; offset++ {
			for _, most := range []int{-1, 0, 1, 2, 3, 8, 399, 400, 401} {
				var want []impl.Entry
				for _, e := range s.Entries {
					if e.Offset >= offset && len(want) < most {
						want = append(want, e)
					}
				}
				wantSame(t, fmt.Sprintf("StreamRead(%d, %d)", offset, most), impl.StreamRead(s, offset, most), want)
			}
		}
	}
}

func TestStreamReadOfWrongStreams(t *testing.T) {
	for why, s := range wrongStreams() {
		for _, offset := range []int{math.MinInt, 0, 5, 6, 13, 400, math.MaxInt} {
			for _, most := range []int{1, 8, 1000, math.MaxInt} {
				wantSame(t, why, impl.StreamRead(s, offset, most), nil)
			}
		}
	}
}

func wantSeek(t *testing.T, why string, s impl.Stream, time int, want int) {
	t.Helper()
	if got := impl.StreamSeek(s, time); got != want {
		t.Errorf("%s: StreamSeek(%d) = %d; want %d", why, time, got, want)
	}
}

func TestStreamSeek(t *testing.T) {
	for time, want := range map[int]int{
		math.MinInt: 5, -1: 5, 0: 5, 9: 5, 10: 5, // below all, and the first
		11: 6, 19: 6, 20: 6, // there several times
		21: 9, 29: 9, 30: 9, 31: 10, 44: 10, 45: 10, 46: 12, 59: 12, 60: 12,
		61: 13, 1000: 13, billion: 13, billion + 1: 13, math.MaxInt: 13, // above all
	} {
		wantSeek(t, "some", someStream(), time, want)
	}
	for _, time := range []int{math.MinInt, -1, 0, 1, billion, math.MaxInt} {
		wantSeek(t, "no entries", impl.Stream{Name: "s"}, time, 0)
		wantSeek(t, "all trimmed", trimmedStream(), time, 9)
		wantSeek(t, "the last Next", impl.Stream{Name: "s", Low: billion, Next: billion}, time, billion)
		for why, s := range wrongStreams() {
			wantSeek(t, why, s, time, -1)
		}
	}
}

func TestStreamSeekByRule(t *testing.T) {
	for n := range 40 {
		for _, step := range []int{1, 2, 5, 100} {
			var times []int
			for i := range n {
				times = append(times, 10+i/step*3)
			}
			s := streamOf(n, times...)
			for time := 5; time < 140; time++ {
				want := s.Next
				for _, e := range slices.Backward(s.Entries) {
					if e.Time >= time {
						want = e.Offset
					}
				}
				wantSeek(t, fmt.Sprintf("%d entries", n), s, time, want)
			}
		}
	}
	full := impl.Stream{Name: "s", Low: 50, Next: 450, Entries: manyEntries(50, 400)}
	for time := range 1203 {
		wantSeek(t, "400 entries", full, time, min(50+(time+2)/3, 450))
	}
}

func TestStreamMark(t *testing.T) {
	ben, cat, eve := impl.Mark{Reader: "ben", Offset: 7}, impl.Mark{Reader: "cat"}, impl.Mark{Reader: "eve", Offset: 13}
	for _, r := range []struct {
		reader string
		offset int
		want   []impl.Mark
	}{
		{"ann", 6, []impl.Mark{{Reader: "ann", Offset: 6}, ben, cat, eve}},
		{"be", 0, []impl.Mark{{Reader: "be"}, ben, cat, eve}},
		{"ben-", 13, []impl.Mark{ben, {Reader: "ben-", Offset: 13}, cat, eve}},
		{"dan", 5, []impl.Mark{ben, cat, {Reader: "dan", Offset: 5}, eve}},
		{"zoe", 1, []impl.Mark{ben, cat, eve, {Reader: "zoe", Offset: 1}}},
		{"ben", 8, []impl.Mark{{Reader: "ben", Offset: 8}, cat, eve}},
		{"ben", 6, []impl.Mark{{Reader: "ben", Offset: 6}, cat, eve}},
		{"ben", 7, []impl.Mark{ben, cat, eve}},
		{"ben", 0, []impl.Mark{{Reader: "ben"}, cat, eve}},
		{"cat", 13, []impl.Mark{ben, {Reader: "cat", Offset: 13}, eve}},
		{"eve", 0, []impl.Mark{ben, cat, {Reader: "eve"}}},
		{"eve", 13, []impl.Mark{ben, cat, eve}},
	} {
		want := someStream()
		want.Marks = r.want
		got, ok := impl.StreamMark(someStream(), r.reader, r.offset)
		wantStreamDone(t, fmt.Sprintf("StreamMark(%q, %d)", r.reader, r.offset), got, ok, want)
		if at := impl.StreamMarked(got, r.reader); at != r.offset {
			t.Errorf("StreamMarked(%q) = %d; want %d", r.reader, at, r.offset)
		}
	}
	got, ok := impl.StreamMark(impl.Stream{Name: "s"}, "r", 0)
	wantStreamDone(t, "the first mark", got, ok, impl.Stream{Name: "s", Marks: []impl.Mark{{Reader: "r"}}})
}

func TestStreamMarkRefused(t *testing.T) {
	for _, offset := range []int{math.MinInt, -2, -1, 14, 15, billion, math.MaxInt} {
		for _, reader := range []string{"ann", "ben", "dan", "eve", "zoe"} {
			got, ok := impl.StreamMark(someStream(), reader, offset)
			wantLeft(t, fmt.Sprintf("StreamMark(%q, %d)", reader, offset), got, ok, someStream())
		}
	}
	for _, reader := range noNames {
		got, ok := impl.StreamMark(someStream(), reader, 7)
		wantLeft(t, fmt.Sprintf("StreamMark(%q)", reader), got, ok, someStream())
	}
	for why, s := range wrongStreams() {
		for _, reader := range []string{"ann", "ben", "cat", "eve", "r01"} {
			got, ok := impl.StreamMark(s, reader, 0)
			wantLeft(t, why, got, ok, s)
		}
	}
	// A mark of the wrong one would make it right: it is refused as it stands.
	wrong := impl.Stream{Name: "s", Marks: []impl.Mark{{Reader: "r", Offset: 4}}}
	got, ok := impl.StreamMark(wrong, "r", 0)
	wantLeft(t, "a wrong mark set right", got, ok, wrong)
}

func TestStreamMarkAtMost(t *testing.T) {
	s := impl.Stream{Name: "s", Low: 5, Next: 5, Marks: manyMarks(19)}
	want := keptStream(s)
	want.Marks = append([]impl.Mark{{Reader: "r00", Offset: 4}}, want.Marks...)
	full, ok := impl.StreamMark(s, "r00", 4)
	wantStreamDone(t, "the 20th mark", full, ok, want)
	for _, reader := range []string{"a", "r02", "r20", "z"} {
		got, ok := impl.StreamMark(full, reader, 4)
		wantLeft(t, "the 21st mark", got, ok, want)
	}
	for i, m := range want.Marks {
		again := keptStream(want)
		again.Marks[i].Offset = 5
		got, ok := impl.StreamMark(full, m.Reader, 5)
		wantStreamDone(t, "one of 20 again", got, ok, again)
	}
}

func wantMarked(t *testing.T, why string, s impl.Stream, reader string, want int) {
	t.Helper()
	if got := impl.StreamMarked(s, reader); got != want {
		t.Errorf("%s: StreamMarked(%q) = %d; want %d", why, reader, got, want)
	}
}

func TestStreamMarked(t *testing.T) {
	for reader, want := range map[string]int{"ben": 7, "cat": 0, "eve": 13, "ann": 0, "be": 0, "benn": 0, "dan": 0, "zoe": 0, "": 0, "Ben": 0} {
		wantMarked(t, "some", someStream(), reader, want)
		wantMarked(t, "no marks", streamOf(5, 10, 20), reader, 0)
	}
	full := impl.Stream{Name: "s", Low: 5, Next: 5, Marks: manyMarks(20)}
	for _, m := range full.Marks {
		wantMarked(t, "20 marks", full, m.Reader, m.Offset)
	}
	// The document names no other answer for a stream that is not StreamOk: a
	// mark that is there is told, the first one of a reader.
	wrong := impl.Stream{Marks: []impl.Mark{{Reader: "eve", Offset: 9}, {Reader: "ben", Offset: -4}, {Reader: "eve", Offset: 3}, {Reader: "", Offset: 6}}}
	for reader, want := range map[string]int{"eve": 9, "ben": -4, "": 6, "cat": 0} {
		wantMarked(t, "marks out of order", wrong, reader, want)
	}
	for why, s := range wrongStreams() {
		wantMarked(t, why, s, "nobody", 0)
		if len(s.Marks) > 0 {
			wantMarked(t, why, s, s.Marks[0].Reader, s.Marks[0].Offset)
		}
	}
}

func TestStreamPart(t *testing.T) {
	keys := []string{"", "a", "abc", "mail.new", "#.*", "!", "~", "A/B", strings.Repeat("k", 59), strings.Repeat("k", 60)}
	for _, key := range keys {
		for _, parts := range []int{1, 2, 3, 7, 8, 64, 255, 256, 257, 999, 1000} {
			want := int(int64(sumByBits(key)) % int64(parts))
			got := impl.StreamPart(key, parts)
			if got != want {
				t.Errorf("StreamPart(%q, %d) = %d; want %d", key, parts, got, want)
			}
			// A key of the same text elsewhere in memory goes the same way.
			if again := impl.StreamPart(strings.Clone(key), parts); again != got {
				t.Errorf("StreamPart(%q, %d) = %d and %d", key, parts, got, again)
			}
		}
		for _, parts := range []int{math.MinInt, -1000, -1, 0, 1001, 1002, 4294967297, math.MaxInt} {
			if got := impl.StreamPart(key, parts); got != -1 {
				t.Errorf("StreamPart(%q, %d) = %d; want -1", key, parts, got)
			}
		}
	}
	for _, key := range noKeys {
		for _, parts := range []int{-1, 0, 1, 2, 1000, 1001} {
			if got := impl.StreamPart(key, parts); got != -1 {
				t.Errorf("StreamPart(%q, %d) = %d; want -1", key, parts, got)
			}
		}
	}
	// The sum of "a" is 3251651376, with its highest bit set, which must not
	// make it a number below 0.
	if got := impl.StreamPart("a", 10); got != 6 {
		t.Errorf("StreamPart(%q, 10) = %d; want 6", "a", got)
	}
}

// TestStreamByPromise walks at random beside a list of all that was ever put:
// an offset tells the same entry for ever, and only the oldest are gone.
func TestStreamByPromise(t *testing.T) {
	var all []impl.Entry
	marks := map[string]int{}
	s := impl.Stream{Name: "s"}
	low, now := 0, 0
	roll := diceOf(7)
	for step := range 6000 {
		switch roll(12) {
		case 0:
			count := roll(300)
			oldest := now - roll(400)
			s = impl.StreamTrim(s, count, oldest)
			for low < len(all) && (len(all)-low > count || all[low].Time < oldest) {
				low++
			}
		case 1:
			reader, offset := fmt.Sprintf("r%d", roll(20)), roll(len(all)+2)
			next, ok := impl.StreamMark(s, reader, offset)
			if ok != (offset <= len(all)) {
				t.Fatalf("step %d: StreamMark(%d) is %v", step, offset, ok)
			}
			if s = next; ok {
				marks[reader] = offset
			}
		case 2:
			time := now - 3 + roll(5)
			want := low
			for want < len(all) && all[want].Time < time {
				want++
			}
			wantSeek(t, "a walk", s, time, want)
		default:
			time := now + roll(4) - 1
			body := fmt.Sprintf("step %d", step)
			next, ok := impl.StreamPut(s, time, body)
			want := len(all)-low < impl.MaxStream && time >= 0 && (low == len(all) || time >= all[len(all)-1].Time)
			if ok != want {
				t.Fatalf("step %d: StreamPut(%d) is %v", step, time, ok)
			}
			if s = next; ok {
				all = append(all, impl.Entry{Offset: len(all), Time: time, Body: body})
			}
			now = max(now, time)
		}
		if s.Low != low || s.Next != len(all) || !slices.Equal(s.Entries, all[low:]) || !impl.StreamOk(s) {
			t.Fatalf("step %d: the stream is %#v; want %d .. %d", step, s, low, len(all))
		}
		from := roll(len(all) + 1)
		if got, want := impl.StreamRead(s, from, 7), all[max(from, low):]; !slices.Equal(got, want[:min(7, len(want))]) {
			t.Fatalf("step %d: StreamRead(%d) = %#v", step, from, got)
		}
		if len(s.Marks) != len(marks) {
			t.Fatalf("step %d: %d marks; want %d", step, len(s.Marks), len(marks))
		}
		for reader, offset := range marks {
			wantMarked(t, "a walk", s, reader, offset)
		}
	}
	if low == 0 || len(all) < 1000 || len(marks) != 20 {
		t.Errorf("the walk came to %d, %d and %d marks only", low, len(all), len(marks))
	}
}

// streamAsked is a stream and what it is asked with.
type streamAsked struct {
	Stream impl.Stream
	Text   string
}

// streamCalls are calls with a stream and a text.
var streamCalls = map[string]func(x streamAsked) []any{
	"StreamPut":              func(x streamAsked) []any { s, ok := impl.StreamPut(x.Stream, 60, x.Text); return []any{s, ok} },
	"StreamPut back":         func(x streamAsked) []any { s, ok := impl.StreamPut(x.Stream, -60, x.Text); return []any{s, ok} },
	"StreamTrim":             func(x streamAsked) []any { return []any{impl.StreamTrim(x.Stream, 3, 0)} },
	"StreamTrim of all":      func(x streamAsked) []any { return []any{impl.StreamTrim(x.Stream, 0, 0)} },
	"StreamTrim of nothing":  func(x streamAsked) []any { return []any{impl.StreamTrim(x.Stream, 1000, 0)} },
	"StreamTrim of old ones": func(x streamAsked) []any { return []any{impl.StreamTrim(x.Stream, 1000, 30)} },
	"StreamTrim below 0":     func(x streamAsked) []any { return []any{impl.StreamTrim(x.Stream, -1, 30)} },
	"StreamRead":             func(x streamAsked) []any { return []any{impl.StreamRead(x.Stream, 0, 4)} },
	"StreamRead of all":      func(x streamAsked) []any { return []any{impl.StreamRead(x.Stream, 0, 1000)} },
	"StreamRead from one on": func(x streamAsked) []any { return []any{impl.StreamRead(x.Stream, 8, 2)} },
	"StreamMark":             func(x streamAsked) []any { s, ok := impl.StreamMark(x.Stream, x.Text, 5); return []any{s, ok} },
	"StreamMark beyond":      func(x streamAsked) []any { s, ok := impl.StreamMark(x.Stream, x.Text, billion); return []any{s, ok} },
	"StreamOk":               func(x streamAsked) []any { return []any{impl.StreamOk(x.Stream)} },
	"StreamSeek":             func(x streamAsked) []any { return []any{impl.StreamSeek(x.Stream, 20)} },
	"StreamMarked":           func(x streamAsked) []any { return []any{impl.StreamMarked(x.Stream, x.Text)} },
}

func TestStreamMemory(t *testing.T) {
	list := wrongStreams()
	list["right"] = someStream()
	list["all trimmed"] = trimmedStream()
	list["entries alone"] = streamOf(5, 10, 20, 30, 40, 50)
	list["empty"] = impl.Stream{Name: "s"}
	for why, s := range list {
		for name, call := range streamCalls {
			// A reader that is new, ahead of and between the others, one that is there, and none.
			for _, text := range []string{"aaa", "dan", "ben", "eve", "no name"} {
				wantApart(t, why+": "+name, streamAsked{Stream: s, Text: text}, call)
			}
		}
	}
}
