package tests

import (
	"math"
	"slices"
	"strings"
	"testing"

	"loop.example/g00227/impl"
)

var (
	frameKinds = []int{impl.FrameMethod, impl.FrameHeader, impl.FrameBody, impl.FrameBeat}
	noKinds    = []int{0, 4, 5, 6, 7, 9, 10, 16, 206, 255, 256, 257, 258, 264, -1, -8, -255, math.MinInt, math.MaxInt}
	noChannels = []int{65536, 65537, 131072, -1, -65535, math.MinInt, math.MaxInt}
)

// frameBytes are the bytes that a frame of these would have, whether or not
// the program would put one.
func frameBytes(kind byte, channel int, length int, payload string, end byte) string {
	head := []byte{kind, byte(channel / 256), byte(channel), byte(length / 16777216), byte(length / 65536), byte(length / 256), byte(length)}
	return string(head) + payload + string([]byte{end})
}

func wantNext(t *testing.T, s string, f impl.Frame, n int, code int) {
	t.Helper()
	gotF, gotN, gotCode := impl.NextFrame(s)
	if gotF != f || gotN != n || gotCode != code {
		t.Errorf("NextFrame of %d bytes, %q..: kind %d, channel %d, %d bytes; %d, %d; want kind %d, channel %d, %d bytes; %d, %d",
			len(s), s[:min(len(s), 12)], gotF.Kind, gotF.Channel, len(gotF.Payload), gotN, gotCode, f.Kind, f.Channel, len(f.Payload), n, code)
	}
}

func wantNone(t *testing.T, s string, code int) {
	t.Helper()
	wantNext(t, s, impl.Frame{}, 0, code)
}

func wantFrames(t *testing.T, s string, list []impl.Frame, n int, code int) {
	t.Helper()
	gotList, gotN, gotCode := impl.Frames(s)
	if !slices.Equal(gotList, list) || gotN != n || gotCode != code {
		t.Errorf("Frames of %d bytes: %d frames, %d, %d; want %d frames, %d, %d",
			len(s), len(gotList), gotN, gotCode, len(list), n, code)
	}
}

// someFrames are n frames that are not alike.
func someFrames(n int) []impl.Frame {
	out := make([]impl.Frame, n)
	for i := range out {
		out[i] = impl.Frame{Kind: frameKinds[i%4], Channel: i * 331 % 65536, Payload: manyBytes(i * 13 % 300)}
	}
	return out
}

func putAll(list []impl.Frame) string {
	var out strings.Builder
	for _, f := range list {
		out.WriteString(impl.PutFrame(f))
	}
	return out.String()
}

func TestFrameConstants(t *testing.T) {
	got := []int{impl.FrameMethod, impl.FrameHeader, impl.FrameBody, impl.FrameBeat, impl.FrameEnd, impl.MaxPayload}
	if !slices.Equal(got, []int{1, 2, 3, 8, 206, 4000}) {
		t.Errorf("constants of a frame: %v", got)
	}
	codes := []int{impl.CutOk, impl.CutMore, impl.CutKind, impl.CutLong, impl.CutEnd}
	if !slices.Equal(codes, []int{0, 1, 2, 3, 4}) {
		t.Errorf("codes: %v", codes)
	}
}

func TestPutFrameBytes(t *testing.T) {
	rows := []struct {
		frame impl.Frame
		want  string
	}{
		{impl.Frame{Kind: 1, Channel: 2, Payload: "a"}, "\x01\x00\x02\x00\x00\x00\x01a\xce"},
		{impl.Frame{Kind: 2, Channel: 0, Payload: ""}, "\x02\x00\x00\x00\x00\x00\x00\xce"},
		{impl.Frame{Kind: 3, Channel: 65535, Payload: "\xce"}, "\x03\xff\xff\x00\x00\x00\x01\xce\xce"},
		{impl.Frame{Kind: 8, Channel: 258, Payload: "\xce\x00\xce"}, "\x08\x01\x02\x00\x00\x00\x03\xce\x00\xce\xce"},
		{impl.Frame{Kind: 3, Channel: 1, Payload: strings.Repeat("z", 258)}, "\x03\x00\x01\x00\x00\x01\x02" + strings.Repeat("z", 258) + "\xce"},
		{impl.Frame{Kind: 3, Channel: 1, Payload: strings.Repeat("z", 4000)}, "\x03\x00\x01\x00\x00\x0f\xa0" + strings.Repeat("z", 4000) + "\xce"},
	}
	for _, r := range rows {
		if !impl.FrameOk(r.frame) {
			t.Errorf("FrameOk of kind %d, channel %d = false", r.frame.Kind, r.frame.Channel)
		}
		if got := impl.PutFrame(r.frame); got != r.want {
			t.Errorf("PutFrame of kind %d, channel %d = %q; want %q", r.frame.Kind, r.frame.Channel, got, r.want)
		}
		wantNext(t, r.want, r.frame, len(r.want), impl.CutOk)
	}
}

func TestFrameRefused(t *testing.T) {
	var bad []impl.Frame
	for _, kind := range noKinds {
		bad = append(bad, impl.Frame{Kind: kind}, impl.Frame{Kind: kind, Channel: 1, Payload: "ab"})
	}
	for _, kind := range frameKinds {
		for _, channel := range noChannels {
			bad = append(bad, impl.Frame{Kind: kind, Channel: channel}, impl.Frame{Kind: kind, Channel: channel, Payload: "ab"})
		}
		for _, n := range []int{impl.MaxPayload + 1, impl.MaxPayload + 2, 65536, 65537, 100000} {
			bad = append(bad, impl.Frame{Kind: kind, Payload: manyBytes(n)})
		}
	}
	for _, f := range bad {
		if impl.FrameOk(f) {
			t.Errorf("FrameOk of kind %d, channel %d, %d bytes = true", f.Kind, f.Channel, len(f.Payload))
		}
		if got := impl.PutFrame(f); got != "" {
			t.Errorf("PutFrame of kind %d, channel %d, %d bytes has %d bytes; want none", f.Kind, f.Channel, len(f.Payload), len(got))
		}
	}
}

func TestFrameComesBack(t *testing.T) {
	// What stands behind tells nothing of the frame, be it an end, a frame or neither.
	behind := []string{"", "x", "\x00", "\xce", "\xce\xce", "\x04", "\x01\x00", strings.Repeat("\xff", 9), impl.PutFrame(impl.Frame{Kind: 2, Payload: "b"}), manyBytes(5000)}
	payloads := []string{"", "a", "\xce", "\xce\xce\xce", "a\xceb", "\x01\x00\x00\x00\x00\x00\x00\xce", manyBytes(255), manyBytes(256),
		strings.Repeat("\xce", 300), manyBytes(impl.MaxPayload - 1), manyBytes(impl.MaxPayload), strings.Repeat("\xce", impl.MaxPayload)}
	for _, kind := range frameKinds {
		for _, channel := range []int{0, 1, 255, 256, 32768, 65534, 65535} {
			for _, payload := range payloads {
				f := impl.Frame{Kind: kind, Channel: channel, Payload: payload}
				put := impl.PutFrame(f)
				if want := frameBytes(byte(kind), channel, len(payload), payload, 206); !impl.FrameOk(f) || put != want {
					t.Errorf("PutFrame of kind %d, channel %d, %d bytes has %d bytes; want %d", kind, channel, len(payload), len(put), len(want))
				}
				for _, more := range behind {
					wantNext(t, put+more, f, len(put), impl.CutOk)
				}
			}
		}
	}
}

func TestNextFrameOfBeginnings(t *testing.T) {
	for _, kind := range frameKinds {
		for _, payload := range []string{"", "a", "\xce", "\xce\xce\xce\xce", manyBytes(300)} {
			put := impl.PutFrame(impl.Frame{Kind: kind, Channel: 52942, Payload: payload})
			for n := range len(put) {
				wantNone(t, put[:n], impl.CutMore)
			}
		}
	}
	full := impl.PutFrame(impl.Frame{Kind: 3, Payload: strings.Repeat("\xce", impl.MaxPayload)})
	for _, n := range []int{0, 1, 6, 7, 8, 9, 2000, len(full) - 2, len(full) - 1} {
		wantNone(t, full[:n], impl.CutMore)
	}
}

func TestNextFrameOfNoKind(t *testing.T) {
	for b := range 256 {
		first := string([]byte{byte(b)})
		if slices.Contains(frameKinds, b) {
			wantNone(t, first, impl.CutMore)
			continue
		}
		// Each of these is wrong or short behind its first byte too, but for the last.
		for _, more := range []string{"", "\x00", "\x00\x00\x00\x00\x00", "\x00\x00\xff\xff\xff\xff", "\x00\x00\x00\x00\x00\x01",
			"\x00\x00\x00\x00\x0f\xa1\x00", "\x00\x00\x00\x00\x00\x01ab", "\x00\x00\x00\x00\x00\x01a\xce"} {
			wantNone(t, first+more, impl.CutKind)
		}
	}
}

func TestNextFrameOfLength(t *testing.T) {
	body := strings.Repeat("y", impl.MaxPayload)
	wantNone(t, frameBytes(1, 513, impl.MaxPayload, "", 206), impl.CutMore)
	wantNone(t, frameBytes(1, 513, impl.MaxPayload, body[1:], 206), impl.CutMore)
	wantNext(t, frameBytes(1, 513, impl.MaxPayload, body, 206), impl.Frame{Kind: 1, Channel: 513, Payload: body}, impl.MaxPayload+8, impl.CutOk)
	wantNone(t, frameBytes(1, 513, impl.MaxPayload, body, 205), impl.CutEnd)
	for _, length := range []int{impl.MaxPayload + 1, impl.MaxPayload + 2, 8000, 65536, 16777216, 2147483647, 2147483648, 4294967288, 4294967295} {
		head := frameBytes(1, 513, length, "", 206)
		// Fewer than seven bytes don't tell the length yet.
		wantNone(t, head[:6], impl.CutMore)
		wantNone(t, head[:7], impl.CutLong)
		wantNone(t, head, impl.CutLong)
		wantNone(t, head[:7]+body, impl.CutLong)
		if length <= 65536 {
			wantNone(t, frameBytes(1, 513, length, manyBytes(length), 206), impl.CutLong)
			wantNone(t, frameBytes(1, 513, length, manyBytes(length), 0), impl.CutLong)
		} else {
			wantNone(t, head[:7]+strings.Repeat("\xce", 70000), impl.CutLong)
		}
		wantNone(t, frameBytes(0, 513, length, body, 206), impl.CutKind)
	}
}

func TestNextFrameOfWrongEnd(t *testing.T) {
	for _, payload := range []string{"", "a", "\xce", "ab\xce", manyBytes(impl.MaxPayload)} {
		for b := range 256 {
			s := frameBytes(8, 7, len(payload), payload, byte(b))
			for _, more := range []string{"", "\xce", "\xce\xce", "\x08"} {
				if b == impl.FrameEnd {
					wantNext(t, s+more, impl.Frame{Kind: 8, Channel: 7, Payload: payload}, len(s), impl.CutOk)
				} else {
					wantNone(t, s+more, impl.CutEnd)
				}
			}
		}
	}
	// A length that is one too small or too great has its end elsewhere.
	wantNone(t, frameBytes(1, 0, 2, "abc", 206), impl.CutEnd)
	wantNone(t, frameBytes(1, 0, 4, "abc", 206), impl.CutMore)
	wantNone(t, frameBytes(1, 0, 4, "abc", 206)+"d", impl.CutEnd)
}

func TestFramesComeBack(t *testing.T) {
	wantFrames(t, "", nil, 0, impl.CutOk)
	for _, n := range []int{1, 2, 3, 4, 17, 198, 199, 200} {
		list := someFrames(n)
		s := putAll(list)
		wantFrames(t, s, list, len(s), impl.CutOk)
		rest := s
		for _, f := range list {
			size := len(f.Payload) + 8
			wantNext(t, rest, f, size, impl.CutOk)
			rest = rest[size:]
		}
	}
	alike := slices.Repeat([]impl.Frame{{Kind: impl.FrameBeat}}, 5)
	wantFrames(t, putAll(alike), alike, 40, impl.CutOk)
	full := slices.Repeat([]impl.Frame{{Kind: impl.FrameBody, Channel: 65535, Payload: strings.Repeat("\xce", impl.MaxPayload)}}, 200)
	wantFrames(t, putAll(full), full, 200*4008, impl.CutOk)
}

func TestFramesAndWrongBytes(t *testing.T) {
	part := impl.PutFrame(impl.Frame{Kind: 3, Channel: 9, Payload: "abc"})
	tails := []struct {
		bytes string
		code  int
	}{
		{"\x04", impl.CutKind},
		{"\xce", impl.CutKind},
		{"\x00" + part, impl.CutKind},
		{frameBytes(2, 0, 4001, "", 206), impl.CutLong},
		{frameBytes(2, 0, 4294967295, part, 206), impl.CutLong},
		{frameBytes(2, 0, 3, "abc", 205), impl.CutEnd},
		{frameBytes(2, 0, 3, "abc", 0) + part, impl.CutEnd},
		{frameBytes(2, 0, 4000, part, 206), impl.CutMore},
	}
	for n := 1; n < len(part); n++ {
		tails = append(tails, struct {
			bytes string
			code  int
		}{part[:n], impl.CutMore})
	}
	for _, tail := range tails {
		for _, n := range []int{0, 1, 2, 5, 198, 199} {
			list := someFrames(n)
			s := putAll(list)
			wantFrames(t, s+tail.bytes, list, len(s), tail.code)
		}
		list := someFrames(200)
		s := putAll(list)
		wantFrames(t, s+tail.bytes, list, len(s), impl.CutOk)
		more := someFrames(201)
		wantFrames(t, putAll(more)+tail.bytes, list, len(s), impl.CutOk)
	}
}

func TestFramesAtMost(t *testing.T) {
	for _, n := range []int{201, 202, 399, 400, 401} {
		list := someFrames(n)
		s := putAll(list)
		first := putAll(list[:200])
		wantFrames(t, s, list[:200], len(first), impl.CutOk)
		// What is left goes on where the first two hundred ended.
		rest := list[200:min(n, 400)]
		wantFrames(t, s[len(first):], rest, len(putAll(rest)), impl.CutOk)
	}
}

func TestCut(t *testing.T) {
	rows := []struct {
		body string
		size int
		want []string
	}{
		{"a", 1, []string{"a"}},
		{"a", 2, []string{"a"}},
		{"a", 4000, []string{"a"}},
		{"ab", 1, []string{"a", "b"}},
		{"abcde", 1, []string{"a", "b", "c", "d", "e"}},
		{"abcde", 2, []string{"ab", "cd", "e"}},
		{"abcd", 2, []string{"ab", "cd"}},
		{"abcde", 4, []string{"abcd", "e"}},
		{"abcde", 5, []string{"abcde"}},
		{"abcde", 6, []string{"abcde"}},
		{"\x00\xce\xff\x80 ", 3, []string{"\x00\xce\xff", "\x80 "}},
		{"é日", 2, []string{"é", "\xe6\x97", "\xa5"}},
	}
	for _, r := range rows {
		if got := impl.Cut(r.body, r.size); !slices.Equal(got, r.want) {
			t.Errorf("Cut(%q, %d) = %q; want %q", r.body, r.size, got, r.want)
		}
	}
}

func TestCutOfNothing(t *testing.T) {
	for _, size := range []int{1, 2, 3999, 4000, 4001, 0, -1, math.MinInt, math.MaxInt} {
		if got := impl.Cut("", size); len(got) != 0 {
			t.Errorf("Cut of nothing by %d = %q", size, got)
		}
	}
	for _, size := range []int{0, -1, -2, -4000, impl.MaxPayload + 1, impl.MaxPayload + 2, 65536, math.MinInt, math.MaxInt} {
		for _, n := range []int{1, 2, 4000, 4001, 9000} {
			if got := impl.Cut(manyBytes(n), size); len(got) != 0 {
				t.Errorf("Cut of %d bytes by %d: %d pieces; want none", n, size, len(got))
			}
		}
	}
}

func TestCutMakesUpBody(t *testing.T) {
	for _, size := range []int{1, 2, 3, 7, 255, 256, 1000, 3999, 4000} {
		for _, n := range []int{1, 2, size - 1, size, size + 1, 2*size - 1, 2 * size, 2*size + 1, 3999, 4000, 4001, 12000, 20011} {
			body := manyBytes(n)
			got := impl.Cut(body, size)
			if len(got) != (n+size-1)/size || strings.Join(got, "") != body {
				t.Errorf("Cut of %d bytes by %d: %d pieces, %d bytes", n, size, len(got), len(strings.Join(got, "")))
			}
			for i, piece := range got {
				if len(piece) != min(size, n-i*size) {
					t.Errorf("Cut of %d bytes by %d: piece %d has %d bytes", n, size, i, len(piece))
				}
			}
		}
	}
}

// wantOwnMemory wants texts that share memory neither with s nor with each other.
func wantOwnMemory(t *testing.T, what string, s string, texts []string) {
	t.Helper()
	for i, a := range texts {
		if shares(a, s) {
			t.Errorf("%s: text %d shares memory with the argument", what, i)
		}
		for k, b := range texts[:i] {
			if shares(a, b) {
				t.Errorf("%s: texts %d and %d share memory", what, i, k)
			}
		}
	}
}

func TestFrameAnswersAreNewMemory(t *testing.T) {
	payload := manyBytes(40)
	f := impl.Frame{Kind: 3, Channel: 1, Payload: payload}
	put := impl.PutFrame(f)
	if shares(put, payload) {
		t.Error("PutFrame shares memory with the payload")
	}
	next, _, _ := impl.NextFrame(put)
	wantOwnMemory(t, "NextFrame", put, []string{next.Payload})
	for _, text := range []string{payload, "a"} {
		s := strings.Repeat(impl.PutFrame(impl.Frame{Kind: 3, Payload: text}), 6)
		list, _, _ := impl.Frames(s)
		var texts []string
		for _, f := range list {
			texts = append(texts, f.Payload)
		}
		wantOwnMemory(t, "Frames", s, texts)
	}
	for _, body := range []string{strings.Repeat("abc", 20), strings.Repeat("a", 60), "a"} {
		for _, size := range []int{1, 7, 20, 59, 60, 61, 4000} {
			wantOwnMemory(t, "Cut", body, impl.Cut(body, size))
		}
	}
	// A list that is added to doesn't reach into one that is answered later.
	first := impl.Cut("abcde", 2)
	_ = append(first, "x")
	first[0] = "y"
	if got := impl.Cut("abcde", 2); !slices.Equal(got, []string{"ab", "cd", "e"}) {
		t.Errorf("Cut once more = %q", got)
	}
}
