package tests

import (
	"hash/crc32"
	"math"
	"slices"
	"strconv"
	"strings"
	"testing"
	"unsafe"

	"loop.example/g00227/impl"
)

// greatest tells the greatest number that each size of bytes holds.
var greatest = map[int]int{1: 255, 2: 65535, 4: 4294967295, 8: math.MaxInt}

// noPlaces are places that no text of n bytes has a byte at.
func noPlaces(n int) []int {
	return []int{math.MinInt, -8, -2, -1, n, n + 1, n + 8, math.MaxInt - 7, math.MaxInt - 1, math.MaxInt}
}

// shares tells whether two texts lie in overlapping memory.
func shares(a string, b string) bool {
	if a == "" || b == "" {
		return false
	}
	p, q := uintptr(unsafe.Pointer(unsafe.StringData(a))), uintptr(unsafe.Pointer(unsafe.StringData(b)))
	return p < q+uintptr(len(b)) && q < p+uintptr(len(a))
}

// sumByBits is the sum by the document's words, a bit at a time.
func sumByBits(s string) uint32 {
	sum := uint32(4294967295)
	for i := range len(s) {
		sum ^= uint32(s[i])
		for range 8 {
			odd := sum%2 == 1
			sum /= 2
			if odd {
				sum ^= 2197175160
			}
		}
	}
	return sum ^ 4294967295
}

// manyBytes is a text of n bytes with every byte in it, if it is long enough.
func manyBytes(n int) string {
	out := make([]byte, n)
	for i := range out {
		out[i] = byte(i*7 + i/256)
	}
	return string(out)
}

func wantInt(t *testing.T, s string, i int, size int, n int, at int) {
	t.Helper()
	if gotN, gotAt := impl.GetInt(s, i, size); gotN != n || gotAt != at {
		t.Errorf("GetInt(%q, %d, %d) = %d, %d; want %d, %d", s, i, size, gotN, gotAt, n, at)
	}
}

func TestPutIntBytes(t *testing.T) {
	rows := []struct {
		n, size int
		want    string
	}{
		{0, 1, "\x00"},
		{0, 2, "\x00\x00"},
		{0, 4, "\x00\x00\x00\x00"},
		{0, 8, "\x00\x00\x00\x00\x00\x00\x00\x00"},
		{255, 1, "\xff"},
		{65535, 2, "\xff\xff"},
		{4294967295, 4, "\xff\xff\xff\xff"},
		{9223372036854775807, 8, "\x7f\xff\xff\xff\xff\xff\xff\xff"},
		{200, 1, "\xc8"},
		{258, 2, "\x01\x02"},
		{65534, 2, "\xff\xfe"},
		{16909060, 4, "\x01\x02\x03\x04"},
		{72623859790382856, 8, "\x01\x02\x03\x04\x05\x06\x07\x08"},
		{4294967296, 8, "\x00\x00\x00\x01\x00\x00\x00\x00"},
	}
	for _, r := range rows {
		if got := impl.PutInt(r.n, r.size); got != r.want {
			t.Errorf("PutInt(%d, %d) = %q; want %q", r.n, r.size, got, r.want)
		}
		wantInt(t, r.want, 0, r.size, r.n, r.size)
	}
}

func TestPutIntRefused(t *testing.T) {
	for _, size := range []int{1, 2, 4} {
		for _, n := range []int{greatest[size] + 1, greatest[size] + 2, 2 * (greatest[size] + 1), math.MaxInt} {
			if got := impl.PutInt(n, size); got != "" {
				t.Errorf("PutInt(%d, %d) = %q; want nothing", n, size, got)
			}
		}
	}
	for _, size := range []int{1, 2, 4, 8} {
		for _, n := range []int{-1, -256, math.MinInt + 1, math.MinInt} {
			if got := impl.PutInt(n, size); got != "" {
				t.Errorf("PutInt(%d, %d) = %q; want nothing", n, size, got)
			}
		}
	}
	for _, size := range []int{math.MinInt, -8, -2, -1, 0, 3, 5, 6, 7, 9, 16, 64, math.MaxInt} {
		for _, n := range []int{0, 1, 255} {
			if got := impl.PutInt(n, size); got != "" {
				t.Errorf("PutInt(%d, %d) = %q; want nothing", n, size, got)
			}
		}
		wantInt(t, strings.Repeat("\x00", 70), 0, size, 0, -1)
	}
}

func TestIntComesBack(t *testing.T) {
	for size, top := range greatest {
		numbers := []int{0, 1, 127, 128, top / 3, top / 2, top/2 + 1, top - 1, top}
		for shift := 0; shift < 8*size-1; shift++ {
			numbers = append(numbers, 1<<shift, 1<<shift-1)
		}
		for _, n := range numbers {
			put := impl.PutInt(n, size)
			if len(put) != size {
				t.Errorf("PutInt(%d, %d) has %d bytes", n, size, len(put))
			}
			wantInt(t, put, 0, size, n, size)
			wantInt(t, "ab\xff"+put+"\xff", 3, size, n, 3+size)
		}
	}
}

func TestGetIntRefused(t *testing.T) {
	text := manyBytes(20)
	for size := range greatest {
		for _, i := range noPlaces(len(text)) {
			wantInt(t, text, i, size, 0, -1)
		}
		for i := len(text) - size + 1; i <= len(text); i++ {
			wantInt(t, text, i, size, 0, -1)
		}
		wantInt(t, "", 0, size, 0, -1)
		wantInt(t, strings.Repeat("a", size-1), 0, size, 0, -1)
	}
	for _, s := range []string{"\x80\x00\x00\x00\x00\x00\x00\x00", "\x80\x00\x00\x00\x00\x00\x00\x01", "\xff\xff\xff\xff\xff\xff\xff\xff"} {
		wantInt(t, s, 0, 8, 0, -1)
		wantInt(t, "x"+s+"x", 1, 8, 0, -1)
	}
}

// textKind is one of the two ways to put a text, with the bytes that its length takes.
type textKind struct {
	name string
	put  func(string) string
	get  func(string, int) (string, int)
	size int
	most int
}

var textKinds = []textKind{
	{"Short", impl.PutShort, impl.GetShort, 1, 255},
	{"Long", impl.PutLong, impl.GetLong, 4, 100000},
}

func (k textKind) want(t *testing.T, s string, i int, text string, at int) {
	t.Helper()
	if got, gotAt := k.get(s, i); got != text || gotAt != at {
		t.Errorf("Get%s of %d bytes at %d: %d bytes, %d; want %d bytes, %d", k.name, len(s), i, len(got), gotAt, len(text), at)
	}
}

func TestTextComesBack(t *testing.T) {
	for _, k := range textKinds {
		for _, n := range []int{0, 1, 2, 127, 128, 254, 255, 256, 257, 65535, 65536, 99999, 100000} {
			if n > k.most {
				continue
			}
			text := manyBytes(n)
			put := k.put(text)
			if want := impl.PutInt(n, k.size) + text; put != want || len(put) != k.size+n {
				t.Errorf("Put%s of %d bytes has %d bytes", k.name, n, len(put))
			}
			k.want(t, put, 0, text, len(put))
			k.want(t, "\xffb"+put+"\x00c", 2, text, 2+len(put))
		}
	}
}

func TestTextBytes(t *testing.T) {
	if got := impl.PutShort(""); got != "\x00" {
		t.Errorf("PutShort of nothing = %q", got)
	}
	if got := impl.PutShort("a\x00\xff"); got != "\x03a\x00\xff" {
		t.Errorf("PutShort = %q", got)
	}
	if got := impl.PutShort(strings.Repeat("z", 200)); got != "\xc8"+strings.Repeat("z", 200) {
		t.Errorf("PutShort of 200 = %q", got)
	}
	if got := impl.PutLong(""); got != "\x00\x00\x00\x00" {
		t.Errorf("PutLong of nothing = %q", got)
	}
	if got := impl.PutLong(strings.Repeat("z", 258)); got != "\x00\x00\x01\x02"+strings.Repeat("z", 258) {
		t.Errorf("PutLong of 258 = %q", got)
	}
	if got := impl.PutLong(strings.Repeat("z", 100000)); got != "\x00\x01\x86\xa0"+strings.Repeat("z", 100000) {
		t.Errorf("PutLong of 100000 has %d bytes", len(got))
	}
}

func TestTextTooLong(t *testing.T) {
	for _, k := range textKinds {
		for _, n := range []int{k.most + 1, k.most + 2, 2 * k.most, 2*k.most + 2} {
			if got := k.put(manyBytes(n)); got != "" {
				t.Errorf("Put%s of %d bytes has %d bytes; want none", k.name, n, len(got))
			}
		}
	}
	// These lengths are told in bytes that are all there; no PutLong tells them.
	body := strings.Repeat("y", 100005)
	for _, n := range []int{100001, 100002, 100005} {
		textKinds[1].want(t, impl.PutInt(n, 4)+body, 0, "", -1)
	}
	textKinds[1].want(t, "\xff\xff\xff\xff"+body, 0, "", -1)
	textKinds[1].want(t, impl.PutInt(100000, 4)+body, 0, body[:100000], 100004)
}

func TestTextRefused(t *testing.T) {
	for _, k := range textKinds {
		put := k.put("abcdef")
		for n := range len(put) {
			k.want(t, put[:n], 0, "", -1)
			k.want(t, "xy"+put[:n], 2, "", -1)
		}
		full := k.put(manyBytes(k.most))
		k.want(t, full[:len(full)-1], 0, "", -1)
		zeros := strings.Repeat("\x00", 12)
		for _, i := range noPlaces(len(zeros)) {
			k.want(t, zeros, i, "", -1)
		}
		for i := len(zeros) - k.size + 1; i <= len(zeros); i++ {
			k.want(t, zeros, i, "", -1)
		}
		k.want(t, zeros, len(zeros)-k.size, "", len(zeros))
		k.want(t, "", 0, "", -1)
	}
}

func TestCheckSumKnown(t *testing.T) {
	rows := map[string]uint32{
		"":                         0,
		"123456789":                3808858755,
		"a":                        0xc1d04330,
		strings.Repeat("\x00", 32): 0x8a9136aa,
		strings.Repeat("\xff", 32): 0x62a8ab43,
	}
	for s, want := range rows {
		if got := impl.CheckSum(s); got != want {
			t.Errorf("CheckSum(%q) = %d; want %d", s, got, want)
		}
	}
}

func TestCheckSumByRule(t *testing.T) {
	known := crc32.MakeTable(crc32.Castagnoli)
	check := func(s string) {
		got := impl.CheckSum(s)
		if got != sumByBits(s) || got != crc32.Checksum([]byte(s), known) {
			t.Errorf("CheckSum of %d bytes = %d; want %d", len(s), got, sumByBits(s))
		}
	}
	for b := range 256 {
		check(string([]byte{byte(b)}))
		check(string([]byte{'x', byte(b), 0}))
	}
	for n := range 300 {
		check(manyBytes(n))
	}
	check(manyBytes(100000))
}

func TestCheckSumOfChanged(t *testing.T) {
	for _, s := range []string{"\x00", "a", "123456789", "\x00\x00\x00", "\xff\xff", manyBytes(64)} {
		sum := impl.CheckSum(s)
		for i := range len(s) {
			for b := range 256 {
				changed := s[:i] + string([]byte{byte(b)}) + s[i+1:]
				if same := impl.CheckSum(changed) == sum; same != (changed == s) {
					t.Errorf("CheckSum of %q and %q: alike is %v", s, changed, same)
				}
			}
		}
	}
}

func TestNameOk(t *testing.T) {
	for n, want := range map[int]bool{0: false, 1: true, 2: true, impl.MaxName: true, impl.MaxName + 1: false, 255: false} {
		if got := impl.NameOk(strings.Repeat("q", n)); got != want {
			t.Errorf("NameOk of %d bytes = %v", n, got)
		}
	}
	if impl.MaxName != 30 {
		t.Errorf("MaxName = %d", impl.MaxName)
	}
	allowed := "abcdefghijklmnopqrstuvwxyz0123456789-._"
	for b := range 256 {
		one := string([]byte{byte(b)})
		want := strings.Contains(allowed, one)
		for _, s := range []string{one, one + "ab", "a" + one + "b", "ab" + one, strings.Repeat("a", 29) + one} {
			if got := impl.NameOk(s); got != want {
				t.Errorf("NameOk(%q) = %v", s, got)
			}
		}
	}
	if impl.NameOk("é") || impl.NameOk("a b") || impl.NameOk("a\n") {
		t.Error("a name with a byte that is none of a name")
	}
}

func TestDecText(t *testing.T) {
	rows := map[int]string{
		0: "0", 1: "1", 9: "9", 10: "10", 120: "120", -1: "-1", -12: "-12", -100: "-100",
		999999999: "999999999", 1000000000: "1000000000",
		math.MaxInt: "9223372036854775807", math.MinInt: "-9223372036854775808",
	}
	for n, want := range rows {
		if got := impl.DecText(n); got != want {
			t.Errorf("DecText(%d) = %q; want %q", n, got, want)
		}
	}
}

func TestReadDec(t *testing.T) {
	for _, n := range []int{0, 1, 9, 10, 19, 100, 120, 65535, 99999999, 100000000, 999999998, 999999999} {
		if got := impl.ReadDec(impl.DecText(n)); got != n {
			t.Errorf("ReadDec of %d = %d", n, got)
		}
		if got := impl.ReadDec(strconv.Itoa(n)); got != n {
			t.Errorf("ReadDec(%d) = %d", n, got)
		}
	}
	none := []string{
		"", " ", "1000000000", "1000000001", "9999999999", "9223372036854775807", "9223372036854775808", "18446744073709551616", strings.Repeat("9", 1000),
		"00", "01", "007", "0000000001", "0999999999", strings.Repeat("0", 1000),
		"-1", "-0", "+0", "+1", "-", "+", "--1", "-999999999", "-9223372036854775808",
		" 1", "1 ", "1 2", "\t1", "1\n", "1\x00",
		"a", "1a", "a1", "0x1", "0b1", "0o7", "1_000", "1e3", "1.0", "1.", ".1", "1,0", "/", ":", "1/", "1:", "\u0661",
	}
	for _, s := range none {
		if got := impl.ReadDec(s); got != -1 {
			t.Errorf("ReadDec(%q) = %d; want -1", s, got)
		}
	}
}

func TestWords(t *testing.T) {
	rows := map[string][]string{
		"":           {""},
		" ":          {"", ""},
		"   ":        {"", "", "", ""},
		"a":          {"a"},
		"a b":        {"a", "b"},
		" a":         {"", "a"},
		"a ":         {"a", ""},
		"a  b":       {"a", "", "b"},
		"  a  b  ":   {"", "", "a", "", "b", "", ""},
		"say =x 12":  {"say", "=x", "12"},
		"a\tb\nc\rd": {"a\tb\nc\rd"},
		"\xff \x00":  {"\xff", "\x00"},
		"a\u00a0b":   {"a\u00a0b"},
	}
	for s, want := range rows {
		got := impl.Words(s)
		if !slices.Equal(got, want) {
			t.Errorf("Words(%q) = %q; want %q", s, got, want)
		}
		if len(got) != strings.Count(s, " ")+1 || strings.Join(got, " ") != s {
			t.Errorf("Words(%q) = %q: not all of it", s, got)
		}
	}
	long := strings.Repeat("word ", 2000)
	if got := impl.Words(long); len(got) != 2001 || strings.Join(got, " ") != long {
		t.Errorf("Words of 2000 blanks: %d", len(got))
	}
}

func TestBytesAnswersAreNewMemory(t *testing.T) {
	text := strings.Repeat("some words ", 4)
	for _, k := range textKinds {
		put := k.put(text)
		if got, _ := k.get(put, 0); shares(put, text) || shares(got, put) {
			t.Errorf("Put%s or Get%s answers a piece of its argument", k.name, k.name)
		}
	}
	for _, word := range impl.Words(text) {
		if shares(word, text) {
			t.Errorf("Words answers %q, a piece of its argument", word)
		}
	}
}
