package tests

import (
	"encoding/binary"
	"fmt"
	"math"
	"slices"
	"strconv"
	"strings"
	"testing"

	"loop.example/g00227/impl"
)

// knownMethod is a method that the document lists, by its words.
type knownMethod struct {
	class int
	id    int
	form  string
}

var knownMethods = []knownMethod{
	{10, 50, "ss"}, {20, 10, ""}, {20, 11, ""},
	{40, 10, "ss"}, {40, 11, ""},
	{50, 10, "s1"}, {50, 11, "s4"}, {50, 20, "sss"}, {50, 21, ""},
	{60, 40, "ss"}, {60, 70, "s"}, {60, 71, "81ss4"}, {60, 72, ""},
	{60, 80, "81"}, {60, 120, "811"},
	{85, 10, "1"}, {85, 11, ""},
	{90, 10, ""}, {90, 11, ""}, {90, 20, ""}, {90, 21, ""}, {90, 30, ""}, {90, 31, ""},
}

func isKnown(class int, id int) bool {
	return slices.ContainsFunc(knownMethods, func(k knownMethod) bool { return k.class == class && k.id == id })
}

// unknownPairs are class and id of no method, near to known ones and far from all.
func unknownPairs() [][2]int {
	far := []int{math.MinInt, -65536, -256, -1, 0, 1, 255, 256, 32768, 65535, 65536, 4294967296, math.MaxInt}
	var out [][2]int
	for _, k := range knownMethods {
		for _, by := range []int{-65536, -256, 256, 65536, 4294967296} {
			out = append(out, [2]int{k.class + by, k.id}, [2]int{k.class, k.id + by})
		}
		for _, n := range far {
			out = append(out, [2]int{n, k.id}, [2]int{k.class, n}, [2]int{n, n})
		}
		out = append(out, [2]int{-k.class, k.id}, [2]int{k.class, -k.id}, [2]int{k.id, k.class})
	}
	return slices.DeleteFunc(out, func(p [2]int) bool { return isKnown(p[0], p[1]) })
}

// method is a method of k whose texts and numbers are the ones of these lists in turn.
func (k knownMethod) method(texts []string, num func(size int, i int) int) impl.Method {
	m := impl.Method{Class: k.class, Id: k.id}
	for _, letter := range k.form {
		if letter == 's' {
			m.Texts = append(m.Texts, texts[len(m.Texts)%len(texts)])
		} else {
			m.Nums = append(m.Nums, num(int(letter-'0'), len(m.Nums)))
		}
	}
	return m
}

// plain is a method of k with texts and numbers of which no two are alike.
func (k knownMethod) plain() impl.Method {
	return k.method([]string{"first", "second one", "\x00\xff third"}, func(_ int, i int) int { return 5 + 7*i })
}

// bytes are what m, of k, has in bytes, by the document's words alone.
func (k knownMethod) bytes(m impl.Method) string {
	out := binary.BigEndian.AppendUint16(nil, uint16(k.class))
	out = binary.BigEndian.AppendUint16(out, uint16(k.id))
	texts, nums := m.Texts, m.Nums
	for _, letter := range k.form {
		if letter == 's' {
			out = append(append(out, byte(len(texts[0]))), texts[0]...)
			texts = texts[1:]
			continue
		}
		eight := binary.BigEndian.AppendUint64(nil, uint64(nums[0]))
		out = append(out, eight[8-int(letter-'0'):]...)
		nums = nums[1:]
	}
	return string(out)
}

// words are what m, of k, is told as.
func (k knownMethod) words(m impl.Method) string {
	out := strconv.Itoa(k.class) + " " + strconv.Itoa(k.id)
	texts, nums := m.Texts, m.Nums
	for _, letter := range k.form {
		if letter == 's' {
			out += " =" + texts[0]
			texts = texts[1:]
		} else {
			out += " " + strconv.Itoa(nums[0])
			nums = nums[1:]
		}
	}
	return out
}

// told is m for a report, with its texts in quotes.
func told(m impl.Method) string {
	return fmt.Sprintf("%d %d %q %d", m.Class, m.Id, m.Texts, m.Nums)
}

func sameMethod(a impl.Method, b impl.Method) bool {
	return a.Class == b.Class && a.Id == b.Id && slices.Equal(a.Texts, b.Texts) && slices.Equal(a.Nums, b.Nums)
}

// wantMethod wants all that the chapter says of m, which is as k tells.
func (k knownMethod) wantMethod(t *testing.T, m impl.Method) {
	t.Helper()
	put := k.bytes(m)
	if !impl.MethodOk(m) {
		t.Errorf("MethodOk of %s = false", told(m))
	}
	if got := impl.PutMethod(m); got != put {
		t.Errorf("PutMethod of %s = %q; want %q", told(m), got, put)
	}
	if got, ok := impl.GetMethod(put); !ok || !sameMethod(got, m) {
		t.Errorf("GetMethod(%q) = %s, %v; want %s", put, told(got), ok, told(m))
	}
	if got, want := impl.MethodText(m), k.words(m); got != want {
		t.Errorf("MethodText of %s = %q; want %q", told(m), got, want)
	}
	if got, want := impl.Say(258, m), frameBytes(1, 258, len(put), put, 206); got != want {
		t.Errorf("Say of %s = %q; want %q", told(m), got, want)
	}
}

// wantNoMethod wants m to be refused by all that take a method.
func wantNoMethod(t *testing.T, why string, m impl.Method) {
	t.Helper()
	if impl.MethodOk(m) || impl.PutMethod(m) != "" || impl.MethodText(m) != "" || impl.Say(1, m) != "" {
		t.Errorf("%s: %d %d with %d texts and %d numbers is taken: %v, %q, %q, %q", why, m.Class, m.Id, len(m.Texts), len(m.Nums),
			impl.MethodOk(m), impl.PutMethod(m), impl.MethodText(m), impl.Say(1, m))
	}
}

// wantNoBytes wants s to be the bytes of no method.
func wantNoBytes(t *testing.T, why string, s string) {
	t.Helper()
	if got, ok := impl.GetMethod(s); ok || got.Class != 0 || got.Id != 0 || len(got.Texts) != 0 || len(got.Nums) != 0 {
		t.Errorf("%s: GetMethod(%q) = %s, %v; want the zero value and false", why, s, told(got), ok)
	}
}

func TestFormKnown(t *testing.T) {
	for _, k := range knownMethods {
		if got, ok := impl.Form(k.class, k.id); got != k.form || !ok {
			t.Errorf("Form(%d, %d) = %q, %v; want %q, true", k.class, k.id, got, ok, k.form)
		}
	}
}

func TestFormUnknown(t *testing.T) {
	pairs := unknownPairs()
	for class := -5; class < 300; class++ {
		for id := -5; id < 300; id++ {
			if !isKnown(class, id) {
				pairs = append(pairs, [2]int{class, id})
			}
		}
	}
	for _, p := range pairs {
		if got, ok := impl.Form(p[0], p[1]); got != "" || ok {
			t.Errorf("Form(%d, %d) = %q, %v; want the empty text and false", p[0], p[1], got, ok)
		}
	}
}

func TestMethodUnknown(t *testing.T) {
	for _, p := range unknownPairs() {
		for _, m := range []impl.Method{{}, {Texts: []string{"a"}}, {Texts: []string{"a", "b"}}, {Nums: []int{1}}, {Texts: []string{"a"}, Nums: []int{1}}} {
			m.Class, m.Id = p[0], p[1]
			wantNoMethod(t, "not known", m)
		}
	}
	wantNoMethod(t, "zero value", impl.Method{})
}

func TestMethodCounts(t *testing.T) {
	for _, k := range knownMethods {
		m := k.plain()
		k.wantMethod(t, m)
		for _, more := range []string{"", "x", "first"} {
			wantNoMethod(t, "a text too many", impl.Method{Class: k.class, Id: k.id, Texts: append(slices.Clone(m.Texts), more), Nums: m.Nums})
		}
		for _, more := range []int{0, 1, -1} {
			wantNoMethod(t, "a number too many", impl.Method{Class: k.class, Id: k.id, Texts: m.Texts, Nums: append(slices.Clone(m.Nums), more)})
		}
		wantNoMethod(t, "one of each too many", impl.Method{Class: k.class, Id: k.id, Texts: append(slices.Clone(m.Texts), ""), Nums: append(slices.Clone(m.Nums), 0)})
		if len(m.Texts) > 0 {
			few := m.Texts[1:]
			wantNoMethod(t, "a text too few", impl.Method{Class: k.class, Id: k.id, Texts: few, Nums: m.Nums})
			wantNoMethod(t, "a number for a text", impl.Method{Class: k.class, Id: k.id, Texts: few, Nums: append(slices.Clone(m.Nums), 1)})
			wantNoMethod(t, "no texts", impl.Method{Class: k.class, Id: k.id, Nums: m.Nums})
		}
		if len(m.Nums) > 0 {
			few := m.Nums[1:]
			wantNoMethod(t, "a number too few", impl.Method{Class: k.class, Id: k.id, Texts: m.Texts, Nums: few})
			wantNoMethod(t, "a text for a number", impl.Method{Class: k.class, Id: k.id, Texts: append(slices.Clone(m.Texts), "1"), Nums: few})
			wantNoMethod(t, "no numbers", impl.Method{Class: k.class, Id: k.id, Texts: m.Texts})
		}
	}
}

func TestMethodManyTooMany(t *testing.T) {
	for _, k := range knownMethods {
		m := k.plain()
		wantNoMethod(t, "many texts", impl.Method{Class: k.class, Id: k.id, Texts: append(slices.Clone(m.Texts), make([]string, 70000)...), Nums: m.Nums})
		wantNoMethod(t, "many numbers", impl.Method{Class: k.class, Id: k.id, Texts: m.Texts, Nums: append(slices.Clone(m.Nums), make([]int, 70000)...)})
	}
}

func TestMethodTextSizes(t *testing.T) {
	for _, k := range knownMethods {
		m := k.plain()
		for i := range m.Texts {
			for _, n := range []int{0, 1, 2, 127, 128, 254, 255, 256, 257, 511, 512, 65536, 65537} {
				other := k.plain()
				other.Texts[i] = manyBytes(n)
				if n <= 255 {
					k.wantMethod(t, other)
				} else {
					wantNoMethod(t, "text too long", other)
				}
			}
		}
	}
}

func TestMethodNumberSizes(t *testing.T) {
	for _, k := range knownMethods {
		sizes := strings.ReplaceAll(k.form, "s", "")
		for i := range len(sizes) {
			most := greatest[int(sizes[i]-'0')]
			for _, n := range []int{0, 1, most / 2, most - 1, most} {
				m := k.plain()
				m.Nums[i] = n
				k.wantMethod(t, m)
			}
			// One above the greatest of eight bytes wraps round to below 0.
			for _, n := range []int{most + 1, most + 2, -1, -2, -most, -most - 1, math.MinInt} {
				m := k.plain()
				m.Nums[i] = n
				wantNoMethod(t, "number "+strconv.Itoa(n), m)
			}
			if most < math.MaxInt {
				m := k.plain()
				m.Nums[i] = math.MaxInt
				wantNoMethod(t, "greatest number", m)
			}
		}
	}
}

func TestPutMethodBytes(t *testing.T) {
	rows := []struct {
		method impl.Method
		put    string
		text   string
	}{
		{impl.Method{Class: 10, Id: 50, Texts: []string{"200", "bye"}}, "\x00\x0a\x00\x32\x03200\x03bye", "10 50 =200 =bye"},
		{impl.Method{Class: 20, Id: 10}, "\x00\x14\x00\x0a", "20 10"},
		{impl.Method{Class: 50, Id: 10, Texts: []string{"mail"}, Nums: []int{1}}, "\x00\x32\x00\x0a\x04mail\x01", "50 10 =mail 1"},
		{impl.Method{Class: 50, Id: 11, Texts: []string{"q"}, Nums: []int{16909060}}, "\x00\x32\x00\x0b\x01q\x01\x02\x03\x04", "50 11 =q 16909060"},
		{impl.Method{Class: 50, Id: 20, Texts: []string{"", "a b", ""}}, "\x00\x32\x00\x14\x00\x03a b\x00", "50 20 = =a b ="},
		{impl.Method{Class: 60, Id: 70, Texts: []string{""}}, "\x00\x3c\x00\x46\x00", "60 70 ="},
		{impl.Method{Class: 60, Id: 70, Texts: []string{" "}}, "\x00\x3c\x00\x46\x01 ", "60 70 = "},
		{impl.Method{Class: 60, Id: 70, Texts: []string{"=a =b 1"}}, "\x00\x3c\x00\x46\x07=a =b 1", "60 70 ==a =b 1"},
		{impl.Method{Class: 60, Id: 71, Texts: []string{"x", "k"}, Nums: []int{72623859790382856, 255, 4294967295}},
			"\x00\x3c\x00\x47\x01\x02\x03\x04\x05\x06\x07\x08\xff\x01x\x01k\xff\xff\xff\xff", "60 71 72623859790382856 255 =x =k 4294967295"},
		{impl.Method{Class: 60, Id: 80, Nums: []int{math.MaxInt, 0}}, "\x00\x3c\x00\x50\x7f\xff\xff\xff\xff\xff\xff\xff\x00", "60 80 9223372036854775807 0"},
		{impl.Method{Class: 60, Id: 120, Nums: []int{0, 1, 2}}, "\x00\x3c\x00\x78\x00\x00\x00\x00\x00\x00\x00\x00\x01\x02", "60 120 0 1 2"},
		{impl.Method{Class: 85, Id: 10, Nums: []int{0}}, "\x00\x55\x00\x0a\x00", "85 10 0"},
		{impl.Method{Class: 90, Id: 31}, "\x00\x5a\x00\x1f", "90 31"},
	}
	for _, r := range rows {
		if got := impl.PutMethod(r.method); got != r.put {
			t.Errorf("PutMethod of %s = %q; want %q", told(r.method), got, r.put)
		}
		if got := impl.MethodText(r.method); got != r.text {
			t.Errorf("MethodText of %s = %q; want %q", told(r.method), got, r.text)
		}
		if got, ok := impl.GetMethod(r.put); !ok || !sameMethod(got, r.method) {
			t.Errorf("GetMethod(%q) = %s, %v; want %s", r.put, told(got), ok, told(r.method))
		}
	}
}

func TestMethodComesBack(t *testing.T) {
	texts := [][]string{{""}, {"a"}, {"a", ""}, {"", "a"}, {" "}, {"a b", " ", "  c "}, {"=", "=x 1"}, {"\x00", "\xff\xce"}, {"é日", "\n"},
		{manyBytes(255)}, {strings.Repeat("\x00", 255), "b"}, {"b", strings.Repeat("\xff", 255)}, {manyBytes(254), manyBytes(255), ""}}
	nums := []func(int, int) int{
		func(int, int) int { return 0 },
		func(_ int, i int) int { return i + 1 },
		func(size int, _ int) int { return greatest[size] },
		func(size int, i int) int { return greatest[size] - i },
		func(size int, i int) int { return (greatest[size] / 3) >> i },
	}
	for _, k := range knownMethods {
		for _, list := range texts {
			for _, num := range nums {
				k.wantMethod(t, k.method(list, num))
			}
		}
	}
}

func TestGetMethodOfBeginnings(t *testing.T) {
	for _, k := range knownMethods {
		for _, m := range []impl.Method{k.plain(), k.method([]string{""}, func(int, int) int { return 0 }), k.method([]string{manyBytes(255)}, func(size int, _ int) int { return greatest[size] })} {
			put := k.bytes(m)
			for n := range len(put) {
				wantNoBytes(t, "beginning", put[:n])
			}
		}
	}
}

func TestGetMethodOfBytesBehind(t *testing.T) {
	for _, k := range knownMethods {
		for _, m := range []impl.Method{k.plain(), k.method([]string{""}, func(int, int) int { return 0 }), k.method([]string{manyBytes(255)}, func(size int, _ int) int { return greatest[size] })} {
			put := k.bytes(m)
			for _, more := range []string{"\x00", "x", "\xff", "\xce", "\x01a", "\x00\x00\x00\x00", put, manyBytes(300)} {
				wantNoBytes(t, "bytes behind", put+more)
			}
		}
	}
}

func TestGetMethodOfUnknown(t *testing.T) {
	for _, p := range unknownPairs() {
		if p[0] < 0 || p[0] > 65535 || p[1] < 0 || p[1] > 65535 {
			continue
		}
		head := string(binary.BigEndian.AppendUint16(binary.BigEndian.AppendUint16(nil, uint16(p[0])), uint16(p[1])))
		for _, more := range []string{"", "\x00", "\x00\x00", "\x01a\x01b", "\x00\x00\x00\x00\x00\x00\x00\x01\x00"} {
			wantNoBytes(t, "not known", head+more)
		}
	}
	// Class and id are of two bytes each, the highest first.
	for _, s := range []string{"\x14\x0a", "\x0a\x00\x14\x00", "\x14\x00\x0a\x00", "\x00\x0a\x00\x14", "\x00\x00\x00\x14\x00\x00\x00\x0a", "\x01\x14\x00\x0a", "\x00\x14\x01\x0a", "20 10"} {
		wantNoBytes(t, "not known", s)
	}
}

func TestGetMethodOfGreatNumber(t *testing.T) {
	for _, k := range knownMethods {
		at := strings.IndexByte(k.form, '8')
		if at < 0 {
			continue
		}
		put := []byte(k.bytes(k.plain()))
		// The number of eight bytes is the first part wherever there is one.
		for _, first := range []byte{0x80, 0x81, 0xff} {
			put[4+at] = first
			wantNoBytes(t, "first bit set", string(put))
		}
		put[4+at] = 0x7f
		if _, ok := impl.GetMethod(string(put)); !ok {
			t.Errorf("GetMethod(%q) is refused", put)
		}
		copy(put[4+at:], "\xff\xff\xff\xff\xff\xff\xff\xff")
		wantNoBytes(t, "all bits set", string(put))
		copy(put[4+at:], "\x80\x00\x00\x00\x00\x00\x00\x00")
		wantNoBytes(t, "first bit alone", string(put))
	}
}

// A text that is got is put again as itself, whatever bytes are changed: no
// other bytes are a method's.
func TestNoOtherBytesAreAMethods(t *testing.T) {
	for _, k := range knownMethods {
		put := []byte(k.bytes(k.plain()))
		for i := range put {
			was := put[i]
			for b := range 256 {
				put[i] = byte(b)
				m, ok := impl.GetMethod(string(put))
				if ok && (!impl.MethodOk(m) || impl.PutMethod(m) != string(put)) {
					t.Errorf("GetMethod(%q) = %s, whose bytes are %q", put, told(m), impl.PutMethod(m))
				}
				if !ok && !sameMethod(m, impl.Method{}) {
					t.Errorf("GetMethod(%q) = %s, false", put, told(m))
				}
			}
			put[i] = was
		}
	}
}

func TestMethodsOfAnotherForm(t *testing.T) {
	for _, k := range knownMethods {
		for _, other := range knownMethods {
			if other.form == k.form {
				continue
			}
			m := other.plain()
			m.Class, m.Id = k.class, k.id
			// A list has no order beside the other one, so forms with as many of each may be met.
			alike := strings.Count(k.form, "s") == strings.Count(other.form, "s") && len(k.form) == len(other.form)
			if alike {
				k.wantMethod(t, m)
			} else {
				wantNoMethod(t, "form of another", m)
			}
		}
	}
	// A place of a form tells the size of its number.
	wantNoMethod(t, "sizes", impl.Method{Class: 60, Id: 71, Texts: []string{"", ""}, Nums: []int{1, 4294967295, 1}})
	wantNoMethod(t, "sizes", impl.Method{Class: 60, Id: 80, Nums: []int{1, 256}})
	wantNoMethod(t, "sizes", impl.Method{Class: 60, Id: 120, Nums: []int{1, 1, 256}})
}

func TestSayChannels(t *testing.T) {
	m := impl.Method{Class: 60, Id: 40, Texts: []string{"x", "k"}}
	put := "\x00\x3c\x00\x28\x01x\x01k"
	for _, channel := range []int{0, 1, 255, 256, 32768, 65534, 65535} {
		if got, want := impl.Say(channel, m), frameBytes(1, channel, 8, put, 206); got != want {
			t.Errorf("Say(%d, ..) = %q; want %q", channel, got, want)
		}
	}
	for _, channel := range noChannels {
		if got := impl.Say(channel, m); got != "" {
			t.Errorf("Say(%d, ..) = %q; want the empty text", channel, got)
		}
	}
	for _, bad := range []impl.Method{{}, {Class: 60, Id: 41}, {Class: 60, Id: 40}, {Class: 60, Id: 40, Texts: []string{"x", manyBytes(256)}}, {Class: 20, Id: 10, Nums: []int{0}}} {
		for _, channel := range append([]int{0, 1, 65535}, noChannels...) {
			if got := impl.Say(channel, bad); got != "" {
				t.Errorf("Say(%d, %d %d) = %q; want the empty text", channel, bad.Class, bad.Id, got)
			}
		}
	}
}

func TestSayComesBack(t *testing.T) {
	longest := 0
	for _, k := range knownMethods {
		for _, m := range []impl.Method{k.plain(), k.method([]string{manyBytes(255)}, func(size int, _ int) int { return greatest[size] })} {
			put := k.bytes(m)
			longest = max(longest, len(put))
			said := impl.Say(65535, m)
			wantNext(t, said+"more", impl.Frame{Kind: impl.FrameMethod, Channel: 65535, Payload: put}, len(put)+8, impl.CutOk)
			f, _, _ := impl.NextFrame(said)
			if got, ok := impl.GetMethod(f.Payload); !ok || !sameMethod(got, m) {
				t.Errorf("what is said of %s is %s, %v", told(m), told(got), ok)
			}
		}
	}
	// Three texts of 255 bytes are the most that a method has, far below MaxPayload.
	if longest != 772 {
		t.Errorf("the longest method has %d bytes; want 772", longest)
	}
}

// wantUnwritten calls all that take a method with lists that have room behind
// them, and wants lists and room as they were.
func wantUnwritten(t *testing.T, m impl.Method) {
	t.Helper()
	texts := append(slices.Clone(m.Texts), "room", "behind", "it")
	nums := append(slices.Clone(m.Nums), 77, 78, 79)
	given := impl.Method{Class: m.Class, Id: m.Id, Texts: texts[:len(m.Texts)], Nums: nums[:len(m.Nums)]}
	impl.MethodOk(given)
	impl.PutMethod(given)
	impl.MethodText(given)
	impl.Say(1, given)
	if !slices.Equal(texts, append(slices.Clone(m.Texts), "room", "behind", "it")) {
		t.Errorf("%d %d: texts are %q now", m.Class, m.Id, texts)
	}
	if !slices.Equal(nums, append(slices.Clone(m.Nums), 77, 78, 79)) {
		t.Errorf("%d %d: numbers are %d now", m.Class, m.Id, nums)
	}
}

func TestMethodIsNotWrittenInto(t *testing.T) {
	for _, k := range knownMethods {
		m := k.plain()
		wantUnwritten(t, m)
		wantUnwritten(t, impl.Method{Class: k.class, Id: k.id})
		wantUnwritten(t, impl.Method{Class: k.class, Id: k.id, Texts: append(m.Texts, "x"), Nums: append(m.Nums, 1)})
		wantUnwritten(t, impl.Method{Class: k.class, Id: k.id + 1000, Texts: m.Texts, Nums: m.Nums})
		if len(m.Texts) > 0 {
			long := k.plain()
			long.Texts[0] = manyBytes(256)
			wantUnwritten(t, long)
		}
		if len(m.Nums) > 0 {
			great := k.plain()
			great.Nums[0] = -1
			wantUnwritten(t, great)
		}
	}
}

func TestMethodAnswersAreNewMemory(t *testing.T) {
	for _, k := range knownMethods {
		for _, m := range []impl.Method{k.plain(), k.method([]string{"a"}, func(int, int) int { return 1 }), k.method([]string{manyBytes(255)}, func(size int, _ int) int { return greatest[size] })} {
			put := impl.PutMethod(m)
			for _, text := range m.Texts {
				if shares(put, text) || shares(impl.MethodText(m), text) || shares(impl.Say(1, m), text) {
					t.Errorf("%d %d: an answer shares memory with a text", k.class, k.id)
				}
			}
			got, _ := impl.GetMethod(put)
			wantOwnMemory(t, "GetMethod", put, got.Texts)
			// What is done to the lists of one answer is not seen in the other's, nor in its own other list.
			other, _ := impl.GetMethod(put)
			for i := range got.Texts {
				got.Texts[i] = "changed"
			}
			if !slices.Equal(got.Nums, m.Nums) {
				t.Errorf("%d %d: numbers change with texts", k.class, k.id)
			}
			for i := range got.Nums {
				got.Nums[i] = -1
			}
			_ = append(got.Texts, "more", "more")
			_ = append(got.Nums, -2, -3)
			if !sameMethod(other, m) {
				t.Errorf("an answer is %s behind what was done to the other; want %s", told(other), told(m))
			}
			if again, ok := impl.GetMethod(put); !ok || !sameMethod(again, m) {
				t.Errorf("got once more it is %s; want %s", told(again), told(m))
			}
		}
	}
}
