package tests

import (
	"cmp"
	"reflect"
	"runtime"
	"slices"
	"strings"
	"testing"
	"unsafe"
)

// span is the memory of a list, with the room behind it, or of a text.
type span struct {
	from, to uintptr
	list     bool
}

func (s span) meets(o span) bool { return s.from < o.to && o.from < s.to }

// spansOf are the spans of all lists and texts in a value.
func spansOf(v reflect.Value) []span {
	var out []span
	switch v.Kind() {
	case reflect.String:
		if n := v.Len(); n > 0 {
			from := uintptr(unsafe.Pointer(unsafe.StringData(v.String())))
			out = append(out, span{from: from, to: from + uintptr(n)})
		}
	case reflect.Slice:
		if n := v.Cap(); n > 0 {
			out = append(out, span{from: v.Pointer(), to: v.Pointer() + uintptr(n)*v.Type().Elem().Size(), list: true})
		}
		for i := range v.Len() {
			out = append(out, spansOf(v.Index(i))...)
		}
	case reflect.Struct:
		for i := range v.NumField() {
			out = append(out, spansOf(v.Field(i))...)
		}
	case reflect.Interface:
		if !v.IsNil() {
			out = spansOf(v.Elem())
		}
	}
	return out
}

// filled is a value of a type in which each number, text, flag and list is something.
func filled(kind reflect.Type) reflect.Value {
	v := reflect.New(kind).Elem()
	switch kind.Kind() {
	case reflect.Int:
		v.SetInt(-77)
	case reflect.String:
		v.SetString("room")
	case reflect.Bool:
		v.SetBool(true)
	case reflect.Slice:
		v.Set(reflect.Append(v, filled(kind.Elem())))
	case reflect.Struct:
		for i := range v.NumField() {
			v.Field(i).Set(filled(kind.Field(i).Type))
		}
	}
	return v
}

// ownOf is a value in memory of its own, each list with room behind it in
// which filled values stand.
func ownOf(v reflect.Value) reflect.Value {
	out := reflect.New(v.Type()).Elem()
	switch v.Kind() {
	case reflect.String:
		out.SetString(strings.Clone(v.String()))
	case reflect.Slice:
		n := v.Len()
		list := reflect.MakeSlice(v.Type(), n+3, n+3)
		for i := range n + 3 {
			if i < n {
				list.Index(i).Set(ownOf(v.Index(i)))
			} else {
				list.Index(i).Set(filled(v.Type().Elem()))
			}
		}
		out.Set(list.Slice(0, n))
	case reflect.Struct:
		for i := range v.NumField() {
			out.Field(i).Set(ownOf(v.Field(i)))
		}
	default:
		out.Set(v)
	}
	return out
}

// roomUnwritten tells whether behind each list of what ownOf made there still
// stands what it put there.
func roomUnwritten(v reflect.Value) bool {
	switch v.Kind() {
	case reflect.Slice:
		all := v.Slice(0, v.Cap())
		for i := range all.Len() {
			if i >= v.Len() && !alike(all.Index(i), filled(v.Type().Elem())) || i < v.Len() && !roomUnwritten(v.Index(i)) {
				return false
			}
		}
	case reflect.Struct:
		for i := range v.NumField() {
			if !roomUnwritten(v.Field(i)) {
				return false
			}
		}
	}
	return true
}

// sharedMemory tells what an answer shares memory with, the empty text for
// nothing. What was given shares none within itself.
func sharedMemory(given []span, got []span) string {
	byPlace := func(a, b span) int { return cmp.Compare(a.from, b.from) }
	slices.SortFunc(given, byPlace)
	slices.SortFunc(got, byPlace)
	var last span
	for _, a := range got {
		at, _ := slices.BinarySearchFunc(given, a.from, func(g span, from uintptr) int { return cmp.Compare(g.to, from+1) })
		if at < len(given) && a.meets(given[at]) {
			return "its argument"
		}
		if a.list && last.meets(a) {
			return "another list of it"
		}
		if a.list {
			last = a
		}
	}
	return ""
}

// wantApartAll wants a call to write nothing into its arguments nor into the
// room behind their lists, to answer memory that it shares with none of them,
// and no two lists in one memory.
func wantApartAll(t *testing.T, what string, was []reflect.Value, call func(args []reflect.Value) []reflect.Value) []reflect.Value {
	t.Helper()
	var own []reflect.Value
	for _, v := range was {
		own = append(own, ownOf(v))
	}
	answer := call(own)
	var given, got []span
	for i, v := range own {
		if !alike(v, was[i]) {
			t.Errorf("%s: its argument then is %#v; it was %#v", what, v, was[i])
		}
		if !roomUnwritten(v) {
			t.Errorf("%s writes into the room behind its argument", what)
		}
		given = append(given, spansOf(v)...)
	}
	for _, v := range answer {
		got = append(got, spansOf(v)...)
	}
	if with := sharedMemory(given, got); with != "" {
		t.Errorf("%s: its answer shares memory with %s", what, with)
	}
	// Memory that is let go might be given out again, which would be no sharing.
	runtime.KeepAlive(own)
	runtime.KeepAlive(answer)
	return answer
}

// wantApart is wantApartAll for a call of one argument.
func wantApart[T any](t *testing.T, what string, was T, call func(T) []any) {
	t.Helper()
	wantApartAll(t, what, []reflect.Value{reflect.ValueOf(was)}, func(args []reflect.Value) []reflect.Value {
		return []reflect.Value{reflect.ValueOf(call(args[0].Interface().(T)))}
	})
}

// The tests of memory are to see what they look for.
func TestSharedMemory(t *testing.T) {
	list, text := make([]int, 3, 8), strings.Clone("some text")
	other, words := make([]int, 4), strings.Clone("other text")
	spans := func(values []any) []span {
		var out []span
		for _, v := range values {
			out = append(out, spansOf(reflect.ValueOf(v))...)
		}
		return out
	}
	for _, row := range []struct {
		given, got []any
		want       string
	}{
		{[]any{list, text}, []any{other, words}, ""},
		{[]any{list, text}, []any{other, list}, "its argument"},
		{[]any{list, text}, []any{other[:1], list[2:]}, "its argument"},
		{[]any{list, text}, []any{list[3:6]}, "its argument"},
		{[]any{list, text}, []any{other, text}, "its argument"},
		{[]any{list, text}, []any{words, text[8:]}, "its argument"},
		{[]any{list, text}, []any{text[:1]}, "its argument"},
		{[]any{list, text}, []any{other, other}, "another list of it"},
		{[]any{list}, []any{other[:1], text, other[1:]}, "another list of it"},
		{nil, []any{other[:1:1], text, other[1:2:2], words, text}, ""},
		{nil, []any{other[:1:1], other[2:], other[1:3:3]}, "another list of it"},
	} {
		if got := sharedMemory(spans(row.given), spans(row.got)); got != row.want {
			t.Errorf("%v and %v share with %q; want %q", row.given, row.got, got, row.want)
		}
	}
}
