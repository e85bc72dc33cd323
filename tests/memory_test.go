package tests

import (
	"reflect"
	"runtime"
	"strings"
	"testing"
	"unsafe"
)

// span is the memory of a list, with the room behind it, or of a text.
type span struct {
	from, to uintptr
	list     bool
}

func (s span) meets(o span) bool { return s.from < o.to && o.from < s.to }

// spansOf are the spans of all lists and texts in a value.
func spansOf(v reflect.Value) []span {
	var out []span
	switch v.Kind() {
	case reflect.String:
		if n := v.Len(); n > 0 {
			from := uintptr(unsafe.Pointer(unsafe.StringData(v.String())))
			out = append(out, span{from: from, to: from + uintptr(n)})
		}
	case reflect.Slice:
		if n := v.Cap(); n > 0 {
			out = append(out, span{from: v.Pointer(), to: v.Pointer() + uintptr(n)*v.Type().Elem().Size(), list: true})
		}
		for i := range v.Len() {
			out = append(out, spansOf(v.Index(i))...)
		}
	case reflect.Struct:
		for i := range v.NumField() {
			out = append(out, spansOf(v.Field(i))...)
		}
	case reflect.Interface:
		if !v.IsNil() {
			out = spansOf(v.Elem())
		}
	}
	return out
}

// filled is a value of a type in which each number, text, flag and list is something.
func filled(kind reflect.Type) reflect.Value {
	v := reflect.New(kind).Elem()
	switch kind.Kind() {
	case reflect.Int:
		v.SetInt(-77)
	case reflect.String:
		v.SetString("room")
	case reflect.Bool:
		v.SetBool(true)
	case reflect.Slice:
		v.Set(reflect.Append(v, filled(kind.Elem())))
	case reflect.Struct:
		for i := range v.NumField() {
			v.Field(i).Set(filled(kind.Field(i).Type))
		}
	}
	return v
}

// ownOf is a value in memory of its own, each list with room behind it in
// which filled values stand.
func ownOf(v reflect.Value) reflect.Value {
	out := reflect.New(v.Type()).Elem()
	switch v.Kind() {
	case reflect.String:
		out.SetString(strings.Clone(v.String()))
	case reflect.Slice:
		n := v.Len()
		list := reflect.MakeSlice(v.Type(), n+3, n+3)
		for i := range n + 3 {
			if i < n {
				list.Index(i).Set(ownOf(v.Index(i)))
			} else {
				list.Index(i).Set(filled(v.Type().Elem()))
			}
		}
		out.Set(list.Slice(0, n))
	case reflect.Struct:
		for i := range v.NumField() {
			out.Field(i).Set(ownOf(v.Field(i)))
		}
	default:
		out.Set(v)
	}
	return out
}

// roomUnwritten tells whether behind each list of what ownOf made there still
// stands what it put there.
func roomUnwritten(v reflect.Value) bool {
	switch v.Kind() {
	case reflect.Slice:
		all := v.Slice(0, v.Cap())
		for i := range all.Len() {
			if i >= v.Len() && !alike(all.Index(i), filled(v.Type().Elem())) || i < v.Len() && !roomUnwritten(v.Index(i)) {
				return false
			}
		}
	case reflect.Struct:
		for i := range v.NumField() {
			if !roomUnwritten(v.Field(i)) {
				return false
			}
		}
	}
	return true
}

// wantApart wants a call to write nothing into its argument nor into the room
// behind its lists, to answer memory that it shares with none of it, and no two
// lists in one memory.
func wantApart[T any](t *testing.T, what string, was T, call func(T) []any) {
	t.Helper()
	own := ownOf(reflect.ValueOf(was))
	x := own.Interface().(T)
	answer := call(x)
	wantSame(t, what+": its argument then", x, was)
	if !roomUnwritten(own) {
		t.Errorf("%s writes into the room behind its argument", what)
	}
	given := spansOf(own)
	got := spansOf(reflect.ValueOf(answer))
	for i, a := range got {
		for _, g := range given {
			if a.meets(g) {
				t.Errorf("%s shares memory with its argument", what)
				return
			}
		}
		for _, b := range got[:i] {
			if a.list && b.list && a.meets(b) {
				t.Errorf("%s: two lists of its answer share memory", what)
				return
			}
		}
	}
	// Memory that is let go might be given out again, which would be no sharing.
	runtime.KeepAlive(x)
	runtime.KeepAlive(answer)
}
