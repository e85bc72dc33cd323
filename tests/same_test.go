package tests

import (
	"reflect"
	"testing"
)

// alike tells whether two values are the same; an empty list and nil are.
func alike(a reflect.Value, b reflect.Value) bool {
	switch a.Kind() {
	case reflect.Slice:
		if a.Len() != b.Len() {
			return false
		}
		for i := range a.Len() {
			if !alike(a.Index(i), b.Index(i)) {
				return false
			}
		}
		return true
	case reflect.Struct:
		for i := range a.NumField() {
			if !alike(a.Field(i), b.Field(i)) {
				return false
			}
		}
		return true
	case reflect.Interface:
		return a.Elem().Type() == b.Elem().Type() && alike(a.Elem(), b.Elem())
	}
	return a.Interface() == b.Interface()
}

func same[T any](a T, b T) bool { return alike(reflect.ValueOf(a), reflect.ValueOf(b)) }

func wantSame[T any](t *testing.T, what string, got T, want T) {
	t.Helper()
	if !same(got, want) {
		t.Errorf("%s = %#v; want %#v", what, got, want)
	}
}

// wantRight wants a chapter's check of x to be so.
func wantRight[T any](t *testing.T, why string, right func(T) bool, x T, want bool) {
	t.Helper()
	if got := right(x); got != want {
		t.Errorf("%s: whether %#v is right: %v; want %v", why, x, got, want)
	}
}

// wantDone wants what a call answered to be this, which is right, and true.
func wantDone[T any](t *testing.T, what string, right func(T) bool, got T, ok bool, want T) {
	t.Helper()
	if !ok {
		t.Errorf("%s is refused", what)
	}
	wantSame(t, what, got, want)
	wantRight(t, what, right, got, true)
}

// wantLeft wants what a call answered to be what there was, and false.
func wantLeft[T any](t *testing.T, what string, got T, ok bool, was T) {
	t.Helper()
	if ok {
		t.Errorf("%s is taken", what)
	}
	wantSame(t, what, got, was)
}
