package tests

import (
	"fmt"
	"strings"
	"testing"
	"unsafe"

	"loop.example/g00643/impl"
)

// same holds two answers against each other as wholes, so that what stands
// beside a code is looked at too.
func same[T comparable](t *testing.T, what string, got, want T) {
	t.Helper()
	if got != want {
		t.Errorf("%s: got %s, want %s", what, short(got), short(want))
	}
}

// short cuts what is shown of a long answer: a text may have MaxBytes bytes.
func short(x any) string {
	shown := fmt.Sprintf("%+q", fmt.Sprintf("%+v", x))
	if len(shown) > 200 {
		return shown[:200] + ".."
	}
	return shown
}

// sampleText makes bytes of all values, in an order that does not repeat soon.
func sampleText(size int) string {
	out := make([]byte, size)
	state := uint32(size) + 1
	for i := range out {
		state = state*1664525 + 1013904223
		out[i] = byte(state >> 24)
	}
	return string(out)
}

// sampleTexts are texts of the sizes at which something changes, and some that
// are made of bytes that are easily taken for an end.
func sampleTexts(most int) []string {
	out := []string{"\x00", "\xff", "\x80", "\x00\x00\x00\x00", "\xff\xff\xff\xff", "a\nb", "\u00e9\u20ac", "123456789"}
	for _, size := range []int{0, 1, 2, 3, 4, 5, 62, 63, 64, 65, 127, 128, 255, 256, 1000, most - 1, most} {
		out = append(out, sampleText(size), strings.Repeat("a", size))
	}
	return out
}

// sharesMemory: does a part of the one lie in the memory of the other?
func sharesMemory(a, b string) bool {
	if a == "" || b == "" {
		return false
	}
	first := uintptr(unsafe.Pointer(unsafe.StringData(a)))
	other := uintptr(unsafe.Pointer(unsafe.StringData(b)))
	return first < other+uintptr(len(b)) && other < first+uintptr(len(a))
}

func TestConstants(t *testing.T) {
	got := [15]int64{impl.OK, impl.ErrForm, impl.ErrSize, impl.ErrSyntax, impl.ErrShort, impl.ErrSum, impl.ErrNone, impl.ErrThere,
		impl.ErrRange, impl.ErrFull, impl.ErrState, impl.ErrFenced, impl.MaxBytes, impl.MaxList, impl.MaxTime}
	want := [15]int64{0, 1, 2, 3, 4, 5, 6, 7, 8, 9, 10, 11, 8000, 400, 1000000}
	same(t, "constants of chapter 1", got, want)
}
