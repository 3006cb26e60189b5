package tests

import (
	"math"
	"strings"
	"testing"

	"loop.example/g00643/impl"
)

// mostPut is the greatest size of a text whose PutText GetText takes: two bytes go to its length.
const mostPut = impl.MaxBytes - 2

func TestPutTextBytes(t *testing.T) {
	same(t, "empty", impl.PutText(""), "\x00")
	same(t, "ab", impl.PutText("ab"), "\x04ab")
	for _, text := range sampleTexts(impl.MaxBytes) {
		same(t, "PutText", impl.PutText(text), impl.PutNum(int64(len(text)))+text)
	}
	same(t, "one more than MaxBytes", impl.PutText(sampleText(impl.MaxBytes+1)), "")
	same(t, "many more", impl.PutText(sampleText(3*impl.MaxBytes)), "")
}

// Promise 1.
func TestTextComesBack(t *testing.T) {
	for _, text := range sampleTexts(mostPut) {
		written := impl.PutText(text)
		same(t, "alone", impl.GetText(written, 0), impl.TextOut{Text: text, At: int64(len(written))})
		if len(text) > 1000 {
			continue
		}
		for _, front := range []string{"", "x", "\xff\xff\xff"} {
			for _, back := range []string{"", "\x00", "more"} {
				at := int64(len(front))
				want := impl.TextOut{Text: text, At: at + int64(len(written))}
				same(t, "in the midst", impl.GetText(front+written+back, at), want)
			}
		}
	}
}

// Promise 1: what does not fit in is refused, not cut.
func TestTextThatDoesNotFit(t *testing.T) {
	for size := mostPut + 1; size <= impl.MaxBytes; size++ {
		written := impl.PutText(sampleText(size))
		same(t, "written", len(written), size+2)
		same(t, "not read", impl.GetText(written, 0), impl.TextOut{Code: impl.ErrSize})
	}
}

func TestGetTextEndsEarly(t *testing.T) {
	for _, size := range []int{0, 1, 2, 63, 64, 200} {
		written := impl.PutText(sampleText(size))
		for cut := range len(written) {
			same(t, "cut", impl.GetText(written[:cut], 0), impl.TextOut{Code: impl.ErrShort})
		}
	}
	whole := impl.PutText(sampleText(mostPut))
	same(t, "cut by one", impl.GetText(whole[:len(whole)-1], 0), impl.TextOut{Code: impl.ErrShort})
	text := strings.Repeat("\x00", impl.MaxBytes-2) + impl.PutNum(1)
	same(t, "length is the last", impl.GetText(text, impl.MaxBytes-2), impl.TextOut{Code: impl.ErrShort})
}

func TestGetTextLength(t *testing.T) {
	wrong := []int64{-1, -2, -64, -impl.MaxBytes, impl.MaxBytes + 1, impl.MaxBytes + 2, 1 << 20, 1 << 31, 1 << 32,
		math.MaxInt64 - 1, math.MaxInt64, math.MinInt64, math.MinInt64 + 1}
	for _, length := range wrong {
		for _, back := range []string{"", "ab", sampleText(7000)} {
			same(t, "length", impl.GetText(impl.PutNum(length)+back, 0), impl.TextOut{Code: impl.ErrSyntax})
		}
	}
	for _, length := range []int64{1, 64, impl.MaxBytes - 1, impl.MaxBytes} {
		same(t, "length", impl.GetText(impl.PutNum(length), 0), impl.TextOut{Code: impl.ErrShort})
	}
	same(t, "MaxBytes, not that many", impl.GetText(impl.PutNum(impl.MaxBytes)+sampleText(mostPut), 0), impl.TextOut{Code: impl.ErrShort})
}

func TestGetTextNumberFaults(t *testing.T) {
	same(t, "needless byte", impl.GetText("\x82\x00ab", 0), impl.TextOut{Code: impl.ErrSyntax})
	same(t, "needless byte, nothing behind", impl.GetText("\x82\x00", 0), impl.TextOut{Code: impl.ErrSyntax})
	same(t, "tenth byte", impl.GetText(strings.Repeat("\x80", 9)+"\x02ab", 0), impl.TextOut{Code: impl.ErrSyntax})
	same(t, "ten bytes of more", impl.GetText(strings.Repeat("\xff", 10), 0), impl.TextOut{Code: impl.ErrSyntax})
	same(t, "nine bytes of more", impl.GetText(strings.Repeat("\xff", 9), 0), impl.TextOut{Code: impl.ErrShort})
}

func TestGetTextPlaces(t *testing.T) {
	for _, text := range []string{"", "\x00", "\x04ab", "\x01", strings.Repeat("\xff", 12)} {
		for _, at := range []int64{-1, -1000, math.MinInt64} {
			same(t, "below 0", impl.GetText(text, at), impl.TextOut{Code: impl.ErrForm})
		}
		size := int64(len(text))
		for _, at := range []int64{size, size + 1, math.MaxInt64 - 1, math.MaxInt64} {
			same(t, "behind the end", impl.GetText(text, at), impl.TextOut{Code: impl.ErrShort})
		}
	}
	same(t, "empty at the end", impl.GetText("ab\x00", 2), impl.TextOut{At: 3})
}

func TestGetTextSize(t *testing.T) {
	most := strings.Repeat("\x02", impl.MaxBytes)
	same(t, "of MaxBytes", impl.GetText(most, impl.MaxBytes-2), impl.TextOut{Text: "\x02", At: impl.MaxBytes})
	for _, at := range []int64{0, -1, math.MinInt64, impl.MaxBytes, impl.MaxBytes + 1, math.MaxInt64} {
		same(t, "one more", impl.GetText(most+"\x02", at), impl.TextOut{Code: impl.ErrSize})
	}
}

func TestNameRight(t *testing.T) {
	for _, name := range []string{"a", "z", "a_9", "a0", "abc", "m__", "z9_z", strings.Repeat("a", 20), "a" + strings.Repeat("_", 19)} {
		same(t, "a name: "+name, impl.NameRight(name), true)
	}
	for _, text := range []string{"", "_a", "9a", "_", "0", "A", "aB", "a b", " a", "a ", "a-b", "a\n", "a\x00", "\u00e4", "a\u00e4",
		strings.Repeat("a", 21), strings.Repeat("a", 20) + " ", strings.Repeat("a", 19) + "A",
		strings.Repeat("a", impl.MaxBytes), strings.Repeat("a", impl.MaxBytes+1)} {
		same(t, "no name: "+short(text), impl.NameRight(text), false)
	}
}

func TestNameRightByteByByte(t *testing.T) {
	for value := range 256 {
		b := string([]byte{byte(value)})
		letter := value >= 'a' && value <= 'z'
		further := letter || value >= '0' && value <= '9' || value == '_'
		same(t, "alone: "+short(b), impl.NameRight(b), letter)
		same(t, "first: "+short(b), impl.NameRight(b+"a"), letter)
		same(t, "second: "+short(b), impl.NameRight("a"+b), further)
		same(t, "in the midst: "+short(b), impl.NameRight("ab"+b+"c"), further)
		same(t, "twentieth: "+short(b), impl.NameRight(strings.Repeat("a", 19)+b), further)
	}
}

func TestBytesAnswersAreNewMemory(t *testing.T) {
	for _, size := range []int{1, 2, 40, 1000, 7000} {
		text := sampleText(size)
		put, sealed := impl.PutText(text), impl.Seal(text)
		same(t, "PutText shares", sharesMemory(put, text), false)
		same(t, "GetText shares", sharesMemory(impl.GetText(put, 0).Text, put), false)
		same(t, "Seal shares", sharesMemory(sealed, text), false)
		same(t, "Unseal shares", sharesMemory(impl.Unseal(sealed).Text, sealed), false)
	}
}
