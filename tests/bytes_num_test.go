package tests

import (
	"encoding/binary"
	"math"
	"strings"
	"testing"

	"loop.example/g00643/impl"
)

// numbers are those next to each power of two, below 0 and above, and so all at
// which one more byte is needed, and the least and the greatest int64.
func numbers() []int64 {
	out := []int64{0, math.MaxInt64, math.MaxInt64 - 1, math.MinInt64, math.MinInt64 + 1, 1000000, -1000000}
	for shift := range 63 {
		power := int64(1) << shift
		out = append(out, power-1, power, power+1, -power-1, -power, 1-power)
	}
	return out
}

// Promise 1.
func TestPutNumBytes(t *testing.T) {
	cases := []struct {
		n    int64
		want string
	}{
		{0, "\x00"},
		{-1, "\x01"},
		{1, "\x02"},
		{-2, "\x03"},
		{63, "\x7e"},
		{-64, "\x7f"},
		{64, "\x80\x01"},
		{-65, "\x81\x01"},
		{8191, "\xfe\x7f"},
		{-8192, "\xff\x7f"},
		{8192, "\x80\x80\x01"},
		{math.MaxInt64, "\xfe\xff\xff\xff\xff\xff\xff\xff\xff\x01"},
		{math.MinInt64, "\xff\xff\xff\xff\xff\xff\xff\xff\xff\x01"},
	}
	for _, c := range cases {
		same(t, "PutNum", impl.PutNum(c.n), c.want)
	}
	for _, n := range numbers() {
		same(t, "PutNum", impl.PutNum(n), string(binary.AppendVarint(nil, n)))
	}
}

// Promise 1.
func TestNumComesBack(t *testing.T) {
	for _, n := range numbers() {
		written := impl.PutNum(n)
		for _, front := range []string{"", "x", "\x80", "\xff\xff\xff\xff\xff\xff\xff\xff\xff\xff"} {
			for _, back := range []string{"", "\x00", "\x7f", "\xff\xff"} {
				at := int64(len(front))
				want := impl.NumOut{N: n, At: at + int64(len(written))}
				same(t, "GetNum", impl.GetNum(front+written+back, at), want)
			}
		}
	}
}

// Promise 1: several behind each other are read each from the place behind the one ahead of it.
func TestNumsInARow(t *testing.T) {
	var row strings.Builder
	for _, n := range numbers() {
		row.WriteString(impl.PutNum(n))
	}
	at := int64(0)
	for _, n := range numbers() {
		got := impl.GetNum(row.String(), at)
		same(t, "code", got.Code, impl.OK)
		same(t, "number", got.N, n)
		at = got.At
	}
	same(t, "end", at, int64(row.Len()))
}

func TestGetNumEndsEarly(t *testing.T) {
	for _, n := range numbers() {
		written := impl.PutNum(n)
		for size := range len(written) {
			same(t, "cut", impl.GetNum(written[:size], 0), impl.NumOut{Code: impl.ErrShort})
			same(t, "cut, at 1", impl.GetNum("\x00"+written[:size], 1), impl.NumOut{Code: impl.ErrShort})
		}
	}
	for size := range 10 {
		same(t, "only more", impl.GetNum(strings.Repeat("\x80", size), 0), impl.NumOut{Code: impl.ErrShort})
		same(t, "only more", impl.GetNum(strings.Repeat("\xff", size), 0), impl.NumOut{Code: impl.ErrShort})
	}
}

func TestGetNumPlaces(t *testing.T) {
	for _, text := range []string{"", "\x02", "\x02\x04", "\x80\x00", strings.Repeat("\xff", 12)} {
		for _, at := range []int64{-1, -2, -1000000, math.MinInt64} {
			same(t, "below 0", impl.GetNum(text, at), impl.NumOut{Code: impl.ErrForm})
		}
		size := int64(len(text))
		for _, at := range []int64{size, size + 1, size + 9, math.MaxInt32, math.MaxInt64 - 1, math.MaxInt64} {
			same(t, "behind the end", impl.GetNum(text, at), impl.NumOut{Code: impl.ErrShort})
		}
	}
	same(t, "last byte", impl.GetNum("\x02\x04", 1), impl.NumOut{N: 2, At: 2})
}

func TestGetNumTenthByte(t *testing.T) {
	for _, ahead := range []string{strings.Repeat("\x80", 9), strings.Repeat("\xff", 9)} {
		for tenth := range 256 {
			for _, back := range []string{"", "\x00", "\x01"} {
				got := impl.GetNum(ahead+string([]byte{byte(tenth)})+back, 0)
				if tenth == 1 {
					same(t, "code of a tenth byte 1", got.Code, impl.OK)
					same(t, "place of a tenth byte 1", got.At, 10)
				} else {
					same(t, "tenth byte", got, impl.NumOut{Code: impl.ErrSyntax})
				}
			}
		}
	}
	same(t, "lowest of ten bytes", impl.GetNum(strings.Repeat("\x80", 9)+"\x01", 0), impl.NumOut{N: 1 << 62, At: 10})
}

func TestGetNumMoreBytesThanNeeded(t *testing.T) {
	for _, byteAhead := range []string{"\x80", "\x81", "\xff"} {
		for count := 1; count <= 9; count++ {
			text := strings.Repeat(byteAhead, count) + "\x00"
			same(t, "needless byte", impl.GetNum(text, 0), impl.NumOut{Code: impl.ErrSyntax})
			same(t, "needless byte, more behind", impl.GetNum(text+"\x01", 0), impl.NumOut{Code: impl.ErrSyntax})
		}
	}
	same(t, "one byte 0", impl.GetNum("\x00", 0), impl.NumOut{At: 1})
	same(t, "a byte 128 in the midst", impl.GetNum("\x80\x80\x01", 0), impl.NumOut{N: 8192, At: 3})
}

// What is read is what PutNum writes, and nothing else: each text of two bytes.
func TestGetNumReadsJustWhatIsWritten(t *testing.T) {
	for first := range 256 {
		for second := range 256 {
			text := string([]byte{byte(first), byte(second)})
			got := impl.GetNum(text, 0)
			switch {
			case first < 128:
				same(t, "one byte", impl.PutNum(got.N), text[:1])
				same(t, "one byte", got.At, 1)
			case second == 0:
				same(t, "two bytes", got, impl.NumOut{Code: impl.ErrSyntax})
			case second < 128:
				same(t, "two bytes", impl.PutNum(got.N), text)
				same(t, "two bytes", got.At, 2)
			default:
				same(t, "two bytes", got, impl.NumOut{Code: impl.ErrShort})
			}
		}
	}
}

func TestGetNumSize(t *testing.T) {
	most := strings.Repeat("\x02", impl.MaxBytes)
	same(t, "first of MaxBytes", impl.GetNum(most, 0), impl.NumOut{N: 1, At: 1})
	same(t, "last of MaxBytes", impl.GetNum(most, impl.MaxBytes-1), impl.NumOut{N: 1, At: impl.MaxBytes})
	same(t, "behind MaxBytes", impl.GetNum(most, impl.MaxBytes), impl.NumOut{Code: impl.ErrShort})
	for _, at := range []int64{0, -1, math.MinInt64, impl.MaxBytes, impl.MaxBytes + 1, math.MaxInt64} {
		same(t, "one more", impl.GetNum(most+"\x02", at), impl.NumOut{Code: impl.ErrSize})
	}
}
