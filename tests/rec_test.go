package tests

import (
	"encoding/binary"
	"math"
	"strings"
	"testing"

	"loop.example/g00643/impl"
)

// dataTexts are Data that fit: of each size, and such as are not valid UTF-8,
// or have runes of several bytes.
func dataTexts() []string {
	out := []string{"hi", "\x00", "\xff", "\x80\x80", "\xed\xa0\x80", "a\nb c", "\ufffd", "\u00e9\u20ac\U0001f600",
		strings.Repeat("\u00e9", 8), strings.Repeat("\ufffd", 5) + "a", strings.Repeat("\U0001f600", 4),
		strings.Repeat("\xff", 16), strings.Repeat("\x00", 16), strings.Repeat("a", 13) + "\u20ac", strings.Repeat("a", 15) + "\xe2"}
	for size := 0; size <= impl.MaxData; size++ {
		out = append(out, sampleText(size), strings.Repeat("a", size))
	}
	return out
}

// longTexts are Data that do not fit: some have few runes, or a last one that
// begins within MaxData bytes and ends behind them.
func longTexts() []string {
	return []string{strings.Repeat("a", 17), strings.Repeat("\x00", 17), strings.Repeat("\xff", 17), strings.Repeat("a", 15) + "\u00e9",
		strings.Repeat("a", 14) + "\u20ac", strings.Repeat("a", 13) + "\U0001f600", strings.Repeat("\u00e9", 8) + "a",
		strings.Repeat("\u00e9", 9), strings.Repeat("\ufffd", 6), strings.Repeat("\U0001f600", 5), strings.Repeat("\xe2\x82", 8) + "\xe2",
		strings.Repeat("a", 16) + "\xff", sampleText(18), sampleText(64), strings.Repeat("a", 32), sampleText(impl.MaxBytes),
		sampleText(impl.MaxBytes + 1), strings.Repeat("a", 100000)}
}

func rightTxns() []int64 {
	return []int64{1, 2, 3, 12, 63, 64, 100, 8191, 8192, 524288, impl.MaxTime - 1, impl.MaxTime}
}

func wrongTxns() []int64 {
	return []int64{0, -1, -2, -impl.MaxTime, math.MinInt64, impl.MaxTime + 1, 2 * impl.MaxTime, 1 << 32, 1<<32 + 1, math.MaxInt64}
}

func wrongKinds() []int64 {
	return []int64{0, -1, -2, -3, 4, 5, 6, 255, 257, 1 << 32, 1<<32 + 1, 1<<32 + 2, math.MinInt64, math.MaxInt64}
}

func rightRecs() []impl.Rec {
	var out []impl.Rec
	for _, txn := range rightTxns() {
		out = append(out, impl.Rec{Kind: impl.RcCommit, Txn: txn}, impl.Rec{Kind: impl.RcAbort, Txn: txn})
		for _, data := range dataTexts() {
			out = append(out, impl.Rec{Kind: impl.RcData, Txn: txn, Data: data})
		}
	}
	return out
}

func wrongRecs() []impl.Rec {
	out := []impl.Rec{{}, {Txn: 1}, {Kind: 1}, {Kind: 2}, {Kind: 3}, {Data: "a"}, {Kind: 1, Data: "a"}}
	for _, kind := range wrongKinds() {
		out = append(out, impl.Rec{Kind: kind, Txn: 1}, impl.Rec{Kind: kind, Txn: 1, Data: "a"})
	}
	for _, kind := range []int64{impl.RcData, impl.RcCommit, impl.RcAbort} {
		for _, txn := range wrongTxns() {
			out = append(out, impl.Rec{Kind: kind, Txn: txn})
		}
		for _, data := range longTexts() {
			out = append(out, impl.Rec{Kind: kind, Txn: 1, Data: data})
		}
	}
	for _, data := range dataTexts() {
		if data != "" {
			out = append(out, impl.Rec{Kind: impl.RcCommit, Txn: 1, Data: data}, impl.Rec{Kind: impl.RcAbort, Txn: impl.MaxTime, Data: data})
		}
	}
	return out
}

// bodyOf writes what stands ahead of the sum, of any Rec, right or not.
func bodyOf(r impl.Rec) string {
	out := binary.AppendVarint(nil, r.Kind)
	out = binary.AppendVarint(out, r.Txn)
	out = binary.AppendVarint(out, int64(len(r.Data)))
	return string(out) + r.Data
}

// refused asks for the whole answer: the zero Rec beside the code.
func refused(t *testing.T, what string, text string, code int64) {
	t.Helper()
	same(t, what, impl.RecRead(text), impl.RecOut{Code: code})
}

func TestRecConstants(t *testing.T) {
	same(t, "constants of chapter 3", [4]int64{impl.MaxData, impl.RcData, impl.RcCommit, impl.RcAbort}, [4]int64{16, 1, 2, 3})
}

func TestRecRight(t *testing.T) {
	for _, r := range rightRecs() {
		if !impl.RecRight(r) {
			t.Errorf("right: %s", short(r))
		}
	}
	for _, r := range wrongRecs() {
		if impl.RecRight(r) {
			t.Errorf("not right: %s", short(r))
		}
	}
}

func TestRecBytes(t *testing.T) {
	same(t, "data", impl.RecBytes(impl.Rec{Kind: impl.RcData, Txn: 3, Data: "hi"}), wantSeal("\x02\x06\x04hi"))
	same(t, "commit", impl.RecBytes(impl.Rec{Kind: impl.RcCommit, Txn: 64}), wantSeal("\x04\x80\x01\x00"))
	same(t, "abort", impl.RecBytes(impl.Rec{Kind: impl.RcAbort, Txn: 1}), wantSeal("\x06\x02\x00"))
	for _, r := range rightRecs() {
		same(t, "RecBytes", impl.RecBytes(r), wantSeal(bodyOf(r)))
	}
	for _, r := range wrongRecs() {
		same(t, "RecBytes of a wrong one", impl.RecBytes(r), "")
	}
}

// Promise 3.
func TestRecComesBack(t *testing.T) {
	for _, r := range rightRecs() {
		same(t, "RecRead of RecBytes", impl.RecRead(impl.RecBytes(r)), impl.RecOut{Rec: r})
		same(t, "RecRead", impl.RecRead(wantSeal(bodyOf(r))), impl.RecOut{Rec: r})
		same(t, "RecBytes of RecRead", impl.RecBytes(impl.RecRead(wantSeal(bodyOf(r))).Rec), wantSeal(bodyOf(r)))
	}
}

// Promise 3: what is read is what RecBytes writes, and nothing else.
func TestRecReadReadsJustWhatIsWritten(t *testing.T) {
	read := 0
	for first := range 16 {
		for second := range 256 {
			for third := range 256 {
				sealed := wantSeal(string([]byte{byte(first), byte(second), byte(third)}))
				got := impl.RecRead(sealed)
				if got.Code == impl.OK {
					read++
					same(t, "written again", impl.RecBytes(got.Rec), sealed)
				} else {
					same(t, "refused", got, impl.RecOut{Code: impl.ErrSyntax})
				}
			}
		}
	}
	// Three kinds, each of the numbers 1 to 63 in one byte, without Data.
	same(t, "how many are right", read, 3*63)
}

// Promise 3: each byte, turned in each way.
func TestRecReadTurned(t *testing.T) {
	for _, r := range []impl.Rec{{Kind: 1, Txn: 3, Data: "hi"}, {Kind: 2, Txn: impl.MaxTime}, {Kind: 3, Txn: 1}, {Kind: 1, Txn: 1, Data: sampleText(16)}} {
		sealed := impl.RecBytes(r)
		for at := range len(sealed) {
			for turn := 1; turn < 256; turn++ {
				refused(t, "turned", turned(sealed, at, byte(turn)), impl.ErrSum)
			}
		}
	}
}

func TestRecReadSeal(t *testing.T) {
	for _, text := range []string{"", "x", "ab", "\x02\x06\x00", "\x00\x00\x00"} {
		refused(t, "fewer than four", text, impl.ErrShort)
	}
	for _, text := range []string{"abcd", "\x00\x00\x00\x01", "\x02\x06\x04hi", "\x02\x06\x04hi\x00\x00\x00\x00", sampleText(impl.MaxBytes)} {
		refused(t, "no sum", text, impl.ErrSum)
	}
	sealed := impl.RecBytes(impl.Rec{Kind: 1, Txn: 3, Data: "hi"})
	for cut := range len(sealed) {
		code := int64(impl.ErrSum)
		if cut < 4 {
			code = impl.ErrShort
		}
		refused(t, "cut", sealed[:cut], code)
	}
	refused(t, "more ahead", "\x02"+sealed, impl.ErrSum)
	refused(t, "more behind", sealed+"\x00", impl.ErrSum)
	refused(t, "two", sealed+sealed, impl.ErrSum)
}

func TestRecReadSize(t *testing.T) {
	front := bodyOf(impl.Rec{Kind: 1, Txn: 3, Data: "hi"})
	most := front + strings.Repeat("\x00", mostSeal-len(front))
	refused(t, "MaxBytes, sealed", wantSeal(most), impl.ErrSyntax)
	refused(t, "one more, sealed", wantSeal(most+"\x00"), impl.ErrSize)
	refused(t, "one more, no sum", sampleText(impl.MaxBytes+1), impl.ErrSize)
	refused(t, "many more", strings.Repeat("a", 100000), impl.ErrSize)
}

func TestRecReadWrongRecs(t *testing.T) {
	for _, r := range wrongRecs() {
		body := bodyOf(r)
		code := int64(impl.ErrSyntax)
		if len(body) > mostSeal {
			code = impl.ErrSize
		}
		refused(t, "a wrong one, sealed: "+short(r), wantSeal(body), code)
	}
}

func TestRecReadNumbersTooLong(t *testing.T) {
	for _, body := range []string{"\x82\x00\x06\x04hi", "\x02\x86\x00\x04hi", "\x02\x06\x84\x00hi", "\x82\x80\x00\x06\x04hi", "\x04\x02\x80\x00",
		"\x06\x82\x80\x00\x00", "\x02\x06\x84" + strings.Repeat("\x80", 8) + "\x00hi", "\x02" + strings.Repeat("\x80", 9) + "\x02\x00"} {
		refused(t, "needless bytes", wantSeal(body), impl.ErrSyntax)
	}
}

func TestRecReadBodyEnds(t *testing.T) {
	for _, r := range rightRecs() {
		body := bodyOf(r)
		for cut := range len(body) {
			refused(t, "ends early", wantSeal(body[:cut]), impl.ErrSyntax)
		}
		for _, more := range []string{"\x00", "a", "\xff", "\x00\x00\x00\x00", body, wantSeal(body)} {
			refused(t, "bytes behind Data", wantSeal(body+more), impl.ErrSyntax)
		}
	}
	refused(t, "sealed twice", wantSeal(wantSeal("\x02\x06\x04hi")), impl.ErrSyntax)
	for _, length := range []int64{-1, math.MinInt64, 3, 17, impl.MaxBytes, impl.MaxBytes + 1, math.MaxInt64} {
		refused(t, "length of Data", wantSeal("\x02\x06"+impl.PutNum(length)+"hi"), impl.ErrSyntax)
	}
}

func TestRecAnswersAreNewMemory(t *testing.T) {
	for _, data := range dataTexts() {
		sealed := impl.RecBytes(impl.Rec{Kind: 1, Txn: 3, Data: data})
		same(t, "RecBytes shares", sharesMemory(sealed, data), false)
		same(t, "RecRead shares", sharesMemory(impl.RecRead(sealed).Rec.Data, sealed), false)
	}
}
