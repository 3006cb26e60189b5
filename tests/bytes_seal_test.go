package tests

import (
	"encoding/binary"
	"hash/crc32"
	"math"
	"strings"
	"testing"

	"loop.example/g00643/impl"
)

// mostSeal is the greatest size of a text that Seal takes: four bytes go to its CRC.
const mostSeal = impl.MaxBytes - 4

func wantCrc(text string) int64 {
	return int64(crc32.ChecksumIEEE([]byte(text)))
}

func wantSeal(text string) string {
	return string(binary.LittleEndian.AppendUint32([]byte(text), uint32(wantCrc(text))))
}

// turned is the text with the bits of one byte at that place turned that turn has.
func turned(text string, at int, turn byte) string {
	out := []byte(text)
	out[at] ^= turn
	return string(out)
}

func TestCrc(t *testing.T) {
	same(t, "nine digits", impl.Crc("123456789"), 0xcbf43926)
	same(t, "empty", impl.Crc(""), 0)
	same(t, "all ones", impl.Crc("\xff\xff\xff\xff"), 1<<32-1)
	for value := range 256 {
		b := string([]byte{byte(value)})
		same(t, "one byte", impl.Crc(b), wantCrc(b))
	}
	for _, text := range sampleTexts(impl.MaxBytes) {
		same(t, "Crc", impl.Crc(text), wantCrc(text))
	}
	same(t, "one more than MaxBytes", impl.Crc(sampleText(impl.MaxBytes+1)), 0)
	same(t, "many more", impl.Crc(sampleText(3*impl.MaxBytes)), 0)
}

// Promise 2.
func TestCrcGoesOn(t *testing.T) {
	for _, text := range []string{"", "a", "123456789", sampleText(100), sampleText(256)} {
		for cut := 0; cut <= len(text); cut++ {
			same(t, "in two", impl.CrcMore(impl.Crc(text[:cut]), text[cut:]), wantCrc(text))
		}
		crc := int64(0)
		for i := range len(text) {
			crc = impl.CrcMore(crc, text[i:i+1])
		}
		same(t, "byte by byte", crc, wantCrc(text))
	}
	for _, text := range sampleTexts(impl.MaxBytes) {
		same(t, "from nothing", impl.CrcMore(0, text), wantCrc(text))
		same(t, "by nothing", impl.CrcMore(impl.Crc(text), ""), wantCrc(text))
	}
	one, two := sampleText(impl.MaxBytes), sampleText(impl.MaxBytes-1)
	same(t, "together above MaxBytes", impl.CrcMore(impl.Crc(one), two), wantCrc(one+two))
}

func TestCrcMoreLimits(t *testing.T) {
	for _, crc := range []int64{-1, -2, math.MinInt64, math.MinInt32, 1 << 32, 1<<32 + 1, 1 << 40, math.MaxInt64} {
		for _, text := range []string{"", "a", "123456789"} {
			same(t, "no CRC", impl.CrcMore(crc, text), 0)
		}
	}
	for _, crc := range []int64{0, 1, 1 << 31, 1<<32 - 2, 1<<32 - 1} {
		same(t, "by nothing", impl.CrcMore(crc, ""), crc)
		want := int64(crc32.Update(uint32(crc), crc32.IEEETable, []byte("abc")))
		same(t, "by abc", impl.CrcMore(crc, "abc"), want)
	}
	same(t, "one more than MaxBytes", impl.CrcMore(1, sampleText(impl.MaxBytes+1)), 0)
	same(t, "both wrong", impl.CrcMore(-1, sampleText(impl.MaxBytes+1)), 0)
}

func TestSealBytes(t *testing.T) {
	same(t, "nine digits", impl.Seal("123456789"), "123456789\x26\x39\xf4\xcb")
	same(t, "empty", impl.Seal(""), "\x00\x00\x00\x00")
	for _, text := range sampleTexts(mostSeal) {
		same(t, "Seal", impl.Seal(text), wantSeal(text))
	}
	for _, size := range []int{mostSeal + 1, mostSeal + 2, impl.MaxBytes, impl.MaxBytes + 1, 3 * impl.MaxBytes} {
		same(t, "too long", impl.Seal(sampleText(size)), "")
	}
}

// Promise 2.
func TestSealedComesBack(t *testing.T) {
	for _, text := range sampleTexts(mostSeal) {
		same(t, "Unseal", impl.Unseal(impl.Seal(text)), impl.TextOut{Text: text})
		same(t, "Unseal", impl.Unseal(wantSeal(text)), impl.TextOut{Text: text})
	}
	twice := impl.Seal(impl.Seal("ab"))
	same(t, "sealed twice", impl.Unseal(impl.Unseal(twice).Text), impl.TextOut{Text: "ab"})
}

// Promise 2: each byte, turned in each way.
func TestTurnedIsRefused(t *testing.T) {
	for _, text := range []string{"", "a", "ab", "\x00\x00\x00", "123456789", sampleText(40)} {
		sealed := impl.Seal(text)
		for at := range len(sealed) {
			for turn := 1; turn < 256; turn++ {
				same(t, "turned", impl.Unseal(turned(sealed, at, byte(turn))), impl.TextOut{Code: impl.ErrSum})
			}
		}
	}
	long := impl.Seal(sampleText(500))
	for at := range len(long) {
		same(t, "turned", impl.Unseal(turned(long, at, 1<<(at%8))), impl.TextOut{Code: impl.ErrSum})
	}
	longest := impl.Seal(sampleText(mostSeal))
	for at := 0; at < len(longest); at += 31 {
		same(t, "turned", impl.Unseal(turned(longest, at, 1<<(at%8))), impl.TextOut{Code: impl.ErrSum})
	}
	for back := 1; back <= 4; back++ {
		same(t, "turned", impl.Unseal(turned(longest, len(longest)-back, 1)), impl.TextOut{Code: impl.ErrSum})
	}
}

func TestUnsealOtherFaults(t *testing.T) {
	for _, text := range []string{"", "\x00", "\x00\x00", "\x00\x00\x00", "abc"} {
		same(t, "fewer than four", impl.Unseal(text), impl.TextOut{Code: impl.ErrShort})
	}
	for _, text := range []string{"abcd", "\xff\xff\xff\xff", "\x00\x00\x00\x01", "123456789\xcb\xf4\x39\x26", sampleText(impl.MaxBytes)} {
		same(t, "no seal", impl.Unseal(text), impl.TextOut{Code: impl.ErrSum})
	}
	sealed := impl.Seal("123456789")
	for cut := 4; cut < len(sealed); cut++ {
		same(t, "cut", impl.Unseal(sealed[:cut]), impl.TextOut{Code: impl.ErrSum})
	}
	same(t, "more ahead", impl.Unseal("1"+sealed), impl.TextOut{Code: impl.ErrSum})
	same(t, "more behind", impl.Unseal(sealed+"1"), impl.TextOut{Code: impl.ErrSum})
	tooLong := wantSeal(strings.Repeat("a", mostSeal+1))
	same(t, "one more than MaxBytes", impl.Unseal(tooLong), impl.TextOut{Code: impl.ErrSize})
	same(t, "many more", impl.Unseal(sampleText(3*impl.MaxBytes)), impl.TextOut{Code: impl.ErrSize})
}
