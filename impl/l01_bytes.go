package impl

import (
	"errors"
	"strconv"
)

// Constants, see chapter 1.
const (
	OK        = 0
	ErrForm   = 1
	ErrSize   = 2
	ErrSyntax = 3
	ErrShort  = 4
	ErrSum    = 5
	ErrNone   = 6
	ErrThere  = 7
	ErrRange  = 8
	ErrFull   = 9
	ErrState  = 10
	ErrFenced = 11
	MaxBytes  = 8000
	MaxList   = 400
	MaxTime   = 1000000
)

const (
	mostNumBytes = 10
	mostNameSize = 20
	sumSize      = 4
	mostSum      = 1<<32 - 1
	sumMask      = 0xEDB88320
)

// NumOut is a thing of chapter 2.
type NumOut struct {
	N    int64
	At   int64
	Code int64
}

// TextOut is a thing of chapter 2.
type TextOut struct {
	Text string
	At   int64
	Code int64
}

// readFault is a type of its own so that who reads can hand it on as an error,
// and the code is taken out of it only where an answer is made.
type readFault struct {
	code int64
}

func (f readFault) Error() string {
	return "not read: code " + strconv.FormatInt(f.code, 10)
}

func codeOf(err error) int64 {
	var fault readFault
	if errors.As(err, &fault) {
		return fault.code
	}
	return OK
}

// PutNum: see chapter 2.
func PutNum(n int64) string {
	var out []byte
	u := foldSign(n)
	for u >= 128 {
		out = append(out, byte(u%128)+128)
		u /= 128
	}
	out = append(out, byte(u))
	return string(out)
}

// foldSign turns n+1, not n, around: the least int64 has no opposite.
func foldSign(n int64) uint64 {
	if n >= 0 {
		return 2 * uint64(n)
	}
	return 2*uint64(-(n+1)) + 1
}

func unfoldSign(u uint64) int64 {
	half := int64(u / 2)
	if u%2 == 0 {
		return half
	}
	return -half - 1
}

// GetNum: see chapter 2.
func GetNum(text string, at int64) NumOut {
	n, behind, err := readNum(text, at)
	return NumOut{N: n, At: behind, Code: codeOf(err)}
}

func readNum(text string, at int64) (int64, int64, error) {
	if err := placeFault(text, at); err != nil {
		return 0, 0, err
	}
	u, behind, err := readBits(text, at)
	if err != nil {
		return 0, 0, err
	}
	return unfoldSign(u), behind, nil
}

func placeFault(text string, at int64) error {
	if len(text) > MaxBytes {
		return readFault{code: ErrSize}
	}
	if at < 0 {
		return readFault{code: ErrForm}
	}
	return nil
}

// readBits holds at against the text's end ahead of each step: at may be as
// great as an int64 gets, and must not be added to then.
func readBits(text string, at int64) (uint64, int64, error) {
	var b byte
	var u uint64
	count := 0
more:
	if at >= int64(len(text)) {
		return 0, 0, readFault{code: ErrShort}
	}
	b = text[at]
	u |= uint64(b&127) << (7 * count)
	at++
	count++
	if b < 128 || count == mostNumBytes {
		goto last
	}
	goto more
last:
	if count == mostNumBytes && b > 1 {
		goto wrong
	}
	if count > 1 && b == 0 {
		goto wrong
	}
	return u, at, nil
wrong:
	return 0, 0, readFault{code: ErrSyntax}
}

// PutText: see chapter 2.
func PutText(t string) string {
	if len(t) > MaxBytes {
		return ""
	}
	return joinTexts(PutNum(int64(len(t))), t)
}

// GetText: see chapter 2.
func GetText(text string, at int64) TextOut {
	t, behind, err := readText(text, at)
	return TextOut{Text: t, At: behind, Code: codeOf(err)}
}

func readText(text string, at int64) (string, int64, error) {
	size, begin, err := readNum(text, at)
	if err != nil {
		return "", 0, err
	}
	if size < 0 || size > MaxBytes {
		return "", 0, readFault{code: ErrSyntax}
	}
	behind := begin + size
	if behind > int64(len(text)) {
		return "", 0, readFault{code: ErrShort}
	}
	return copyText(text[begin:behind]), behind, nil
}

func joinTexts(front, back string) string {
	out := make([]byte, len(front)+len(back))
	copy(out, front)
	copy(out[len(front):], back)
	return string(out)
}

// copyText is there because a piece cut from a text shares that text's memory,
// and an answer may share none with an argument.
func copyText(t string) string {
	out := make([]byte, len(t))
	copy(out, t)
	return string(out)
}

// NameRight: see chapter 2.
func NameRight(t string) bool {
	if len(t) < 1 || len(t) > mostNameSize || !isLetter(t[0]) {
		return false
	}
	for i := 1; i < len(t); i++ {
		if !isLetter(t[i]) && !isDigit(t[i]) && t[i] != '_' {
			return false
		}
	}
	return true
}

func isLetter(b byte) bool {
	return b >= 'a' && b <= 'z'
}

func isDigit(b byte) bool {
	return b >= '0' && b <= '9'
}

// Crc: see chapter 2.
func Crc(text string) int64 {
	return CrcMore(0, text)
}

// CrcMore: see chapter 2.
func CrcMore(crc int64, text string) int64 {
	if len(text) > MaxBytes || crc < 0 || crc > mostSum {
		return 0
	}
	register := ^uint32(crc)
	for i := 0; i < len(text); i++ {
		register = sumByte(register, text[i])
	}
	return int64(^register)
}

func sumByte(register uint32, b byte) uint32 {
	for range 8 {
		low := (register ^ uint32(b)) & 1
		register >>= 1
		if low == 1 {
			register ^= sumMask
		}
		b >>= 1
	}
	return register
}

// Seal: see chapter 2.
func Seal(text string) string {
	if len(text) > MaxBytes-sumSize {
		return ""
	}
	return joinTexts(text, sumText(Crc(text)))
}

func sumText(crc int64) string {
	out := make([]byte, sumSize)
	for i := range out {
		out[i] = byte(crc)
		crc >>= 8
	}
	return string(out)
}

// Unseal: see chapter 2.
func Unseal(text string) TextOut {
	if len(text) > MaxBytes {
		return TextOut{Code: ErrSize}
	}
	if len(text) < sumSize {
		return TextOut{Code: ErrShort}
	}
	body := copyText(text[:len(text)-sumSize])
	if Seal(body) != text {
		return TextOut{Code: ErrSum}
	}
	return TextOut{Text: body}
}
