package impl

import (
	"errors"
	"strconv"
)

// Constants, see chapter 1.
const (
	OK        = 0
	ErrForm   = 1
	ErrSize   = 2
	ErrSyntax = 3
	ErrShort  = 4
	ErrSum    = 5
	ErrNone   = 6
	ErrThere  = 7
	ErrRange  = 8
	ErrFull   = 9
	ErrState  = 10
	ErrDenied = 11
	MaxBytes  = 8000
	MaxList   = 400
	MaxTime   = 1000000
)

const (
	// 64 bits, seven a byte, leave one bit for the tenth byte.
	numBytes  = 10
	maxTenth  = 1
	moreBytes = 128

	nameBytes = 20

	crcBytes = 4
	maxCrc   = 1<<32 - 1
	crcTurn  = 0xEDB88320
)

// NumOut is a thing of chapter 2.
type NumOut struct {
	N    int64
	At   int64
	Code int64
}

// TextOut is a thing of chapter 2.
type TextOut struct {
	Text string
	At   int64
	Code int64
}

// wrongBytes is why nothing can be read at a place of a text.
type wrongBytes struct {
	code int64
}

func (w wrongBytes) Error() string {
	return "wrong bytes: code " + strconv.FormatInt(w.code, 10)
}

// bytesCode: OK of no error.
func bytesCode(err error) int64 {
	var w wrongBytes
	if errors.As(err, &w) {
		return w.code
	}
	return OK
}

// together answers new memory also if one of both is empty, so that no answer
// holds on to an argument.
func together(head string, tail string) string {
	b := make([]byte, len(head)+len(tail))
	n := copy(b, head)
	copy(b[n:], tail)
	return string(b)
}

func textCopy(text string) string {
	return together(text, "")
}

// copiesOf makes a list of its own; copyOf answers new memory.
func copiesOf[T any](l []T, copyOf func(T) T) []T {
	var copies []T
	for _, x := range l {
		copies = append(copies, copyOf(x))
	}
	return copies
}

// PutNum: see chapter 2.
func PutNum(n int64) string {
	var b [numBytes]byte
	// n>>63 is all ones below 0: that turns 2n into -2n-1, without a step
	// that the least int64 would not bear.
	u := uint64(n)<<1 ^ uint64(n>>63)
	last := 0
	for u >= moreBytes {
		b[last] = byte(u%moreBytes) + moreBytes
		u /= moreBytes
		last++
	}
	b[last] = byte(u)
	return string(b[:last+1])
}

// GetNum: see chapter 2.
func GetNum(text string, at int64) NumOut {
	n, behind, err := numAt(text, at)
	if err != nil {
		return NumOut{Code: bytesCode(err)}
	}
	return NumOut{N: n, At: behind}
}

// numAt reads a number at a place, and tells the place behind it.
func numAt(text string, at int64) (int64, int64, error) {
	if len(text) > MaxBytes {
		return 0, 0, wrongBytes{code: ErrSize}
	}
	if at < 0 {
		return 0, 0, wrongBytes{code: ErrForm}
	}
	// Held against the length ahead of any sum: at may be the greatest int64.
	if at > int64(len(text)) {
		return 0, 0, wrongBytes{code: ErrShort}
	}
	u, count, err := bitsOf(text[at:])
	if err != nil {
		return 0, 0, err
	}
	return int64(u>>1) ^ -int64(u&1), at + int64(count), nil
}

// bitsOf reads the number with which a text begins, as PutNum's u, and tells
// of how many bytes it is.
func bitsOf(text string) (uint64, int, error) {
	var u uint64
	var code int64
	var b byte
	count := 0
	shift := 0

more:
	if count == len(text) {
		code = ErrShort
		goto wrong
	}
	b = text[count]
	count++
	if b < moreBytes || count == numBytes {
		goto last
	}
	u |= uint64(b-moreBytes) << shift
	shift += 7
	goto more

last:
	// A last byte of 0 adds nothing, so fewer bytes would have done.
	if count == numBytes && b > maxTenth || count > 1 && b == 0 {
		code = ErrSyntax
		goto wrong
	}
	return u | uint64(b)<<shift, count, nil

wrong:
	return 0, 0, wrongBytes{code: code}
}

// PutText: see chapter 2.
func PutText(t string) string {
	if len(t) > MaxBytes {
		return ""
	}
	return together(PutNum(int64(len(t))), t)
}

// GetText: see chapter 2.
func GetText(text string, at int64) TextOut {
	t, behind, err := textAt(text, at)
	if err != nil {
		return TextOut{Code: bytesCode(err)}
	}
	return TextOut{Text: t, At: behind}
}

// textAt reads a text at a place, and tells the place behind it.
func textAt(text string, at int64) (string, int64, error) {
	size, begin, err := numAt(text, at)
	if err != nil {
		return "", 0, err
	}
	if size < 0 || size > MaxBytes {
		return "", 0, wrongBytes{code: ErrSyntax}
	}
	end := begin + size
	if end > int64(len(text)) {
		return "", 0, wrongBytes{code: ErrShort}
	}
	return together(text[begin:end], ""), end, nil
}

// NameRight: see chapter 2.
func NameRight(t string) bool {
	if len(t) == 0 || len(t) > nameBytes || !isSmall(t[0]) {
		return false
	}
	for i := 1; i < len(t); i++ {
		if !isSmall(t[i]) && !isDigit(t[i]) && t[i] != '_' {
			return false
		}
	}
	return true
}

func isSmall(b byte) bool {
	return b >= 'a' && b <= 'z'
}

func isDigit(b byte) bool {
	return b >= '0' && b <= '9'
}

// isTime: see chapter 1.
func isTime(n int64) bool {
	return n >= 0 && n <= MaxTime
}

// Crc: see chapter 2.
func Crc(text string) int64 {
	// The CRC of no bytes is 0: all ones, turned.
	return CrcMore(0, text)
}

// CrcMore: see chapter 2.
func CrcMore(crc int64, text string) int64 {
	if len(text) > MaxBytes || crc < 0 || crc > maxCrc {
		return 0
	}
	// A CRC turned back is the register that the text behind it goes on with.
	register := ^uint32(crc)
	for i := 0; i < len(text); i++ {
		register = crcByte(register, text[i])
	}
	return int64(^register)
}

// crcByte takes the register on by the eight bits of one byte.
func crcByte(register uint32, b byte) uint32 {
	for i := 0; i < 8; i++ {
		low := (register ^ uint32(b>>i)) & 1
		register >>= 1
		if low == 1 {
			register ^= crcTurn
		}
	}
	return register
}

// Seal: see chapter 2.
func Seal(text string) string {
	if len(text) > MaxBytes-crcBytes {
		return ""
	}
	return together(text, crcText(Crc(text)))
}

// crcText: the four bytes of a CRC, the lowest first.
func crcText(crc int64) string {
	var b [crcBytes]byte
	for i := 0; i < crcBytes; i++ {
		b[i] = byte(crc >> (8 * i))
	}
	return string(b[:])
}

// Unseal: see chapter 2.
func Unseal(text string) TextOut {
	if len(text) > MaxBytes {
		return TextOut{Code: ErrSize}
	}
	if len(text) < crcBytes {
		return TextOut{Code: ErrShort}
	}
	body := text[:len(text)-crcBytes]
	if Seal(body) != text {
		return TextOut{Code: ErrSum}
	}
	return TextOut{Text: together(body, "")}
}
