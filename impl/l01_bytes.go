package impl

import "errors"

// Constants, see chapter 1.
const (
	OK        = 0
	ErrForm   = 1
	ErrSize   = 2
	ErrSyntax = 3
	ErrShort  = 4
	ErrSum    = 5
	ErrNone   = 6
	ErrThere  = 7
	ErrRange  = 8
	ErrFull   = 9
	ErrState  = 10
	ErrBad    = 11
	ErrPast   = 12
	MaxBytes  = 8000
	MaxList   = 400
	MaxTime   = 1000000
)

// Sizes of encodings, and limits of names, see chapters 1 and 2.
const (
	maxNumBytes = 10
	sumBytes    = 4
	maxName     = 20
	maxCrc      = 1<<32 - 1
	crcPattern  = 0xEDB88320
)

// NumOut is a thing of chapter 2.
type NumOut struct {
	N    int64
	At   int64
	Code int64
}

// TextOut is a thing of chapter 2.
type TextOut struct {
	Text string
	At   int64
	Code int64
}

// malformed is the error of an encoding that cannot be decoded.
type malformed struct {
	code int64
}

func (m malformed) Error() string {
	if m.code == ErrShort {
		return "the encoding is incomplete"
	}
	return "the encoding is malformed"
}

// codeOf returns the code of a decoding error, and OK without one.
func codeOf(err error) int64 {
	var bad malformed
	if errors.As(err, &bad) {
		return bad.code
	}
	return OK
}

// assemble returns the parts one after another, in memory of their own.
func assemble(parts ...string) string {
	size := 0
	for _, part := range parts {
		size += len(part)
	}
	all := make([]byte, size)
	at := 0
	for _, part := range parts {
		at += copy(all[at:], part)
	}
	return string(all)
}

// isTime reports whether t is a time, see chapter 1.
func isTime(t int64) bool {
	return t >= 0 && t <= MaxTime
}

// PutNum: see chapter 2.
func PutNum(n int64) string {
	// The shift by 63 is all ones for a negative n, which turns 2n into -2n - 1.
	rest := uint64(n<<1) ^ uint64(n>>63)
	var groups [maxNumBytes]byte
	count := 0
	for rest >= 128 {
		groups[count] = byte(rest) | 128
		rest >>= 7
		count++
	}
	groups[count] = byte(rest)
	return string(groups[:count+1])
}

// readNum decodes a number at an offset that is not negative, and returns it and the offset behind it.
func readNum(text string, at int64) (int64, int64, error) {
	var zigzag uint64
	var group byte
	count := 0
	code := int64(ErrSyntax)

more:
	if at >= int64(len(text)) {
		code = ErrShort
		goto wrong
	}
	group = text[at]
	// The tenth byte has only the highest of the 64 bits.
	if count == maxNumBytes-1 && group > 1 {
		goto wrong
	}
	zigzag |= uint64(group&127) << (7 * count)
	at++
	count++
	if group < 128 {
		goto last
	}
	goto more

last:
	if group == 0 && count > 1 {
		goto wrong
	}
	return int64(zigzag>>1) ^ -int64(zigzag&1), at, nil

wrong:
	return 0, 0, malformed{code}
}

// GetNum: see chapter 2.
func GetNum(text string, at int64) NumOut {
	if len(text) > MaxBytes {
		return NumOut{Code: ErrSize}
	}
	if at < 0 {
		return NumOut{Code: ErrForm}
	}
	n, next, err := readNum(text, at)
	return NumOut{N: n, At: next, Code: codeOf(err)}
}

// PutText: see chapter 2.
func PutText(t string) string {
	if len(t) > MaxBytes {
		return ""
	}
	return assemble(PutNum(int64(len(t))), t)
}

// GetText: see chapter 2.
func GetText(text string, at int64) TextOut {
	size := GetNum(text, at)
	if size.Code != OK {
		return TextOut{Code: size.Code}
	}
	if size.N < 0 || size.N > MaxBytes {
		return TextOut{Code: ErrSyntax}
	}
	end := size.At + size.N
	if end > int64(len(text)) {
		return TextOut{Code: ErrShort}
	}
	return TextOut{Text: assemble(text[size.At:end]), At: end}
}

// readList decodes the number of elements at an offset, at most that many, and the elements behind it. It returns the elements, and false if one is malformed or the text does not end behind the last one.
func readList[T any](text string, at int64, most int64, read func(text string, at int64) (T, int64, bool)) ([]T, bool) {
	number := GetNum(text, at)
	if number.Code != OK || number.N < 0 || number.N > most {
		return nil, false
	}
	var list []T
	end := number.At
	for range number.N {
		element, next, whole := read(text, end)
		if !whole {
			return nil, false
		}
		list = append(list, element)
		end = next
	}
	return list, end == int64(len(text))
}

func isLetter(c byte) bool {
	return c >= 'a' && c <= 'z'
}

func isDigit(c byte) bool {
	return c >= '0' && c <= '9'
}

// NameRight: see chapter 2.
func NameRight(t string) bool {
	if len(t) < 1 || len(t) > maxName || !isLetter(t[0]) {
		return false
	}
	for i := 1; i < len(t); i++ {
		if !isLetter(t[i]) && !isDigit(t[i]) && t[i] != '_' {
			return false
		}
	}
	return true
}

// Crc: see chapter 2.
func Crc(text string) int64 {
	// 0 is the CRC of the empty string.
	return CrcMore(0, text)
}

// CrcMore: see chapter 2.
func CrcMore(crc int64, text string) int64 {
	if len(text) > MaxBytes || crc < 0 || crc > maxCrc {
		return 0
	}
	register := ^uint32(crc)
	for i := 0; i < len(text); i++ {
		register = crcStep(register, text[i])
	}
	return int64(^register)
}

// crcStep feeds one byte to the register of a CRC.
func crcStep(register uint32, c byte) uint32 {
	// Bit i of the byte meets the lowest bit of the register after i shifts, so all bits can be combined at once.
	register ^= uint32(c)
	for bit := 0; bit < 8; bit++ {
		low := register & 1
		register >>= 1
		if low == 1 {
			register ^= crcPattern
		}
	}
	return register
}

// sumOf returns the CRC of a text in four little-endian bytes.
func sumOf(text string) string {
	crc := Crc(text)
	return string([]byte{byte(crc), byte(crc >> 8), byte(crc >> 16), byte(crc >> 24)})
}

// Seal: see chapter 2.
func Seal(text string) string {
	if len(text) > MaxBytes-sumBytes {
		return ""
	}
	return assemble(text, sumOf(text))
}

// Unseal: see chapter 2.
func Unseal(text string) TextOut {
	if len(text) > MaxBytes {
		return TextOut{Code: ErrSize}
	}
	if len(text) < sumBytes {
		return TextOut{Code: ErrShort}
	}
	end := len(text) - sumBytes
	if sumOf(text[:end]) != text[end:] {
		return TextOut{Code: ErrSum}
	}
	return TextOut{Text: assemble(text[:end])}
}
