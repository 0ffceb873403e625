package tests

import (
	"encoding/binary"
	"hash/crc32"
	"math"
	"math/rand"
	"strings"
	"testing"

	"loop.example/g00637/impl"
)

// pattern returns n bytes in which neighbours differ, so that a shifted or repeated part shows.
func pattern(n int) string {
	b := make([]byte, n)
	for i := range b {
		b[i] = byte(i*7 + i/251)
	}
	return string(b)
}

// edgeNumbers are the least and greatest numbers of each encoded length, and a few others.
func edgeNumbers() []int64 {
	l := []int64{0, 1, -1, 2, -2, 1000, -1000, math.MaxInt64, math.MinInt64, math.MaxInt64 - 1, math.MinInt64 + 1}
	for bits := 6; bits < 63; bits += 7 {
		p := int64(1) << bits
		l = append(l, p-1, p, p+1, -p+1, -p, -p-1)
	}
	return l
}

// firstOfLength returns a number whose encoding has that many bytes.
func firstOfLength(t *testing.T, length int) int64 {
	t.Helper()
	for _, n := range edgeNumbers() {
		if len(binary.AppendVarint(nil, n)) == length {
			return n
		}
	}
	t.Fatalf("no number of %d bytes", length)
	return 0
}

func wantNum(t *testing.T, text string, at int64, want impl.NumOut) {
	t.Helper()
	if got := impl.GetNum(text, at); got != want {
		t.Errorf("GetNum(%.40q, %d): got %+v, want %+v", text, at, got, want)
	}
}

func wantText(t *testing.T, text string, at int64, want impl.TextOut) {
	t.Helper()
	if got := impl.GetText(text, at); got != want {
		t.Errorf("GetText(%.40q, %d): got code %d, at %d, %d bytes; want code %d, at %d, %d bytes", text, at, got.Code, got.At, len(got.Text), want.Code, want.At, len(want.Text))
	}
}

func wantUnseal(t *testing.T, text string, want impl.TextOut) {
	t.Helper()
	if got := impl.Unseal(text); got != want {
		t.Errorf("Unseal of %d bytes %.40q: got code %d, at %d, %d bytes; want code %d, at %d, %d bytes", len(text), text, got.Code, got.At, len(got.Text), want.Code, want.At, len(want.Text))
	}
}

func TestExamplesOfBytes(t *testing.T) {
	for _, c := range []struct {
		n    int64
		want string
	}{{0, "\x00"}, {-1, "\x01"}, {64, "\x80\x01"}} {
		if got := impl.PutNum(c.n); got != c.want {
			t.Errorf("PutNum(%d) = %q, want %q", c.n, got, c.want)
		}
	}
	wantText(t, "x\x04ab", 1, impl.TextOut{Text: "ab", At: 4})
	if got := impl.Crc("123456789"); got != 3421780262 {
		t.Errorf("Crc of 123456789 = %d", got)
	}
	if got := impl.Crc(""); got != 0 {
		t.Errorf("Crc of the empty string = %d", got)
	}
	if !impl.NameRight("a_9") || impl.NameRight("_a") {
		t.Error("a_9 is a name, _a is not")
	}
}

func TestCodesAndLimits(t *testing.T) {
	got := []int{impl.OK, impl.ErrForm, impl.ErrSize, impl.ErrSyntax, impl.ErrShort, impl.ErrSum, impl.ErrNone, impl.ErrThere, impl.ErrRange, impl.ErrFull, impl.ErrState, impl.ErrBad, impl.ErrPast}
	for i, code := range got {
		if code != i {
			t.Errorf("code %d has the value %d", i, code)
		}
	}
	if impl.MaxBytes != 8000 || impl.MaxList != 400 || impl.MaxTime != 1000000 {
		t.Error("a limit has changed")
	}
}

// Promise 1: integers.

func TestNumbersAreDecodedFromTheirEncodings(t *testing.T) {
	lengths := map[int]bool{}
	for _, n := range edgeNumbers() {
		text := impl.PutNum(n)
		if want := string(binary.AppendVarint(nil, n)); text != want {
			t.Errorf("PutNum(%d) = %x, want %x", n, text, want)
		}
		lengths[len(text)] = true
		wantNum(t, text, 0, impl.NumOut{N: n, At: int64(len(text))})
		wantNum(t, "\xff\x00"+text+"\xff\x80", 2, impl.NumOut{N: n, At: int64(2 + len(text))})
	}
	for length := 1; length <= 10; length++ {
		if !lengths[length] {
			t.Errorf("no number was encoded in %d bytes", length)
		}
	}
}

func TestManyNumbersAreDecoded(t *testing.T) {
	for n := int64(-20000); n <= 20000; n++ {
		text := impl.PutNum(n)
		wantNum(t, text, 0, impl.NumOut{N: n, At: int64(len(text))})
	}
	r := rand.New(rand.NewSource(1))
	for i := 0; i < 20000; i++ {
		n := int64(r.Uint64()) >> r.Intn(64)
		text := impl.PutNum(n)
		if want := string(binary.AppendVarint(nil, n)); text != want {
			t.Fatalf("PutNum(%d) = %x, want %x", n, text, want)
		}
		wantNum(t, text, 0, impl.NumOut{N: n, At: int64(len(text))})
	}
}

func TestTruncatedNumber(t *testing.T) {
	for length := 1; length <= 10; length++ {
		text := impl.PutNum(firstOfLength(t, length))
		for kept := 0; kept < length; kept++ {
			wantNum(t, text[:kept], 0, impl.NumOut{Code: impl.ErrShort})
			wantNum(t, "ab"+text[:kept], 2, impl.NumOut{Code: impl.ErrShort})
		}
	}
}

func TestNumberLongerThanNecessary(t *testing.T) {
	for length := 1; length <= 9; length++ {
		for _, n := range edgeNumbers() {
			text := impl.PutNum(n)
			if len(text) > length {
				continue
			}
			padded := []byte(text)
			for len(padded) <= length {
				padded[len(padded)-1] |= 128
				padded = append(padded, 0)
			}
			wantNum(t, string(padded), 0, impl.NumOut{Code: impl.ErrSyntax})
			wantNum(t, string(padded)+"\x01", 0, impl.NumOut{Code: impl.ErrSyntax})
		}
	}
	wantNum(t, "\x00", 0, impl.NumOut{N: 0, At: 1})
}

func TestTenthByteOfNumber(t *testing.T) {
	for _, low := range []string{"\x80", "\xff"} {
		nine := strings.Repeat(low, 9)
		wantNum(t, nine, 0, impl.NumOut{Code: impl.ErrShort})
		for tenth := 0; tenth < 256; tenth++ {
			text := nine + string([]byte{byte(tenth)})
			if tenth == 1 {
				n, _ := binary.Varint([]byte(text))
				wantNum(t, text, 0, impl.NumOut{N: n, At: 10})
				continue
			}
			wantNum(t, text, 0, impl.NumOut{Code: impl.ErrSyntax})
			wantNum(t, text+"\x01", 0, impl.NumOut{Code: impl.ErrSyntax})
		}
	}
}

func TestOffsetOfNumber(t *testing.T) {
	for _, text := range []string{"", "\x02", "\x80", "\x80\x00"} {
		for _, at := range []int64{-1, -2, math.MinInt64} {
			wantNum(t, text, at, impl.NumOut{Code: impl.ErrForm})
		}
		end := int64(len(text))
		for _, at := range []int64{end, end + 1, 1 << 32, math.MaxInt64 - 1, math.MaxInt64} {
			wantNum(t, text, at, impl.NumOut{Code: impl.ErrShort})
		}
	}
}

func TestSizeLimitOfNumber(t *testing.T) {
	full := strings.Repeat("\x02", impl.MaxBytes)
	wantNum(t, full, 0, impl.NumOut{N: 1, At: 1})
	wantNum(t, full, impl.MaxBytes-1, impl.NumOut{N: 1, At: impl.MaxBytes})
	wantNum(t, full, impl.MaxBytes, impl.NumOut{Code: impl.ErrShort})
	for _, at := range []int64{0, -1, impl.MaxBytes, impl.MaxBytes + 1, math.MaxInt64} {
		wantNum(t, full+"\x02", at, impl.NumOut{Code: impl.ErrSize})
	}
}

// All strings of up to two bytes, and some of three, are compared with the rules themselves.
func TestShortNumbersAreDecodedAsDocumented(t *testing.T) {
	for a := 0; a < 256; a++ {
		one := string([]byte{byte(a)})
		if a < 128 {
			wantNum(t, one, 0, impl.NumOut{N: unfold(a), At: 1})
		} else {
			wantNum(t, one, 0, impl.NumOut{Code: impl.ErrShort})
		}
		for b := 0; b < 256; b++ {
			text := one + string([]byte{byte(b)})
			switch {
			case a < 128:
				wantNum(t, text, 0, impl.NumOut{N: unfold(a), At: 1})
			case b == 0:
				wantNum(t, text, 0, impl.NumOut{Code: impl.ErrSyntax})
			case b < 128:
				wantNum(t, text, 0, impl.NumOut{N: unfold(a - 128 + b*128), At: 2})
			default:
				wantNum(t, text, 0, impl.NumOut{Code: impl.ErrShort})
				wantNum(t, text+"\x00", 0, impl.NumOut{Code: impl.ErrSyntax})
			}
		}
	}
}

// unfold returns the number whose zigzag form is u.
func unfold(u int) int64 {
	if u%2 == 0 {
		return int64(u / 2)
	}
	return int64(-(u + 1) / 2)
}

// Promise 1: strings.

func TestTextsAreDecodedFromTheirEncodings(t *testing.T) {
	for _, size := range []int{0, 1, 2, 63, 64, 65, 500, impl.MaxBytes - 3, impl.MaxBytes - 2} {
		text := pattern(size)
		encoded := impl.PutText(text)
		if want := string(binary.AppendVarint(nil, int64(size))) + text; encoded != want {
			t.Errorf("PutText of %d bytes has %d bytes, want %d", size, len(encoded), len(want))
		}
		wantText(t, encoded, 0, impl.TextOut{Text: text, At: int64(len(encoded))})
	}
	for _, size := range []int{0, 1, 64, 500} {
		text := pattern(size)
		encoded := impl.PutText(text)
		wantText(t, "ab"+encoded+"cd", 2, impl.TextOut{Text: text, At: int64(2 + len(encoded))})
	}
}

func TestLongTexts(t *testing.T) {
	for _, size := range []int{impl.MaxBytes - 1, impl.MaxBytes} {
		text := pattern(size)
		encoded := impl.PutText(text)
		if want := string(binary.AppendVarint(nil, int64(size))) + text; encoded != want {
			t.Errorf("PutText of %d bytes has %d bytes, want %d", size, len(encoded), len(want))
		}
		// With its length the encoding exceeds the limit of an argument.
		for _, at := range []int64{0, -1, math.MaxInt64} {
			wantText(t, encoded, at, impl.TextOut{Code: impl.ErrSize})
		}
		wantText(t, encoded[:impl.MaxBytes], 0, impl.TextOut{Code: impl.ErrShort})
	}
	for _, size := range []int{impl.MaxBytes + 1, 2 * impl.MaxBytes} {
		if got := impl.PutText(pattern(size)); got != "" {
			t.Errorf("PutText of %d bytes has %d bytes", size, len(got))
		}
	}
}

func TestTruncatedText(t *testing.T) {
	for _, size := range []int{1, 2, 63, 64, 300} {
		encoded := impl.PutText(pattern(size))
		for kept := 0; kept < len(encoded); kept++ {
			wantText(t, encoded[:kept], 0, impl.TextOut{Code: impl.ErrShort})
			wantText(t, "x"+encoded[:kept], 1, impl.TextOut{Code: impl.ErrShort})
		}
	}
}

func TestWrongLengthOfText(t *testing.T) {
	filler := pattern(200)
	for _, size := range []int64{-1, -2, -8000, math.MinInt64, impl.MaxBytes + 1, impl.MaxBytes + 2, 1 << 32, math.MaxInt64 - 1, math.MaxInt64} {
		wantText(t, impl.PutNum(size), 0, impl.TextOut{Code: impl.ErrSyntax})
		wantText(t, impl.PutNum(size)+filler, 0, impl.TextOut{Code: impl.ErrSyntax})
	}
	wantText(t, impl.PutNum(impl.MaxBytes)+filler, 0, impl.TextOut{Code: impl.ErrShort})
	wantText(t, impl.PutNum(201)+filler, 0, impl.TextOut{Code: impl.ErrShort})
	wantText(t, impl.PutNum(200)+filler, 0, impl.TextOut{Text: filler, At: 202})
	wantText(t, "\x80\x00"+filler, 0, impl.TextOut{Code: impl.ErrSyntax})
	wantText(t, "\x84\x00ab", 0, impl.TextOut{Code: impl.ErrSyntax})
	wantText(t, strings.Repeat("\x80", 9)+"\x02", 0, impl.TextOut{Code: impl.ErrSyntax})
}

func TestOffsetOfText(t *testing.T) {
	for _, text := range []string{"", "\x00", "\x02a", "\x80\x00"} {
		for _, at := range []int64{-1, math.MinInt64} {
			wantText(t, text, at, impl.TextOut{Code: impl.ErrForm})
		}
		end := int64(len(text))
		for _, at := range []int64{end, end + 1, math.MaxInt64} {
			wantText(t, text, at, impl.TextOut{Code: impl.ErrShort})
		}
	}
	full := strings.Repeat("\x00", impl.MaxBytes)
	wantText(t, full, impl.MaxBytes-1, impl.TextOut{At: impl.MaxBytes})
	for _, at := range []int64{0, -1, impl.MaxBytes, math.MaxInt64} {
		wantText(t, full+"\x00", at, impl.TextOut{Code: impl.ErrSize})
	}
}

func TestSequenceOfEncodings(t *testing.T) {
	text := impl.PutNum(-300) + impl.PutText("") + impl.PutText("abc") + impl.PutNum(7)
	first := impl.GetNum(text, 0)
	second := impl.GetText(text, first.At)
	third := impl.GetText(text, second.At)
	fourth := impl.GetNum(text, third.At)
	if first.N != -300 || second.Text != "" || third.Text != "abc" || fourth != (impl.NumOut{N: 7, At: int64(len(text))}) {
		t.Errorf("got %+v, %+v, %+v, %+v", first, second, third, fourth)
	}
}

func TestNames(t *testing.T) {
	const letters = "abcdefghijklmnopqrstuvwxyz"
	const others = "0123456789_"
	for c := 0; c < 256; c++ {
		one := string([]byte{byte(c)})
		first := strings.Contains(letters, one)
		later := first || strings.Contains(others, one)
		if got := impl.NameRight(one); got != first {
			t.Errorf("NameRight(%q) = %v", one, got)
		}
		for _, text := range []string{"a" + one, "a" + one + "b", "abcdefghijklmnopqrs" + one} {
			if got := impl.NameRight(text); got != later {
				t.Errorf("NameRight(%q) = %v", text, got)
			}
		}
	}
	for _, c := range []struct {
		size int
		want bool
	}{{0, false}, {1, true}, {19, true}, {20, true}, {21, false}, {impl.MaxBytes, false}, {impl.MaxBytes + 1, false}} {
		if got := impl.NameRight(strings.Repeat("a", c.size)); got != c.want {
			t.Errorf("NameRight of %d letters = %v", c.size, got)
		}
	}
}

// Promise 2: checksums.

func TestCrcOfTexts(t *testing.T) {
	texts := []string{"", "a", "abc", "\x00", "\xff", "\x00\x00\x00\x00", "\xff\xff\xff\xff", pattern(impl.MaxBytes - 1), pattern(impl.MaxBytes)}
	for c := 0; c < 256; c++ {
		texts = append(texts, string([]byte{byte(c)}))
	}
	for _, text := range texts {
		if got, want := impl.Crc(text), int64(crc32.ChecksumIEEE([]byte(text))); got != want {
			t.Errorf("Crc(%.20q) = %d, want %d", text, got, want)
		}
	}
	for _, size := range []int{impl.MaxBytes + 1, 2 * impl.MaxBytes} {
		if got := impl.Crc(pattern(size)); got != 0 {
			t.Errorf("Crc of %d bytes = %d", size, got)
		}
	}
}

func TestCrcIsContinuedAtEveryDivision(t *testing.T) {
	for _, text := range []string{"", "x", "123456789", pattern(300)} {
		want := impl.Crc(text)
		for i := 0; i <= len(text); i++ {
			if got := impl.CrcMore(impl.Crc(text[:i]), text[i:]); got != want {
				t.Errorf("divided at %d of %d: got %d, want %d", i, len(text), got, want)
			}
		}
	}
}

func TestCrcOfMoreThanTheLimit(t *testing.T) {
	first, second := pattern(impl.MaxBytes), pattern(impl.MaxBytes)
	if got, want := impl.CrcMore(impl.Crc(first), second), int64(crc32.ChecksumIEEE([]byte(first+second))); got != want {
		t.Errorf("CrcMore over %d bytes = %d, want %d", len(first+second), got, want)
	}
	if got := impl.CrcMore(5, pattern(impl.MaxBytes+1)); got != 0 {
		t.Errorf("CrcMore of a text beyond the limit = %d", got)
	}
}

func TestCrcOutOfRange(t *testing.T) {
	for _, crc := range []int64{-1, -2, 1 << 32, 1<<32 + 1, 1 << 40, math.MinInt64, math.MaxInt64} {
		for _, text := range []string{"", "a", "abc"} {
			if got := impl.CrcMore(crc, text); got != 0 {
				t.Errorf("CrcMore(%d, %q) = %d", crc, text, got)
			}
		}
	}
	for _, crc := range []int64{0, 1, 1 << 31, 1<<32 - 1} {
		if got := impl.CrcMore(crc, ""); got != crc {
			t.Errorf("CrcMore(%d, empty) = %d", crc, got)
		}
		want := int64(crc32.Update(uint32(crc), crc32.IEEETable, []byte("abc")))
		if got := impl.CrcMore(crc, "abc"); got != want {
			t.Errorf("CrcMore(%d, abc) = %d, want %d", crc, got, want)
		}
	}
}

func TestSealedTextIsRecovered(t *testing.T) {
	for _, size := range []int{0, 1, 2, 3, 4, 5, 100, impl.MaxBytes - 5, impl.MaxBytes - 4} {
		text := pattern(size)
		sealed := impl.Seal(text)
		want := string(binary.LittleEndian.AppendUint32([]byte(text), crc32.ChecksumIEEE([]byte(text))))
		if sealed != want {
			t.Errorf("Seal of %d bytes has %d bytes and ends with %x", size, len(sealed), sealed[max(0, len(sealed)-4):])
		}
		wantUnseal(t, sealed, impl.TextOut{Text: text})
	}
}

func TestSealOfLongText(t *testing.T) {
	for _, size := range []int{impl.MaxBytes - 3, impl.MaxBytes - 2, impl.MaxBytes, impl.MaxBytes + 1} {
		if got := impl.Seal(pattern(size)); got != "" {
			t.Errorf("Seal of %d bytes has %d bytes", size, len(got))
		}
	}
}

func TestUnsealOfOtherTexts(t *testing.T) {
	for _, text := range []string{"", "a", "ab", "abc", "\x00\x00\x00"} {
		wantUnseal(t, text, impl.TextOut{Code: impl.ErrShort})
	}
	wantUnseal(t, "\x00\x00\x00\x00", impl.TextOut{})
	for _, text := range []string{"abcd", "\xff\xff\xff\xff", "\x00\x00\x00\x00\x00", pattern(impl.MaxBytes)} {
		wantUnseal(t, text, impl.TextOut{Code: impl.ErrSum})
	}
	long := pattern(impl.MaxBytes - 3)
	sealed := string(binary.LittleEndian.AppendUint32([]byte(long), crc32.ChecksumIEEE([]byte(long))))
	wantUnseal(t, sealed, impl.TextOut{Code: impl.ErrSize})
	wantUnseal(t, pattern(impl.MaxBytes+1), impl.TextOut{Code: impl.ErrSize})
}

func TestSealedTextWithOneByteChanged(t *testing.T) {
	for _, size := range []int{0, 1, 2, 7, 40} {
		sealed := []byte(impl.Seal(pattern(size)))
		for i := range sealed {
			for change := 1; change < 256; change++ {
				sealed[i] ^= byte(change)
				wantUnseal(t, string(sealed), impl.TextOut{Code: impl.ErrSum})
				sealed[i] ^= byte(change)
			}
		}
	}
	sealed := []byte(impl.Seal(pattern(impl.MaxBytes - 4)))
	for i := 0; i < len(sealed); i += 401 {
		sealed[i] ^= 0x10
		wantUnseal(t, string(sealed), impl.TextOut{Code: impl.ErrSum})
		sealed[i] ^= 0x10
	}
}
