package tests

import (
	"math"
	"math/bits"
	"math/rand"
	"slices"
	"strings"
	"testing"

	"loop.example/g00637/impl"
)

// The reference, by the definitions of the document.

// refOnes returns the places of the bits of a string that are 1.
func refOnes(data string) []int64 {
	var places []int64
	for k := range len(data) {
		for left := data[k]; left != 0; left &= left - 1 {
			places = append(places, int64(8*k+bits.TrailingZeros8(left)+1))
		}
	}
	return places
}

// refEcc counts in how many places each power of two is, and whether there are an odd number of them.
func refEcc(data string) int64 {
	if len(data) > 60 {
		return -1
	}
	ones := refOnes(data)
	code := int64(len(ones) % 2)
	for power := int64(1); power <= 480; power *= 2 {
		count := int64(0)
		for _, place := range ones {
			count += place / power % 2
		}
		code += 2 * power * (count % 2)
	}
	return code
}

// withInverted returns a string with the bits at some places inverted.
func withInverted(data string, places ...int64) string {
	b := []byte(data)
	for _, place := range places {
		k, i := (place-1)/8, (place-1)%8
		b[k] ^= []byte{1, 2, 4, 8, 16, 32, 64, 128}[i]
	}
	return string(b)
}

// refFix searches for the string that has the code and differs in at most one bit.
func refFix(data string, ecc int64) impl.FixOut {
	switch {
	case len(data) > 8000:
		return impl.FixOut{Code: impl.ErrSize}
	case len(data) > 60 || ecc < 0 || ecc > 1023:
		return impl.FixOut{Code: impl.ErrForm}
	case refEcc(data) == ecc:
		return impl.FixOut{Data: data}
	}
	for place := int64(1); place <= int64(8*len(data)); place++ {
		if other := withInverted(data, place); refEcc(other) == ecc {
			return impl.FixOut{Data: other, At: place}
		}
	}
	return impl.FixOut{Code: impl.ErrSum}
}

func wantFix(t *testing.T, data string, ecc int64, want impl.FixOut) {
	t.Helper()
	if got := impl.EccFix(data, ecc); got != want {
		t.Fatalf("EccFix(%.80q, %d):\ngot  %s\nwant %s", data, ecc, brief(got), brief(want))
	}
}

func wantFixCode(t *testing.T, data string, ecc, code int64) {
	t.Helper()
	wantFix(t, data, ecc, impl.FixOut{Code: code})
}

// wantEcc requires that a string has a code, and that the string is recovered with it.
func wantEcc(t *testing.T, data string, ecc int64) {
	t.Helper()
	if got := impl.EccOf(data); got != ecc {
		t.Fatalf("EccOf(%q): got %d, want %d", data, got, ecc)
	}
	wantFix(t, data, ecc, impl.FixOut{Data: data})
}

// wantCorrected requires that a string is recovered with each one of its bits inverted.
func wantCorrected(t *testing.T, data string) {
	t.Helper()
	ecc := impl.EccOf(data)
	for place := int64(1); place <= int64(8*len(data)); place++ {
		wantFix(t, withInverted(data, place), ecc, impl.FixOut{Data: data, At: place})
	}
}

// wantDetected requires that any two inverted bits of a string are detected.
func wantDetected(t *testing.T, data string) {
	t.Helper()
	ecc := impl.EccOf(data)
	for second := int64(2); second <= int64(8*len(data)); second++ {
		for first := int64(1); first < second; first++ {
			wantFixCode(t, withInverted(data, first, second), ecc, impl.ErrSum)
		}
	}
}

func TestExamplesOfErrorCorrection(t *testing.T) {
	wantEcc(t, "\x01", 3)
	wantEcc(t, "\x03", 6)
	wantEcc(t, "\x00\x01", 19)
	wantFix(t, "\x01", 3, impl.FixOut{Data: "\x01"})
	wantFix(t, "\x00", 3, impl.FixOut{Data: "\x01", At: 1})
	wantFix(t, "\x03", 3, impl.FixOut{Data: "\x01", At: 2})
	wantFixCode(t, "\x02", 3, impl.ErrSum)
}

func TestConstantsOfErrorCorrection(t *testing.T) {
	if impl.MaxWord != 60 {
		t.Error("a limit has changed")
	}
}

// Promise 16.

// randomWord returns a string in which about one bit in some is 1.
func randomWord(random *rand.Rand, size, some int) string {
	b := make([]byte, size)
	for k := range b {
		for i := range 8 {
			if random.Intn(some) == 0 {
				b[k] |= 1 << i
			}
		}
	}
	return string(b)
}

// wordsOf returns strings of a size, chosen and random ones.
func wordsOf(random *rand.Rand, size int) []string {
	zeros, ones := strings.Repeat("\x00", size), strings.Repeat("\xff", size)
	last := int64(8 * size)
	return []string{
		zeros, ones,
		withInverted(zeros, 1), withInverted(zeros, last), withInverted(zeros, 1+random.Int63n(last)),
		withInverted(ones, 1), withInverted(ones, last), withInverted(ones, 1+random.Int63n(last)),
		strings.Repeat("\x01", size), strings.Repeat("\x80", size), strings.Repeat("\x55", size),
		strings.Repeat("\x00\xff", size)[:size],
		pattern(size),
		randomWord(random, size, 2), randomWord(random, size, 100),
	}
}

func TestOneInvertedBitIsCorrected(t *testing.T) {
	random := rand.New(rand.NewSource(101))
	for size := 1; size <= impl.MaxWord; size++ {
		for _, data := range wordsOf(random, size) {
			wantEcc(t, data, refEcc(data))
			wantCorrected(t, data)
		}
	}
}

func TestTwoInvertedBitsAreDetected(t *testing.T) {
	random := rand.New(rand.NewSource(102))
	sizes := []int{1, 2, 3, 4, 5, 7, 8, 9, 15, 16, 17, 31, 32, 33, 59}
	for _, size := range sizes {
		wantDetected(t, randomWord(random, size, 2))
	}
	for _, data := range wordsOf(random, impl.MaxWord) {
		wantDetected(t, data)
	}
}

func TestSomeTwoInvertedBitsOfEverySize(t *testing.T) {
	random := rand.New(rand.NewSource(103))
	for size := 1; size <= impl.MaxWord; size++ {
		for _, data := range wordsOf(random, size) {
			ecc := impl.EccOf(data)
			for range 50 {
				places := random.Perm(8 * size)
				wantFixCode(t, withInverted(data, int64(places[0]+1), int64(places[1]+1)), ecc, impl.ErrSum)
			}
		}
	}
}

func TestEverySingleBitIsCorrectedToNone(t *testing.T) {
	for size := 1; size <= impl.MaxWord; size++ {
		zeros := strings.Repeat("\x00", size)
		for place := int64(1); place <= int64(8*size); place++ {
			single := withInverted(zeros, place)
			wantFix(t, single, 0, impl.FixOut{Data: zeros, At: place})
			wantFix(t, zeros, impl.EccOf(single), impl.FixOut{Data: single, At: place})
		}
	}
}

func TestAllShortStringsAreCorrected(t *testing.T) {
	for n := range 1 << 16 {
		data := string([]byte{byte(n), byte(n >> 8)})
		wantEcc(t, data, refEcc(data))
		wantCorrected(t, data)
	}
	for n := range 1 << 8 {
		wantEcc(t, string([]byte{byte(n)}), refEcc(string([]byte{byte(n)})))
		wantCorrected(t, string([]byte{byte(n)}))
		wantDetected(t, string([]byte{byte(n)}))
	}
}

func TestInvertedBitsOfTheCodeAreDetected(t *testing.T) {
	random := rand.New(rand.NewSource(104))
	for size := 0; size <= impl.MaxWord; size++ {
		data := randomWord(random, size, 2)
		for power := int64(1); power <= 512; power *= 2 {
			wantFixCode(t, data, refEcc(data)^power, impl.ErrSum)
		}
	}
}

// Codes.

func TestEccOfTheEmptyString(t *testing.T) {
	wantEcc(t, "", 0)
}

func TestEccOfEachSingleBit(t *testing.T) {
	zeros := strings.Repeat("\x00", impl.MaxWord)
	wantEcc(t, zeros, 0)
	for k := range impl.MaxWord {
		for i := range 8 {
			b := []byte(zeros)
			b[k] = 1 << i
			wantEcc(t, string(b), int64(2*(8*k+i+1)+1))
		}
	}
}

func TestEccOfTwoBits(t *testing.T) {
	zeros := strings.Repeat("\x00", impl.MaxWord)
	for second := int64(2); second <= 480; second++ {
		for first := int64(1); first < second; first++ {
			if got := impl.EccOf(withInverted(zeros, first, second)); got != 2*(first^second) {
				t.Fatalf("with the bits at %d and %d: got %d", first, second, got)
			}
		}
	}
}

func TestSmallestAndGreatestCodes(t *testing.T) {
	zeros := strings.Repeat("\x00", impl.MaxWord)
	// All nine bits of a place are 1 in the exclusive or of 256 and 255, and of 480, 30 and 1.
	wantEcc(t, withInverted(zeros, 255, 256), 1022)
	wantEcc(t, withInverted(zeros, 1, 30, 480), 1023)
	// The exclusive or of the places is 0, but their number is odd.
	wantEcc(t, withInverted(zeros, 1, 2, 3), 1)
	wantEcc(t, withInverted(zeros, 160, 320, 480), 1)
	// The exclusive or is 0, and the number is even.
	wantEcc(t, withInverted(zeros, 1, 2, 4, 7), 0)
	wantEcc(t, strings.Repeat("\xff", impl.MaxWord), 960)
}

// The code of the exclusive or of two strings is the exclusive or of their codes.
func TestCodesOfCombinedStrings(t *testing.T) {
	random := rand.New(rand.NewSource(105))
	for range 2000 {
		size := random.Intn(impl.MaxWord + 1)
		one, other := randomWord(random, size, 3), randomWord(random, size, 2)
		both := []byte(one)
		for k := range both {
			both[k] ^= other[k]
		}
		wantEcc(t, string(both), impl.EccOf(one)^impl.EccOf(other))
	}
}

func TestBytesOf0BehindAStringChangeNoCode(t *testing.T) {
	random := rand.New(rand.NewSource(106))
	for size := 0; size <= impl.MaxWord; size++ {
		data := randomWord(random, size, 2)
		for behind := 0; size+behind <= impl.MaxWord; behind++ {
			wantEcc(t, data+strings.Repeat("\x00", behind), refEcc(data))
		}
		if size < impl.MaxWord && size > 0 {
			before := "\x00" + data
			wantEcc(t, before, refEcc(before))
		}
	}
}

func TestCodesOfManyStrings(t *testing.T) {
	random := rand.New(rand.NewSource(107))
	for range 5000 {
		data := randomWord(random, random.Intn(impl.MaxWord+1), 2+random.Intn(20))
		wantEcc(t, data, refEcc(data))
	}
}

func TestSizesOfStringsWithACode(t *testing.T) {
	for _, c := range []string{"\x00", "\x01", "a", "\xff"} {
		for size := range impl.MaxWord + 1 {
			wantEcc(t, strings.Repeat(c, size), refEcc(strings.Repeat(c, size)))
		}
		for _, size := range []int{impl.MaxWord + 1, impl.MaxWord + 2, 2 * impl.MaxWord, 256, 512, 1024, impl.MaxBytes - 1, impl.MaxBytes, impl.MaxBytes + 1, 2 * impl.MaxBytes, 1 << 20} {
			if got := impl.EccOf(strings.Repeat(c, size)); got != -1 {
				t.Errorf("EccOf %d bytes %q: got %d, want -1", size, c, got)
			}
		}
	}
}

// Corrections.

func TestEveryCodeForManyStrings(t *testing.T) {
	random := rand.New(rand.NewSource(108))
	for _, size := range []int{0, 1, 2, 3, 4, 7, 8, 9, 16, 31, 32, 33} {
		data := randomWord(random, size, 2)
		for ecc := range int64(1024) {
			wantFix(t, data, ecc, refFix(data, ecc))
		}
	}
	for _, size := range []int{59, 60} {
		data := randomWord(random, size, 2)
		for ecc := int64(random.Intn(4)); ecc <= 1023; ecc += 7 {
			wantFix(t, data, ecc, refFix(data, ecc))
		}
	}
}

// Of the 1024 codes one is that of the string, and one for each bit that of the string with this bit inverted.
func TestNumberOfCodesOfEveryKind(t *testing.T) {
	random := rand.New(rand.NewSource(109))
	for size := 1; size <= impl.MaxWord; size++ {
		data := randomWord(random, size, 2)
		var unchanged, corrected, rejected int
		for ecc := range int64(1024) {
			switch got := impl.EccFix(data, ecc); {
			case got == impl.FixOut{Data: data}:
				unchanged++
			case got == impl.FixOut{Data: withInverted(data, max(got.At, 1)), At: got.At}:
				corrected++
			case got == impl.FixOut{Code: impl.ErrSum}:
				rejected++
			}
		}
		if unchanged != 1 || corrected != 8*size || rejected != 1023-8*size {
			t.Errorf("%d bytes: %d codes for the string, %d for one inverted bit, %d rejected", size, unchanged, corrected, rejected)
		}
	}
}

func TestEveryCodeForTheEmptyString(t *testing.T) {
	wantFix(t, "", 0, impl.FixOut{})
	for ecc := int64(1); ecc <= 1023; ecc++ {
		wantFixCode(t, "", ecc, impl.ErrSum)
	}
}

func TestPlacesAtTheEndsOfAString(t *testing.T) {
	random := rand.New(rand.NewSource(110))
	for size := 1; size <= impl.MaxWord; size++ {
		for _, data := range wordsOf(random, size) {
			ecc, last := refEcc(data), int64(8*size)
			// What differs is twice the place, plus 1.
			wantFixCode(t, data, ecc^1, impl.ErrSum)
			wantFix(t, data, ecc^3, impl.FixOut{Data: withInverted(data, 1), At: 1})
			wantFix(t, data, ecc^(2*last+1), impl.FixOut{Data: withInverted(data, last), At: last})
			for _, place := range []int64{last + 1, last + 7, last + 8, 481, 482, 510, 511} {
				if place > last {
					wantFixCode(t, data, ecc^(2*place+1), impl.ErrSum)
				}
			}
		}
	}
}

func TestEvenDifferencesAreDetected(t *testing.T) {
	random := rand.New(rand.NewSource(111))
	for size := 0; size <= impl.MaxWord; size++ {
		data := randomWord(random, size, 2)
		for difference := int64(2); difference <= 1022; difference += 2 {
			wantFixCode(t, data, refEcc(data)^difference, impl.ErrSum)
		}
	}
}

func TestThreeInvertedBitsAreNeverTheString(t *testing.T) {
	random := rand.New(rand.NewSource(112))
	for range 3000 {
		size := 1 + random.Intn(impl.MaxWord)
		data := randomWord(random, size, 2)
		places := random.Perm(8 * size)
		spoiled := withInverted(data, int64(places[0]+1), int64(places[1]+1), int64(places[2]+1))
		got := impl.EccFix(spoiled, refEcc(data))
		if got.Data == data {
			t.Errorf("%q with three inverted bits is corrected to %q", data, got.Data)
		}
		if got.Code == impl.OK && refEcc(got.Data) != refEcc(data) {
			t.Errorf("%q is corrected to %q, which has another code", spoiled, got.Data)
		}
	}
}

// Invalid arguments.

func TestCodesThatNoStringHas(t *testing.T) {
	words := []string{"", "\x00", "\x01", "a", strings.Repeat("\xff", 59), strings.Repeat("b", impl.MaxWord)}
	for _, data := range words {
		for _, ecc := range append(edgeNumbers(), -2, -1, 1024, 1025, 1026, 2047, 2048, math.MaxInt32, math.MinInt32, math.MaxInt64, math.MinInt64) {
			if ecc < 0 || ecc > 1023 {
				wantFixCode(t, data, ecc, impl.ErrForm)
			}
		}
		// The same low bits as the code of the string.
		for shift := 10; shift < 64; shift++ {
			wantFixCode(t, data, refEcc(data)|int64(1)<<shift, impl.ErrForm)
		}
		wantFix(t, data, 0, refFix(data, 0))
		wantFix(t, data, 1023, refFix(data, 1023))
	}
}

func TestStringsThatAreTooLongToBeCorrected(t *testing.T) {
	for _, c := range []string{"\x00", "\x01", "z", "\xff"} {
		for _, size := range []int{impl.MaxWord + 1, impl.MaxWord + 2, 2 * impl.MaxWord, 1000, impl.MaxBytes - 1, impl.MaxBytes} {
			data := strings.Repeat(c, size)
			// The code that the string would have, that of its beginning, and others.
			xor := int64(0)
			ones := refOnes(data)
			for _, place := range ones {
				xor ^= place
			}
			for _, ecc := range []int64{2*xor + int64(len(ones)%2), refEcc(data[:impl.MaxWord]), -1, 0, 1, 2, 3, 1023, 1024, math.MaxInt64, math.MinInt64} {
				wantFixCode(t, data, ecc, impl.ErrForm)
			}
		}
	}
}

func TestSizeLimitOfErrorCorrection(t *testing.T) {
	for _, size := range []int{impl.MaxBytes + 1, impl.MaxBytes + 2, 3 * impl.MaxBytes} {
		for _, ecc := range []int64{-1, 0, 1, 3, 1023, 1024, math.MaxInt64, math.MinInt64} {
			wantFixCode(t, strings.Repeat("\x00", size), ecc, impl.ErrSize)
		}
	}
}

// Memory.

func TestCorrectedStringsShareNoMemory(t *testing.T) {
	buffer := []byte(pattern(impl.MaxWord))
	whole := string(buffer)
	ecc := impl.EccOf(whole)
	spoiled := withInverted(whole, 77)
	first, second := impl.EccFix(spoiled, ecc), impl.EccFix(spoiled, ecc)
	spoil([]byte(first.Data), 'x')
	longer := append([]byte(second.Data), "more"...)
	spoil(longer, 'y')
	if spoiled != withInverted(whole, 77) || first.Data != whole || second.Data != whole {
		t.Error("using a result changed something else")
	}
	wantFix(t, spoiled, ecc, impl.FixOut{Data: whole, At: 77})
	wantFix(t, first.Data, ecc, impl.FixOut{Data: whole})
	wantFix(t, whole, ecc, impl.FixOut{Data: whole})
	if string(buffer) != pattern(impl.MaxWord) {
		t.Error("an argument was changed")
	}
}

func TestPartsOfAStringAreCorrectedAlone(t *testing.T) {
	whole := strings.Repeat("left", 10) + pattern(impl.MaxWord) + strings.Repeat("right", 10)
	before := strings.Clone(whole)
	data := whole[40 : 40+impl.MaxWord]
	ecc := refEcc(pattern(impl.MaxWord))
	wantEcc(t, data, ecc)
	for _, place := range []int64{1, 8, 9, 479, 480} {
		wantFix(t, data, ecc^(2*place+1), impl.FixOut{Data: withInverted(data, place), At: place})
	}
	if whole != before {
		t.Error("an argument was changed")
	}
}

func TestCorrectionsOfCorrections(t *testing.T) {
	random := rand.New(rand.NewSource(113))
	data := randomWord(random, impl.MaxWord, 2)
	ecc := refEcc(data)
	var results []string
	last := data
	for range 200 {
		place := 1 + random.Int63n(480)
		got := impl.EccFix(withInverted(last, place), ecc)
		if got != (impl.FixOut{Data: data, At: place}) {
			t.Fatalf("with the bit at %d inverted: got %+v", place, got)
		}
		last = got.Data
		results = append(results, last)
	}
	if len(slices.Compact(results)) != 1 {
		t.Error("a result changed later")
	}
}

func TestCallsOfErrorCorrectionAreRepeatable(t *testing.T) {
	random := rand.New(rand.NewSource(114))
	for range 200 {
		data := randomWord(random, random.Intn(impl.MaxWord+3), 2)
		ecc := int64(random.Intn(1030) - 3)
		wantRepeatable(t, func() []any {
			return []any{impl.EccOf(data), impl.EccFix(data, ecc), impl.EccFix(data, impl.EccOf(data))}
		})
	}
}
