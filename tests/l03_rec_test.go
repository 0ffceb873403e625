package tests

import (
	"encoding/binary"
	"hash/crc32"
	"math"
	"math/rand"
	"strings"
	"testing"

	"loop.example/g00637/impl"
)

// sealed returns a text with its CRC, computed without the program.
func sealed(text string) string {
	return string(binary.LittleEndian.AppendUint32([]byte(text), crc32.ChecksumIEEE([]byte(text))))
}

// fields returns the encodings of the fields of a record, computed without the program.
func fields(r impl.Rec) string {
	var b []byte
	for _, n := range []int64{r.Kind, r.Sector, r.Seq, r.Time, r.To, int64(len(r.Data))} {
		b = binary.AppendVarint(b, n)
	}
	return string(b) + r.Data
}

func wantRec(t *testing.T, what, text string, want impl.RecOut) {
	t.Helper()
	if got := impl.RecRead(text); got != want {
		t.Errorf("%s: RecRead of %d bytes %.80q:\ngot  %#v\nwant %#v", what, len(text), text, got, want)
	}
}

func wantRecCode(t *testing.T, what, text string, code int64) {
	t.Helper()
	wantRec(t, what, text, impl.RecOut{Code: code})
}

// wantValidRec requires that a record is valid, is encoded as documented, and is decoded from its encoding.
func wantValidRec(t *testing.T, r impl.Rec) {
	t.Helper()
	if !impl.RecRight(r) {
		t.Errorf("RecRight is false: %#v", r)
	}
	text := impl.RecBytes(r)
	if want := sealed(fields(r)); text != want {
		t.Errorf("RecBytes of %#v:\ngot  %q\nwant %q", r, text, want)
	}
	wantRec(t, "a valid record", text, impl.RecOut{Rec: r})
}

// wantInvalidRec requires that a record is invalid, has no encoding, and is not decoded from what its encoding would be.
func wantInvalidRec(t *testing.T, r impl.Rec) {
	t.Helper()
	if impl.RecRight(r) {
		t.Errorf("RecRight is true: %#v", r)
	}
	if got := impl.RecBytes(r); got != "" {
		t.Errorf("RecBytes of %#v: got %q", r, got)
	}
	wantRecCode(t, "an invalid record", sealed(fields(r)), impl.ErrSyntax)
}

// sampleRecs returns a record of each kind, in which each field that the kind uses is neither least nor greatest.
func sampleRecs() []impl.Rec {
	return []impl.Rec{
		{Kind: impl.RcWrite, Sector: 2, Seq: 70, Time: 9000, Data: "hi\xff"},
		{Kind: impl.RcTrim, Sector: 3, Seq: 71, Time: 9001},
		{Kind: impl.RcRoll, Seq: 72, Time: 9002, To: 8000},
		{Kind: impl.RcFloor, Seq: 73, Time: 9003, To: 8001},
	}
}

func TestExamplesOfRecords(t *testing.T) {
	wantValidRec(t, impl.Rec{Kind: impl.RcRoll, Seq: 1, Time: 3, To: 3})
	wantInvalidRec(t, impl.Rec{Kind: impl.RcRoll, Seq: 1, Time: 3, To: 4})
	wantValidRec(t, impl.Rec{Kind: impl.RcTrim, Seq: 1})
	wantInvalidRec(t, impl.Rec{Kind: impl.RcTrim, Seq: 1, Data: "x"})
}

func TestConstantsOfRecords(t *testing.T) {
	if impl.MaxSectors != 6 || impl.MaxData != 16 {
		t.Error("a limit has changed")
	}
	if impl.RcWrite != 1 || impl.RcTrim != 2 || impl.RcRoll != 3 || impl.RcFloor != 4 {
		t.Error("a kind has changed")
	}
}

func TestEncodingOfARecord(t *testing.T) {
	r := impl.Rec{Kind: impl.RcWrite, Sector: 5, Seq: 64, Time: 100, Data: "ab"}
	want := impl.Seal("\x02\x0a\x80\x01\xc8\x01\x00\x04ab")
	if got := impl.RecBytes(r); got != want {
		t.Errorf("got %q, want %q", got, want)
	}
	r = impl.Rec{Kind: impl.RcFloor, Seq: 1, Time: 63, To: 2}
	want = impl.Seal("\x08\x00\x02\x7e\x04\x00")
	if got := impl.RecBytes(r); got != want {
		t.Errorf("got %q, want %q", got, want)
	}
}

// Promise 4.

func TestRecordsAreDecodedFromTheirEncodings(t *testing.T) {
	seqs := []int64{1, 2, 63, 64, 8191, 8192, impl.MaxTime - 1, impl.MaxTime}
	times := []int64{0, 1, 63, 64, 8191, 8192, impl.MaxTime - 1, impl.MaxTime}
	for _, seq := range seqs {
		for _, time := range times {
			for sector := int64(0); sector < impl.MaxSectors; sector++ {
				wantValidRec(t, impl.Rec{Kind: impl.RcTrim, Sector: sector, Seq: seq, Time: time})
				for _, size := range []int{0, 1, impl.MaxData - 1, impl.MaxData} {
					wantValidRec(t, impl.Rec{Kind: impl.RcWrite, Sector: sector, Seq: seq, Time: time, Data: pattern(size)})
				}
			}
			for _, to := range append(times, time-1, time) {
				if to < 0 || to > time {
					continue
				}
				wantValidRec(t, impl.Rec{Kind: impl.RcRoll, Seq: seq, Time: time, To: to})
				wantValidRec(t, impl.Rec{Kind: impl.RcFloor, Seq: seq, Time: time, To: to})
			}
		}
	}
}

func TestEveryLengthAndByteOfData(t *testing.T) {
	write := impl.Rec{Kind: impl.RcWrite, Seq: 1}
	for size := 0; size <= impl.MaxData; size++ {
		write.Data = pattern(size)
		wantValidRec(t, write)
	}
	for c := 0; c < 256; c++ {
		one := string([]byte{byte(c)})
		for _, data := range []string{one, "a" + one, one + "a", strings.Repeat(one, impl.MaxData)} {
			write.Data = data
			wantValidRec(t, write)
		}
	}
}

func TestDataThatIsNoValidText(t *testing.T) {
	write := impl.Rec{Kind: impl.RcWrite, Sector: 1, Seq: 2, Time: 3}
	// Among them a lone continuation, incomplete and overlong sequences, a surrogate, and the replacement character itself.
	for _, data := range []string{"\x80", "\xc3", "\xe2\x82", "\xf0\x9f\x98", "\xc0\x80", "\xed\xa0\x80", "\xef\xbf\xbd", "\xf8\x88\x80\x80\x80", "a\xffb\xfec", "\x00\x00", "é€😀", strings.Repeat("€", 5) + "a"} {
		write.Data = data
		wantValidRec(t, write)
	}
	// The limit counts bytes, not characters.
	write.Data = strings.Repeat("€", 5) + "é"
	if len(write.Data) != impl.MaxData+1 {
		t.Fatalf("the data has %d bytes", len(write.Data))
	}
	wantInvalidRec(t, write)
}

func TestRecordsThatDifferHaveDifferentEncodings(t *testing.T) {
	seen := map[string]impl.Rec{}
	for kind := int64(impl.RcWrite); kind <= impl.RcFloor; kind++ {
		for sector := int64(0); sector < impl.MaxSectors; sector++ {
			for seq := int64(1); seq < 4; seq++ {
				for time := int64(0); time < 4; time++ {
					for to := int64(0); to < 4; to++ {
						for _, data := range []string{"", "\x00", "\x02", "\x00\x00"} {
							r := impl.Rec{Kind: kind, Sector: sector, Seq: seq, Time: time, To: to, Data: data}
							if !impl.RecRight(r) {
								continue
							}
							text := impl.RecBytes(r)
							if other, there := seen[text]; there {
								t.Errorf("%#v and %#v are both %q", r, other, text)
							}
							seen[text] = r
						}
					}
				}
			}
		}
	}
}

// Invalid records.

func TestKindsOfRecords(t *testing.T) {
	for _, r := range append(sampleRecs(), impl.Rec{Seq: 1}, impl.Rec{}) {
		for _, kind := range []int64{0, -1, -2, -3, -4, 5, 6, 256 + 1, 1<<32 + 1, math.MinInt64, math.MaxInt64} {
			r.Kind = kind
			wantInvalidRec(t, r)
		}
	}
}

func TestSectorsOfRecords(t *testing.T) {
	for _, r := range sampleRecs() {
		for _, sector := range []int64{-1, impl.MaxSectors, impl.MaxSectors + 1, 1<<32 + 1, math.MinInt64, math.MaxInt64} {
			r.Sector = sector
			wantInvalidRec(t, r)
		}
		for sector := int64(0); sector < impl.MaxSectors; sector++ {
			r.Sector = sector
			if sector == 0 || r.Kind == impl.RcWrite || r.Kind == impl.RcTrim {
				wantValidRec(t, r)
			} else {
				wantInvalidRec(t, r)
			}
		}
	}
}

func TestSeqsOfRecords(t *testing.T) {
	for _, r := range sampleRecs() {
		for _, seq := range []int64{0, -1, -70, impl.MaxTime + 1, impl.MaxTime + 2, 1<<32 + 1, math.MinInt64, math.MaxInt64} {
			r.Seq = seq
			wantInvalidRec(t, r)
		}
	}
}

func TestTimesOfRecords(t *testing.T) {
	for _, r := range sampleRecs() {
		r.To = 0
		for _, time := range []int64{-1, -9000, impl.MaxTime + 1, impl.MaxTime + 2, 1<<32 + 1, math.MinInt64, math.MaxInt64} {
			r.Time = time
			wantInvalidRec(t, r)
			if r.Kind == impl.RcRoll || r.Kind == impl.RcFloor {
				// Also a To that is as wrong as the Time does not make it right.
				same := r
				same.To = time
				wantInvalidRec(t, same)
			}
		}
	}
}

func TestGoalsOfRecords(t *testing.T) {
	for _, r := range sampleRecs() {
		goes := r.Kind == impl.RcRoll || r.Kind == impl.RcFloor
		for _, to := range []int64{-1, -2, r.Time + 1, r.Time + 2, impl.MaxTime, impl.MaxTime + 1, math.MinInt64, math.MaxInt64} {
			r.To = to
			wantInvalidRec(t, r)
		}
		for _, to := range []int64{1, 2, r.Time - 1, r.Time} {
			r.To = to
			if goes {
				wantValidRec(t, r)
			} else {
				wantInvalidRec(t, r)
			}
		}
		r.To = 0
		wantValidRec(t, r)
	}
	for _, kind := range []int64{impl.RcRoll, impl.RcFloor} {
		wantValidRec(t, impl.Rec{Kind: kind, Seq: 1})
		wantInvalidRec(t, impl.Rec{Kind: kind, Seq: 1, To: 1})
		wantInvalidRec(t, impl.Rec{Kind: kind, Seq: 1, Time: impl.MaxTime, To: impl.MaxTime + 1})
	}
}

func TestDataOfRecords(t *testing.T) {
	for _, r := range sampleRecs() {
		for _, size := range []int{impl.MaxData + 1, impl.MaxData + 2, 100, impl.MaxBytes - 30} {
			r.Data = pattern(size)
			wantInvalidRec(t, r)
		}
		for _, data := range []string{"x", "\x00", pattern(impl.MaxData)} {
			r.Data = data
			if r.Kind == impl.RcWrite {
				wantValidRec(t, r)
			} else {
				wantInvalidRec(t, r)
			}
		}
	}
}

// The limits of chapter 1 are about arguments, not about their fields: very long Data only makes a record invalid.
func TestVeryLongDataOfRecords(t *testing.T) {
	for _, r := range sampleRecs() {
		for _, size := range []int{impl.MaxBytes, impl.MaxBytes + 1, 3 * impl.MaxBytes} {
			r.Data = pattern(size)
			if impl.RecRight(r) || impl.RecBytes(r) != "" {
				t.Errorf("a record with Data of %d bytes is valid", size)
			}
		}
	}
}

// Texts that are no seals.

func TestRecordFromFewBytes(t *testing.T) {
	for _, text := range []string{"", "x", "ab", "abc", "\x00\x00\x00"} {
		wantRecCode(t, "no seal", text, impl.ErrShort)
	}
	for _, r := range sampleRecs() {
		text := impl.RecBytes(r)
		for kept := 0; kept < len(text); kept++ {
			code := int64(impl.ErrSum)
			if kept < 4 {
				code = impl.ErrShort
			}
			wantRecCode(t, "the first bytes", text[:kept], code)
		}
	}
}

func TestRecordWithAChangedByte(t *testing.T) {
	for _, r := range sampleRecs() {
		text := impl.RecBytes(r)
		for at := range len(text) {
			for change := 1; change < 256; change++ {
				b := []byte(text)
				b[at] ^= byte(change)
				wantRecCode(t, "a changed byte", string(b), impl.ErrSum)
			}
		}
		wantRecCode(t, "a byte behind", text+"\x00", impl.ErrSum)
		wantRecCode(t, "a byte before", "\x00"+text, impl.ErrSum)
	}
}

func TestRecordFromLongTexts(t *testing.T) {
	for _, r := range sampleRecs() {
		text := impl.RecBytes(r)
		full := text + strings.Repeat("\x00", impl.MaxBytes-len(text))
		wantRecCode(t, "MaxBytes bytes", full, impl.ErrSum)
		wantRecCode(t, "more than MaxBytes bytes", full+"\x00", impl.ErrSize)
	}
	for _, size := range []int{impl.MaxBytes - 5, impl.MaxBytes - 4} {
		wantRecCode(t, "a long seal", sealed(pattern(size)), impl.ErrSyntax)
	}
	for _, size := range []int{impl.MaxBytes - 3, impl.MaxBytes, 2 * impl.MaxBytes} {
		wantRecCode(t, "too long a seal", sealed(pattern(size)), impl.ErrSize)
	}
}

// Seals of something else.

func TestRecordFromTooFewFields(t *testing.T) {
	wantRecCode(t, "the empty string", sealed(""), impl.ErrSyntax)
	wantRecCode(t, "the empty string", "\x00\x00\x00\x00", impl.ErrSyntax)
	for _, r := range sampleRecs() {
		inner := fields(r)
		for kept := 0; kept < len(inner); kept++ {
			wantRecCode(t, "the first bytes of the fields", sealed(inner[:kept]), impl.ErrSyntax)
		}
	}
}

func TestRecordWithBytesBehindTheLastField(t *testing.T) {
	for _, r := range sampleRecs() {
		inner := fields(r)
		for _, more := range []string{"\x00", "\x02", "\x80", "ab", inner, pattern(200)} {
			wantRecCode(t, "bytes behind", sealed(inner+more), impl.ErrSyntax)
		}
		wantRecCode(t, "a seal in a seal", sealed(sealed(inner)), impl.ErrSyntax)
		wantRecCode(t, "a byte before", sealed("\x00"+inner), impl.ErrSyntax)
	}
}

// widened returns the fields of a record, one of whose numbers is encoded in more bytes than necessary.
func widened(r impl.Rec, field, extra int) string {
	var b []byte
	for i, n := range []int64{r.Kind, r.Sector, r.Seq, r.Time, r.To, int64(len(r.Data))} {
		b = binary.AppendVarint(b, n)
		if i != field {
			continue
		}
		for range extra {
			b[len(b)-1] |= 128
			b = append(b, 0)
		}
	}
	return string(b) + r.Data
}

func TestRecordWithANumberOfTooManyBytes(t *testing.T) {
	for _, r := range sampleRecs() {
		for field := range 6 {
			if widened(r, field, 0) != fields(r) {
				t.Fatal("the fields are not those of the record")
			}
			for extra := 1; extra <= 10; extra++ {
				wantRecCode(t, "a number of too many bytes", sealed(widened(r, field, extra)), impl.ErrSyntax)
			}
		}
	}
}

func TestRecordWithAWrongLength(t *testing.T) {
	r := impl.Rec{Kind: impl.RcWrite, Sector: 2, Seq: 5, Time: 7}
	inner := fields(r)
	numbers := inner[:len(inner)-1]
	for _, size := range []int64{0, 1, 2, 3, 4, 5, 6, 16, 17, impl.MaxBytes, impl.MaxBytes + 1, -1, -4, math.MinInt64, math.MaxInt64} {
		text := sealed(numbers + string(binary.AppendVarint(nil, size)) + "abcd")
		if size == 4 {
			r.Data = "abcd"
			wantRec(t, "the right length", text, impl.RecOut{Rec: r})
			continue
		}
		wantRecCode(t, "a wrong length", text, impl.ErrSyntax)
	}
}

// The seal is tested before the fields, so that a wrong seal of no record is ErrSum.
func TestOrderOfErrorsOfRecords(t *testing.T) {
	inner := fields(impl.Rec{Kind: 9})
	wantRecCode(t, "a right seal", sealed(inner), impl.ErrSyntax)
	wantRecCode(t, "a wrong seal", inner+"\x00\x00\x00\x00", impl.ErrSum)
	wantRecCode(t, "too long", inner+strings.Repeat("\x00", impl.MaxBytes), impl.ErrSize)
}

// refRec decodes the fields of a record as documented, without the program: the text is split by encoding/binary, and must be what the record is encoded as.
func refRec(text string) (impl.Rec, bool) {
	b := []byte(text)
	var n [6]int64
	for i := range n {
		value, size := binary.Varint(b)
		if size <= 0 {
			return impl.Rec{}, false
		}
		n[i], b = value, b[size:]
	}
	r := impl.Rec{Kind: n[0], Sector: n[1], Seq: n[2], Time: n[3], To: n[4], Data: string(b)}
	if fields(r) != text || !refRight(r) {
		return impl.Rec{}, false
	}
	return r, true
}

func refRight(r impl.Rec) bool {
	ofSector := r.Kind == 1 || r.Kind == 2
	ofDrive := r.Kind == 3 || r.Kind == 4
	sector := ofSector && r.Sector >= 0 && r.Sector <= 5 || ofDrive && r.Sector == 0
	to := ofSector && r.To == 0 || ofDrive && r.To >= 0 && r.To <= r.Time
	data := len(r.Data) == 0 || r.Kind == 1 && len(r.Data) <= 16
	return sector && to && data && r.Seq >= 1 && r.Seq <= 1000000 && r.Time >= 0 && r.Time <= 1000000
}

// mutated returns a text in which one byte was replaced, inserted or removed.
func mutated(random *rand.Rand, text string) string {
	at := random.Intn(len(text) + 1)
	c := byte(random.Intn(12))
	if random.Intn(4) == 0 {
		c |= 128
	}
	behind := text[at:]
	if behind != "" && random.Intn(3) > 0 {
		behind = behind[1:]
	}
	if random.Intn(3) == 0 {
		return text[:at] + behind
	}
	return text[:at] + string([]byte{c}) + behind
}

func TestManyTextsAreDecodedAsDocumented(t *testing.T) {
	random := rand.New(rand.NewSource(4))
	samples := append(sampleRecs(), impl.Rec{Kind: impl.RcWrite, Seq: 1}, impl.Rec{Kind: impl.RcRoll, Seq: 1, Time: 3, To: 2}, impl.Rec{Kind: impl.RcWrite, Sector: 5, Seq: 3, Time: 1, Data: "\x00\x02\x04"})
	right, wrong := 0, 0
	for range 200000 {
		text := fields(samples[random.Intn(len(samples))])
		for range random.Intn(4) {
			text = mutated(random, text)
		}
		r, ok := refRec(text)
		if ok {
			right++
			wantRec(t, "a record", sealed(text), impl.RecOut{Rec: r})
			continue
		}
		wrong++
		wantRecCode(t, "no record", sealed(text), impl.ErrSyntax)
	}
	if right < 1000 || wrong < 1000 {
		t.Errorf("%d of the texts were records, %d were none", right, wrong)
	}
}

func TestManyRecordsAreValidAsDocumented(t *testing.T) {
	random := rand.New(rand.NewSource(5))
	near := func(most int64) int64 {
		return []int64{-1, 0, 0, 0, 1, 2, most - 1, most, most, most + 1}[random.Intn(10)]
	}
	right := 0
	for range 200000 {
		r := impl.Rec{Kind: 1 + random.Int63n(4), Sector: near(5), Seq: near(impl.MaxTime), Time: near(impl.MaxTime), To: near(impl.MaxTime)}
		if random.Intn(3) == 0 {
			r.Data = pattern(random.Intn(19))
		}
		if refRight(r) {
			wantValidRec(t, r)
			right++
			continue
		}
		wantInvalidRec(t, r)
	}
	if right < 1000 {
		t.Errorf("only %d of the records were valid", right)
	}
}

func TestEveryRecordFitsAPage(t *testing.T) {
	for _, r := range []impl.Rec{
		{Kind: impl.RcWrite, Sector: impl.MaxSectors - 1, Seq: impl.MaxTime, Time: impl.MaxTime, Data: pattern(impl.MaxData)},
		{Kind: impl.RcFloor, Seq: impl.MaxTime, Time: impl.MaxTime, To: impl.MaxTime},
	} {
		text := impl.RecBytes(r)
		out := program(t, impl.NandNew(1), 0, text)
		wantRec(t, "the page", pageAt(t, out.Nand, 0, 0).Data, impl.RecOut{Rec: r})
	}
}
