package tests

import (
	"encoding/binary"
	"fmt"
	"math"
	"math/rand"
	"slices"
	"strings"
	"testing"

	"loop.example/g00637/impl"
)

func copies(from, count int64) impl.DeltaOp {
	return impl.DeltaOp{From: from, Count: count}
}

func inserts(text string) impl.DeltaOp {
	return impl.DeltaOp{Text: text}
}

// repeated returns a list of count times the same operation.
func repeated(op impl.DeltaOp, count int) []impl.DeltaOp {
	return slices.Repeat([]impl.DeltaOp{op}, count)
}

// The reference, by the definitions of the document.

func refIsCopy(op impl.DeltaOp) bool {
	return op.Count >= 1 && op.Count <= 200 && op.From >= 0 && op.Text == ""
}

func refIsInsertion(op impl.DeltaOp) bool {
	return op.Count == 0 && op.From == 0 && len(op.Text) >= 1 && len(op.Text) <= 200
}

func refOpsRight(ops []impl.DeltaOp) bool {
	for _, op := range ops {
		if !refIsCopy(op) && !refIsInsertion(op) {
			return false
		}
	}
	return len(ops) <= 40
}

func refApply(base string, ops []impl.DeltaOp) impl.TextOut {
	if len(base) > 8000 || len(ops) > 400 {
		return impl.TextOut{Code: impl.ErrSize}
	}
	if len(base) > 200 || !refOpsRight(ops) {
		return impl.TextOut{Code: impl.ErrForm}
	}
	result := ""
	for _, op := range ops {
		// Byte by byte, so that no end of a range is computed.
		for i := int64(0); i < op.Count; i++ {
			if op.From >= int64(len(base)) || i >= int64(len(base))-op.From {
				return impl.TextOut{Code: impl.ErrForm}
			}
			result += base[op.From+i : op.From+i+1]
		}
		result += op.Text
	}
	if len(result) > 200 {
		return impl.TextOut{Code: impl.ErrForm}
	}
	return impl.TextOut{Text: result}
}

// refLongest returns the longest string with which text begins and that occurs in base.
func refLongest(base, text string) string {
	longest := text
	for !strings.Contains(base, longest) {
		longest = longest[:len(longest)-1]
	}
	return longest
}

func refDelta(base, text string) impl.DeltaOut {
	switch {
	case len(base) > 8000 || len(text) > 8000:
		return impl.DeltaOut{Code: impl.ErrSize}
	case len(base) > 200 || len(text) > 200:
		return impl.DeltaOut{Code: impl.ErrForm}
	}
	var ops []impl.DeltaOp
	for rest := text; rest != ""; {
		longest := refLongest(base, rest)
		switch {
		case len(longest) >= 3:
			ops = append(ops, copies(int64(strings.Index(base, longest)), int64(len(longest))))
		case len(ops) > 0 && ops[len(ops)-1].Count == 0:
			longest = rest[:1]
			ops[len(ops)-1].Text += longest
		default:
			longest = rest[:1]
			ops = append(ops, inserts(longest))
		}
		rest = rest[len(longest):]
	}
	if len(ops) > 40 {
		return impl.DeltaOut{Code: impl.ErrFull}
	}
	return impl.DeltaOut{Ops: ops}
}

// numbers returns the encodings of numbers, computed without the program.
func numbers(l ...int64) string {
	var b []byte
	for _, n := range l {
		b = binary.AppendVarint(b, n)
	}
	return string(b)
}

// inner returns what is sealed in the encoding of operations that have the right forms.
func inner(ops ...impl.DeltaOp) string {
	text := numbers(int64(len(ops)))
	for _, op := range ops {
		if op.Count == 0 {
			text += numbers(0, int64(len(op.Text))) + op.Text
			continue
		}
		text += numbers(op.Count, op.From)
	}
	return text
}

func refDeltaBytes(ops []impl.DeltaOp) string {
	text := inner(ops...)
	if !refOpsRight(ops) || len(text) > 8000-4 {
		return ""
	}
	return sealed(text)
}

// refDeltaRead decodes operations from what is sealed: the text is split by encoding/binary, and must be what these operations are encoded as.
func refDeltaRead(text string) impl.DeltaOut {
	b := []byte(text)
	broken := false
	number := func() int64 {
		n, size := binary.Varint(b)
		broken = broken || size <= 0
		b = b[max(size, 0):]
		return n
	}
	var ops []impl.DeltaOp
	for left := number(); left > 0 && !broken; left-- {
		op := impl.DeltaOp{Count: number()}
		n := number()
		if op.Count != 0 {
			op.From = n
		} else if n >= 0 && n <= int64(len(b)) {
			op.Text = string(b[:n])
			b = b[n:]
		}
		ops = append(ops, op)
	}
	if broken || inner(ops...) != text || !refOpsRight(ops) {
		return impl.DeltaOut{Code: impl.ErrSyntax}
	}
	return impl.DeltaOut{Ops: ops}
}

// brief returns at most the beginning of what a value is printed as.
func brief(value any) string {
	return fmt.Sprintf("%.400s", strings.ReplaceAll(fmt.Sprintf("%#v", value), "impl.", ""))
}

func sameDelta(a, b impl.DeltaOut) bool {
	return a.Code == b.Code && slices.Equal(a.Ops, b.Ops)
}

func wantRead(t *testing.T, what, text string, want impl.DeltaOut) {
	t.Helper()
	if got := impl.DeltaRead(text); !sameDelta(got, want) {
		t.Errorf("%s: DeltaRead of %d bytes %.80q:\ngot  %s\nwant %s", what, len(text), text, brief(got), brief(want))
	}
}

func wantReadCode(t *testing.T, what, text string, code int64) {
	t.Helper()
	wantRead(t, what, text, impl.DeltaOut{Code: code})
}

// wantOps compares what is answered for a list of operations with the reference.
func wantOps(t *testing.T, base string, ops []impl.DeltaOp) {
	t.Helper()
	want := refApply(base, ops)
	if got := impl.DeltaApply(base, ops); got != want {
		t.Errorf("DeltaApply(%.60q, %s): got %s, want %s", base, brief(ops), brief(got), brief(want))
	}
	if got := impl.DeltaRight(base, ops); got != (want.Code == impl.OK) {
		t.Errorf("DeltaRight(%.60q, %s): got %v", base, brief(ops), got)
	}
	bytes := refDeltaBytes(ops)
	if got := impl.DeltaBytes(ops); got != bytes {
		t.Errorf("DeltaBytes(%s):\ngot  %.300q\nwant %.300q", brief(ops), got, bytes)
	}
	if bytes != "" {
		wantRead(t, "an encoding", bytes, impl.DeltaOut{Ops: ops})
	}
}

// wantDelta compares what is answered for a pair of strings with the reference, and requires promise 15.
func wantDelta(t *testing.T, base, text string) impl.DeltaOut {
	t.Helper()
	got, want := impl.DeltaOf(base, text), refDelta(base, text)
	if !sameDelta(got, want) {
		t.Errorf("DeltaOf(%.250q, %.250q):\ngot  %s\nwant %s", base, text, brief(got), brief(want))
	}
	gain := int64(0)
	if want.Code == impl.OK {
		gain = int64(len(text) - len(sealed(inner(want.Ops...))))
	}
	if again := impl.DeltaGain(base, text); again != gain {
		t.Errorf("DeltaGain(%.250q, %.250q): got %d, want %d", base, text, again, gain)
	}
	if got.Code == impl.OK {
		if made := impl.DeltaApply(base, got.Ops); made != (impl.TextOut{Text: text}) {
			t.Errorf("from %q the delta of %q makes %s", base, text, brief(made))
		}
		wantOps(t, base, got.Ops)
	}
	return got
}

// wantDeltaOps requires that text is made from base by just these operations.
func wantDeltaOps(t *testing.T, base, text string, ops ...impl.DeltaOp) {
	t.Helper()
	if got := wantDelta(t, base, text); !sameDelta(got, impl.DeltaOut{Ops: ops}) {
		t.Errorf("DeltaOf(%q, %q):\ngot  %s\nwant %s", base, text, brief(got), brief(ops))
	}
}

func wantDeltaCode(t *testing.T, what, base, text string, code int64) {
	t.Helper()
	if got := wantDelta(t, base, text); !sameDelta(got, impl.DeltaOut{Code: code}) {
		t.Errorf("%s: got %s, want the code %d", what, brief(got), code)
	}
}

func wantGain(t *testing.T, base, text string, gain int64) {
	t.Helper()
	wantDelta(t, base, text)
	if got := impl.DeltaGain(base, text); got != gain {
		t.Errorf("DeltaGain(%.250q, %.250q): got %d, want %d", base, text, got, gain)
	}
}

func TestExamplesOfDeltas(t *testing.T) {
	wantDeltaOps(t, "hello world", "worldly hello", copies(6, 5), inserts("ly "), copies(0, 5))
	wantDeltaOps(t, "abab", "xabab", inserts("x"), copies(0, 4))
	wantGain(t, "abc", "", -5)
}

func TestConstantsOfDeltas(t *testing.T) {
	if impl.MaxDelta != 200 || impl.MaxOps != 40 || impl.LeastCopy != 3 {
		t.Error("a limit has changed")
	}
}

// Promise 15.

// deltaPlan tells how pairs of strings are made at random.
type deltaPlan struct {
	letters int // the number of different bytes
	first   byte
}

func deltaPlans() map[string]deltaPlan {
	return map[string]deltaPlan{
		"one byte":      {1, 'a'},
		"two bytes":     {2, 0},
		"three bytes":   {3, 'a'},
		"five bytes":    {5, 126},
		"twelve bytes":  {12, 250},
		"forty bytes":   {40, 'a'},
		"all the bytes": {256, 0},
	}
}

// size returns a length, often a short one or one at the limit.
func (p deltaPlan) size(random *rand.Rand) int {
	switch random.Intn(5) {
	case 0:
		return random.Intn(8)
	case 1:
		return impl.MaxDelta - random.Intn(3)
	}
	return random.Intn(impl.MaxDelta + 1)
}

func (p deltaPlan) bytes(random *rand.Rand, size int) string {
	b := make([]byte, size)
	for i := range b {
		b[i] = p.first + byte(random.Intn(p.letters))
	}
	return string(b)
}

// part returns a part of a string, sometimes all of it, sometimes its end.
func part(random *rand.Rand, text string) string {
	from := random.Intn(len(text) + 1)
	size := random.Intn(len(text) - from + 1)
	switch random.Intn(6) {
	case 0:
		return text
	case 1:
		return text[from:]
	case 2:
		return text[:from]
	}
	return text[from : from+min(size, 12)]
}

// mixed returns parts of a base with other bytes before, between and behind them.
func (p deltaPlan) mixed(random *rand.Rand, base string) string {
	text := ""
	for range 1 + random.Intn(45) {
		text += part(random, base)
		if random.Intn(3) > 0 {
			text += p.bytes(random, random.Intn(4))
		}
		if len(text) > impl.MaxDelta {
			return text[:impl.MaxDelta]
		}
	}
	return text
}

// pair returns a base and a text.
func (p deltaPlan) pair(random *rand.Rand) (string, string) {
	base := p.bytes(random, p.size(random))
	switch random.Intn(8) {
	case 0:
		return base, base
	case 1:
		return base, part(random, base)
	case 2:
		return part(random, base), base
	case 3:
		return base, p.bytes(random, p.size(random))
	case 4:
		return part(random, base), p.mixed(random, base)
	}
	return base, p.mixed(random, base)
}

func TestManyStringsAreRecoveredFromTheirDeltas(t *testing.T) {
	random := rand.New(rand.NewSource(91))
	full, whole, most := 0, 0, 0
	for name, p := range deltaPlans() {
		t.Run(name, func(t *testing.T) {
			for range 3000 {
				base, text := p.pair(random)
				delta := wantDelta(t, base, text)
				if t.Failed() {
					return
				}
				switch {
				case delta.Code == impl.ErrFull:
					full++
				case len(delta.Ops) == impl.MaxOps:
					most++
				case len(delta.Ops) > 2:
					whole++
				}
			}
		})
	}
	if full < 200 || whole < 200 || most < 20 {
		t.Errorf("%d deltas had too many operations, %d just as many as possible, %d less", full, most, whole)
	}
}

func TestAllShortPairsOfTwoBytes(t *testing.T) {
	var all []string
	for size := range 8 {
		for bits := range 1 << size {
			b := make([]byte, size)
			for i := range b {
				b[i] = byte('a' + bits>>i&1)
			}
			all = append(all, string(b))
		}
	}
	for _, base := range all {
		for _, text := range all {
			wantDelta(t, base, text)
		}
		if t.Failed() {
			return
		}
	}
}

func TestDeltaOfAStringToItself(t *testing.T) {
	random := rand.New(rand.NewSource(92))
	for _, p := range deltaPlans() {
		for size := range impl.MaxDelta + 1 {
			text := p.bytes(random, size)
			switch {
			case size == 0:
				wantDeltaOps(t, text, text)
			case size < impl.LeastCopy:
				wantDeltaOps(t, text, text, inserts(text))
			default:
				wantDeltaOps(t, text, text, copies(0, int64(size)))
			}
		}
	}
}

func TestPartsOfTheBaseAreOneCopy(t *testing.T) {
	for _, size := range []int{impl.LeastCopy, 20, impl.MaxDelta} {
		// No byte occurs twice, so a part occurs only once.
		base := pattern(size)
		for from := range size {
			for to := from + impl.LeastCopy; to <= size; to++ {
				wantDeltaOps(t, base, base[from:to], copies(int64(from), int64(to-from)))
			}
		}
	}
}

func TestBasesInsideTheText(t *testing.T) {
	for _, size := range []int64{impl.LeastCopy, 20, impl.MaxDelta - 4} {
		base := pattern(int(size))
		wantDeltaOps(t, base, "\xfe\xff"+base, inserts("\xfe\xff"), copies(0, size))
		wantDeltaOps(t, base, base+"\xfe\xff", copies(0, size), inserts("\xfe\xff"))
		wantDeltaOps(t, base, "\xfe"+base+"\xff", inserts("\xfe"), copies(0, size), inserts("\xff"))
	}
}

func TestEmptyStringsOfDeltas(t *testing.T) {
	wantDeltaOps(t, "", "")
	wantDeltaOps(t, "abc", "")
	wantDeltaOps(t, pattern(impl.MaxDelta), "")
	for _, text := range []string{"a", "ab", "abc", "aaaa", pattern(impl.MaxDelta - 1), pattern(impl.MaxDelta)} {
		wantDeltaOps(t, "", text, inserts(text))
	}
}

// The operations of DeltaOf.

func TestFirstOfTheLongestMatches(t *testing.T) {
	// The same length several times.
	wantDeltaOps(t, "abcXabcYabc", "abc", copies(0, 3))
	wantDeltaOps(t, "XabcYabcZabc", "abc", copies(1, 3))
	wantDeltaOps(t, "abcdXabcdY", "abcdZ", copies(0, 4), inserts("Z"))
	wantDeltaOps(t, "XabcdYabcdZ", "abcdabcd", copies(1, 4), copies(1, 4))
	// Longer ones behind shorter ones, and shorter ones behind longer ones.
	wantDeltaOps(t, "abcXabcd", "abcd", copies(4, 4))
	wantDeltaOps(t, "abcdXabc", "abcd", copies(0, 4))
	wantDeltaOps(t, "abXabcXabcdXabcde", "abcde", copies(12, 5))
	wantDeltaOps(t, "abXabcXabcdXabcde", "abcd", copies(7, 4))
	wantDeltaOps(t, "abXabcXabcdXabcde", "abc", copies(3, 3))
	wantDeltaOps(t, "abcXabcdYabcdZabc", "abcdabc", copies(4, 4), copies(0, 3))
	wantDeltaOps(t, "abcdeXabcYabcdef", "abcdefabcde", copies(10, 6), copies(0, 5))
	// A longer one is taken even if the bytes behind it then have to be inserted.
	wantDeltaOps(t, "abcdXdefghi", "abcdefghi", copies(0, 4), copies(6, 5))
	wantDeltaOps(t, "abcdXdef", "abcdef", copies(0, 4), inserts("ef"))
	wantDeltaOps(t, "abcYbcdef", "abcdef", copies(0, 3), copies(6, 3))
}

func TestOverlappingMatches(t *testing.T) {
	wantDeltaOps(t, "aaaaa", "aaaa", copies(0, 4))
	wantDeltaOps(t, "aaaaa", "aaaaaaaa", copies(0, 5), copies(0, 3))
	wantDeltaOps(t, "aaaaa", "aaaaaaa", copies(0, 5), inserts("aa"))
	wantDeltaOps(t, "aaabaaaaab", "aaaab", copies(5, 5))
	wantDeltaOps(t, "aaabaaaaab", "aaaa", copies(4, 4))
	wantDeltaOps(t, "ababab", "abab", copies(0, 4))
	wantDeltaOps(t, "ababab", "babab", copies(1, 5))
	wantDeltaOps(t, "ababab", "bababab", copies(1, 5), inserts("ab"))
	wantDeltaOps(t, "ababab", "abababab", copies(0, 6), inserts("ab"))
	wantDeltaOps(t, "abaabaaab", "aaab", copies(5, 4))
	wantDeltaOps(t, "abaabaaab", "abaab", copies(0, 5))
}

func TestMatchesAtTheEndOfTheBase(t *testing.T) {
	wantDeltaOps(t, "xyzabc", "abc", copies(3, 3))
	wantDeltaOps(t, "xyzabc", "abcq", copies(3, 3), inserts("q"))
	wantDeltaOps(t, "xyzabc", "abcabc", copies(3, 3), copies(3, 3))
	// Where the base ends the text goes on as the base begins, or with a byte of 0.
	wantDeltaOps(t, "xyzabc", "abcxyz", copies(3, 3), copies(0, 3))
	wantDeltaOps(t, "xyzabc", "abc\x00\x00\x00", copies(3, 3), inserts("\x00\x00\x00"))
	wantDeltaOps(t, "abcdXabc", "abcY", copies(0, 3), inserts("Y"))
	wantDeltaOps(t, "xyzab", "ab", inserts("ab"))
	wantDeltaOps(t, "xyzab", "abc", inserts("abc"))
	base := pattern(impl.MaxDelta)
	wantDeltaOps(t, base, base[impl.MaxDelta-3:]+"\xff", copies(impl.MaxDelta-3, 3), inserts("\xff"))
}

func TestLeastCopy(t *testing.T) {
	base := pattern(20)
	for from := range int64(20) {
		for count := range min(impl.LeastCopy, 20-from) {
			text := base[from : from+count]
			if text == "" {
				continue
			}
			wantDeltaOps(t, base, text, inserts(text))
			wantDeltaOps(t, base, "\xfe"+text+"\xff", inserts("\xfe"+text+"\xff"))
		}
		if from+impl.LeastCopy <= 20 {
			text := base[from : from+impl.LeastCopy]
			wantDeltaOps(t, base, text, copies(from, impl.LeastCopy))
			wantDeltaOps(t, base, "\xfe"+text+"\xff", inserts("\xfe"), copies(from, impl.LeastCopy), inserts("\xff"))
		}
	}
	// Too short ones before and behind one that is long enough.
	wantDeltaOps(t, "abcde", "abXabcXde", inserts("abX"), copies(0, 3), inserts("Xde"))
	wantDeltaOps(t, "abcde", "ababcab", inserts("ab"), copies(0, 3), inserts("ab"))
}

func TestSuccessiveBytesAreOneInsertion(t *testing.T) {
	wantDeltaOps(t, "abcdef", "ABCDEF", inserts("ABCDEF"))
	wantDeltaOps(t, "abcdef", "abABabABabcABab", inserts("abABabAB"), copies(0, 3), inserts("ABab"))
	wantDeltaOps(t, "abcdef", "1abc", inserts("1"), copies(0, 3))
	wantDeltaOps(t, "abcdef", "abc1", copies(0, 3), inserts("1"))
	wantDeltaOps(t, "abcdef", "123abc45def678", inserts("123"), copies(0, 3), inserts("45"), copies(3, 3), inserts("678"))
	wantDeltaOps(t, "abcdef", "defabc", copies(3, 3), copies(0, 3))
	wantDeltaOps(t, "abcdef", "defabcdeabc", copies(3, 3), copies(0, 5), copies(0, 3))
	wantDeltaOps(t, "abcdef", "deabcdef", inserts("de"), copies(0, 6))
	long := strings.Repeat("x", impl.MaxDelta)
	wantDeltaOps(t, "abcdef", long, inserts(long))
	wantDeltaOps(t, "abcdef", "abc"+long[6:]+"def", copies(0, 3), inserts(long[6:]), copies(3, 3))
}

func TestAllBytesOfDeltas(t *testing.T) {
	for c := range 256 {
		one := string([]byte{byte(c)})
		other := string([]byte{byte(c + 1), byte(c + 128)})
		four := strings.Repeat(one, 4)
		wantDeltaOps(t, four, four, copies(0, 4))
		wantDeltaOps(t, other, four, inserts(four))
		wantDeltaOps(t, other+four, four+other, copies(2, 4), inserts(other))
		wantDeltaOps(t, "", one, inserts(one))
	}
	// Nothing is a character here: parts of one are bytes, and no two malformed ones are the same.
	wantDeltaOps(t, "\xff\x00\x80", "\xff\x00\x80", copies(0, 3))
	wantDeltaOps(t, "\xff\xfe\xfd", "\xef\xbf\xbd\xff", inserts("\xef\xbf\xbd\xff"))
	wantDeltaOps(t, "\xff\xfe\xfd", "\xfd\xfe\xff", inserts("\xfd\xfe\xff"))
	wantDeltaOps(t, "a€b", "€", copies(1, 3))
	wantDeltaOps(t, "é€é", "\xa9€\xc3", copies(1, 5))
	wantDeltaOps(t, "\x00\x00\x00", "\x00\x00", inserts("\x00\x00"))
}

func TestSizesOfDeltas(t *testing.T) {
	at, over := pattern(impl.MaxDelta), pattern(impl.MaxDelta+1)
	long, longer := pattern(impl.MaxBytes), pattern(impl.MaxBytes+1)
	wantDeltaOps(t, at, at, copies(0, impl.MaxDelta))
	wantDeltaOps(t, at, "")
	wantDeltaOps(t, "", at, inserts(at))
	for _, other := range []string{"", "abc", at} {
		wantDeltaCode(t, "too long a base", over, other, impl.ErrForm)
		wantDeltaCode(t, "too long a text", other, over, impl.ErrForm)
		wantDeltaCode(t, "a base of MaxBytes bytes", long, other, impl.ErrForm)
		wantDeltaCode(t, "a text of MaxBytes bytes", other, long, impl.ErrForm)
	}
	for _, other := range []string{"", "abc", at, over, long, longer} {
		wantDeltaCode(t, "a base of more bytes", longer, other, impl.ErrSize)
		wantDeltaCode(t, "a text of more bytes", other, longer, impl.ErrSize)
	}
	wantDeltaCode(t, "both too long", over, over, impl.ErrForm)
	wantDeltaCode(t, "both too long", long, long, impl.ErrForm)
}

func TestNumberOfOperationsOfADelta(t *testing.T) {
	// Texts of exactly MaxOps operations, the last one of which is an insertion or a copy.
	half, less := impl.MaxOps/2, strings.Repeat("abc", impl.MaxOps-1)
	for _, text := range []string{
		strings.Repeat("abcx", half),
		less + "x",
		less + strings.Repeat("x", impl.MaxDelta-len(less)-3),
		less + strings.Repeat("x", impl.MaxDelta-len(less)),
		strings.Repeat("xabc", half),
		less + "abc",
		"x" + less,
	} {
		if got := wantDelta(t, "abc", text); got.Code != impl.OK || len(got.Ops) != impl.MaxOps {
			t.Errorf("the delta of %q: %s", text, brief(got))
		}
		if len(text)+3 <= impl.MaxDelta {
			wantDeltaCode(t, "one more copy", "abc", text+"abc", impl.ErrFull)
		}
		if strings.HasSuffix(text, "abc") {
			wantDeltaCode(t, "one more insertion", "abc", text+"x", impl.ErrFull)
		} else if got := wantDelta(t, "abc", text+"y"); got.Code == impl.ErrFull {
			t.Errorf("one more byte of the last insertion of %q: %s", text, brief(got))
		}
	}
	wantDeltaCode(t, "many more operations", "abc", strings.Repeat("abcx", impl.MaxDelta/4), impl.ErrFull)
	// The sizes are checked first.
	many := strings.Repeat("abcx", impl.MaxDelta/4)
	wantDeltaCode(t, "a text of too many bytes and operations", "abc", many+"a", impl.ErrForm)
	wantDeltaCode(t, "a base of too many bytes", "abc"+strings.Repeat("z", impl.MaxDelta), many, impl.ErrForm)
	wantDeltaCode(t, "a base of more than MaxBytes bytes", "abc"+strings.Repeat("z", impl.MaxBytes), many, impl.ErrSize)
}

// Lists of operations.

func TestListsWithoutOperations(t *testing.T) {
	for _, base := range []string{"", "abc", pattern(impl.MaxDelta), pattern(impl.MaxDelta + 1), pattern(impl.MaxBytes), pattern(impl.MaxBytes + 1)} {
		wantOps(t, base, nil)
		wantOps(t, base, []impl.DeltaOp{})
	}
	if !impl.DeltaRight("", nil) || impl.DeltaApply("", nil) != (impl.TextOut{}) {
		t.Error("no operation makes the empty string from the empty string")
	}
	if impl.DeltaBytes(nil) != sealed("\x00") {
		t.Errorf("DeltaBytes of no operation: %q", impl.DeltaBytes(nil))
	}
}

// edgeOps returns operations with each combination of values at and beyond the limits of the fields.
func edgeOps() []impl.DeltaOp {
	froms := []int64{math.MinInt64, -impl.MaxDelta, -1, 0, 1, 2, 3, impl.MaxDelta - 1, impl.MaxDelta, impl.MaxDelta + 1, 1 << 32, math.MaxInt64 - impl.MaxDelta, math.MaxInt64 - 1, math.MaxInt64}
	counts := []int64{math.MinInt64, math.MinInt64 + 1, -impl.MaxDelta, -1, 0, 1, 2, 3, 4, impl.MaxDelta - 1, impl.MaxDelta, impl.MaxDelta + 1, 256 + 1, 1<<32 + 1, math.MaxInt64 - 1, math.MaxInt64}
	texts := []string{"", "\x00", "xyz", pattern(impl.MaxDelta), pattern(impl.MaxDelta + 1), pattern(impl.MaxBytes), pattern(impl.MaxBytes + 1)}
	var ops []impl.DeltaOp
	for _, from := range froms {
		for _, count := range counts {
			for _, text := range texts {
				ops = append(ops, impl.DeltaOp{From: from, Count: count, Text: text})
			}
		}
	}
	return ops
}

func TestFieldsOfOperations(t *testing.T) {
	bases := []string{"", "a", "abc", pattern(impl.MaxDelta - 1), pattern(impl.MaxDelta), pattern(impl.MaxDelta + 1)}
	for _, op := range edgeOps() {
		for _, base := range bases {
			wantOps(t, base, []impl.DeltaOp{op})
			wantOps(t, base, []impl.DeltaOp{inserts("i"), op})
			wantOps(t, base, []impl.DeltaOp{op, inserts("i")})
		}
		if t.Failed() {
			return
		}
	}
}

func TestOperationsOfNeitherForm(t *testing.T) {
	for what, op := range map[string]impl.DeltaOp{
		"nothing":                      {},
		"only From":                    {From: 1},
		"a negative From":              {From: -1},
		"a copy with Text":             {From: 1, Count: 1, Text: "x"},
		"a copy from 0 with Text":      {Count: 1, Text: "x"},
		"an insertion with From":       {From: 1, Text: "x"},
		"an insertion with a negative": {From: -1, Text: "x"},
		"a negative Count":             {Count: -1},
		"a negative Count with Text":   {Count: -1, Text: "x"},
		"a copy from before the base":  {From: -1, Count: 2},
		"a copy of too many bytes":     {Count: impl.MaxDelta + 1},
		"too long an insertion":        {Text: pattern(impl.MaxDelta + 1)},
	} {
		for _, ops := range [][]impl.DeltaOp{{op}, {copies(0, 1), op}, {op, copies(0, 1)}, {inserts("a"), op, inserts("b")}} {
			if impl.DeltaRight("abcdef", ops) || impl.DeltaApply("abcdef", ops) != (impl.TextOut{Code: impl.ErrForm}) || impl.DeltaBytes(ops) != "" {
				t.Errorf("%s is an operation", what)
			}
			wantOps(t, "abcdef", ops)
		}
	}
}

func TestCopiesAtTheEndOfTheBase(t *testing.T) {
	for _, size := range []int64{1, 2, 3, 10, impl.MaxDelta - 1, impl.MaxDelta} {
		base := pattern(int(size))
		for from := range size + 2 {
			for _, count := range []int64{1, 2, size - from - 1, size - from, size - from + 1, size} {
				wantOps(t, base, []impl.DeltaOp{copies(from, count)})
			}
		}
		right := map[impl.DeltaOp]bool{copies(size-1, 1): true, copies(0, size): true, copies(size, 1): false, copies(size-1, 2): false, copies(0, size+1): false, copies(1, size): false}
		for op, want := range right {
			if impl.DeltaRight(base, []impl.DeltaOp{op}) != want {
				t.Errorf("%v is valid for a base of %d bytes: %v", op, size, !want)
			}
		}
	}
}

func TestRangesBeyondTheGreatestNumber(t *testing.T) {
	for count := int64(1); count <= impl.MaxDelta; count++ {
		for back := int64(-2); back <= 2; back++ {
			// From plus Count is about the greatest number, or would be about the smallest one.
			from := int64(math.MaxInt64) - max(count+back, 0)
			wantOps(t, pattern(impl.MaxDelta), []impl.DeltaOp{copies(from, count)})
			wantOps(t, "", []impl.DeltaOp{copies(from, count)})
		}
	}
}

func TestSizesOfBasesOfOperations(t *testing.T) {
	for _, ops := range [][]impl.DeltaOp{nil, {inserts("a")}, {copies(0, 1)}, {copies(impl.MaxDelta-1, 1)}, {copies(0, impl.MaxDelta)}} {
		if !impl.DeltaRight(pattern(impl.MaxDelta), ops) {
			t.Errorf("%v is not valid for a base of MaxDelta bytes", ops)
		}
		for _, size := range []int{impl.MaxDelta, impl.MaxDelta + 1, impl.MaxBytes, impl.MaxBytes + 1, 3 * impl.MaxBytes} {
			wantOps(t, pattern(size), ops)
		}
	}
	// The size is checked before the list.
	wantOps(t, pattern(impl.MaxBytes+1), []impl.DeltaOp{{}})
	wantOps(t, pattern(impl.MaxBytes), []impl.DeltaOp{{}})
}

func TestSizesOfResults(t *testing.T) {
	base := pattern(impl.MaxDelta)
	for _, ops := range [][]impl.DeltaOp{
		{copies(0, impl.MaxDelta)},
		{copies(0, 100), copies(100, 100)},
		{copies(0, 100), copies(0, 100)},
		{inserts(base)},
		{inserts(base[:120]), inserts(base[:80])},
		{copies(50, 150), inserts(base[:50])},
		{inserts(base[:199]), copies(199, 1)},
		repeated(copies(195, 5), impl.MaxOps),
		repeated(inserts("fives"), impl.MaxOps),
	} {
		if made := impl.DeltaApply(base, ops); made.Code != impl.OK || len(made.Text) != impl.MaxDelta {
			t.Errorf("%s makes %s", brief(ops), brief(made))
		}
		wantOps(t, base, ops)
		longer := slices.Clone(ops)
		last := &longer[len(longer)-1]
		if last.Count > 0 && last.From > 0 {
			// The range of the copy is still in the base.
			last.From--
			last.Count++
		} else {
			longer = append(longer, copies(0, 1))
		}
		if impl.DeltaRight(base, longer) {
			t.Errorf("%s is valid", brief(longer))
		}
		wantOps(t, base, longer)
		wantOps(t, base, append(slices.Clone(ops), inserts("x")))
	}
	wantOps(t, base, repeated(copies(0, impl.MaxDelta), 2))
	wantOps(t, base, repeated(copies(0, impl.MaxDelta), impl.MaxOps))
}

func TestNumberOfOperations(t *testing.T) {
	for _, op := range []impl.DeltaOp{copies(0, 1), copies(2, 1), inserts("x"), inserts("ab"), copies(0, 3)} {
		for _, count := range []int{impl.MaxOps - 1, impl.MaxOps} {
			if !impl.DeltaRight("abc", repeated(op, count)) {
				t.Errorf("%d operations are not valid", count)
			}
			wantOps(t, "abc", repeated(op, count))
		}
		for _, count := range []int{impl.MaxOps + 1, 2 * impl.MaxOps, impl.MaxList, impl.MaxList + 1, 3 * impl.MaxList} {
			if impl.DeltaRight("abc", repeated(op, count)) {
				t.Errorf("%d operations are valid", count)
			}
			wantOps(t, "abc", repeated(op, count))
		}
	}
	// The sizes are checked before the operations and the base.
	for _, code := range []struct {
		base  string
		count int
		want  int64
	}{
		{"", impl.MaxList, impl.ErrForm},
		{"", impl.MaxList + 1, impl.ErrSize},
		{pattern(impl.MaxDelta + 1), impl.MaxList + 1, impl.ErrSize},
		{pattern(impl.MaxBytes + 1), 1, impl.ErrSize},
		{pattern(impl.MaxBytes + 1), impl.MaxList + 1, impl.ErrSize},
	} {
		if got := impl.DeltaApply(code.base, make([]impl.DeltaOp, code.count)); got != (impl.TextOut{Code: code.want}) {
			t.Errorf("%d operations of no form: got %v, want the code %d", code.count, got, code.want)
		}
	}
}

// randomOp returns an operation, mostly one of the right form.
func randomOp(random *rand.Rand, base string) impl.DeltaOp {
	switch random.Intn(60) {
	case 0:
		return impl.DeltaOp{From: random.Int63n(3) - 1, Count: random.Int63n(3) - 1, Text: pattern(random.Intn(2))}
	case 1:
		return copies(random.Int63(), random.Int63n(impl.MaxDelta+2))
	case 2:
		return inserts(pattern(random.Intn(impl.MaxDelta + 2)))
	case 3:
		return copies(random.Int63n(impl.MaxDelta), 1+random.Int63n(10))
	}
	if from := random.Int63n(int64(len(base)) + 1); from < int64(len(base)) && random.Intn(2) == 0 {
		return copies(from, 1+random.Int63n(min(int64(len(base))-from, 15)))
	}
	return inserts(pattern(1 + random.Intn(9)))
}

func TestManyListsOfOperations(t *testing.T) {
	random := rand.New(rand.NewSource(93))
	right, wrong := 0, 0
	for range 40000 {
		base := pattern(random.Intn(impl.MaxDelta + 2))
		ops := make([]impl.DeltaOp, random.Intn([]int{4, 10, impl.MaxOps + 2}[random.Intn(3)]))
		for i := range ops {
			ops[i] = randomOp(random, base)
		}
		wantOps(t, base, ops)
		if impl.DeltaRight(base, ops) {
			right++
		} else {
			wrong++
		}
	}
	if right < 5000 || wrong < 5000 {
		t.Errorf("%d lists were valid, %d were not", right, wrong)
	}
}

// Encodings.

func TestEncodingsOfOperations(t *testing.T) {
	for text, ops := range map[string][]impl.DeltaOp{
		"\x00":                         {},
		"\x02\x02\x00":                 {copies(0, 1)},
		"\x02\x00\x02a":                {inserts("a")},
		"\x04\x0a\x0c\x00\x04ly":       {copies(6, 5), inserts("ly")},
		"\x04\x00\x04\x00\xff\x06\x02": {inserts("\x00\xff"), copies(1, 3)},
		"\x02\x7e\x80\x01":             {copies(64, 63)},
		"\x02\x80\x01\x7e":             {copies(63, 64)},
		"\x02\x90\x03\x00":             {copies(0, impl.MaxDelta)},
		"\x02\x02\xfe\xff\xff\xff\xff\xff\xff\xff\xff\x01":                         {copies(math.MaxInt64, 1)},
		"\x02\x00\x80\x01" + strings.Repeat("s", 64):                               {inserts(strings.Repeat("s", 64))},
		"\x50" + strings.Repeat("\x06\x00", impl.MaxOps):                           repeated(copies(0, 3), impl.MaxOps),
		"\x50" + strings.Repeat("\x00\x06\x02\x06\x00", impl.MaxOps):               repeated(inserts("\x02\x06\x00"), impl.MaxOps),
		"\x02\x00\x90\x03" + pattern(impl.MaxDelta):                                {inserts(pattern(impl.MaxDelta))},
		"\x08\x06\x00\x06\x00\x00\x02\x06\x00\x04\x06\x00":                         {copies(0, 3), copies(0, 3), inserts("\x06"), inserts("\x06\x00")},
		"\x04\x90\x03\xfe\xff\xff\xff\xff\xff\xff\xff\xff\x01\x90\x03\x90\xa1\x0f": {copies(math.MaxInt64, impl.MaxDelta), copies(125000, impl.MaxDelta)},
	} {
		if got := impl.DeltaBytes(ops); got != sealed(text) {
			t.Errorf("DeltaBytes(%s):\ngot  %q\nwant %q", brief(ops), got, sealed(text))
		}
		wantRead(t, "an encoding", sealed(text), impl.DeltaOut{Ops: ops})
	}
}

// What operations have the right form does not depend on a base, nor on the size of a result.
func TestEncodingsOfOperationsThatAreValidForNoBase(t *testing.T) {
	for _, ops := range [][]impl.DeltaOp{
		{copies(impl.MaxDelta, 1)},
		{copies(1, impl.MaxDelta)},
		{copies(math.MaxInt64, 1)},
		{copies(math.MaxInt64, impl.MaxDelta)},
		{copies(0, impl.MaxDelta), copies(0, 1)},
		{copies(0, impl.MaxDelta), inserts("x")},
		{inserts(pattern(impl.MaxDelta)), inserts("x")},
		repeated(copies(0, impl.MaxDelta), impl.MaxOps),
		repeated(inserts(pattern(100)), impl.MaxOps),
	} {
		if impl.DeltaRight(pattern(impl.MaxDelta), ops) {
			t.Errorf("%s is valid", brief(ops))
		}
		if got := impl.DeltaBytes(ops); got != sealed(inner(ops...)) {
			t.Errorf("DeltaBytes(%s): got %q", brief(ops), got)
		}
		wantRead(t, "valid for no base", sealed(inner(ops...)), impl.DeltaOut{Ops: ops})
	}
}

// Operations of the right forms can be too many bytes for a seal.
func TestSizesOfEncodingsOfOperations(t *testing.T) {
	ops := repeated(inserts(pattern(impl.MaxDelta)), impl.MaxOps)
	last := &ops[impl.MaxOps-1]
	for size := range impl.MaxDelta {
		last.Text = pattern(size + 1)
		wantOps(t, "", ops)
	}
	last.Text = pattern(75)
	if got := len(impl.DeltaBytes(ops)); got != impl.MaxBytes {
		t.Errorf("the encoding has %d bytes", got)
	}
	last.Text = pattern(76)
	if got := impl.DeltaBytes(ops); got != "" {
		t.Errorf("the encoding has %d bytes", len(got))
	}
	wantReadCode(t, "an encoding of MaxBytes + 1 bytes", sealed(inner(ops...)), impl.ErrSize)
}

func sampleDeltas() [][]impl.DeltaOp {
	return [][]impl.DeltaOp{
		nil,
		{copies(6, 5)},
		{inserts("ly")},
		{copies(6, 5), inserts("ly"), copies(0, 3), copies(100, 100)},
		{inserts("\x00\x02\x06\xff"), copies(math.MaxInt64, 70), inserts(pattern(70))},
	}
}

// wantSealed compares what DeltaRead answers for a text under a correct seal with the reference.
func wantSealed(t *testing.T, what, text string) {
	t.Helper()
	wantRead(t, what, sealed(text), refDeltaRead(text))
}

func TestFirstBytesOfEncodingsOfOperations(t *testing.T) {
	for _, ops := range sampleDeltas() {
		text := impl.DeltaBytes(ops)
		for kept := range len(text) {
			code := int64(impl.ErrSum)
			if kept < 4 {
				code = impl.ErrShort
			}
			wantReadCode(t, "the first bytes", text[:kept], code)
		}
		for kept := range len(text) - 4 {
			wantReadCode(t, "the first bytes under a correct seal", sealed(text[:kept]), impl.ErrSyntax)
		}
	}
}

func TestEncodingsOfOperationsWithAChangedByte(t *testing.T) {
	for _, ops := range sampleDeltas() {
		text := impl.DeltaBytes(ops)
		for at := range len(text) {
			for change := 1; change < 256; change++ {
				b := []byte(text)
				b[at] ^= byte(change)
				wantReadCode(t, "a changed byte", string(b), impl.ErrSum)
				if at < len(text)-4 {
					wantSealed(t, "a changed byte under a correct seal", string(b[:len(b)-4]))
				}
			}
		}
		wantReadCode(t, "a byte behind", text+"\x00", impl.ErrSum)
		wantReadCode(t, "a byte before", "\x00"+text, impl.ErrSum)
	}
}

func TestBytesBehindTheLastOperation(t *testing.T) {
	for _, ops := range sampleDeltas() {
		for _, more := range []string{"\x00", "\x02", "\x80", "ab", "\x02\x00", "\x00\x02a", inner(ops...), pattern(200)} {
			wantReadCode(t, "bytes behind", sealed(inner(ops...)+more), impl.ErrSyntax)
		}
		wantReadCode(t, "a seal in a seal", sealed(sealed(inner(ops...))), impl.ErrSyntax)
	}
}

func TestWrongNumbersOfOperations(t *testing.T) {
	for _, ops := range append(sampleDeltas(), repeated(copies(1, 2), impl.MaxOps)) {
		right := int64(len(ops))
		// The encoding of each of these numbers of operations has one byte.
		rest := inner(ops...)[1:]
		for _, number := range []int64{right - 1, right + 1, right + 2, 0, -1, -right, impl.MaxOps, impl.MaxOps + 1, 1 << 32, math.MinInt64, math.MaxInt64} {
			if number != right {
				wantReadCode(t, "a wrong number", sealed(numbers(number)+rest), impl.ErrSyntax)
			}
		}
		wantRead(t, "the right number", sealed(numbers(right)+rest), impl.DeltaOut{Ops: ops})
	}
	for _, op := range []impl.DeltaOp{copies(1, 2), inserts("x")} {
		for _, count := range []int{impl.MaxOps + 1, impl.MaxOps + 2, impl.MaxList, impl.MaxList + 1} {
			wantReadCode(t, "too many operations", sealed(inner(repeated(op, count)...)), impl.ErrSyntax)
		}
		most := repeated(op, impl.MaxOps)
		wantRead(t, "MaxOps operations", sealed(inner(most...)), impl.DeltaOut{Ops: most})
	}
}

// opTexts returns encodings of one operation, by whether it has the right form.
func opTexts() map[string]bool {
	return map[string]bool{
		numbers(1, 0):                                      true,
		numbers(impl.MaxDelta, math.MaxInt64):              true,
		numbers(0, 1) + "x":                                true,
		numbers(0, impl.MaxDelta) + pattern(impl.MaxDelta): true,
		numbers(-1, 0):                                     false,
		numbers(-impl.MaxDelta, 0):                         false,
		numbers(impl.MaxDelta+1, 0):                        false,
		numbers(256+1, 0):                                  false,
		numbers(1<<32+1, 0):                                false,
		numbers(math.MaxInt64, 0):                          false,
		numbers(math.MinInt64, 0):                          false,
		numbers(1, -1):                                     false,
		numbers(impl.MaxDelta, -1):                         false,
		numbers(1, math.MinInt64):                          false,
		numbers(0, 0):                                      false,
		numbers(0, -1):                                     false,
		numbers(0, -1) + "x":                               false,
		numbers(0, impl.MaxDelta+1) + pattern(impl.MaxDelta+1):     false,
		numbers(0, impl.MaxBytes-100) + pattern(impl.MaxBytes-100): false,
		numbers(0, impl.MaxBytes+1) + "x":                          false,
		numbers(0, math.MaxInt64) + "x":                            false,
		numbers(0, math.MinInt64) + "x":                            false,
		"\x80\x00" + numbers(0):                                    false,
		"\x82\x00" + numbers(0):                                    false,
		numbers(1) + "\x80\x00":                                    false,
		numbers(0) + "\x82\x00x":                                   false,
		numbers(1) + strings.Repeat("\xff", 9) + "\x02":            false,
		strings.Repeat("\xff", 9) + "\x02" + numbers(1):            false,
	}
}

func TestFormsOfEncodedOperations(t *testing.T) {
	for text, right := range opTexts() {
		for before := range 3 {
			for behind := range 3 {
				whole := numbers(int64(before+1+behind)) + strings.Repeat("\x02\x00", before) + text + strings.Repeat("\x00\x02a", behind)
				if got := impl.DeltaRead(sealed(whole)); (got.Code == impl.OK) != right {
					t.Errorf("DeltaRead of %.200q under a correct seal: %s", whole, brief(got))
				}
				wantSealed(t, "an operation", whole)
			}
		}
	}
}

func TestAllShortTextsOfOperations(t *testing.T) {
	wantSealed(t, "no byte", "")
	for a := range 256 {
		wantSealed(t, "one byte", string([]byte{byte(a)}))
		for b := range 256 {
			two := string([]byte{byte(a), byte(b)})
			wantSealed(t, "two bytes", two)
			wantSealed(t, "one operation of two bytes", "\x02"+two)
			wantSealed(t, "an insertion", "\x02\x00"+two)
		}
		if t.Failed() {
			return
		}
	}
}

func TestManyTextsOfOperations(t *testing.T) {
	random := rand.New(rand.NewSource(94))
	right, wrong := 0, 0
	for range 200000 {
		ops := make([]impl.DeltaOp, random.Intn(6))
		for i := range ops {
			ops[i] = randomOp(random, "abcdefgh")
		}
		text := inner(ops...)
		for range random.Intn(4) {
			text = mutated(random, text)
		}
		wantSealed(t, "a text", text)
		if refDeltaRead(text).Code == impl.OK {
			right++
		} else {
			wrong++
		}
	}
	if right < 10000 || wrong < 10000 {
		t.Errorf("%d of the texts were operations, %d were none", right, wrong)
	}
}

func TestTextsThatAreNoSealsOfOperations(t *testing.T) {
	for _, text := range []string{"", "x", "ab", "abc", "\x00\x00\x00"} {
		wantReadCode(t, "few bytes", text, impl.ErrShort)
	}
	wantReadCode(t, "the seal of the empty string", "\x00\x00\x00\x00", impl.ErrSyntax)
	// The seal is tested before what is sealed.
	wantReadCode(t, "a wrong seal of an operation", inner(copies(1, 2))+"\x00\x00\x00\x00", impl.ErrSum)
	wantReadCode(t, "a wrong seal of no operation", "\x02\x00\x00\x00\x00\x00\x00", impl.ErrSum)
}

func TestLongTextsOfOperations(t *testing.T) {
	for _, ops := range sampleDeltas() {
		text := impl.DeltaBytes(ops)
		full := text + strings.Repeat("\x00", impl.MaxBytes-len(text))
		wantReadCode(t, "MaxBytes bytes", full, impl.ErrSum)
		wantReadCode(t, "more than MaxBytes bytes", full+"\x00", impl.ErrSize)
	}
	for _, size := range []int{impl.MaxBytes - 5, impl.MaxBytes - 4} {
		wantReadCode(t, "a long seal", sealed(pattern(size)), impl.ErrSyntax)
	}
	for _, size := range []int{impl.MaxBytes - 3, impl.MaxBytes, 2 * impl.MaxBytes} {
		wantReadCode(t, "too long a seal", sealed(pattern(size)), impl.ErrSize)
	}
}

// Gains.

func TestGainsOfDeltas(t *testing.T) {
	// The seal and the number of operations have five bytes, and a copy of up to 63 bytes has two.
	wantGain(t, "", "", -5)
	wantGain(t, "abc", "abc", -4)
	wantGain(t, "abcdef", "abcdef", -1)
	wantGain(t, "abcdefg", "abcdefg", 0)
	wantGain(t, "abcdefgh", "abcdefgh", 1)
	wantGain(t, pattern(63), pattern(63), 56)
	wantGain(t, pattern(64), pattern(64), 56)
	wantGain(t, pattern(impl.MaxDelta), pattern(impl.MaxDelta), 192)
	// From has a second byte from 64 on.
	wantGain(t, pattern(80), pattern(80)[63:73], 3)
	wantGain(t, pattern(80), pattern(80)[64:74], 2)
	// An insertion has two or three bytes more than its Text, whatever its size.
	wantGain(t, "", "a", -7)
	wantGain(t, "", pattern(63), -7)
	wantGain(t, "", pattern(64), -8)
	wantGain(t, "", pattern(impl.MaxDelta), -8)
	wantGain(t, "abcdefghijklm", "xabcdefghijklm", 4)
}

func TestGainsWithoutADelta(t *testing.T) {
	at, over := pattern(impl.MaxDelta), pattern(impl.MaxDelta+1)
	for _, pair := range []struct {
		base, text string
		code       int64
	}{
		{over, at, impl.ErrForm},
		{at, over, impl.ErrForm},
		{over, over, impl.ErrForm},
		{over, "", impl.ErrForm},
		{pattern(impl.MaxBytes + 1), at, impl.ErrSize},
		{at, pattern(impl.MaxBytes + 1), impl.ErrSize},
		{pattern(impl.MaxBytes + 1), "", impl.ErrSize},
		{"abc", strings.Repeat("abcx", impl.MaxDelta/4), impl.ErrFull},
		{"abc", strings.Repeat("abc", impl.MaxOps+1), impl.ErrFull},
	} {
		wantDeltaCode(t, "no delta", pair.base, pair.text, pair.code)
		wantGain(t, pair.base, pair.text, 0)
	}
}

// Memory.

func TestOperationsShareNoMemory(t *testing.T) {
	want := []impl.DeltaOp{copies(6, 5), inserts("ly "), copies(0, 5)}
	text := impl.DeltaBytes(want)
	for what, call := range map[string]func() impl.DeltaOut{
		"DeltaOf":   func() impl.DeltaOut { return impl.DeltaOf("hello world", "worldly hello") },
		"DeltaRead": func() impl.DeltaOut { return impl.DeltaRead(text) },
	} {
		first, second := call(), call()
		if !slices.Equal(first.Ops, want) {
			t.Fatalf("%s: got %v", what, first.Ops)
		}
		spoil(first.Ops, impl.DeltaOp{From: -1, Count: -1, Text: "wrong"})
		if !slices.Equal(second.Ops, want) || !slices.Equal(call().Ops, want) {
			t.Errorf("%s: a change of a result changed another one", what)
		}
	}
}

func TestArgumentsOfDeltasAreLeftAsTheyWere(t *testing.T) {
	// The list has room behind it, which is not to be used.
	whole := []impl.DeltaOp{copies(6, 5), inserts("ly "), copies(0, 5), inserts("behind"), {From: -1}}
	before := slices.Clone(whole)
	ops := whole[:3]
	made := impl.DeltaApply("hello world", ops)
	text := impl.DeltaBytes(ops)
	impl.DeltaRight("hello world", ops)
	if !slices.Equal(whole, before) {
		t.Errorf("an argument was changed:\nfrom %v\nto   %v", before, whole)
	}
	spoil(ops, inserts("later"))
	if made.Text != "worldly hello" || text != sealed(inner(before[:3]...)) {
		t.Error("a change of an argument changed a result")
	}
}

func TestCallsOfDeltasAreRepeatable(t *testing.T) {
	random := rand.New(rand.NewSource(95))
	for range 100 {
		base, text := deltaPlan{3, 'a'}.pair(random)
		wantRepeatable(t, func() []any {
			delta := impl.DeltaOf(base, text)
			bytes := impl.DeltaBytes(delta.Ops)
			return []any{delta, bytes, impl.DeltaRead(bytes), impl.DeltaApply(base, delta.Ops), impl.DeltaGain(base, text)}
		})
	}
}
