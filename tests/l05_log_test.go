package tests

import (
	"maps"
	"math"
	"math/rand"
	"reflect"
	"slices"
	"strings"
	"testing"

	"loop.example/g00637/impl"
)

// encoded returns what a page with a record contains, computed without the program.
func encoded(r impl.Rec) string {
	return sealed(fields(r))
}

func encodedAll(recs ...impl.Rec) []string {
	var texts []string
	for _, r := range recs {
		texts = append(texts, encoded(r))
	}
	return texts
}

// good and bad return a block with these pages used.

func good(erases int64, texts ...string) impl.Block {
	return impl.Block{Pages: usedPages(texts...), Erases: erases}
}

func bad(erases int64, texts ...string) impl.Block {
	return impl.Block{Pages: usedPages(texts...), Erases: erases, Bad: true}
}

func chipOf(blocks ...impl.Block) impl.Nand {
	return impl.Nand{Blocks: blocks}
}

func appendRec(t *testing.T, n impl.Nand, r impl.Rec, reserve int64) impl.NandOut {
	t.Helper()
	return do(t, n, func(n impl.Nand) impl.NandOut { return impl.Append(n, r, reserve) })
}

func torn(t *testing.T, n impl.Nand, data string) impl.NandOut {
	t.Helper()
	return do(t, n, func(n impl.Nand) impl.NandOut { return impl.Torn(n, data) })
}

// programmed returns the chip with one more page of a block used.
func programmed(n impl.Nand, block int64, data string) impl.Nand {
	next := chipCopy(n)
	for page, p := range next.Blocks[block].Pages {
		if !p.Used {
			next.Blocks[block].Pages[page] = impl.Page{Used: true, Data: data}
			return next
		}
	}
	return impl.Nand{}
}

// The reference, by the definitions of the document.

// placedRec is a record of a chip and the place of its page.
type placedRec struct {
	place int64
	rec   impl.Rec
}

func refLog(n impl.Nand) []placedRec {
	var log []placedRec
	place := int64(-1)
	for _, b := range n.Blocks {
		for _, p := range b.Pages {
			place++
			if !p.Used || len(p.Data) < 4 {
				continue
			}
			inner := p.Data[:len(p.Data)-4]
			if r, ok := refRec(inner); ok && sealed(inner) == p.Data {
				log = append(log, placedRec{place, r})
			}
		}
	}
	return log
}

func refMount(n impl.Nand) impl.HistOut {
	bySeq := map[int64]impl.Rec{}
	for _, l := range slices.Backward(refLog(n)) {
		bySeq[l.rec.Seq] = l.rec
	}
	var h impl.Hist
	time := int64(0)
	for _, seq := range slices.Sorted(maps.Keys(bySeq)) {
		if bySeq[seq].Time < time {
			return impl.HistOut{Code: impl.ErrState}
		}
		time = bySeq[seq].Time
		h.Recs = append(h.Recs, bySeq[seq])
	}
	return impl.HistOut{Hist: h}
}

func refPlaces(n impl.Nand, seq int64) []int64 {
	var places []int64
	for _, l := range refLog(n) {
		if l.rec.Seq == seq {
			places = append(places, l.place)
		}
	}
	return places
}

func refUsed(b impl.Block) int {
	used := 0
	for _, p := range b.Pages {
		if p.Used {
			used++
		}
	}
	return used
}

func refOpen(n impl.Nand) int64 {
	for i, b := range n.Blocks {
		if used := refUsed(b); !b.Bad && used > 0 && used < 4 {
			return int64(i)
		}
	}
	return -1
}

func refNext(n impl.Nand, reserve int64) int64 {
	if reserve < 0 || reserve > 12 {
		return -1
	}
	if open := refOpen(n); open >= 0 {
		return open
	}
	var free []int64
	for i, b := range n.Blocks {
		if !b.Bad && refUsed(b) == 0 {
			free = append(free, int64(i))
		}
	}
	if int64(len(free)) <= reserve {
		return -1
	}
	slices.SortStableFunc(free, func(a, b int64) int { return int(n.Blocks[a].Erases - n.Blocks[b].Erases) })
	return free[0]
}

// reserves are all numbers of 0..MaxBlocks, and some that are not.
func reserves() []int64 {
	l := []int64{math.MinInt64, -impl.MaxBlocks, -2, -1}
	for reserve := int64(0); reserve <= impl.MaxBlocks+2; reserve++ {
		l = append(l, reserve)
	}
	return append(l, impl.MaxTime, 1<<32, math.MaxInt64)
}

// seqsAround returns the Seqs of the records of a chip, those beside them, and some that no record has.
func seqsAround(n impl.Nand) []int64 {
	l := []int64{math.MinInt64, -1, 0, 1, impl.MaxTime, impl.MaxTime + 1, math.MaxInt64}
	for _, p := range refLog(n) {
		l = append(l, p.rec.Seq-1, p.rec.Seq, p.rec.Seq+1, -p.rec.Seq)
	}
	slices.Sort(l)
	return slices.Compact(l)
}

// wantLog compares the answers of a valid chip with the reference, and requires that each record of the history has a place where it is found.
func wantLog(t *testing.T, n impl.Nand) {
	t.Helper()
	before := chipCopy(n)
	h := impl.Mount(n)
	wantHistOut(t, "Mount", h, refMount(n))
	for _, seq := range seqsAround(n) {
		wantList(t, "Places", impl.Places(n, seq), refPlaces(n, seq))
	}
	for _, r := range h.Hist.Recs {
		places := impl.Places(n, r.Seq)
		if len(places) == 0 {
			t.Errorf("no place of %+v", r)
			continue
		}
		page := pageAt(t, n, places[0]/impl.PageCount, places[0]%impl.PageCount)
		wantRec(t, "the first place", page.Data, impl.RecOut{Rec: r})
	}
	if got, want := impl.OpenBlock(n), refOpen(n); got != want {
		t.Errorf("OpenBlock = %d, want %d", got, want)
	}
	for _, reserve := range reserves() {
		if got, want := impl.NextBlock(n, reserve), refNext(n, reserve); got != want {
			t.Errorf("NextBlock with reserve %d = %d, want %d", reserve, got, want)
		}
	}
	if !sameChip(n, before) {
		t.Error("the argument was changed")
	}
	if t.Failed() {
		t.Fatalf("of the chip %#v", before)
	}
}

// Random chips.

// noRecord returns a text for a page that is no record, though it may look like one.
func noRecord(random *rand.Rand, r impl.Rec) string {
	text := encoded(r)
	switch random.Intn(6) {
	case 0:
		return ""
	case 1:
		return text[:len(text)/2]
	case 2:
		return text + "\x00"
	case 3:
		r.Seq = -r.Seq
		return encoded(r)
	case 4:
		return pattern(random.Intn(impl.PageSize + 1))
	}
	at := random.Intn(len(text))
	return text[:at] + string([]byte{text[at] ^ byte(1+random.Intn(255))}) + text[at+1:]
}

// sometimesOther returns the record or, now and then, another one with the same Seq. With late it may also have another Time.
func sometimesOther(random *rand.Rand, r impl.Rec, late bool) impl.Rec {
	if random.Intn(4) == 0 {
		r = write(r.Seq, r.Time, random.Int63n(impl.MaxSectors), "other")
	}
	if late && random.Intn(8) == 0 {
		r = write(r.Seq, min(impl.MaxTime, r.Time+random.Int63n(4)), 0, "late")
	}
	return r
}

// randomTexts returns what the used pages of a block contain.
func randomTexts(random *rand.Rand, h impl.Hist, late bool) []string {
	used := []int{0, 0, 1, 2, 3, 4, 4, 4, 4}[random.Intn(9)]
	var texts []string
	for range used {
		r := h.Recs[random.Intn(len(h.Recs))]
		if random.Intn(5) == 0 {
			texts = append(texts, noRecord(random, r))
			continue
		}
		texts = append(texts, encoded(sometimesOther(random, r, late)))
	}
	return texts
}

// randomChip returns a chip with records of one history in any order, some of them several times, and pages that are no records.
func randomChip(random *rand.Rand) impl.Nand {
	plans := histPlans()
	h := plans[random.Intn(len(plans))].make(random)
	late := random.Intn(2) == 0
	wear := []int64{1, 3, 20, impl.MaxTime + 1}[random.Intn(4)]
	full := random.Intn(4) == 0
	var n impl.Nand
	for range 1 + random.Intn(impl.MaxBlocks) {
		b := good(random.Int63n(wear), randomTexts(random, h, late)...)
		// Without open blocks, the choice among the free ones shows.
		if used := refUsed(b); full && used > 0 && used < impl.PageCount {
			b.Pages = usedPages()
		}
		b.Bad = random.Intn(6) == 0
		n.Blocks = append(n.Blocks, b)
	}
	return n
}

// nextOf returns a record for a chip: mostly one that follows its history, or one whose Seq is there already, or any.
func nextOf(random *rand.Rand, n impl.Nand) impl.Rec {
	log := refLog(n)
	h := refMount(n).Hist
	switch kind := random.Intn(6); {
	case kind == 0 && len(log) > 0:
		return log[random.Intn(len(log))].rec
	case kind == 1 && len(log) > 0:
		return sometimesOther(random, log[random.Intn(len(log))].rec, true)
	case kind == 2:
		return write(1+random.Int63n(60), random.Int63n(60), random.Int63n(impl.MaxSectors), "any")
	}
	plan := histPlan{step: 3, gap: 3, sectors: impl.MaxSectors, rolls: 2, floors: 2}
	if r := plan.next(random, h); refRight(r) {
		return r
	}
	// Behind the greatest Seq or Time nothing follows.
	return h.Recs[0]
}

func TestExampleOfTheLog(t *testing.T) {
	n := appendRec(t, impl.NandNew(2), write(1, 0, 0, "a"), 1).Nand
	n = torn(t, n, impl.RecBytes(write(2, 0, 0, "b"))).Nand
	if used := impl.UsedOf(n, 0); used != 2 {
		t.Errorf("%d pages are used", used)
	}
	wantHistOut(t, "Mount", impl.Mount(n), impl.HistOut{Hist: histOf(write(1, 0, 0, "a"))})
	wantList(t, "NextBlock", []int64{impl.NextBlock(impl.NandNew(2), 1), impl.NextBlock(impl.NandNew(2), 2)}, []int64{0, -1})
}

func TestNewChipHasAnEmptyLog(t *testing.T) {
	for blocks := int64(1); blocks <= impl.MaxBlocks; blocks++ {
		n := impl.NandNew(blocks)
		wantHistOut(t, "Mount", impl.Mount(n), impl.HistOut{})
		wantList(t, "Places", impl.Places(n, 1), nil)
		if got := impl.OpenBlock(n); got != -1 {
			t.Errorf("OpenBlock = %d", got)
		}
		wantLog(t, n)
	}
}

func TestManyChipsAreAnsweredAsDocumented(t *testing.T) {
	random := rand.New(rand.NewSource(12))
	codes := map[int64]int{}
	open, unordered, double := 0, 0, 0
	for range 1500 {
		n := randomChip(random)
		wantLog(t, n)
		codes[impl.Mount(n).Code]++
		if refOpen(n) >= 0 {
			open++
		}
		log := refLog(n)
		if !slices.IsSortedFunc(log, func(a, b placedRec) int { return int(a.rec.Seq - b.rec.Seq) }) {
			unordered++
		}
		if len(refMount(n).Hist.Recs) < len(log) {
			double++
		}
	}
	for what, count := range map[string]int{"valid": codes[impl.OK], "invalid": codes[impl.ErrState], "open": open, "unordered": unordered, "double": double} {
		if count < 100 {
			t.Errorf("only %d chips were %s", count, what)
		}
	}
}

// Promise 7: what is appended is found.

func TestAppendedRecordsAreFoundWhenTheChipIsMounted(t *testing.T) {
	random := rand.New(rand.NewSource(13))
	for _, plan := range histPlans() {
		for reserve := int64(0); reserve <= 3; reserve++ {
			blocks := 1 + random.Int63n(impl.MaxBlocks)
			whole := plan.make(random)
			n := impl.NandNew(blocks)
			for i, r := range whole.Recs {
				out := appendRec(t, n, r, reserve)
				if int64(i) >= (blocks-reserve)*impl.PageCount {
					wantCode(t, "no room", out, impl.ErrFull)
					break
				}
				wantOut(t, "Append", out, impl.NandOut{Nand: programmed(n, int64(i/impl.PageCount), encoded(r))})
				n = out.Nand
				wantHistOut(t, "Mount", impl.Mount(n), impl.HistOut{Hist: histOf(whole.Recs[:i+1]...)})
				wantList(t, "Places", impl.Places(n, r.Seq), []int64{int64(i)})
			}
			wantLog(t, n)
		}
	}
}

func TestAppendToManyChips(t *testing.T) {
	random := rand.New(rand.NewSource(14))
	codes := map[int64]int{}
	added, refused := 0, 0
	for range 500 {
		n := randomChip(random)
		for range 4 {
			r := nextOf(random, n)
			reserve := random.Int63n(4)
			out := appendRec(t, n, r, reserve)
			codes[out.Code]++
			block := refNext(n, reserve)
			if block < 0 {
				wantCode(t, "no room", out, impl.ErrFull)
				break
			}
			wantOut(t, "Append", out, impl.NandOut{Nand: programmed(n, block, encoded(r))})
			place := block*impl.PageCount + int64(refUsed(n.Blocks[block]))
			places := append(impl.Places(n, r.Seq), place)
			slices.Sort(places)
			wantList(t, "Places of the record", impl.Places(out.Nand, r.Seq), places)
			before := impl.Mount(n)
			after := impl.HistAdd(before.Hist, r)
			if before.Code == impl.OK && after.Code == impl.OK {
				added++
				wantHistOut(t, "Mount with the record", impl.Mount(out.Nand), after)
			} else {
				refused++
			}
			wantLog(t, out.Nand)
			n = out.Nand
		}
	}
	for what, count := range map[string]int{"appended": codes[impl.OK], "without room": codes[impl.ErrFull], "added": added, "not added": refused} {
		if count < 200 {
			t.Errorf("only %d records were %s", count, what)
		}
	}
}

// Append knows nothing of the history: also a record that does not follow it is written.
func TestAppendOfRecordsThatDoNotFollow(t *testing.T) {
	first, second := write(3, 10, 0, "a"), write(7, 20, 1, "b")
	n := chipOf(good(0, encodedAll(first, second)...), good(0))
	for _, c := range []struct {
		what string
		r    impl.Rec
		want impl.HistOut
	}{
		{"a Seq between others", trim(5, 15, 0), impl.HistOut{Hist: histOf(first, trim(5, 15, 0), second)}},
		{"a Seq below all", trim(1, 10, 0), impl.HistOut{Hist: histOf(trim(1, 10, 0), first, second)}},
		{"the same record", second, impl.HistOut{Hist: histOf(first, second)}},
		{"another record of a Seq", trim(7, 20, 2), impl.HistOut{Hist: histOf(first, second)}},
		{"another record of a Seq, too early", trim(7, 0, 2), impl.HistOut{Hist: histOf(first, second)}},
		{"a Time that decreases", trim(8, 19, 0), impl.HistOut{Code: impl.ErrState}},
		{"a Time too late for its Seq", trim(5, 21, 0), impl.HistOut{Code: impl.ErrState}},
	} {
		out := appendRec(t, n, c.r, 0)
		wantOut(t, c.what, out, impl.NandOut{Nand: programmed(n, 0, encoded(c.r))})
		wantHistOut(t, c.what, impl.Mount(out.Nand), c.want)
		wantLog(t, out.Nand)
	}
	// The open block can be before that of the older page, which then is no longer the first one.
	n = chipOf(good(0, "no record"), good(0, encodedAll(first, second)...))
	out := appendRec(t, n, trim(7, 30, 2), 0)
	wantHistOut(t, "a page before the older one", impl.Mount(out.Nand), impl.HistOut{Hist: histOf(first, trim(7, 30, 2))})
	wantList(t, "its places", impl.Places(out.Nand, 7), []int64{1, 5})
	// A chip without a history is valid, and is written to.
	n = chipOf(good(0, encodedAll(write(1, 5, 0, "a"), write(2, 4, 0, "b"))...))
	out = appendRec(t, n, trim(3, 5, 0), 0)
	wantOut(t, "no history", out, impl.NandOut{Nand: programmed(n, 0, encoded(trim(3, 5, 0)))})
	wantLog(t, out.Nand)
}

func TestEveryKindOfRecordIsAppended(t *testing.T) {
	greatest := write(impl.MaxTime, impl.MaxTime, impl.MaxSectors-1, pattern(impl.MaxData))
	for _, r := range append(sampleRecs(), write(1, 0, 0, ""), greatest, floor(impl.MaxTime, impl.MaxTime, impl.MaxTime)) {
		out := appendRec(t, impl.NandNew(1), r, 0)
		wantOut(t, "Append", out, impl.NandOut{Nand: chipOf(good(0, encoded(r)))})
		wantHistOut(t, "Mount", impl.Mount(out.Nand), impl.HistOut{Hist: histOf(r)})
		wantList(t, "Places", impl.Places(out.Nand, r.Seq), []int64{0})
	}
}

func TestRecordsOfAnErasedBlockAreGone(t *testing.T) {
	n := impl.NandNew(2)
	for _, r := range numbered(6).Recs {
		n = appendRec(t, n, r, 0).Nand
	}
	n = erase(t, n, 0).Nand
	wantHistOut(t, "Mount", impl.Mount(n), impl.HistOut{Hist: histOf(numbered(6).Recs[4:]...)})
	for _, r := range numbered(9).Recs[6:] {
		n = appendRec(t, n, r, 0).Nand
	}
	wantHistOut(t, "Mount", impl.Mount(n), impl.HistOut{Hist: histOf(numbered(9).Recs[4:]...)})
	wantList(t, "a record in the erased block", impl.Places(n, 9), []int64{0})
	wantLog(t, n)
}

// Promise 7: a torn page is not a record.

func TestTornRecordsAreNoRecords(t *testing.T) {
	before := chipOf(good(0, encodedAll(write(1, 0, 0, "a"), roll(2, 3, 1))...), good(0))
	greatest := write(impl.MaxTime, impl.MaxTime, impl.MaxSectors-1, pattern(impl.MaxData))
	for _, r := range append(sampleRecs(), write(1, 0, 0, "b"), write(2, 0, 0, ""), write(3, 3, 0, ""), greatest) {
		text := encoded(r)
		out := torn(t, before, text)
		wantOut(t, "Torn", out, impl.NandOut{Nand: programmed(before, 0, text[:len(text)/2])})
		wantHistOut(t, "Mount", impl.Mount(out.Nand), impl.Mount(before))
		for _, seq := range []int64{1, 2, 3, r.Seq} {
			wantList(t, "Places", impl.Places(out.Nand, seq), impl.Places(before, seq))
		}
		wantLog(t, out.Nand)
		// The record is written behind the torn page.
		again := appendRec(t, out.Nand, r, 0)
		wantList(t, "its place", impl.Places(again.Nand, r.Seq), append(impl.Places(before, r.Seq), 3))
	}
}

func TestTornPagesOfEveryLength(t *testing.T) {
	for size := 0; size <= impl.PageSize; size++ {
		n := chipOf(good(1), good(0))
		out := torn(t, n, pattern(size))
		wantOut(t, "Torn", out, impl.NandOut{Nand: chipOf(good(1), good(0, pattern(size)[:size/2]))})
		if used := impl.UsedOf(out.Nand, 1); used != 1 {
			t.Errorf("%d pages are used after %d bytes", used, size)
		}
		wantHistOut(t, "Mount", impl.Mount(out.Nand), impl.HistOut{})
		wantLog(t, out.Nand)
	}
}

func TestTornPagesOnManyChips(t *testing.T) {
	random := rand.New(rand.NewSource(15))
	codes := map[int64]int{}
	for range 500 {
		n := randomChip(random)
		data := encoded(nextOf(random, n))
		if random.Intn(3) == 0 {
			data = pattern(random.Intn(impl.PageSize + 1))
		}
		out := torn(t, n, data)
		codes[out.Code]++
		block := refNext(n, 0)
		if block < 0 {
			wantCode(t, "no room", out, impl.ErrFull)
			continue
		}
		wantOut(t, "Torn", out, impl.NandOut{Nand: programmed(n, block, data[:len(data)/2])})
		wantHistOut(t, "Mount", impl.Mount(out.Nand), impl.Mount(n))
		for _, seq := range seqsAround(n) {
			wantList(t, "Places", impl.Places(out.Nand, seq), impl.Places(n, seq))
		}
		wantLog(t, out.Nand)
	}
	if codes[impl.OK] < 200 || codes[impl.ErrFull] < 20 {
		t.Errorf("the codes were %v", codes)
	}
}

// Data whose first half is a whole record leaves that record on the page.
func TestTornPageWhoseHalfIsARecord(t *testing.T) {
	greatest := write(impl.MaxTime, impl.MaxTime, impl.MaxSectors-1, pattern(impl.MaxData))
	for _, r := range append(sampleRecs(), write(1, 0, 0, ""), greatest) {
		text := encoded(r)
		for _, data := range []string{text + text, text + strings.Repeat("\x00", len(text)), text + strings.Repeat("z", len(text)+1)} {
			if len(data) > impl.PageSize {
				continue
			}
			out := torn(t, impl.NandNew(1), data)
			wantOut(t, "Torn", out, impl.NandOut{Nand: chipOf(good(0, text))})
			wantHistOut(t, "Mount", impl.Mount(out.Nand), impl.HistOut{Hist: histOf(r)})
		}
		out := torn(t, impl.NandNew(1), text+strings.Repeat("z", len(text)-1))
		wantHistOut(t, "one byte less", impl.Mount(out.Nand), impl.HistOut{})
	}
}

func TestChipIsFilledByTornPages(t *testing.T) {
	n := chipOf(good(2), bad(0), good(1))
	for _, block := range []int64{2, 2, 2, 2, 0, 0, 0, 0} {
		out := torn(t, n, "abc")
		wantOut(t, "Torn", out, impl.NandOut{Nand: programmed(n, block, "a")})
		n = out.Nand
	}
	wantCode(t, "a full chip", torn(t, n, "abc"), impl.ErrFull)
	wantHistOut(t, "Mount", impl.Mount(n), impl.HistOut{})
}

// Mount.

func TestMountSortsBySeq(t *testing.T) {
	recs := numbered(10).Recs
	want := impl.HistOut{Hist: histOf(recs...)}
	backwards := slices.Clone(recs)
	slices.Reverse(backwards)
	texts := encodedAll(backwards...)
	wantHistOut(t, "backwards", impl.Mount(chipOf(good(0, texts[:4]...), good(0, texts[4:8]...), good(0, texts[8:]...))), want)
	random := rand.New(rand.NewSource(16))
	for range 100 {
		random.Shuffle(len(texts), func(i, j int) { texts[i], texts[j] = texts[j], texts[i] })
		n := chipOf(good(0, texts[:3]...), bad(5, texts[3:4]...), good(0), good(9, texts[4:8]...), bad(0, texts[8:]...))
		wantHistOut(t, "in any order", impl.Mount(n), want)
		wantLog(t, n)
	}
	// Seqs are numbers, not texts, and need not be successive.
	n := chipOf(good(0, encodedAll(write(1000, 8, 0, "c"), write(9, 2, 0, "a"), write(impl.MaxTime, 8, 0, "d"), write(64, 2, 0, "b"))...))
	wantHistOut(t, "far apart", impl.Mount(n), impl.HistOut{Hist: histOf(write(9, 2, 0, "a"), write(64, 2, 0, "b"), write(1000, 8, 0, "c"), write(impl.MaxTime, 8, 0, "d"))})
	wantLog(t, n)
}

func TestMountTakesTheFirstPageOfEachSeq(t *testing.T) {
	a, b, c := encoded(write(5, 1, 0, "a")), encoded(write(5, 2, 1, "b")), encoded(trim(5, 0, 2))
	x := encoded(write(6, 2, 0, "x"))
	for _, k := range []struct {
		what string
		n    impl.Nand
		want impl.Rec
	}{
		{"in one block", chipOf(good(0, x, a, b, c)), write(5, 1, 0, "a")},
		{"in the order of pages", chipOf(good(0, b, a, x)), write(5, 2, 1, "b")},
		{"in the order of blocks", chipOf(good(0), good(0, "", c), good(0, a, x)), trim(5, 0, 2)},
		{"a later page of an earlier block", chipOf(good(0, x, x, x, b), good(0, a)), write(5, 2, 1, "b")},
		{"in a bad block", chipOf(bad(0, c), good(0, a, x)), trim(5, 0, 2)},
		{"not in a later bad block", chipOf(good(7, x, a), bad(0, c)), write(5, 1, 0, "a")},
		{"behind a page that is no record", chipOf(good(0, a[:len(a)-1], b, x, a)), write(5, 2, 1, "b")},
		{"the same record everywhere", chipOf(good(0, a, a, x, a), bad(0, a, a, a, a), good(0, a)), write(5, 1, 0, "a")},
	} {
		wantHistOut(t, k.what, impl.Mount(k.n), impl.HistOut{Hist: histOf(k.want, write(6, 2, 0, "x"))})
		wantLog(t, k.n)
	}
	// Only the first page of a Seq counts for the validity of the history, too.
	early := encoded(write(7, 1, 0, "early"))
	wantHistOut(t, "a later page would be too early", impl.Mount(chipOf(good(0, x, encoded(write(7, 9, 0, "y")), early))), impl.HistOut{Hist: histOf(write(6, 2, 0, "x"), write(7, 9, 0, "y"))})
	wantHistOut(t, "the first page is too early", impl.Mount(chipOf(good(0, early, x, encoded(write(7, 9, 0, "y"))))), impl.HistOut{Code: impl.ErrState})
}

func TestMountOfRecordsThatAreNoHistory(t *testing.T) {
	for what, recs := range map[string][]impl.Rec{
		"a Time that decreases by 1": {write(1, 5, 0, "a"), write(2, 4, 0, "b")},
		"written in the other order": {write(2, 4, 0, "b"), write(1, 5, 0, "a")},
		"to 0":                       {write(1, impl.MaxTime, 0, "a"), trim(impl.MaxTime, 0, 5)},
		"at the end":                 {write(1, 5, 0, "a"), roll(2, 6, 6), floor(3, 7, 7), trim(4, 6, 0)},
		"in the middle":              {write(1, 5, 0, "a"), roll(2, 6, 6), floor(3, 5, 5), trim(4, 6, 0)},
	} {
		n := chipOf(good(0), good(0, encodedAll(recs...)...))
		wantHistOut(t, what, impl.Mount(n), impl.HistOut{Code: impl.ErrState})
		for i, r := range recs {
			wantList(t, what+": Places", impl.Places(n, r.Seq), []int64{int64(impl.PageCount + i)})
		}
		wantLog(t, n)
	}
	same := chipOf(good(0, encodedAll(write(1, 5, 0, "a"), write(2, 5, 0, "b"))...))
	wantHistOut(t, "the same Time", impl.Mount(same), impl.HistOut{Hist: histOf(write(1, 5, 0, "a"), write(2, 5, 0, "b"))})
}

// chipWith returns a chip whose blocks are filled with records, in order.
func chipWith(recs []impl.Rec) impl.Nand {
	var n impl.Nand
	for part := range slices.Chunk(encodedAll(recs...), impl.PageCount) {
		n.Blocks = append(n.Blocks, good(0, part...))
	}
	return n
}

// A valid chip has room for exactly as many records as a history.
func TestMountOfAsManyRecordsAsFit(t *testing.T) {
	if fullHist != impl.MaxBlocks*impl.PageCount {
		t.Fatal("a limit has changed")
	}
	for _, count := range []int{fullHist - 1, fullHist} {
		n := chipWith(numbered(count).Recs)
		wantHistOut(t, "Mount", impl.Mount(n), impl.HistOut{Hist: numbered(count)})
		wantLog(t, n)
	}
	wantHistOut(t, "one more", impl.Mount(chipWith(numbered(fullHist+1).Recs)), impl.HistOut{Code: impl.ErrForm})
	late := numbered(fullHist).Recs
	late[fullHist-1].Time = 0
	wantHistOut(t, "the last one too early", impl.Mount(chipWith(late)), impl.HistOut{Code: impl.ErrState})
}

func TestPagesThatAreNoRecords(t *testing.T) {
	r := write(4, 9, 2, "data")
	text := encoded(r)
	texts := []string{"", "x", "abc", "\x00\x00\x00\x00", pattern(impl.PageSize), fields(r), "\x00" + text, text + "\x00", text + text, sealed(""), sealed("x"), sealed(text), sealed(fields(r) + "z")}
	for size := range len(text) {
		texts = append(texts, text[:size])
	}
	for at := range len(text) {
		texts = append(texts, text[:at]+string([]byte{text[at] ^ 64})+text[at+1:])
	}
	for _, wrong := range []impl.Rec{{}, {Kind: 5, Seq: 4}, write(0, 9, 2, ""), write(impl.MaxTime+1, 9, 2, ""), write(4, impl.MaxTime+1, 2, ""), write(4, -1, 2, ""), write(4, 9, impl.MaxSectors, ""), write(4, 9, 2, pattern(impl.MaxData+1)), roll(4, 9, 10), {Kind: impl.RcTrim, Seq: 4, Data: "x"}} {
		texts = append(texts, encoded(wrong))
	}
	for _, wrong := range texts {
		n := chipOf(good(0, wrong), good(0))
		wantHistOut(t, "alone", impl.Mount(n), impl.HistOut{})
		wantList(t, "alone", impl.Places(n, 4), nil)
		wantLog(t, n)
		n = chipOf(good(0, wrong, text, wrong), good(0))
		wantHistOut(t, "beside a record", impl.Mount(n), impl.HistOut{Hist: histOf(r)})
		wantList(t, "beside a record", impl.Places(n, 4), []int64{1})
		wantLog(t, n)
	}
}

// Places.

func TestPlaces(t *testing.T) {
	a, b, other := encoded(write(5, 1, 0, "a")), encoded(write(6, 2, 0, "b")), encoded(trim(5, 1, 3))
	n := chipOf(good(9, a, b), good(0), bad(3, b, other, "junk", a), good(1, b[1:], a, a, b))
	wantList(t, "5", impl.Places(n, 5), []int64{0, 9, 11, 13, 14})
	wantList(t, "6", impl.Places(n, 6), []int64{1, 8, 15})
	for _, seq := range []int64{math.MinInt64, -5, -1, 0, 1, 4, 7, impl.MaxTime, impl.MaxTime + 1, 5 + 1<<32, math.MaxInt64} {
		wantList(t, "a Seq of no record", impl.Places(n, seq), nil)
	}
	wantLog(t, n)
	whole := make([]string, impl.PageCount)
	var want []int64
	for page := range whole {
		whole[page] = a
	}
	var everywhere impl.Nand
	for place := range int64(impl.MaxBlocks * impl.PageCount) {
		want = append(want, place)
	}
	for range impl.MaxBlocks {
		everywhere.Blocks = append(everywhere.Blocks, good(0, whole...))
	}
	wantList(t, "on all pages", impl.Places(everywhere, 5), want)
	wantHistOut(t, "Mount", impl.Mount(everywhere), impl.HistOut{Hist: histOf(write(5, 1, 0, "a"))})
}

func TestPlacesOfRecordsOfEveryBlockAndPage(t *testing.T) {
	for block := range int64(impl.MaxBlocks) {
		for page := range int64(impl.PageCount) {
			n := impl.NandNew(impl.MaxBlocks)
			for range page {
				n = programmed(n, block, "junk")
			}
			n = programmed(n, block, encoded(floor(8, 3, 2)))
			wantList(t, "Places", impl.Places(n, 8), []int64{impl.PageCount*block + page})
			wantList(t, "Places of a bad block", impl.Places(markBad(t, n, block).Nand, 8), []int64{impl.PageCount*block + page})
		}
	}
}

// OpenBlock and NextBlock.

func TestOpenBlock(t *testing.T) {
	full := []string{"a", "b", "c", "d"}
	for _, c := range []struct {
		what string
		n    impl.Nand
		want int64
	}{
		{"all free", chipOf(good(0), good(0)), -1},
		{"all full", chipOf(good(0, full...), good(0, full...)), -1},
		{"one page used", chipOf(good(0, "a")), 0},
		{"one page unused", chipOf(good(0, full[:3]...)), 0},
		{"one empty page used", chipOf(good(0), good(0, "")), 1},
		{"behind full and free ones", chipOf(good(0, full...), good(0), good(0, "a", "b"), good(0, "a")), 2},
		{"the first of several, whatever Erases", chipOf(good(9, "a"), good(0, "a", "b", "c")), 0},
		{"not a bad one", chipOf(bad(0, "a"), good(0, "a")), 1},
		{"only a bad one", chipOf(bad(0, "a"), good(0), good(0, full...)), -1},
		{"the last of all", chipOf(append(slices.Repeat([]impl.Block{bad(0, "a")}, impl.MaxBlocks-1), good(0, "a"))...), impl.MaxBlocks - 1},
	} {
		if got := impl.OpenBlock(c.n); got != c.want {
			t.Errorf("%s: OpenBlock = %d, want %d", c.what, got, c.want)
		}
		wantLog(t, c.n)
	}
}

func TestTheOpenBlockGoesBeforeFreeOnes(t *testing.T) {
	full := []string{"a", "b", "c", "d"}
	for what, n := range map[string]impl.Nand{
		"with free blocks":             chipOf(good(0), good(0), good(9, "a"), good(0)),
		"without free blocks":          chipOf(good(0, full...), bad(0), good(9, "a", "b", "c"), good(0, full...)),
		"beside another open one":      chipOf(good(0), bad(0, "a"), good(9, "a", "b"), good(0, "a")),
		"with as many as the reserve":  chipOf(good(0), good(0, full...), good(impl.MaxTime, "")),
		"with fewer than the reserve":  chipOf(bad(0), bad(0, full...), good(1, "a")),
		"with a free block before all": chipOf(good(0), good(0, full...), good(1, "a")),
	} {
		for reserve := int64(0); reserve <= impl.MaxBlocks; reserve++ {
			if got := impl.NextBlock(n, reserve); got != 2 {
				t.Errorf("%s: NextBlock with reserve %d = %d", what, reserve, got)
			}
			r := write(1, 0, 0, "x")
			wantOut(t, what, appendRec(t, n, r, reserve), impl.NandOut{Nand: programmed(n, 2, encoded(r))})
		}
		for _, reserve := range []int64{math.MinInt64, -1, impl.MaxBlocks + 1, math.MaxInt64} {
			if got := impl.NextBlock(n, reserve); got != -1 {
				t.Errorf("%s: NextBlock with reserve %d = %d", what, reserve, got)
			}
			wantCode(t, what, appendRec(t, n, write(1, 0, 0, "x"), reserve), impl.ErrForm)
		}
	}
}

func TestTheFreeBlockWithTheLeastErases(t *testing.T) {
	full := []string{"a", "b", "c", "d"}
	for _, c := range []struct {
		what string
		n    impl.Nand
		want int64
	}{
		{"the only one", chipOf(good(impl.MaxTime)), 0},
		{"the first one", chipOf(good(1), good(2), good(3)), 0},
		{"a middle one", chipOf(good(2), good(1), good(3)), 1},
		{"the last one", chipOf(good(3), good(2), good(1)), 2},
		{"the first of several", chipOf(good(4), good(1), good(1), good(1)), 1},
		{"the first of all", chipOf(good(6), good(6), good(6)), 0},
		{"not a full one", chipOf(good(0, full...), good(8), good(7)), 2},
		{"not a bad one", chipOf(bad(0), good(8), good(7), bad(1, "a")), 2},
		{"with the greatest Erases", chipOf(good(0, full...), bad(0), good(impl.MaxTime)), 2},
		{"with the greatest and the least Erases", chipOf(good(impl.MaxTime), good(0)), 1},
		{"none", chipOf(good(0, full...), bad(0), bad(0, "a")), -1},
	} {
		if got := impl.NextBlock(c.n, 0); got != c.want {
			t.Errorf("%s: NextBlock = %d, want %d", c.what, got, c.want)
		}
		wantLog(t, c.n)
	}
}

// withFree returns a chip with that many free blocks, and full and bad ones between them.
func withFree(free int64) impl.Nand {
	n := impl.NandNew(impl.MaxBlocks)
	for block := free; block < impl.MaxBlocks; block++ {
		// 5 and MaxBlocks have no common divisor, so that the other blocks are spread over the chip.
		at := 5 * block % impl.MaxBlocks
		n.Blocks[at] = good(0, "a", "b", "c", "d")
		if block%2 == 0 {
			n.Blocks[at] = bad(0)
		}
	}
	return n
}

func TestReserves(t *testing.T) {
	r := write(1, 0, 0, "x")
	for free := int64(0); free <= impl.MaxBlocks; free++ {
		n := withFree(free)
		if got := impl.FreeBlocks(n); got != free {
			t.Fatalf("%d blocks are free, want %d", got, free)
		}
		for _, reserve := range reserves() {
			got := impl.NextBlock(n, reserve)
			out := appendRec(t, n, r, reserve)
			switch {
			case reserve < 0 || reserve > impl.MaxBlocks:
				wantCode(t, "not in 0..MaxBlocks", out, impl.ErrForm)
				wantList(t, "NextBlock", []int64{got}, []int64{-1})
			case reserve >= free:
				wantCode(t, "as many as are free, or more", out, impl.ErrFull)
				wantList(t, "NextBlock", []int64{got}, []int64{-1})
			default:
				wantOut(t, "less than are free", out, impl.NandOut{Nand: programmed(n, refNext(n, 0), encoded(r))})
				wantList(t, "NextBlock", []int64{got}, []int64{refNext(n, 0)})
			}
		}
		wantLog(t, n)
	}
}

func TestAppendLeavesTheReserveFree(t *testing.T) {
	for blocks := int64(1); blocks <= impl.MaxBlocks; blocks++ {
		for reserve := int64(0); reserve <= impl.MaxBlocks; reserve++ {
			n := impl.NandNew(blocks)
			written := int64(0)
			for {
				out := appendRec(t, n, write(written+1, written, 0, ""), reserve)
				if out.Code != impl.OK {
					wantCode(t, "no room", out, impl.ErrFull)
					break
				}
				n = out.Nand
				written++
			}
			if want := max(0, blocks-reserve) * impl.PageCount; written != want {
				t.Errorf("%d records were written to %d blocks with reserve %d, want %d", written, blocks, reserve, want)
			}
			if got := impl.FreeBlocks(n); got != min(blocks, reserve) {
				t.Errorf("%d of %d blocks are free with reserve %d", got, blocks, reserve)
			}
		}
	}
}

// Invalid arguments, and the order of errors.

func TestLogOfInvalidChips(t *testing.T) {
	valid := write(1, 0, 0, "x")
	for name, n := range invalidChips() {
		before := chipCopy(n)
		wantHistOut(t, name, impl.Mount(n), impl.HistOut{Code: impl.ErrForm})
		for _, seq := range []int64{-1, 0, 1, 5, impl.MaxTime} {
			wantList(t, name+": Places", impl.Places(n, seq), nil)
		}
		if got := impl.OpenBlock(n); got != -1 {
			t.Errorf("%s: OpenBlock = %d", name, got)
		}
		for _, reserve := range reserves() {
			if got := impl.NextBlock(n, reserve); got != -1 {
				t.Errorf("%s: NextBlock with reserve %d = %d", name, reserve, got)
			}
			wantCode(t, name, impl.Append(n, valid, reserve), impl.ErrForm)
			wantCode(t, name, impl.Append(n, impl.Rec{}, reserve), impl.ErrForm)
		}
		for _, size := range []int{0, 1, impl.PageSize, impl.PageSize + 1, impl.MaxBytes} {
			wantCode(t, name, impl.Torn(n, pattern(size)), impl.ErrForm)
		}
		wantCode(t, name, impl.Torn(n, pattern(impl.MaxBytes+1)), impl.ErrSize)
		if !sameChip(n, before) {
			t.Errorf("%s: the argument was changed", name)
		}
	}
}

// A chip with records that are found, an open block and free ones, but invalid for one page or block.
func TestLogOfChipsThatAreAlmostValid(t *testing.T) {
	sample := func() impl.Nand {
		return chipOf(good(0, encodedAll(numbered(4).Recs...)...), good(0, encodedAll(numbered(6).Recs[4:]...)...), good(0), good(0))
	}
	wantLog(t, sample())
	for what, change := range map[string]func(n *impl.Nand){
		"negative Erases":            func(n *impl.Nand) { n.Blocks[3].Erases = -1 },
		"Erases above the most":      func(n *impl.Nand) { n.Blocks[0].Erases = impl.MaxTime + 1 },
		"a page too many":            func(n *impl.Nand) { n.Blocks[2].Pages = append(n.Blocks[2].Pages, impl.Page{}) },
		"a page too few":             func(n *impl.Nand) { n.Blocks[2].Pages = n.Blocks[2].Pages[1:] },
		"an unused page with Data":   func(n *impl.Nand) { n.Blocks[1].Pages[3].Data = "x" },
		"a used page behind others":  func(n *impl.Nand) { n.Blocks[1].Pages[3].Used = true },
		"an unused first page":       func(n *impl.Nand) { n.Blocks[0].Pages[0] = impl.Page{} },
		"Data above the most":        func(n *impl.Nand) { n.Blocks[0].Pages[2].Data = pattern(impl.PageSize + 1) },
		"a bad block without pages":  func(n *impl.Nand) { n.Blocks[3] = impl.Block{Bad: true} },
		"more blocks than there are": func(n *impl.Nand) { n.Blocks = slices.Repeat(n.Blocks, 4) },
	} {
		n := sample()
		change(&n)
		wantHistOut(t, what, impl.Mount(n), impl.HistOut{Code: impl.ErrForm})
		wantList(t, what+": Places", impl.Places(n, 1), nil)
		wantList(t, what, []int64{impl.OpenBlock(n), impl.NextBlock(n, 0)}, []int64{-1, -1})
		wantCode(t, what, impl.Append(n, write(7, 6, 0, "x"), 0), impl.ErrForm)
		wantCode(t, what, impl.Torn(n, "x"), impl.ErrForm)
	}
}

// fullChip has no room at all.
func fullChip() impl.Nand {
	return chipOf(good(0, encodedAll(numbered(4).Recs...)...), bad(0), bad(0, "a"), good(0, "", "", "", ""))
}

func TestAppendOfInvalidRecords(t *testing.T) {
	for _, r := range []impl.Rec{
		{},
		{Seq: 7, Time: 9},
		{Kind: 5, Seq: 7, Time: 9},
		{Kind: -1, Seq: 7, Time: 9},
		write(0, 9, 0, ""),
		write(-1, 9, 0, ""),
		write(impl.MaxTime+1, 9, 0, ""),
		write(7, -1, 0, ""),
		write(7, impl.MaxTime+1, 0, ""),
		write(7, 9, -1, ""),
		write(7, 9, impl.MaxSectors, ""),
		write(7, 9, 0, pattern(impl.MaxData+1)),
		write(7, 9, 0, pattern(impl.PageSize+1)),
		// The Data is the field of a struct, for which there is no size limit.
		write(7, 9, 0, pattern(impl.MaxBytes+1)),
		roll(7, 9, 10),
		roll(7, 9, -1),
		floor(7, 9, 10),
		{Kind: impl.RcWrite, Seq: 7, Time: 9, To: 1},
		{Kind: impl.RcTrim, Seq: 7, Time: 9, Data: "x"},
		{Kind: impl.RcRoll, Sector: 1, Seq: 7, Time: 9},
		{Kind: impl.RcFloor, Seq: 7, Time: 9, Data: "x"},
	} {
		wantCode(t, "a new chip", appendRec(t, impl.NandNew(2), r, 0), impl.ErrForm)
		wantCode(t, "an open block", appendRec(t, chipOf(good(0, "a")), r, 0), impl.ErrForm)
		wantCode(t, "a full chip", appendRec(t, fullChip(), r, 0), impl.ErrForm)
		wantCode(t, "a reserve that leaves nothing", appendRec(t, impl.NandNew(2), r, 2), impl.ErrForm)
		wantCode(t, "a reserve out of range", appendRec(t, impl.NandNew(2), r, -1), impl.ErrForm)
	}
}

func TestOrderOfErrorsOfAppend(t *testing.T) {
	r := write(7, 9, 0, "x")
	wantCode(t, "a full chip", appendRec(t, fullChip(), r, 0), impl.ErrFull)
	wantCode(t, "a full chip and the greatest reserve", appendRec(t, fullChip(), r, impl.MaxBlocks), impl.ErrFull)
	for _, reserve := range []int64{math.MinInt64, -1, impl.MaxBlocks + 1, math.MaxInt64} {
		wantCode(t, "a full chip and a reserve out of range", appendRec(t, fullChip(), r, reserve), impl.ErrForm)
		wantCode(t, "a new chip and a reserve out of range", appendRec(t, impl.NandNew(impl.MaxBlocks), r, reserve), impl.ErrForm)
	}
	wantCode(t, "a chip with bad blocks only", appendRec(t, chipOf(bad(0), bad(0, "a")), r, 0), impl.ErrFull)
}

func TestOrderOfErrorsOfMount(t *testing.T) {
	texts := encodedAll(write(1, 5, 0, "a"), write(2, 4, 0, "b"))
	wantHistOut(t, "no history", impl.Mount(chipOf(good(0, texts...))), impl.HistOut{Code: impl.ErrState})
	wantHistOut(t, "no history on an invalid chip", impl.Mount(chipOf(good(-1, texts...))), impl.HistOut{Code: impl.ErrForm})
	wantHistOut(t, "no history on too many blocks", impl.Mount(chipOf(slices.Repeat([]impl.Block{good(0, texts...)}, impl.MaxBlocks+1)...)), impl.HistOut{Code: impl.ErrForm})
}

func TestLengthsOfTornData(t *testing.T) {
	for _, c := range []struct {
		size       int
		free, full int64
	}{
		{0, impl.OK, impl.ErrFull},
		{1, impl.OK, impl.ErrFull},
		{impl.PageSize - 1, impl.OK, impl.ErrFull},
		{impl.PageSize, impl.OK, impl.ErrFull},
		{impl.PageSize + 1, impl.ErrForm, impl.ErrForm},
		// Half of it would fit a page.
		{2 * impl.PageSize, impl.ErrForm, impl.ErrForm},
		{impl.MaxBytes, impl.ErrForm, impl.ErrForm},
		{impl.MaxBytes + 1, impl.ErrSize, impl.ErrSize},
	} {
		data := pattern(c.size)
		wantCode(t, "a full chip", torn(t, fullChip(), data), c.full)
		out := torn(t, impl.NandNew(1), data)
		if c.free != impl.OK {
			wantCode(t, "a new chip", out, c.free)
			continue
		}
		wantOut(t, "a new chip", out, impl.NandOut{Nand: chipOf(good(0, data[:c.size/2]))})
	}
}

// Torn has no reserve: it writes to the last free block.
func TestTornWritesToTheLastFreeBlock(t *testing.T) {
	n := chipOf(good(0, "a", "b", "c", "d"), good(5))
	wantOut(t, "Torn", torn(t, n, "xyz"), impl.NandOut{Nand: programmed(n, 1, "x")})
	wantCode(t, "Append with reserve 1", appendRec(t, n, write(1, 0, 0, ""), 1), impl.ErrFull)
}

// Memory.

// loggedChip has records, some of them several times, an open and a free block.
func loggedChip() impl.Nand {
	texts := encodedAll(numbered(6).Recs...)
	return chipOf(good(3, texts[2], texts[0], texts[0], "junk"), bad(1, texts[3], texts[0]), good(2, texts[1], texts[5]), good(4))
}

// spoilChip changes everything of a chip, also behind its slices.
func spoilChip(n impl.Nand) {
	for block := range n.Blocks {
		spoil(n.Blocks[block].Pages, impl.Page{Used: true, Data: "wrong"})
	}
	spoil(n.Blocks, impl.Block{Erases: 99, Bad: true})
}

// wantOwnMemory requires that a call succeeds, and that its result shares no memory with its argument or with another result.
func wantOwnMemory(t *testing.T, what string, sample func() impl.Nand, call func(impl.Nand) impl.NandOut) {
	t.Helper()
	n := sample()
	first, second := do(t, n, call), do(t, n, call)
	if first.Code != impl.OK {
		t.Fatalf("%s returns the code %d", what, first.Code)
	}
	want := chipCopy(second.Nand)
	wantSeparate(t, what, first.Nand)
	spoilChip(first.Nand)
	if !sameChip(n, sample()) || !sameChip(second.Nand, want) {
		t.Errorf("%s: a change of a result changed something else", what)
	}
	spoilChip(n)
	if !sameChip(second.Nand, want) {
		t.Errorf("%s: a change of the argument changed the result", what)
	}
}

// wantRepeatable requires that the same calls always return the same.
func wantRepeatable(t *testing.T, answers func() []any) {
	t.Helper()
	first := answers()
	for range 5 {
		if again := answers(); !reflect.DeepEqual(first, again) {
			t.Fatalf("the same calls return\n%+v and\n%+v", first, again)
		}
	}
}

func TestChipsOfTheLogShareNoMemory(t *testing.T) {
	wantOwnMemory(t, "Append", loggedChip, func(n impl.Nand) impl.NandOut { return impl.Append(n, write(7, 6, 0, "x"), 0) })
	wantOwnMemory(t, "Torn", loggedChip, func(n impl.Nand) impl.NandOut { return impl.Torn(n, "abc") })
}

func TestMountedHistoriesShareNoMemory(t *testing.T) {
	n := loggedChip()
	first, second := impl.Mount(n).Hist, impl.Mount(n).Hist
	want := histCopy(second)
	if len(want.Recs) != 5 {
		t.Fatalf("mounted: %+v", want)
	}
	spoil(first.Recs, write(99, 99, 5, "wrong"))
	if !sameHist(second, want) || !sameChip(n, loggedChip()) {
		t.Error("a change of a history changed something else")
	}
	for block := range n.Blocks {
		spoil(n.Blocks[block].Pages, impl.Page{Used: true, Data: "later"})
	}
	if !sameHist(second, want) {
		t.Error("a change of the chip changed its history")
	}
}

func TestListsOfPlacesShareNoMemory(t *testing.T) {
	n := loggedChip()
	want := []int64{1, 2, 5}
	first, second := impl.Places(n, 1), impl.Places(n, 1)
	wantList(t, "Places", first, want)
	spoil(first, -7)
	wantList(t, "another result", second, want)
	wantList(t, "Places again", impl.Places(n, 1), want)
	wantList(t, "Places of another Seq", impl.Places(n, 2), []int64{8})
	if !sameChip(n, loggedChip()) {
		t.Error("a change of a result changed the argument")
	}
}

func TestArgumentsOfTheLogAreLeftAsTheyWere(t *testing.T) {
	// The slices have room behind them, which is not to be used.
	pages := append(usedPages(encoded(write(1, 0, 0, "a"))), impl.Page{Data: "behind"})
	blocks := append(make([]impl.Block, 0, 4), impl.Block{Pages: pages[:impl.PageCount]}, good(0), bad(7, "behind"))
	n := impl.Nand{Blocks: blocks[:2]}
	impl.Mount(n)
	impl.Places(n, 1)
	impl.OpenBlock(n)
	impl.NextBlock(n, 0)
	impl.Append(n, write(2, 0, 0, "b"), 0)
	impl.Torn(n, "abc")
	if !sameChip(n, chipOf(good(0, encoded(write(1, 0, 0, "a"))), good(0))) {
		t.Errorf("the argument was changed: %#v", n)
	}
	if pages[impl.PageCount].Data != "behind" || blocks[2].Erases != 7 || blocks[2].Pages[0].Data != "behind" {
		t.Error("memory behind the argument was changed")
	}
}

// Two logs that continue a common one are both right.
func TestTwoContinuationsOfOneChip(t *testing.T) {
	n := impl.NandNew(3)
	for i := int64(1); i <= 3*impl.PageCount; i++ {
		left := appendRec(t, n, write(i, i, 0, "left"), 0).Nand
		right := appendRec(t, n, write(i, i, 0, "right"), 0).Nand
		for data, chip := range map[string]impl.Nand{"left": left, "right": right} {
			wantValue(t, data, impl.AsOf(impl.Mount(chip).Hist, 0, i), there(data))
		}
		n = left
	}
}

func TestCallsOfTheLogAreRepeatable(t *testing.T) {
	random := rand.New(rand.NewSource(17))
	for range 100 {
		n := randomChip(random)
		wantRepeatable(t, func() []any {
			return []any{impl.Mount(n), impl.Places(n, 1), impl.NextBlock(n, 1), impl.Append(n, write(1, 0, 0, ""), 1), impl.Torn(n, "abc")}
		})
	}
}
