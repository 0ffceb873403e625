package tests

import (
	"fmt"
	"math"
	"math/rand"
	"slices"
	"testing"

	"loop.example/g00637/impl"
)

// appendLuck calls AppendLuck and requires that it leaves its arguments as they were.
func appendLuck(t *testing.T, n impl.Nand, r impl.Rec, reserve int64, luck []int64) impl.LuckOut {
	t.Helper()
	chip, given := chipCopy(n), slices.Clone(luck)
	out := impl.AppendLuck(n, r, reserve, luck)
	if !sameChip(n, chip) || !slices.Equal(luck, given) {
		t.Errorf("an argument was changed: %#v, %v\nfrom %#v, %v", n, luck, chip, given)
	}
	return out
}

func rescue(t *testing.T, n impl.Nand) impl.NandOut {
	t.Helper()
	return do(t, n, impl.Rescue)
}

// wantLuckOut compares all of a result: code, Used and every page of the chip.
func wantLuckOut(t *testing.T, what string, got, want impl.LuckOut) {
	t.Helper()
	if got.Code != want.Code || got.Used != want.Used || !sameChip(got.Nand, want.Nand) {
		t.Errorf("%s:\ngot  %#v\nwant %#v", what, got, want)
	}
}

// wantLuckCode requires the code, and zero values beside it.
func wantLuckCode(t *testing.T, what string, got impl.LuckOut, code int64) {
	t.Helper()
	wantLuckOut(t, what, got, impl.LuckOut{Code: code})
}

// The reference, by the definitions of the document, for valid arguments.

// failedPage returns a chip on which a page of a block failed while a text was written.
func failedPage(n impl.Nand, block int64, text string) impl.Nand {
	next := programmed(n, block, text[:len(text)/2])
	next.Blocks[block].Bad = true
	return next
}

func refLuck(n impl.Nand, r impl.Rec, reserve int64, luck []int64) impl.LuckOut {
	out := impl.LuckOut{Nand: chipCopy(n)}
	for {
		block := refNext(out.Nand, reserve)
		if block < 0 {
			out.Code = impl.ErrFull
			return out
		}
		page := out.Used
		out.Used++
		if page >= int64(len(luck)) || luck[page] <= 0 {
			out.Nand = programmed(out.Nand, block, encoded(r))
			return out
		}
		out.Nand = failedPage(out.Nand, block, encoded(r))
	}
}

func refBad(n impl.Nand) []int64 {
	var blocks []int64
	for block, b := range n.Blocks {
		if b.Bad {
			blocks = append(blocks, int64(block))
		}
	}
	return blocks
}

// refStranded returns the records that are to be kept, without those that have a page in a good block.
func refStranded(n impl.Nand) []impl.Rec {
	safe := map[int64]bool{}
	for _, l := range refLog(n) {
		if !n.Blocks[l.place/4].Bad {
			safe[l.rec.Seq] = true
		}
	}
	kept := refPrune(refMount(n).Hist.Recs).Recs
	return slices.DeleteFunc(kept, func(r impl.Rec) bool { return safe[r.Seq] })
}

func seqsOf(recs []impl.Rec) []int64 {
	var seqs []int64
	for _, r := range recs {
		seqs = append(seqs, r.Seq)
	}
	return seqs
}

func refRescue(n impl.Nand) impl.NandOut {
	if code := refMount(n).Code; code != impl.OK {
		return impl.NandOut{Code: code}
	}
	next := chipCopy(n)
	for _, r := range refStranded(n) {
		block := refNext(next, 0)
		if block < 0 {
			return impl.NandOut{Code: impl.ErrFull}
		}
		next = programmed(next, block, encoded(r))
	}
	return impl.NandOut{Nand: next}
}

// wantBad compares the answers of a valid chip with the reference, those of AppendLuck apart.
func wantBad(t *testing.T, n impl.Nand) {
	t.Helper()
	before := chipCopy(n)
	wantList(t, "BadBlocks", impl.BadBlocks(n), refBad(n))
	wantList(t, "Stranded", impl.Stranded(n), seqsOf(refStranded(n)))
	wantOut(t, "Rescue", rescue(t, n), refRescue(n))
	if !sameChip(n, before) {
		t.Error("the argument was changed")
	}
	if t.Failed() {
		t.Fatalf("of the chip %#v", before)
	}
}

// Promise 20.

// writtenPages returns what was written to a chip, in order of block and page: what the pages contain that fail, and what the others contain. Nothing else may have changed, and exactly the blocks of the pages that fail have become Bad.
func writtenPages(t *testing.T, after, before impl.Nand) (halves, wholes []string) {
	t.Helper()
	if len(after.Blocks) != len(before.Blocks) {
		t.Fatalf("there were %d blocks and are %d", len(before.Blocks), len(after.Blocks))
	}
	for block, b := range after.Blocks {
		old := before.Blocks[block]
		var added []string
		for page, p := range b.Pages {
			if p == old.Pages[page] {
				continue
			}
			if old.Pages[page].Used || !p.Used || old.Bad {
				t.Errorf("page %d of block %d was changed", page, block)
			}
			added = append(added, p.Data)
		}
		if old.Bad && !b.Bad || b.Erases != old.Erases {
			t.Errorf("block %d was changed", block)
		}
		if b.Bad && !old.Bad {
			if len(added) != 1 {
				t.Errorf("block %d is Bad after %d pages", block, len(added))
			}
			halves = append(halves, added...)
			continue
		}
		wholes = append(wholes, added...)
	}
	return halves, wholes
}

// wantLucky requires promise 20 of a record that is appended with some luck, and returns the result.
func wantLucky(t *testing.T, n impl.Nand, r impl.Rec, reserve int64, luck []int64) impl.LuckOut {
	t.Helper()
	out := appendLuck(t, n, r, reserve, luck)
	halves, wholes := writtenPages(t, out.Nand, n)
	wantLuckOut(t, "AppendLuck", out, refLuck(n, r, reserve, luck))
	text := encoded(r)
	for _, half := range halves {
		if half != text[:len(text)/2] {
			t.Errorf("a page that fails contains %q", half)
		}
	}
	count := []int64{out.Used, int64(len(refBad(out.Nand)))}
	wantList(t, "Used, and the number of Bad blocks", count, []int64{int64(len(halves) + len(wholes)), int64(len(refBad(n)) + len(halves))})
	before := impl.Mount(n)
	switch want := impl.HistAdd(before.Hist, r); out.Code {
	case impl.OK:
		if !slices.Equal(wholes, []string{text}) {
			t.Errorf("the pages that do not fail contain %q", wholes)
		}
		if before.Code == impl.OK && want.Code == impl.OK {
			wantHistOut(t, "Mount with the record", impl.Mount(out.Nand), want)
		}
	case impl.ErrFull:
		if len(wholes) > 0 || refNext(out.Nand, reserve) >= 0 {
			t.Errorf("no room beside %q, and %d is the next block", wholes, refNext(out.Nand, reserve))
		}
		wantHistOut(t, "Mount without the record", impl.Mount(out.Nand), before)
	default:
		t.Errorf("the code is %d", out.Code)
	}
	if t.Failed() {
		t.Fatalf("of the record %+v with reserve %d and luck %v on the chip %#v", r, reserve, luck, n)
	}
	return out
}

// wantRescued requires promise 20 of a chip with a history that is rescued, and returns the code and how many records were written.
func wantRescued(t *testing.T, n impl.Nand) (int64, int) {
	t.Helper()
	wantBad(t, n)
	stranded := refStranded(n)
	out := rescue(t, n)
	if out.Code != impl.OK {
		wantCode(t, "Rescue", out, impl.ErrFull)
		return out.Code, len(stranded)
	}
	wantList(t, "Stranded afterwards", impl.Stranded(out.Nand), nil)
	wantSameContents(t, "Rescue", out.Nand, n)
	wantEveryTimeOfFew(t, "Rescue", out.Nand, n)
	wantHistOut(t, "Mount", impl.Mount(out.Nand), impl.Mount(n))
	halves, wholes := writtenPages(t, out.Nand, n)
	want := encodedAll(stranded...)
	slices.Sort(wholes)
	slices.Sort(want)
	if len(halves) > 0 || !slices.Equal(wholes, want) {
		t.Errorf("written are\n%q and\n%q, wanted\n%q", halves, wholes, want)
	}
	for _, r := range stranded {
		places := impl.Places(out.Nand, r.Seq)
		if !slices.ContainsFunc(places, func(place int64) bool { return !out.Nand.Blocks[place/impl.PageCount].Bad }) {
			t.Errorf("the record %d is only in %v", r.Seq, places)
		}
	}
	wantOut(t, "Rescue again", rescue(t, out.Nand), out)
	if t.Failed() {
		t.Fatalf("of the chip %#v", n)
	}
	return impl.OK, len(stranded)
}

// lucks are all patterns of failing pages of one length. Which positive number, and which other one, is of no importance.
func lucks(random *rand.Rand, length int) [][]int64 {
	fails := []int64{1, 2, 7, impl.MaxTime, 1 << 32, math.MaxInt64}
	others := []int64{0, 0, -1, -7, -1 << 32, math.MinInt64}
	all := make([][]int64, 1<<length)
	for code := range all {
		for i := range length {
			from := others
			if code>>i&1 == 1 {
				from = fails
			}
			all[code] = append(all[code], from[random.Intn(len(from))])
		}
	}
	return all
}

// followingRec returns a record that can follow the history of a chip.
func followingRec(random *rand.Rand, n impl.Nand) impl.Rec {
	h := impl.Mount(n).Hist
	return histPlan{step: 3, gap: 2, sectors: impl.MaxSectors, rolls: 2, floors: 3}.next(random, h)
}

// writable returns the number of blocks of a chip to which a page can be written.
func writable(n impl.Nand) int {
	count := 0
	for _, b := range n.Blocks {
		if !b.Bad && refUsed(b) < impl.PageCount {
			count++
		}
	}
	return count
}

// wantAllLucks requires promise 20 for every pattern of failing pages up to a length that covers the chip.
func wantAllLucks(t *testing.T, random *rand.Rand, n impl.Nand, codes map[int64]int) {
	t.Helper()
	r := followingRec(random, n)
	rescued := map[int64]bool{}
	for length := range writable(n) + 2 {
		for _, luck := range lucks(random, length) {
			reserve := random.Int63n(3)
			out := wantLucky(t, n, r, reserve, luck)
			codes[out.Code]++
			// Chips after as many pages are much the same.
			if !rescued[10*out.Used+reserve] {
				rescued[10*out.Used+reserve] = true
				wantRescued(t, out.Nand)
			}
		}
	}
}

func TestEveryPatternOfFailingPages(t *testing.T) {
	random := rand.New(rand.NewSource(61))
	codes := map[int64]int{}
	for blocks := int64(1); blocks <= 6; blocks++ {
		wantAllLucks(t, random, impl.NandNew(blocks), codes)
	}
	plans := gcPlans()
	for i := range 150 {
		n := agreeingChip(random, plans[i%len(plans)])
		if i%2 == 0 {
			n = orderedChip(random, plans[i%len(plans)])
		}
		// More free blocks than these are covered by the test of the largest chip.
		if last := impl.Mount(n).Hist; impl.LastTime(last) < impl.MaxTime-9 && writable(n) <= 6 {
			wantAllLucks(t, random, n, codes)
		}
	}
	if codes[impl.OK] < 2000 || codes[impl.ErrFull] < 200 {
		t.Errorf("the codes were %v", codes)
	}
}

func TestEveryNumberOfFailingPagesOfTheLargestChip(t *testing.T) {
	random := rand.New(rand.NewSource(62))
	n := impl.NandNew(impl.MaxBlocks)
	for _, r := range numbered(6).Recs {
		n = appendRec(t, n, r, 0).Nand
	}
	r := write(9, 9, 0, "a")
	for reserve := range int64(impl.MaxBlocks + 1) {
		for fails := range impl.MaxBlocks + 2 {
			luck := slices.Repeat([]int64{1}, fails)
			wantLucky(t, n, r, reserve, luck)
			wantLucky(t, n, r, reserve, append(luck, 0))
			wantLucky(t, n, r, reserve, append(luck, -1, random.Int63n(2), random.Int63n(2), 1))
			out := wantLucky(t, n, r, reserve, append(luck, make([]int64, 20)...))
			wantRescued(t, out.Nand)
		}
	}
}

// badly lets the pages of a chip at work fail: it appends a record with some luck, and reports whether it was written.
func (l *life) badly(t *testing.T, random *rand.Rand, reserve int64) bool {
	t.Helper()
	luck := make([]int64, random.Intn(5))
	for i := range luck {
		luck[i] = random.Int63n(5) - 2
	}
	// Otherwise no block is left after a few records.
	if random.Intn(6) > 0 {
		luck = nil
	}
	r := l.next(random)
	out := wantLucky(t, l.n, r, reserve, luck)
	l.n = out.Nand
	if out.Code != impl.OK {
		return false
	}
	l.all = append(l.all, r)
	l.wantAll(t)
	return true
}

func TestChipsAtWorkWithFailingPagesLoseNothing(t *testing.T) {
	random := rand.New(rand.NewSource(63))
	written, refused := 0, 0
	rescues := map[int64]int{}
	sizes := map[int]int{}
	for range 40 {
		l := life{n: impl.NandNew(4 + random.Int63n(9))}
		for range 50 {
			if l.badly(t, random, random.Int63n(2)) {
				written++
			} else {
				refused++
			}
			if len(l.all) == 0 {
				continue
			}
			l.collect(t, random.Int63n(6))
			if random.Intn(2) == 0 {
				code, size := wantRescued(t, l.n)
				rescues[code]++
				if code == impl.OK {
					l.n = rescue(t, l.n).Nand
					l.wantAll(t)
					sizes[size]++
				}
			}
		}
	}
	if written < 800 || refused < 200 || rescues[impl.OK] < 400 || rescues[impl.ErrFull] < 20 {
		t.Errorf("%d records were written and %d not; the codes of Rescue were %v", written, refused, rescues)
	}
	for size := range 4 {
		if sizes[size] < 10 {
			t.Errorf("the numbers of rescued records were %v", sizes)
		}
	}
}

// What was rescued is found without the bad blocks, even if nothing can be read from these any more.
func TestNothingButRescuedRecordsIsNeededOfBadBlocks(t *testing.T) {
	random := rand.New(rand.NewSource(64))
	count := 0
	for _, plan := range gcPlans() {
		for range 20 {
			n := agreeingChip(random, plan)
			out := rescue(t, n)
			if out.Code != impl.OK {
				continue
			}
			if len(refStranded(n)) > 0 {
				count++
			}
			lost := chipCopy(out.Nand)
			for _, block := range refBad(lost) {
				lost.Blocks[block] = bad(0)
			}
			wantSameContents(t, "without the bad blocks", lost, n)
		}
	}
	if count < 50 {
		t.Errorf("%d chips had records to rescue", count)
	}
}

func TestExampleOfFailingPages(t *testing.T) {
	n := impl.NandNew(3)
	r := write(1, 1, 1, "a")
	half := encoded(r)[:len(encoded(r))/2]
	out := wantLucky(t, n, r, 0, []int64{1, 0})
	wantLuckOut(t, "luck 1, 0", out, impl.LuckOut{Nand: chipOf(bad(0, half), good(0, encoded(r)), good(0)), Used: 2})
	out = wantLucky(t, n, r, 0, []int64{1, 1, 1})
	wantLuckOut(t, "luck 1, 1, 1", out, impl.LuckOut{Nand: chipOf(bad(0, half), bad(0, half), bad(0, half)), Used: 3, Code: impl.ErrFull})
}

// AppendLuck.

func TestManyChipsAreWrittenWithLuckAsDocumented(t *testing.T) {
	random := rand.New(rand.NewSource(65))
	codes := map[int64]int{}
	failures := 0
	for range 1000 {
		n := randomChip(random)
		reserve := random.Int63n(4)
		luck := make([]int64, random.Intn(8))
		for i := range luck {
			luck[i] = random.Int63n(6) - 1
		}
		r := nextOf(random, n)
		if out := impl.Mount(n); out.Code == impl.OK && impl.HistAdd(out.Hist, r).Code == impl.OK {
			codes[wantLucky(t, n, r, reserve, luck).Code]++
		}
		out := appendLuck(t, n, r, reserve, luck)
		wantLuckOut(t, "AppendLuck", out, refLuck(n, r, reserve, luck))
		if out.Used > 1 {
			failures++
		}
		wantBad(t, n)
		wantBad(t, out.Nand)
	}
	if codes[impl.OK] < 200 || codes[impl.ErrFull] < 100 || failures < 200 {
		t.Errorf("the codes were %v, and pages failed of %d records", codes, failures)
	}
}

// Without failing pages, a record is written as Append does.
func TestWithoutFailingPagesLuckIsAppend(t *testing.T) {
	random := rand.New(rand.NewSource(66))
	for range 200 {
		n := randomChip(random)
		r := nextOf(random, n)
		for reserve := range int64(impl.MaxBlocks + 1) {
			plain := impl.Append(n, r, reserve)
			for _, luck := range [][]int64{nil, {}, {0}, {-1}, {math.MinInt64}, {0, 1}, {-5, 1, 1}, make([]int64, impl.MaxList)} {
				want := impl.LuckOut{Nand: plain.Nand, Used: 1}
				if plain.Code != impl.OK {
					want = impl.LuckOut{Nand: n, Code: plain.Code}
				}
				wantLuckOut(t, "AppendLuck", appendLuck(t, n, r, reserve, luck), want)
			}
		}
	}
}

func TestElementsOfLuck(t *testing.T) {
	n := chipOf(good(0), good(0))
	r := trim(1, 0, 0)
	half := encoded(r)[:len(encoded(r))/2]
	for _, element := range []int64{math.MinInt64, -1 << 32, -impl.MaxTime, -2, -1, 0} {
		for _, luck := range [][]int64{{element}, {element, 1}, {element, element, element}} {
			wantLuckOut(t, fmt.Sprint(luck), wantLucky(t, n, r, 0, luck), impl.LuckOut{Nand: chipOf(good(0, encoded(r)), good(0)), Used: 1})
		}
		wantLuckOut(t, fmt.Sprint("1 and ", element), wantLucky(t, n, r, 0, []int64{1, element, 1}), impl.LuckOut{Nand: chipOf(bad(0, half), good(0, encoded(r))), Used: 2})
	}
	for _, element := range []int64{1, 2, impl.MaxTime, 1 << 32, 1<<32 - 1, 1 << 62, math.MaxInt64} {
		for _, luck := range [][]int64{{element}, {element, 0}, {element, -1, element}} {
			wantLuckOut(t, fmt.Sprint(luck), wantLucky(t, n, r, 0, luck), impl.LuckOut{Nand: chipOf(bad(0, half), good(0, encoded(r))), Used: 2})
		}
		for _, luck := range [][]int64{{element, element}, {element, 1, 0}, {1, element, 1, 1}} {
			wantLuckOut(t, fmt.Sprint(luck), wantLucky(t, n, r, 0, luck), impl.LuckOut{Nand: chipOf(bad(0, half), bad(0, half)), Used: 2, Code: impl.ErrFull})
		}
	}
}

func TestLengthsOfLuck(t *testing.T) {
	n := impl.NandNew(impl.MaxBlocks)
	r := write(1, 0, 0, "a")
	for length := range impl.MaxBlocks + 1 {
		luck := slices.Repeat([]int64{1}, length)
		out := wantLucky(t, n, r, 0, luck)
		wantCodes := []int64{impl.OK, int64(length) + 1}
		if length == impl.MaxBlocks {
			wantCodes = []int64{impl.ErrFull, impl.MaxBlocks}
		}
		wantList(t, "Code and Used", []int64{out.Code, out.Used}, wantCodes)
	}
	most := slices.Repeat([]int64{1}, impl.MaxList)
	wantList(t, "Used with the longest luck", []int64{wantLucky(t, n, r, 0, most).Used}, []int64{impl.MaxBlocks})
	// The size limit comes before everything else.
	for _, element := range []int64{-1, 0, 1} {
		long := slices.Repeat([]int64{element}, impl.MaxList+1)
		for _, luck := range [][]int64{long, append(long, long...)} {
			wantLuckCode(t, "too long", appendLuck(t, n, r, 0, luck), impl.ErrSize)
			wantLuckCode(t, "too long, invalid chip", appendLuck(t, impl.Nand{}, r, 0, luck), impl.ErrSize)
			wantLuckCode(t, "too long, invalid record", appendLuck(t, n, impl.Rec{}, 0, luck), impl.ErrSize)
			wantLuckCode(t, "too long, invalid reserve", appendLuck(t, n, r, -1, luck), impl.ErrSize)
			wantLuckCode(t, "too long, no room", appendLuck(t, fullChip(), r, 0, luck), impl.ErrSize)
		}
	}
}

func TestPagesThatFailInChosenBlocks(t *testing.T) {
	w := encodedAll(numbered(9).Recs...)
	r := write(20, 20, 2, "some data")
	text := encoded(r)
	// full, open with three and with one unused page, bad, and free with more and with less Erases.
	n := chipOf(good(0, w[:4]...), good(1, w[4]), good(0, w[5], w[6], w[7]), bad(0, w[8]), good(3), good(2), good(3))
	steps := []impl.Nand{n}
	for _, block := range []int64{1, 2, 5, 4, 6} {
		last := steps[len(steps)-1]
		wantList(t, "NextBlock", []int64{impl.NextBlock(last, 0)}, []int64{block})
		steps = append(steps, failedPage(last, block, text))
	}
	for fails, chip := range steps {
		luck := slices.Repeat([]int64{1}, fails)
		what := fmt.Sprint(fails, " pages that fail")
		want := impl.LuckOut{Nand: chip, Used: int64(fails), Code: impl.ErrFull}
		if block := impl.NextBlock(chip, 0); block >= 0 {
			want = impl.LuckOut{Nand: programmed(chip, block, text), Used: int64(fails) + 1}
		}
		wantLuckOut(t, what, wantLucky(t, n, r, 0, luck), want)
	}
	wantList(t, "BadBlocks in the end", impl.BadBlocks(steps[5]), []int64{1, 2, 3, 4, 5, 6})
	// The records that were in the open blocks are now only in bad ones.
	wantList(t, "Stranded in the end", impl.Stranded(steps[5]), []int64{5, 6, 7, 8, 9})
	wantList(t, "Stranded at first", impl.Stranded(n), []int64{9})
	wantList(t, "Stranded after one page", impl.Stranded(steps[1]), []int64{5, 9})
}

// A page that fails is not a record, whatever the record is.
func TestFailedPagesAreNoRecords(t *testing.T) {
	greatest := write(impl.MaxTime, impl.MaxTime, impl.MaxSectors-1, pattern(impl.MaxData))
	for _, r := range append(sampleRecs(), write(1, 0, 0, ""), greatest, floor(impl.MaxTime, impl.MaxTime, impl.MaxTime)) {
		text := encoded(r)
		for fails := range 4 {
			out := wantLucky(t, impl.NandNew(4), r, 0, slices.Repeat([]int64{1}, fails))
			want := impl.NandNew(4)
			for block := range fails {
				want.Blocks[block] = bad(0, text[:len(text)/2])
			}
			want.Blocks[fails] = good(0, text)
			wantLuckOut(t, "AppendLuck", out, impl.LuckOut{Nand: want, Used: int64(fails) + 1})
			wantHistOut(t, "Mount", impl.Mount(out.Nand), impl.HistOut{Hist: histOf(r)})
			wantList(t, "Places", impl.Places(out.Nand, r.Seq), []int64{int64(fails) * impl.PageCount})
		}
		out := wantLucky(t, impl.NandNew(4), r, 0, []int64{1, 1, 1, 1})
		wantHistOut(t, "Mount without room", impl.Mount(out.Nand), impl.HistOut{})
	}
}

func TestTheReserveIsKeptWhilePagesFail(t *testing.T) {
	r := write(1, 0, 0, "x")
	many := slices.Repeat([]int64{1}, 2*impl.MaxBlocks)
	for free := range int64(impl.MaxBlocks + 1) {
		for reserve := range int64(impl.MaxBlocks + 1) {
			n := withFree(free)
			out := appendLuck(t, n, r, reserve, many)
			wantLuckOut(t, "AppendLuck", out, refLuck(n, r, reserve, many))
			used := max(0, free-reserve)
			wantList(t, "Code, Used and FreeBlocks", []int64{out.Code, out.Used, impl.FreeBlocks(out.Nand)}, []int64{impl.ErrFull, used, free - used})
			if used == 0 {
				continue
			}
			out = appendLuck(t, n, r, reserve, many[:used-1])
			wantList(t, "Code, Used and FreeBlocks", []int64{out.Code, out.Used, impl.FreeBlocks(out.Nand)}, []int64{impl.OK, used, free - used})
		}
	}
	// An open block is not part of the reserve.
	n := chipOf(good(0, "a"), good(0), good(0, "a", "b"), good(0))
	for reserve, used := range []int64{4, 3, 2, 2, 2} {
		out := appendLuck(t, n, r, int64(reserve), many)
		wantList(t, "Code, Used and FreeBlocks", []int64{out.Code, out.Used, impl.FreeBlocks(out.Nand)}, []int64{impl.ErrFull, used, 4 - used})
	}
}

func TestOrderOfErrorsOfAppendLuck(t *testing.T) {
	r := write(7, 9, 0, "x")
	crowded := fullChip()
	for _, luck := range [][]int64{nil, {0}, {1}, {1, 1, 1, 1, 1}, make([]int64, impl.MaxList)} {
		for name, n := range invalidChips() {
			for _, reserve := range []int64{-1, 0, impl.MaxBlocks, impl.MaxBlocks + 1} {
				wantLuckCode(t, name, appendLuck(t, n, r, reserve, luck), impl.ErrForm)
				wantLuckCode(t, name+", an invalid record", appendLuck(t, n, impl.Rec{}, reserve, luck), impl.ErrForm)
			}
		}
		for name, n := range map[string]impl.Nand{"a full chip": crowded, "a new chip": impl.NandNew(2), "an open block": chipOf(good(0, "a")), "no history": withoutHistory()} {
			for _, invalid := range []impl.Rec{{}, {Kind: 5, Seq: 7, Time: 9}, write(0, 9, 0, ""), write(7, -1, 0, ""), write(7, 9, impl.MaxSectors, ""), write(7, 9, 0, pattern(impl.MaxData+1)), write(7, 9, 0, pattern(impl.MaxBytes+1)), roll(7, 9, 10), {Kind: impl.RcTrim, Seq: 7, Time: 9, Data: "x"}} {
				for _, reserve := range []int64{-1, 0, impl.MaxBlocks} {
					wantLuckCode(t, name+", an invalid record", appendLuck(t, n, invalid, reserve, luck), impl.ErrForm)
				}
			}
			for _, reserve := range []int64{math.MinInt64, -1, impl.MaxBlocks + 1, math.MaxInt64} {
				wantLuckCode(t, name+", an invalid reserve", appendLuck(t, n, r, reserve, luck), impl.ErrForm)
			}
		}
		for _, reserve := range []int64{0, 1, impl.MaxBlocks} {
			wantLuckOut(t, "a full chip", appendLuck(t, crowded, r, reserve, luck), impl.LuckOut{Nand: crowded, Code: impl.ErrFull})
		}
		wantLuckOut(t, "only bad blocks", appendLuck(t, chipOf(bad(0), bad(0, "a")), r, 0, luck), impl.LuckOut{Nand: chipOf(bad(0), bad(0, "a")), Code: impl.ErrFull})
		wantLuckOut(t, "the greatest reserve", appendLuck(t, impl.NandNew(impl.MaxBlocks), r, impl.MaxBlocks, luck), impl.LuckOut{Nand: impl.NandNew(impl.MaxBlocks), Code: impl.ErrFull})
	}
	out := appendLuck(t, impl.NandNew(impl.MaxBlocks), r, impl.MaxBlocks-1, []int64{1})
	wantList(t, "the greatest reserve but one", []int64{out.Code, out.Used, impl.FreeBlocks(out.Nand)}, []int64{impl.ErrFull, 1, impl.MaxBlocks - 1})
}

// As Append, AppendLuck knows nothing of the history.
func TestLuckOfRecordsThatDoNotFollow(t *testing.T) {
	first, second := write(3, 10, 0, "a"), write(7, 20, 1, "b")
	n := chipOf(good(0, encodedAll(first, second)...), good(0))
	for _, r := range []impl.Rec{trim(5, 15, 0), trim(1, 10, 0), second, trim(7, 0, 2), trim(8, 19, 0)} {
		for fails := range 3 {
			luck := slices.Repeat([]int64{1}, fails)
			wantLuckOut(t, "AppendLuck", appendLuck(t, n, r, 0, luck), refLuck(n, r, 0, luck))
		}
	}
	wantLuckOut(t, "no history", appendLuck(t, withoutHistory(), first, 0, []int64{1}), refLuck(withoutHistory(), first, 0, []int64{1}))
}

// BadBlocks.

func TestBadBlocks(t *testing.T) {
	for what, c := range map[string]struct {
		n    impl.Nand
		want []int64
	}{
		"a new chip":            {impl.NandNew(1), nil},
		"the largest new chip":  {impl.NandNew(impl.MaxBlocks), nil},
		"none":                  {chipOf(good(0, "a"), good(impl.MaxTime), good(1, junk(4)...)), nil},
		"the only one":          {chipOf(bad(0)), []int64{0}},
		"the first one":         {chipOf(bad(0), good(0), good(0)), []int64{0}},
		"a middle one":          {chipOf(good(0), bad(0), good(0)), []int64{1}},
		"the last one":          {chipOf(good(0), good(0), bad(0)), []int64{2}},
		"free, open and full":   {chipOf(bad(0), good(0), bad(0, "a"), good(0, "a"), bad(0, junk(4)...)), []int64{0, 2, 4}},
		"by no other order":     {chipOf(bad(5, junk(4)...), bad(9), bad(1, "a"), good(0), bad(0)), []int64{0, 1, 2, 4}},
		"all":                   {chipOf(bad(0), bad(1), bad(2)), []int64{0, 1, 2}},
		"all of the most":       {chipOf(slices.Repeat([]impl.Block{bad(0)}, impl.MaxBlocks)...), []int64{0, 1, 2, 3, 4, 5, 6, 7, 8, 9, 10, 11}},
		"without a history":     {withoutHistory(), []int64{1, 2}},
		"an invalid chip":       {chipOf(bad(0), bad(-1)), nil},
		"a block too many":      {chipOf(slices.Repeat([]impl.Block{bad(0)}, impl.MaxBlocks+1)...), nil},
		"no blocks":             {impl.Nand{}, nil},
		"a bad one of no pages": {chipOf(bad(0), impl.Block{Bad: true}), nil},
	} {
		wantList(t, what, impl.BadBlocks(c.n), c.want)
	}
	// Every set of blocks.
	for set := range 1 << 6 {
		n := impl.NandNew(6)
		var want []int64
		for block := range 6 {
			if set>>block&1 == 1 {
				n = markBad(t, n, int64(block)).Nand
				want = append(want, int64(block))
			}
		}
		wantList(t, "marked blocks", impl.BadBlocks(n), want)
	}
}

// Stranded and Rescue.

func TestStranded(t *testing.T) {
	// Needed are 2 (the contents at the floor), 4 (the floor), 5, 6; 8 is the last one.
	recs := []impl.Rec{write(1, 0, 0, "a"), write(2, 1, 0, "b"), floor(3, 2, 1), floor(4, 5, 4), trim(5, 6, 1), roll(6, 7, 4), floor(7, 7, 2), floor(8, 7, 3)}
	wantList(t, "Needed", impl.Needed(histOf(recs...)), []int64{2, 4, 5, 6})
	w := encodedAll(recs...)
	for what, c := range map[string]struct {
		n    impl.Nand
		want []int64
	}{
		"no bad block":                     {chipOf(good(0, w[:4]...), good(0, w[4:]...)), nil},
		"only bad blocks":                  {chipOf(bad(0, w[:4]...), bad(0, w[4:]...)), []int64{2, 4, 5, 6, 8}},
		"the first block":                  {chipOf(bad(0, w[:4]...), good(0, w[4:]...)), []int64{2, 4}},
		"the second block":                 {chipOf(good(0, w[:4]...), bad(0, w[4:]...)), []int64{5, 6, 8}},
		"against the order":                {chipOf(bad(0, w[7], w[5], w[4], w[3]), bad(0, w[2], w[1]), good(0, w[0], w[6])), []int64{2, 4, 5, 6, 8}},
		"records that are not needed":      {chipOf(bad(0, w[0], w[2], w[6]), good(0, w[1], w[3], w[4]), good(0, w[5], w[7])), nil},
		"the last record":                  {chipOf(good(0, w[:4]...), good(0, w[4:7]...), bad(0, w[7])), []int64{8}},
		"the last one of what is there":    {chipOf(good(0, w[:4]...), bad(0, w[4:7]...)), []int64{5, 6, 7}},
		"a page in a good block behind it": {chipOf(bad(0, w[1], w[3]), good(0, w[0], w[1]), bad(0, w[4:]...)), []int64{4, 5, 6, 8}},
		"a page in a good block before it": {chipOf(good(0, w[3], w[7]), bad(0, w[:4]...), bad(0, w[4:]...)), []int64{2, 5, 6}},
		"a page in one between":            {chipOf(bad(0, w[1], w[7]), good(0, w[1]), bad(0, w[1], w[4], w[5], w[3])), []int64{4, 5, 6, 8}},
		"several pages, all in bad blocks": {chipOf(bad(0, w[1], w[1], w[3]), bad(0, w[1], w[4], w[5]), bad(0, w[7], w[3]), good(0, w[0])), []int64{2, 4, 5, 6, 8}},
		"several pages in one bad block":   {chipOf(bad(0, w[7], w[7], w[7], w[7]), good(0, w[:4]...), good(0, w[4:7]...)), []int64{8}},
		"a good block with half of it":     {chipOf(bad(0, w[7]), good(0, w[7][:9], w[7]+"x")), []int64{8}},
		"a good block with another Seq":    {chipOf(bad(0, w[4]), good(0, encoded(trim(15, 7, 1)))), []int64{5}},
		"one record":                       {chipOf(bad(0, w[2])), []int64{3}},
		"no records":                       {chipOf(bad(0, junk(4)...), bad(0), good(0)), nil},
		"beside pages that are no records": {chipOf(bad(0, "", w[1], "x"), bad(0, w[7][:10], w[7])), []int64{2, 8}},
	} {
		wantList(t, what, impl.Stranded(c.n), c.want)
		wantBad(t, c.n)
		// Free blocks make room for all of them, and change nothing else.
		roomy := chipCopy(c.n)
		roomy.Blocks = append(roomy.Blocks, good(2), good(1))
		wantList(t, what+", with room", impl.Stranded(roomy), c.want)
		if code, _ := wantRescued(t, roomy); code != impl.OK {
			t.Errorf("%s: Rescue returns the code %d", what, code)
		}
	}
}

// A place is one of a record if it has its Seq, and what is mounted is what is written again.
func TestStrandedWithDifferentRecordsOfOneSeq(t *testing.T) {
	a, b, last := write(1, 0, 0, "a"), write(1, 0, 1, "b"), write(2, 1, 2, "c")
	n := chipOf(bad(0, encodedAll(a, last)...), good(0, encodedAll(b)...))
	wantList(t, "another record in a good block", impl.Stranded(n), []int64{2})
	wantRescued(t, n)
	n = chipOf(good(0), bad(0, encodedAll(b, a, last)...), bad(0, encodedAll(a)...))
	wantList(t, "several in bad blocks", impl.Stranded(n), []int64{1, 2})
	wantOut(t, "Rescue", rescue(t, n), impl.NandOut{Nand: chipOf(good(0, encodedAll(b, last)...), n.Blocks[1], n.Blocks[2])})
	wantRescued(t, n)
}

func TestRescue(t *testing.T) {
	w := encodedAll(numbered(12).Recs...)
	half := w[8][:len(w[8])/2]
	for what, c := range map[string]struct{ n, want impl.Nand }{
		"none":                       {chipOf(good(0, w[0]), good(0)), chipOf(good(0, w[0]), good(0))},
		"no records":                 {chipOf(bad(0, "x"), good(0)), chipOf(bad(0, "x"), good(0))},
		"a new chip":                 {impl.NandNew(1), impl.NandNew(1)},
		"none, without room":         {chipOf(good(0, w[:4]...), bad(0, w[1], w[2])), chipOf(good(0, w[:4]...), bad(0, w[1], w[2]))},
		"one":                        {chipOf(bad(0, w[0]), good(0)), chipOf(bad(0, w[0]), good(0, w[0]))},
		"one, to an open block":      {chipOf(bad(0, w[0]), good(0), good(0, w[1])), chipOf(bad(0, w[0]), good(0), good(0, w[1], w[0]))},
		"one, to the least Erases":   {chipOf(bad(0, w[0]), good(2), good(1), good(1)), chipOf(bad(0, w[0]), good(2), good(1, w[0]), good(1))},
		"the last free block":        {chipOf(bad(0, w[0]), good(0, w[1:5]...), good(9)), chipOf(bad(0, w[0]), good(0, w[1:5]...), good(9, w[0]))},
		"several, in order":          {chipOf(bad(0, w[4], w[2], w[0]), bad(0, w[3], w[1]), good(0), good(0)), chipOf(bad(0, w[4], w[2], w[0]), bad(0, w[3], w[1]), good(0, w[:4]...), good(0, w[4]))},
		"exactly as many as fit":     {chipOf(bad(0, w[:4]...), bad(0, w[4]), good(0, w[5:8]...), good(0)), chipOf(bad(0, w[:4]...), bad(0, w[4]), good(0, append(w[5:8:8], w[0])...), good(0, w[1:5]...))},
		"beside a page that failed":  {chipOf(bad(0, w[6], w[7], half), good(0, w[8])), chipOf(bad(0, w[6], w[7], half), good(0, w[8], w[6], w[7]))},
		"of a worn out bad block":    {chipOf(bad(impl.MaxTime, w[0]), good(impl.MaxTime)), chipOf(bad(impl.MaxTime, w[0]), good(impl.MaxTime, w[0]))},
		"a page each in two of them": {chipOf(bad(0, w[0]), good(0), bad(0, w[0])), chipOf(bad(0, w[0]), good(0, w[0]), bad(0, w[0]))},
	} {
		wantOut(t, what, rescue(t, c.n), impl.NandOut{Nand: c.want})
		wantRescued(t, c.n)
	}
}

func TestRescueWithoutRoom(t *testing.T) {
	w := encodedAll(numbered(9).Recs...)
	five := []impl.Block{bad(0, w[:4]...), bad(0, w[4])}
	for what, n := range map[string]impl.Nand{
		"only bad blocks":              chipOf(five...),
		"the first one, a full block":  chipOf(five[0], five[1], good(0, w[5:9]...)),
		"the first one, free bad ones": chipOf(bad(0), five[0], bad(0), good(0, junk(4)...)),
		"the second one":               chipOf(five[0], good(0, w[5:8]...), five[1]),
		"the last one":                 chipOf(good(7), five[0], five[1]),
		"the last one, two blocks":     chipOf(good(0, w[5], w[6], w[7]), good(0, w[8], "x"), five[0]),
	} {
		if len(impl.Stranded(n)) < 4 {
			t.Errorf("%s: Stranded = %v", what, impl.Stranded(n))
		}
		wantCode(t, what, rescue(t, n), impl.ErrFull)
		wantBad(t, n)
	}
	// As many records as there is room for, and one more.
	for stranded := range 9 {
		n := impl.NandNew(3)
		for i := range stranded {
			n = program(t, n, int64(i/impl.PageCount), w[i]).Nand
		}
		n.Blocks[0].Bad, n.Blocks[1].Bad = true, true
		want := int64(impl.OK)
		if stranded > impl.PageCount {
			want = impl.ErrFull
		}
		if got := rescue(t, n).Code; got != want {
			t.Errorf("with %d records Rescue returns the code %d", stranded, got)
		}
		wantRescued(t, n)
	}
}

// Invalid arguments.

func TestRescueWithoutAHistory(t *testing.T) {
	late := encodedAll(write(1, 5, 0, "a"), write(2, 4, 0, "b"))
	for what, n := range map[string]impl.Nand{
		"in good blocks":          withoutHistory(),
		"in bad blocks":           chipOf(bad(0, late...), good(0)),
		"in bad and good blocks":  chipOf(bad(0, late[0]), good(0, late[1])),
		"in a bad one, full":      chipOf(bad(0, late...), good(0, junk(4)...)),
		"the first of a bad Seq":  chipOf(good(0), bad(0, late...), good(0, encoded(write(2, 5, 0, "b")))),
		"in the last of the most": chipOf(append(slices.Repeat([]impl.Block{good(0)}, impl.MaxBlocks-1), bad(0, late...))...),
	} {
		wantList(t, what, impl.Stranded(n), nil)
		wantCode(t, what, rescue(t, n), impl.ErrState)
		wantBad(t, n)
		wantList(t, what+", invalid", impl.Stranded(spoiled(n)), nil)
		wantCode(t, what+", invalid", rescue(t, spoiled(n)), impl.ErrForm)
	}
	// The first page of a Seq is mounted, also if it is in a bad block.
	n := chipOf(bad(0, encoded(write(2, 6, 0, "c"))), bad(0, late...), good(0))
	wantList(t, "Stranded", impl.Stranded(n), []int64{1, 2})
	wantRescued(t, n)
}

func TestFailingPagesOfInvalidChips(t *testing.T) {
	for name, n := range invalidChips() {
		wantList(t, name+": BadBlocks", impl.BadBlocks(n), nil)
		wantList(t, name+": Stranded", impl.Stranded(n), nil)
		wantCode(t, name, rescue(t, n), impl.ErrForm)
	}
	w := encodedAll(numbered(6).Recs...)
	sample := func() impl.Nand { return chipOf(bad(0, w[:4]...), good(0, w[4], w[5]), good(0), bad(1)) }
	wantList(t, "Stranded", impl.Stranded(sample()), []int64{1, 2, 3, 4})
	wantRescued(t, sample())
	for what, change := range map[string]func(n *impl.Nand){
		"negative Erases":          func(n *impl.Nand) { n.Blocks[3].Erases = -1 },
		"Erases above the most":    func(n *impl.Nand) { n.Blocks[0].Erases = impl.MaxTime + 1 },
		"a page too many":          func(n *impl.Nand) { n.Blocks[2].Pages = append(n.Blocks[2].Pages, impl.Page{}) },
		"a page too few":           func(n *impl.Nand) { n.Blocks[0].Pages = n.Blocks[0].Pages[1:] },
		"an unused page with Data": func(n *impl.Nand) { n.Blocks[1].Pages[3].Data = "x" },
		"Data above the most":      func(n *impl.Nand) { n.Blocks[0].Pages[2].Data = pattern(impl.PageSize + 1) },
		"an unused first page":     func(n *impl.Nand) { n.Blocks[0].Pages[0] = impl.Page{} },
		"too many blocks":          func(n *impl.Nand) { n.Blocks = slices.Repeat(n.Blocks, 4) },
		"no blocks":                func(n *impl.Nand) { n.Blocks = n.Blocks[:0] },
	} {
		n := sample()
		change(&n)
		wantList(t, what+": BadBlocks", impl.BadBlocks(n), nil)
		wantList(t, what+": Stranded", impl.Stranded(n), nil)
		wantCode(t, what, rescue(t, n), impl.ErrForm)
		wantLuckCode(t, what, appendLuck(t, n, write(7, 6, 0, "x"), 0, nil), impl.ErrForm)
	}
}

// Memory.

// strandedChip has records that are only in bad blocks, an open and free blocks, and records on several pages.
func strandedChip() impl.Nand {
	w := encodedAll(numbered(6).Recs...)
	return chipOf(bad(3, w[2], w[0], w[0], "junk"), good(2, w[1], w[5]), bad(1, w[3], w[0]), good(4), good(4), good(0, w[4], w[4], w[4], w[4]))
}

func TestRescuedChipsShareNoMemory(t *testing.T) {
	wantOwnMemory(t, "Rescue", strandedChip, impl.Rescue)
	wantOwnMemory(t, "Rescue of none", loggedChip, func(n impl.Nand) impl.NandOut {
		n.Blocks[1].Bad = false
		defer func() { n.Blocks[1].Bad = true }()
		return impl.Rescue(n)
	})
	// With ErrFull, too, the chip is a result.
	for _, reserve := range []int64{0, 1, 2} {
		for fails := range 5 {
			luck := slices.Repeat([]int64{1}, fails)
			wantOwnMemory(t, fmt.Sprint(fails, " pages that fail, reserve ", reserve), strandedChip, func(n impl.Nand) impl.NandOut {
				return impl.NandOut{Nand: impl.AppendLuck(n, write(7, 6, 0, "x"), reserve, luck).Nand}
			})
		}
	}
	wantOwnMemory(t, "a full chip", fullChip, func(n impl.Nand) impl.NandOut {
		return impl.NandOut{Nand: impl.AppendLuck(n, write(7, 6, 0, "x"), 0, nil).Nand}
	})
}

func TestListsOfBadBlocksShareNoMemory(t *testing.T) {
	n := strandedChip()
	for what, c := range map[string]struct {
		list func(impl.Nand) []int64
		want []int64
	}{
		"BadBlocks": {impl.BadBlocks, []int64{0, 2}},
		"Stranded":  {impl.Stranded, []int64{1, 3, 4}},
	} {
		first, second := c.list(n), c.list(n)
		wantList(t, what, first, c.want)
		spoil(first, -7)
		wantList(t, "another result of "+what, second, c.want)
		wantList(t, what+" again", c.list(n), c.want)
		if !sameChip(n, strandedChip()) {
			t.Errorf("%s: a change of a result changed the argument", what)
		}
	}
}

// A chip that was returned is used and changed, and the same call still returns the same.
func TestChipsWithFailedPagesAreUsed(t *testing.T) {
	for fails := range 4 {
		n, luck := strandedChip(), slices.Repeat([]int64{1}, fails)
		r := write(7, 6, 0, "x")
		want := refLuck(strandedChip(), r, 0, luck)
		first := appendLuck(t, n, r, 0, luck)
		wantLuckOut(t, "AppendLuck", first, want)
		if saved := rescue(t, first.Nand); saved.Code == impl.OK {
			wantSameContents(t, "Rescue", saved.Nand, first.Nand)
			saved.Nand.Blocks[3].Pages[0] = impl.Page{Used: true, Data: "wrong"}
			saved.Nand.Blocks[1].Erases = 77
		}
		wantLuckOut(t, "what was rescued", first, want)
		first.Nand.Blocks[1].Pages[0] = impl.Page{Used: true, Data: "wrong"}
		first.Nand.Blocks[0].Erases = 77
		if !sameChip(n, strandedChip()) {
			t.Error("a change of a result changed the argument")
		}
		wantLuckOut(t, "the same call", appendLuck(t, n, r, 0, luck), want)
		wantOut(t, "Rescue of the argument", rescue(t, n), refRescue(strandedChip()))
	}
}

func TestArgumentsOfFailingPagesAreLeftAsTheyWere(t *testing.T) {
	// The slices have room behind them, which is not to be used.
	pages := append(usedPages(encoded(write(1, 0, 0, "a"))), impl.Page{Data: "behind"})
	blocks := append(make([]impl.Block, 0, 4), impl.Block{Pages: pages[:impl.PageCount], Bad: true}, good(5), bad(7, "behind"))
	luck := append(make([]int64, 0, 4), 1, 1, 7)
	n := impl.Nand{Blocks: blocks[:2]}
	before := chipCopy(n)
	impl.BadBlocks(n)
	impl.Stranded(n)
	impl.Rescue(n)
	for length := range 3 {
		impl.AppendLuck(n, write(2, 0, 0, "b"), 0, luck[:length])
	}
	if !sameChip(n, before) {
		t.Errorf("the argument was changed: %#v", n)
	}
	if !slices.Equal(luck, []int64{1, 1, 7}) || pages[impl.PageCount].Data != "behind" || blocks[2].Erases != 7 || blocks[2].Pages[0].Data != "behind" {
		t.Error("memory behind the argument was changed")
	}
}

func TestCallsOfFailingPagesAreRepeatable(t *testing.T) {
	random := rand.New(rand.NewSource(67))
	for range 60 {
		n := randomChip(random)
		r := nextOf(random, n)
		wantRepeatable(t, func() []any {
			return []any{impl.BadBlocks(n), impl.Stranded(n), impl.Rescue(n), impl.AppendLuck(n, r, 1, []int64{1}), impl.AppendLuck(n, r, 0, []int64{1, 1, 1, 0})}
		})
	}
}
