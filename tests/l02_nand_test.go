package tests

import (
	"math"
	"math/rand"
	"reflect"
	"strings"
	"testing"

	"loop.example/g00637/impl"
)

// chipCopy returns a chip, valid or not, in memory of its own.
func chipCopy(n impl.Nand) impl.Nand {
	var c impl.Nand
	for _, b := range n.Blocks {
		b.Pages = append([]impl.Page(nil), b.Pages...)
		c.Blocks = append(c.Blocks, b)
	}
	return c
}

func sameChip(a, b impl.Nand) bool {
	return reflect.DeepEqual(chipCopy(a), chipCopy(b))
}

// wantOut compares all of a result: code, Data and every page of the chip.
func wantOut(t *testing.T, what string, got, want impl.NandOut) {
	t.Helper()
	if got.Code != want.Code || got.Data != want.Data || !sameChip(got.Nand, want.Nand) {
		t.Errorf("%s:\ngot  %#v\nwant %#v", what, got, want)
	}
}

// wantCode requires the code, and zero values beside it.
func wantCode(t *testing.T, what string, got impl.NandOut, code int64) {
	t.Helper()
	wantOut(t, what, got, impl.NandOut{Code: code})
}

// usedPages returns PageCount pages, of which the first ones are used and contain the data.
func usedPages(data ...string) []impl.Page {
	pages := make([]impl.Page, impl.PageCount)
	for i, d := range data {
		pages[i] = impl.Page{Used: true, Data: d}
	}
	return pages
}

// sampleChip has a partly used, an empty, a full, a bad, a bad and empty, and a worn out block.
func sampleChip() impl.Nand {
	return impl.Nand{Blocks: []impl.Block{
		{Pages: usedPages("a", ""), Erases: 3},
		{Pages: usedPages(), Erases: 7},
		{Pages: usedPages("b", "c", "", pattern(impl.PageSize)), Erases: 1},
		{Pages: usedPages("d"), Erases: 2, Bad: true},
		{Pages: usedPages(), Bad: true},
		{Pages: usedPages("e", "f", "g", "h"), Erases: impl.MaxTime},
	}}
}

// do calls a function and requires that it leaves its argument as it was.
func do(t *testing.T, n impl.Nand, f func(impl.Nand) impl.NandOut) impl.NandOut {
	t.Helper()
	before := chipCopy(n)
	out := f(n)
	if !sameChip(n, before) {
		t.Errorf("the argument was changed:\nfrom %#v\nto   %#v", before, n)
	}
	return out
}

func program(t *testing.T, n impl.Nand, block int64, data string) impl.NandOut {
	t.Helper()
	return do(t, n, func(n impl.Nand) impl.NandOut { return impl.Program(n, block, data) })
}

func erase(t *testing.T, n impl.Nand, block int64) impl.NandOut {
	t.Helper()
	return do(t, n, func(n impl.Nand) impl.NandOut { return impl.Erase(n, block) })
}

func markBad(t *testing.T, n impl.Nand, block int64) impl.NandOut {
	t.Helper()
	return do(t, n, func(n impl.Nand) impl.NandOut { return impl.MarkBad(n, block) })
}

func pageAt(t *testing.T, n impl.Nand, block, page int64) impl.NandOut {
	t.Helper()
	return do(t, n, func(n impl.Nand) impl.NandOut { return impl.PageAt(n, block, page) })
}

func TestExampleOfChip(t *testing.T) {
	n := impl.NandNew(2)
	n = program(t, n, 1, "x").Nand
	n = program(t, n, 1, "y").Nand
	wantOut(t, "page 1", pageAt(t, n, 1, 1), impl.NandOut{Nand: n, Data: "y"})
	wantCode(t, "page 2", pageAt(t, n, 1, 2), impl.ErrState)
	wantCode(t, "page 4", pageAt(t, n, 1, 4), impl.ErrRange)
	if got := impl.FreeBlocks(n); got != 1 {
		t.Errorf("FreeBlocks = %d", got)
	}
}

func TestLimitsOfChip(t *testing.T) {
	if impl.MaxBlocks != 12 || impl.PageCount != 4 || impl.PageSize != 60 {
		t.Error("a limit has changed")
	}
}

func TestNewChip(t *testing.T) {
	for blocks := int64(1); blocks <= impl.MaxBlocks; blocks++ {
		n := impl.NandNew(blocks)
		want := impl.Nand{}
		for range blocks {
			want.Blocks = append(want.Blocks, impl.Block{Pages: usedPages()})
		}
		if !sameChip(n, want) || !impl.NandRight(n) || impl.FreeBlocks(n) != blocks {
			t.Errorf("NandNew(%d) = %#v", blocks, n)
		}
	}
	for _, blocks := range []int64{math.MinInt64, -1, 0, impl.MaxBlocks + 1, math.MaxInt64} {
		if n := impl.NandNew(blocks); len(n.Blocks) != 0 {
			t.Errorf("NandNew(%d) = %#v", blocks, n)
		}
	}
}

// Promise 3: programming.

func TestProgrammedPageIsReadBackAndNothingElseChanges(t *testing.T) {
	texts := []string{"", "x", "\x00\xff\n", pattern(impl.PageSize - 1), pattern(impl.PageSize)}
	for block, first := range map[int64]int64{0: 2, 1: 0} {
		for _, text := range texts {
			n := sampleChip()
			got := program(t, n, block, text)
			want := sampleChip()
			want.Blocks[block].Pages[first] = impl.Page{Used: true, Data: text}
			wantOut(t, "Program", got, impl.NandOut{Nand: want})
			wantOut(t, "PageAt", pageAt(t, got.Nand, block, first), impl.NandOut{Nand: want, Data: text})
			if used := impl.UsedOf(got.Nand, block); used != first+1 {
				t.Errorf("block %d has %d used pages, want %d", block, used, first+1)
			}
		}
	}
}

func TestEveryPageIsReadAsItIs(t *testing.T) {
	n := sampleChip()
	for block := range n.Blocks {
		used := int64(0)
		for page, p := range n.Blocks[block].Pages {
			got := pageAt(t, n, int64(block), int64(page))
			if !p.Used {
				wantCode(t, "an unused page", got, impl.ErrState)
				continue
			}
			used++
			wantOut(t, "a used page", got, impl.NandOut{Nand: n, Data: p.Data})
		}
		if got := impl.UsedOf(n, int64(block)); got != used {
			t.Errorf("UsedOf block %d = %d, want %d", block, got, used)
		}
	}
}

func TestPagesAreProgrammedInOrderUntilTheBlockIsFull(t *testing.T) {
	n := impl.NandNew(3)
	for _, block := range []int64{1, 2, 0} {
		for page := int64(0); page < impl.PageCount; page++ {
			text := strings.Repeat(string(rune('a'+page)), int(block)+1)
			want := chipCopy(n)
			want.Blocks[block].Pages[page] = impl.Page{Used: true, Data: text}
			out := program(t, n, block, text)
			wantOut(t, "Program", out, impl.NandOut{Nand: want})
			n = out.Nand
			if got := impl.UsedOf(n, block); got != page+1 {
				t.Errorf("block %d has %d used pages, want %d", block, got, page+1)
			}
		}
		wantCode(t, "Program of a full block", program(t, n, block, "z"), impl.ErrFull)
		wantCode(t, "Program of a full block without data", program(t, n, block, ""), impl.ErrFull)
	}
	if got := impl.FreeBlocks(n); got != 0 {
		t.Errorf("FreeBlocks of a full chip = %d", got)
	}
}

func TestDataOfPageSize(t *testing.T) {
	for _, c := range []struct {
		size int
		code int64
	}{
		{impl.PageSize - 1, impl.OK},
		{impl.PageSize, impl.OK},
		{impl.PageSize + 1, impl.ErrForm},
		{impl.MaxBytes, impl.ErrForm},
		{impl.MaxBytes + 1, impl.ErrSize},
	} {
		got := program(t, impl.NandNew(1), 0, pattern(c.size))
		if c.code != impl.OK {
			wantCode(t, "Program", got, c.code)
			continue
		}
		want := impl.Nand{Blocks: []impl.Block{{Pages: usedPages(pattern(c.size))}}}
		wantOut(t, "Program", got, impl.NandOut{Nand: want})
	}
}

// Promise 3: erasing.

func TestExactlyTheErasedBlockBecomesEmpty(t *testing.T) {
	for _, block := range []int64{0, 1, 2} {
		n := sampleChip()
		want := sampleChip()
		want.Blocks[block].Pages = usedPages()
		want.Blocks[block].Erases++
		got := erase(t, n, block)
		wantOut(t, "Erase", got, impl.NandOut{Nand: want})
		for page := int64(0); page < impl.PageCount; page++ {
			wantCode(t, "an erased page", pageAt(t, got.Nand, block, page), impl.ErrState)
		}
		if used := impl.UsedOf(got.Nand, block); used != 0 {
			t.Errorf("erased block %d has %d used pages", block, used)
		}
	}
}

func TestErasedBlockIsProgrammedFromItsFirstPage(t *testing.T) {
	n := erase(t, sampleChip(), 2).Nand
	n = program(t, n, 2, "new").Nand
	want := sampleChip()
	want.Blocks[2] = impl.Block{Pages: usedPages("new"), Erases: 2}
	if !sameChip(n, want) {
		t.Errorf("got %#v", n)
	}
}

func TestWornOutBlockIsNotErased(t *testing.T) {
	n := sampleChip()
	wantCode(t, "Erase", erase(t, n, 5), impl.ErrFull)
	n.Blocks[5].Erases = impl.MaxTime - 1
	want := chipCopy(n)
	want.Blocks[5] = impl.Block{Pages: usedPages(), Erases: impl.MaxTime}
	got := erase(t, n, 5)
	wantOut(t, "the last Erase", got, impl.NandOut{Nand: want})
	wantCode(t, "one more Erase", erase(t, got.Nand, 5), impl.ErrFull)
}

// Promise 3: bad blocks.

func TestBadBlockIsReadButNotProgrammedOrErased(t *testing.T) {
	for block := range int64(len(sampleChip().Blocks)) {
		n := sampleChip()
		want := sampleChip()
		want.Blocks[block].Bad = true
		got := markBad(t, n, block)
		wantOut(t, "MarkBad", got, impl.NandOut{Nand: want})
		wantOut(t, "MarkBad again", markBad(t, got.Nand, block), impl.NandOut{Nand: want})
		wantCode(t, "Program", program(t, got.Nand, block, "z"), impl.ErrBad)
		wantCode(t, "Erase", erase(t, got.Nand, block), impl.ErrBad)
		if used := impl.UsedOf(got.Nand, block); used != impl.UsedOf(n, block) {
			t.Errorf("bad block %d has %d used pages", block, used)
		}
		for page, p := range n.Blocks[block].Pages {
			if p.Used {
				wantOut(t, "PageAt", pageAt(t, got.Nand, block, int64(page)), impl.NandOut{Nand: want, Data: p.Data})
			}
		}
	}
}

func TestBlocksBesideABadOneAreProgrammedAndErased(t *testing.T) {
	n := markBad(t, impl.NandNew(3), 1).Nand
	n = program(t, program(t, n, 0, "x").Nand, 2, "y").Nand
	n = erase(t, n, 0).Nand
	want := impl.Nand{Blocks: []impl.Block{
		{Pages: usedPages(), Erases: 1},
		{Pages: usedPages(), Bad: true},
		{Pages: usedPages("y")},
	}}
	if !sameChip(n, want) {
		t.Errorf("got %#v", n)
	}
}

func TestFreeBlocks(t *testing.T) {
	if got := impl.FreeBlocks(sampleChip()); got != 1 {
		t.Errorf("FreeBlocks of the sample = %d", got)
	}
	n := impl.NandNew(impl.MaxBlocks)
	for block := int64(0); block < impl.MaxBlocks; block++ {
		if got := impl.FreeBlocks(n); got != impl.MaxBlocks-block {
			t.Errorf("FreeBlocks = %d, want %d", got, impl.MaxBlocks-block)
		}
		if block%2 == 0 {
			n = program(t, n, block, "").Nand
		} else {
			n = markBad(t, n, block).Nand
		}
	}
	if got := impl.FreeBlocks(n); got != 0 {
		t.Errorf("FreeBlocks without a free one = %d", got)
	}
	if got := impl.FreeBlocks(erase(t, n, 4).Nand); got != 1 {
		t.Errorf("FreeBlocks after erasing one = %d", got)
	}
}

// Validity.

// altered returns a chip of three blocks with a change in one of them.
func altered(block int, change func(b *impl.Block)) impl.Nand {
	n := impl.NandNew(3)
	change(&n.Blocks[block])
	return n
}

func manyBlocks(count int) impl.Nand {
	var n impl.Nand
	for range count {
		n.Blocks = append(n.Blocks, impl.Block{Pages: usedPages()})
	}
	return n
}

func withPages(block int, pages []impl.Page) impl.Nand {
	return altered(block, func(b *impl.Block) { b.Pages = pages })
}

func withErases(block int, erases int64) impl.Nand {
	return altered(block, func(b *impl.Block) { b.Erases = erases })
}

func validChips() map[string]impl.Nand {
	return map[string]impl.Nand{
		"one block":                   manyBlocks(1),
		"MaxBlocks":                   manyBlocks(impl.MaxBlocks),
		"the sample":                  sampleChip(),
		"Erases 0":                    withErases(2, 0),
		"Erases MaxTime":              withErases(2, impl.MaxTime),
		"used without data":           withPages(1, usedPages("", "", "", "")),
		"Data of PageSize":            withPages(0, usedPages(pattern(impl.PageSize))),
		"Data of PageSize at the end": withPages(2, usedPages("", "", "", pattern(impl.PageSize))),
		"bad":                         altered(0, func(b *impl.Block) { b.Bad = true }),
	}
}

func invalidChips() map[string]impl.Nand {
	gap := usedPages("a", "", "c")
	gap[1] = impl.Page{}
	late := usedPages()
	late[impl.PageCount-1].Used = true
	first := usedPages()
	first[0].Data = "x"
	last := usedPages("a", "b", "c")
	last[impl.PageCount-1].Data = "x"
	long := pattern(impl.PageSize + 1)
	unusedLong := usedPages("a")
	unusedLong[1].Data = long
	return map[string]impl.Nand{
		"no blocks":                       {},
		"empty blocks":                    {Blocks: []impl.Block{}},
		"MaxBlocks + 1":                   manyBlocks(impl.MaxBlocks + 1),
		"more than MaxList blocks":        manyBlocks(impl.MaxList + 1),
		"no pages":                        withPages(0, nil),
		"no pages in the last block":      withPages(2, nil),
		"too few pages":                   withPages(1, usedPages("a")[:impl.PageCount-1]),
		"one page":                        withPages(1, usedPages("a")[:1]),
		"too many pages":                  withPages(1, append(usedPages(), impl.Page{})),
		"too many used pages":             withPages(1, append(usedPages("a", "b", "c", "d"), impl.Page{Used: true})),
		"more than MaxList pages":         withPages(1, make([]impl.Page, impl.MaxList+1)),
		"negative Erases":                 withErases(0, -1),
		"least Erases":                    withErases(1, math.MinInt64),
		"Erases of MaxTime + 1":           withErases(2, impl.MaxTime+1),
		"greatest Erases":                 withErases(0, math.MaxInt64),
		"a used page behind an unused":    withPages(0, gap),
		"only the last page used":         withPages(2, late),
		"an unused first page with Data":  withPages(0, first),
		"an unused last page with Data":   withPages(2, last),
		"an unused page with long Data":   withPages(2, unusedLong),
		"Data of PageSize + 1":            withPages(0, usedPages(long)),
		"Data of PageSize + 1 at the end": withPages(2, usedPages("", "", "", long)),
		"Data of MaxBytes + 1":            withPages(1, usedPages(pattern(impl.MaxBytes+1))),
		"a bad block without pages":       altered(1, func(b *impl.Block) { b.Bad, b.Pages = true, nil }),
		"a bad block with wrong Erases":   altered(1, func(b *impl.Block) { b.Bad, b.Erases = true, -1 }),
	}
}

func TestValidChips(t *testing.T) {
	for name, n := range validChips() {
		before := chipCopy(n)
		if !impl.NandRight(n) {
			t.Errorf("%s: NandRight is false", name)
		}
		if !sameChip(n, before) {
			t.Errorf("%s: NandRight changed its argument", name)
		}
		want := chipCopy(n)
		want.Blocks[0].Bad = true
		wantOut(t, name, markBad(t, n, 0), impl.NandOut{Nand: want})
	}
}

func TestInvalidChips(t *testing.T) {
	for name, n := range invalidChips() {
		before := chipCopy(n)
		if impl.NandRight(n) {
			t.Errorf("%s: NandRight is true", name)
		}
		if got := impl.FreeBlocks(n); got != 0 {
			t.Errorf("%s: FreeBlocks = %d", name, got)
		}
		// An invalid chip is reported before wrong blocks, pages and data, but after data beyond the size limit.
		for _, block := range []int64{-1, 0, 1, 2, 3, impl.MaxBlocks, math.MinInt64, math.MaxInt64} {
			if got := impl.UsedOf(n, block); got != 0 {
				t.Errorf("%s: UsedOf block %d = %d", name, block, got)
			}
			wantCode(t, name, impl.Erase(n, block), impl.ErrForm)
			wantCode(t, name, impl.MarkBad(n, block), impl.ErrForm)
			wantCode(t, name, impl.Program(n, block, "x"), impl.ErrForm)
			wantCode(t, name, impl.Program(n, block, pattern(impl.MaxBytes)), impl.ErrForm)
			wantCode(t, name, impl.Program(n, block, pattern(impl.MaxBytes+1)), impl.ErrSize)
			for _, page := range []int64{-1, 0, impl.PageCount} {
				wantCode(t, name, impl.PageAt(n, block, page), impl.ErrForm)
			}
		}
		if !sameChip(n, before) {
			t.Errorf("%s: the argument was changed", name)
		}
	}
}

// Indexes, and the order of errors.

func TestBlockIndexes(t *testing.T) {
	for _, count := range []int64{1, 2, impl.MaxBlocks} {
		n := impl.NandNew(count)
		for _, block := range []int64{0, count - 1} {
			want := impl.NandNew(count)
			want.Blocks[block].Pages[0] = impl.Page{Used: true, Data: "x"}
			wantOut(t, "Program", program(t, n, block, "x"), impl.NandOut{Nand: want})
			wantOut(t, "PageAt", pageAt(t, want, block, 0), impl.NandOut{Nand: want, Data: "x"})
			if got := impl.UsedOf(want, block); got != 1 {
				t.Errorf("UsedOf block %d of %d = %d", block, count, got)
			}
			erased := impl.NandNew(count)
			erased.Blocks[block].Erases = 1
			wantOut(t, "Erase", erase(t, want, block), impl.NandOut{Nand: erased})
			bad := impl.NandNew(count)
			bad.Blocks[block].Bad = true
			wantOut(t, "MarkBad", markBad(t, n, block), impl.NandOut{Nand: bad})
		}
		for _, block := range []int64{math.MinInt64, -1, count, count + 1, 1 << 32, math.MaxInt64} {
			if got := impl.UsedOf(n, block); got != 0 {
				t.Errorf("UsedOf block %d of %d = %d", block, count, got)
			}
			wantCode(t, "PageAt", pageAt(t, n, block, 0), impl.ErrNone)
			wantCode(t, "PageAt without such a page", pageAt(t, n, block, impl.PageCount), impl.ErrNone)
			wantCode(t, "Program", program(t, n, block, "x"), impl.ErrNone)
			wantCode(t, "Program of long data", program(t, n, block, pattern(impl.PageSize+1)), impl.ErrNone)
			wantCode(t, "Program beyond the size limit", program(t, n, block, pattern(impl.MaxBytes+1)), impl.ErrSize)
			wantCode(t, "Erase", erase(t, n, block), impl.ErrNone)
			wantCode(t, "MarkBad", markBad(t, n, block), impl.ErrNone)
		}
	}
}

func TestPageIndexes(t *testing.T) {
	n := sampleChip()
	for block := range int64(len(n.Blocks)) {
		for _, page := range []int64{math.MinInt64, -1, impl.PageCount, impl.PageCount + 1, 1 << 32, math.MaxInt64} {
			wantCode(t, "PageAt", pageAt(t, n, block, page), impl.ErrRange)
		}
	}
	last := int64(impl.PageCount - 1)
	wantOut(t, "the last page", pageAt(t, n, 2, last), impl.NandOut{Nand: n, Data: pattern(impl.PageSize)})
	wantCode(t, "an unused last page", pageAt(t, n, 0, last), impl.ErrState)
}

func TestOrderOfErrors(t *testing.T) {
	n := sampleChip()
	fullAndBad := markBad(t, n, 2).Nand
	wornAndBad := markBad(t, n, 5).Nand
	long := pattern(impl.PageSize + 1)
	wantCode(t, "too much for a full block", program(t, n, 2, long), impl.ErrForm)
	wantCode(t, "too much for a bad block", program(t, n, 3, long), impl.ErrForm)
	wantCode(t, "too much for a full and bad block", program(t, fullAndBad, 2, long), impl.ErrForm)
	wantCode(t, "beyond the size limit for a bad block", program(t, n, 3, pattern(impl.MaxBytes+1)), impl.ErrSize)
	wantCode(t, "a full and bad block", program(t, fullAndBad, 2, "x"), impl.ErrBad)
	wantCode(t, "a worn out and bad block", erase(t, wornAndBad, 5), impl.ErrBad)
	wantCode(t, "a worn out and full block", program(t, n, 5, "x"), impl.ErrFull)
}

// Memory.

// wantSeparate changes every page and block of a result and requires that only that one changes.
func wantSeparate(t *testing.T, what string, n impl.Nand) {
	t.Helper()
	mark := impl.Page{Used: true, Data: "mark"}
	for block := range n.Blocks {
		for page := range n.Blocks[block].Pages {
			want := chipCopy(n)
			want.Blocks[block].Pages[page] = mark
			n.Blocks[block].Pages[page] = mark
			if !sameChip(n, want) {
				t.Errorf("%s: page %d of block %d shares memory with another one", what, page, block)
			}
		}
		want := chipCopy(n)
		_ = append(n.Blocks[block].Pages, impl.Page{Data: "beyond"})
		if !sameChip(n, want) {
			t.Errorf("%s: the pages of block %d are followed by those of another one", what, block)
		}
	}
}

func TestResultsShareNoMemory(t *testing.T) {
	calls := map[string]func(impl.Nand) impl.NandOut{
		"PageAt":  func(n impl.Nand) impl.NandOut { return impl.PageAt(n, 0, 0) },
		"Program": func(n impl.Nand) impl.NandOut { return impl.Program(n, 0, "new") },
		"Erase":   func(n impl.Nand) impl.NandOut { return impl.Erase(n, 0) },
		"MarkBad": func(n impl.Nand) impl.NandOut { return impl.MarkBad(n, 0) },
	}
	for name, call := range calls {
		n := sampleChip()
		first := do(t, n, call)
		second := do(t, n, call)
		want := chipCopy(second.Nand)
		wantSeparate(t, name, first.Nand)
		for block := range first.Nand.Blocks {
			first.Nand.Blocks[block] = impl.Block{Erases: 99, Bad: true}
		}
		if !sameChip(n, sampleChip()) {
			t.Errorf("%s: the result shares memory with the argument", name)
		}
		if !sameChip(second.Nand, want) {
			t.Errorf("%s: two results share memory", name)
		}
		for block := range n.Blocks {
			for page := range n.Blocks[block].Pages {
				n.Blocks[block].Pages[page] = impl.Page{Used: true, Data: "later"}
			}
			n.Blocks[block] = impl.Block{}
		}
		if !sameChip(second.Nand, want) {
			t.Errorf("%s: a later change of the argument shows in the result", name)
		}
	}
	wantSeparate(t, "NandNew", impl.NandNew(impl.MaxBlocks))
	impl.NandNew(2).Blocks[0].Pages[0].Used = true
	if impl.NandNew(2).Blocks[0].Pages[0].Used {
		t.Error("two new chips share memory")
	}
}

// A caller may use one slice for several blocks, or slices with room behind them.
func TestArgumentsThatShareMemory(t *testing.T) {
	pages := append(usedPages("a"), impl.Page{Used: true, Data: "behind"})
	shared := pages[:impl.PageCount]
	n := impl.Nand{Blocks: append(make([]impl.Block, 0, 9), impl.Block{Pages: shared}, impl.Block{Pages: shared})}
	want := impl.Nand{Blocks: []impl.Block{{Pages: usedPages("a", "b")}, {Pages: usedPages("a")}}}
	got := program(t, n, 0, "b")
	wantOut(t, "Program", got, impl.NandOut{Nand: want})
	wantSeparate(t, "Program", got.Nand)
	erased := impl.Nand{Blocks: []impl.Block{{Pages: usedPages("a")}, {Pages: usedPages(), Erases: 1}}}
	wantOut(t, "Erase", erase(t, n, 1), impl.NandOut{Nand: erased})
	if pages[impl.PageCount].Data != "behind" {
		t.Error("memory behind the argument was changed")
	}
}

// Promise 3 as a whole: any sequence of operations is compared with a model.

type modelBlock struct {
	texts  []string
	erases int64
	bad    bool
}

func modelChip(blocks []modelBlock) impl.Nand {
	var n impl.Nand
	for _, b := range blocks {
		n.Blocks = append(n.Blocks, impl.Block{Pages: usedPages(b.texts...), Erases: b.erases, Bad: b.bad})
	}
	return n
}

func modelProgram(blocks []modelBlock, block int64, data string) int64 {
	switch {
	case block < 0 || block >= int64(len(blocks)):
		return impl.ErrNone
	case len(data) > impl.PageSize:
		return impl.ErrForm
	case blocks[block].bad:
		return impl.ErrBad
	case len(blocks[block].texts) == impl.PageCount:
		return impl.ErrFull
	}
	blocks[block].texts = append(blocks[block].texts, data)
	return impl.OK
}

func modelErase(blocks []modelBlock, block int64) int64 {
	switch {
	case block < 0 || block >= int64(len(blocks)):
		return impl.ErrNone
	case blocks[block].bad:
		return impl.ErrBad
	}
	blocks[block].texts = nil
	blocks[block].erases++
	return impl.OK
}

func modelMarkBad(blocks []modelBlock, block int64) int64 {
	if block < 0 || block >= int64(len(blocks)) {
		return impl.ErrNone
	}
	blocks[block].bad = true
	return impl.OK
}

func modelFree(blocks []modelBlock) int64 {
	free := int64(0)
	for _, b := range blocks {
		if !b.bad && len(b.texts) == 0 {
			free++
		}
	}
	return free
}

func wantPages(t *testing.T, n impl.Nand, blocks []modelBlock) {
	t.Helper()
	for block, b := range blocks {
		if got := impl.UsedOf(n, int64(block)); got != int64(len(b.texts)) {
			t.Errorf("UsedOf block %d = %d, want %d", block, got, len(b.texts))
		}
		for page := range impl.PageCount {
			got := pageAt(t, n, int64(block), int64(page))
			if page < len(b.texts) {
				wantOut(t, "PageAt", got, impl.NandOut{Nand: n, Data: b.texts[page]})
			} else {
				wantCode(t, "PageAt", got, impl.ErrState)
			}
		}
	}
}

func TestSequencesOfOperations(t *testing.T) {
	r := rand.New(rand.NewSource(2))
	seen := map[int64]int{}
	for range 60 {
		blocks := make([]modelBlock, 1+r.Intn(impl.MaxBlocks))
		n := impl.NandNew(int64(len(blocks)))
		for range 60 {
			block := int64(r.Intn(len(blocks)+2) - 1)
			var code int64
			var out impl.NandOut
			switch kind := r.Intn(20); {
			case kind < 14:
				data := pattern(r.Intn(impl.PageSize + 5))
				code = modelProgram(blocks, block, data)
				out = program(t, n, block, data)
			case kind < 19:
				code = modelErase(blocks, block)
				out = erase(t, n, block)
			default:
				code = modelMarkBad(blocks, block)
				out = markBad(t, n, block)
			}
			seen[code]++
			if code != impl.OK {
				wantCode(t, "an operation that fails", out, code)
				continue
			}
			n = out.Nand
			if out.Data != "" || out.Code != impl.OK || !sameChip(n, modelChip(blocks)) || !impl.NandRight(n) {
				t.Fatalf("got %#v, want %#v", out, modelChip(blocks))
			}
			if got := impl.FreeBlocks(n); got != modelFree(blocks) {
				t.Errorf("FreeBlocks = %d, want %d", got, modelFree(blocks))
			}
		}
		wantPages(t, n, blocks)
	}
	for _, code := range []int64{impl.OK, impl.ErrNone, impl.ErrForm, impl.ErrBad, impl.ErrFull} {
		if seen[code] < 10 {
			t.Errorf("only %d operations with code %d", seen[code], code)
		}
	}
}
