package tests

import (
	"cmp"
	"math"
	"math/rand"
	"slices"
	"strconv"
	"testing"

	"loop.example/g00637/impl"
)

// allSteps are more steps than any move has: at most PageCount records, and the erase.
const allSteps = 6

func moveOut(t *testing.T, n impl.Nand, block, steps int64) impl.NandOut {
	t.Helper()
	return do(t, n, func(n impl.Nand) impl.NandOut { return impl.MoveOut(n, block, steps) })
}

func level(t *testing.T, n impl.Nand, gap, steps int64) impl.NandOut {
	t.Helper()
	return do(t, n, func(n impl.Nand) impl.NandOut { return impl.Level(n, gap, steps) })
}

// The reference, by the definitions of the document, for valid chips.

// refFull returns the blocks that are not Bad and all of whose pages are used.
func refFull(n impl.Nand) []int64 {
	var full []int64
	for block, b := range n.Blocks {
		if !b.Bad && refUsed(b) == 4 {
			full = append(full, int64(block))
		}
	}
	return full
}

// refErases returns the Erases of the blocks that are not Bad, from the least on.
func refErases(n impl.Nand) []int64 {
	var erases []int64
	for _, b := range n.Blocks {
		if !b.Bad {
			erases = append(erases, b.Erases)
		}
	}
	slices.Sort(erases)
	return erases
}

func refGap(n impl.Nand) int64 {
	erases := refErases(n)
	if len(erases) == 0 {
		return 0
	}
	return erases[len(erases)-1] - erases[0]
}

func refColdest(n impl.Nand) int64 {
	full := refFull(n)
	if len(full) == 0 {
		return -1
	}
	slices.SortStableFunc(full, func(a, b int64) int { return cmp.Compare(n.Blocks[a].Erases, n.Blocks[b].Erases) })
	return full[0]
}

// refWarmer returns how many Erases the coldest block is behind, and -1 if there is no such block.
func refWarmer(n impl.Nand) int64 {
	coldest := refColdest(n)
	if coldest < 0 {
		return -1
	}
	return slices.Max(refErases(n)) - n.Blocks[coldest].Erases
}

func refMoveOut(n impl.Nand, block, steps int64) impl.NandOut {
	if block < 0 || block >= int64(len(n.Blocks)) {
		return impl.NandOut{Code: impl.ErrNone}
	}
	if code := refMount(n).Code; code != impl.OK {
		return impl.NandOut{Code: code}
	}
	if n.Blocks[block].Bad {
		return impl.NandOut{Code: impl.ErrBad}
	}
	if refUsed(n.Blocks[block]) < 4 {
		return impl.NandOut{Code: impl.ErrState}
	}
	return refEmptied(n, block, steps)
}

func refLevel(n impl.Nand, gap, steps int64) impl.NandOut {
	switch {
	case gap < 0:
		return impl.NandOut{Code: impl.ErrForm}
	case refWarmer(n) <= gap:
		return impl.NandOut{Code: impl.ErrNone}
	}
	return refMoveOut(n, refColdest(n), steps)
}

// gapsAround are the gaps at which something could change on a chip, those beside them, and the least and greatest ones.
func gapsAround(n impl.Nand) []int64 {
	l := []int64{math.MinInt64, -1, 0, 1, impl.MaxTime, math.MaxInt64}
	for _, difference := range []int64{refWarmer(n), refGap(n)} {
		l = append(l, difference-1, difference, difference+1)
	}
	slices.Sort(l)
	return slices.Compact(l)
}

// perSteps returns a function that gives what is wanted of each number of steps. Fewer than none are none, and more than allSteps are all, so that the reference is not asked for them again.
func perSteps(want func(steps int64) impl.NandOut) func(steps int64) impl.NandOut {
	var wants []impl.NandOut
	for steps := range int64(allSteps + 1) {
		wants = append(wants, want(steps))
	}
	return func(steps int64) impl.NandOut { return wants[min(max(steps, 0), allSteps)] }
}

// wantWear compares the answers of a valid chip with the reference.
func wantWear(t *testing.T, n impl.Nand) {
	t.Helper()
	before := chipCopy(n)
	wantList(t, "Coldest and GapOf", []int64{impl.Coldest(n), impl.GapOf(n)}, []int64{refColdest(n), refGap(n)})
	for _, block := range blocksAround(n) {
		want := perSteps(func(steps int64) impl.NandOut { return refMoveOut(n, block, steps) })
		for _, steps := range someSteps() {
			wantOut(t, "MoveOut of block "+strconv.FormatInt(block, 10)+" with "+strconv.FormatInt(steps, 10)+" steps", moveOut(t, n, block, steps), want(steps))
		}
	}
	for _, gap := range gapsAround(n) {
		want := perSteps(func(steps int64) impl.NandOut { return refLevel(n, gap, steps) })
		for _, steps := range someSteps() {
			wantOut(t, "Level with gap "+strconv.FormatInt(gap, 10)+" and "+strconv.FormatInt(steps, 10)+" steps", level(t, n, gap, steps), want(steps))
		}
	}
	if !sameChip(n, before) {
		t.Error("the argument was changed")
	}
	if t.Failed() {
		t.Fatalf("of the chip %#v", before)
	}
}

// wantEveryTime requires, time by time, that a chip contains what another one contained, from the floor on.
func wantEveryTime(t *testing.T, what string, after, before impl.Nand) {
	t.Helper()
	old, now := impl.Mount(before).Hist, impl.Mount(after).Hist
	states := statesOf(old.Recs)
	for at := refFloor(old.Recs); at <= impl.LastTime(old)+2; at++ {
		if got, want := contentsAt(now, at), states[countUntil(old.Recs, at)]; got != want {
			t.Fatalf("%s: at time %d\ngot  %+v\nwant %+v\nfrom the chip\n%#v\nto\n%#v", what, at, got, want, before, after)
		}
	}
	if least := refFloor(old.Recs); least > 0 {
		wantValue(t, what+": below the floor", impl.AsOf(now, 0, least-1), impl.ValueOut{Code: impl.ErrPast})
	}
}

// addedPages returns what the pages contain that are used on a chip and were not used before, sorted. Beside the block that is moved out of, nothing else may have changed.
func addedPages(t *testing.T, what string, after, before impl.Nand, block int64) []string {
	t.Helper()
	if len(after.Blocks) != len(before.Blocks) {
		t.Fatalf("%s: there were %d blocks and are %d", what, len(before.Blocks), len(after.Blocks))
	}
	var added []string
	for i, b := range after.Blocks {
		old := before.Blocks[i]
		if int64(i) == block {
			continue
		}
		if b.Erases != old.Erases || b.Bad != old.Bad {
			t.Errorf("%s: block %d was changed", what, i)
		}
		for page, p := range b.Pages {
			if p == old.Pages[page] {
				continue
			}
			if old.Pages[page].Used || !p.Used {
				t.Errorf("%s: page %d of block %d was changed", what, page, i)
			}
			added = append(added, p.Data)
		}
	}
	slices.Sort(added)
	return added
}

// encodedSeqs returns what the pages of the records with these Seqs contain, sorted.
func encodedSeqs(n impl.Nand, seqs []int64) []string {
	var texts []string
	for _, r := range refMount(n).Hist.Recs {
		if slices.Contains(seqs, r.Seq) {
			texts = append(texts, encoded(r))
		}
	}
	slices.Sort(texts)
	return texts
}

// wantMoved requires promise 17 of a block that can be moved out of: whatever number of steps is done, the contents stay, and only the records of the load are added to other blocks; after all steps the block is empty. It returns the code of the whole move and the size of the load.
func wantMoved(t *testing.T, n impl.Nand, block int64) (int64, int) {
	t.Helper()
	load := refLoads(n)[block]
	size := int64(len(load))
	wantList(t, "Load", impl.Load(n, block), load)
	for steps := int64(0); steps <= size+1; steps++ {
		what := strconv.FormatInt(steps, 10) + " steps of moving out of block " + strconv.FormatInt(block, 10)
		out := moveOut(t, n, block, steps)
		if out.Code != impl.OK {
			wantCode(t, what, out, impl.ErrFull)
			wantCode(t, "all steps", moveOut(t, n, block, math.MaxInt64), impl.ErrFull)
			return out.Code, int(size)
		}
		wantSameContents(t, what, out.Nand, n)
		if got, want := addedPages(t, what, out.Nand, n, block), encodedSeqs(n, load[:min(steps, size)]); !slices.Equal(got, want) {
			t.Errorf("%s: added are\n%q, wanted\n%q", what, got, want)
		}
		moved := chipOf(n.Blocks[block])
		if steps > size {
			moved = chipOf(good(n.Blocks[block].Erases + 1))
		}
		if !sameChip(chipOf(out.Nand.Blocks[block]), moved) {
			t.Errorf("%s: the block is %+v", what, out.Nand.Blocks[block])
		}
		if t.Failed() {
			t.Fatalf("of the chip %#v", n)
		}
	}
	all := moveOut(t, n, block, size+1)
	wantOut(t, "more steps than there are", moveOut(t, n, block, size+2), all)
	wantOut(t, "the most steps", moveOut(t, n, block, math.MaxInt64), all)
	wantEveryTimeOfFew(t, "all steps", all.Nand, n)
	wantList(t, "UsedOf and FreeBlocks", []int64{impl.UsedOf(all.Nand, block), min(impl.FreeBlocks(all.Nand), 1)}, []int64{0, 1})
	return impl.OK, int(size)
}

// wantEveryTimeOfFew requires that all contents stay, if there are not too many times.
func wantEveryTimeOfFew(t *testing.T, what string, after, before impl.Nand) {
	t.Helper()
	if impl.LastTime(impl.Mount(before).Hist) <= 60 {
		wantEveryTime(t, what, after, before)
	}
}

// fourWrites is the chip of the document's example.
func fourWrites() impl.Nand {
	var recs []impl.Rec
	for seq := int64(1); seq <= 4; seq++ {
		recs = append(recs, write(seq, 1, 1, "a"))
	}
	return chipOf(good(0, encodedAll(recs...)...), good(3), good(0))
}

func TestExampleOfWearLeveling(t *testing.T) {
	n := fourWrites()
	wantList(t, "Coldest and GapOf", []int64{impl.Coldest(n), impl.GapOf(n)}, []int64{0, 3})
	wantCode(t, "Level with gap 3", level(t, n, 3, 9), impl.ErrNone)
	want := impl.NandOut{Nand: chipOf(good(1), good(3), good(0, n.Blocks[0].Pages[3].Data))}
	wantOut(t, "Level with gap 2", level(t, n, 2, 9), want)
	wantOut(t, "MoveOut", moveOut(t, n, 0, 2), want)
	wantWear(t, n)
	wantWear(t, want.Nand)
	wantMoved(t, n, 0)
}

func TestManyChipsAreLeveledAsDocumented(t *testing.T) {
	random := rand.New(rand.NewSource(41))
	moves, levels := map[int64]int{}, map[int64]int{}
	for range 150 {
		n := randomChip(random)
		wantWear(t, n)
		for _, block := range blocksAround(n) {
			moves[impl.MoveOut(n, block, math.MaxInt64).Code]++
		}
		for _, gap := range gapsAround(n) {
			levels[impl.Level(n, gap, math.MaxInt64).Code]++
		}
	}
	for code, least := range map[int64]int{impl.OK: 100, impl.ErrNone: 300, impl.ErrState: 200, impl.ErrBad: 50, impl.ErrFull: 20} {
		if moves[code] < least {
			t.Errorf("the codes of MoveOut were %v", moves)
		}
	}
	for code, least := range map[int64]int{impl.OK: 50, impl.ErrForm: 200, impl.ErrNone: 200, impl.ErrState: 10, impl.ErrFull: 5} {
		if levels[code] < least {
			t.Errorf("the codes of Level were %v", levels)
		}
	}
}

// Promise 17.

// tally counts the moves of a test by the sizes of their loads and by their codes.
type tally struct {
	sizes, codes map[int64]int
}

func newTally() tally {
	return tally{map[int64]int{}, map[int64]int{}}
}

// wantAllMoved requires promise 17 of every block of a chip that can be moved out of.
func (c tally) wantAllMoved(t *testing.T, n impl.Nand) {
	t.Helper()
	for _, block := range refFull(n) {
		code, size := wantMoved(t, n, block)
		c.codes[code]++
		if code == impl.OK {
			c.sizes[int64(size)]++
		}
	}
}

func (c tally) wantAtLeast(t *testing.T, moved, refused int) {
	t.Helper()
	if c.codes[impl.ErrFull] < refused {
		t.Errorf("the codes were %v", c.codes)
	}
	for size := range int64(impl.PageCount + 1) {
		if c.sizes[size] < moved {
			t.Errorf("the sizes of the loads were %v", c.sizes)
		}
	}
}

func TestMovingOutOfBlocksAtWorkChangesNoContents(t *testing.T) {
	random := rand.New(rand.NewSource(42))
	count := newTally()
	leveled := 0
	for i := range int64(16) {
		l := life{n: impl.NandNew(3 + i%8)}
		for range 40 {
			l.write(t, l.tear(t, random))
			l.collect(t, random.Int63n(6))
			count.wantAllMoved(t, l.n)
			// What the moves leave is also what later ones begin with.
			if out := level(t, l.n, random.Int63n(2), random.Int63n(6)); out.Code == impl.OK {
				l.n = out.Nand
				l.wantAll(t)
				leveled++
			}
			if full := refFull(l.n); len(full) > 0 && random.Intn(3) == 0 {
				l.move(t, full[random.Intn(len(full))], random.Int63n(6))
			}
		}
	}
	count.wantAtLeast(t, 20, 20)
	if leveled < 50 {
		t.Errorf("%d chips were leveled", leveled)
	}
}

// move does some steps of moving out of a block, if there is room for them, and reports whether there is.
func (l *life) move(t *testing.T, block, steps int64) bool {
	t.Helper()
	out := moveOut(t, l.n, block, steps)
	if out.Code != impl.OK {
		return false
	}
	l.n = out.Nand
	l.wantAll(t)
	return true
}

func TestMovingOutChangesNoContents(t *testing.T) {
	random := rand.New(rand.NewSource(43))
	count := newTally()
	for _, plan := range gcPlans() {
		for range 4 {
			for _, n := range []impl.Nand{agreeingChip(random, plan), orderedChip(random, plan)} {
				count.wantAllMoved(t, n)
			}
		}
	}
	count.wantAtLeast(t, 10, 10)
}

// A chip that is full of needed records, but for one block, can be leveled on and on.
func TestMovingOutAgainAndAgain(t *testing.T) {
	for _, blocks := range []int64{2, 3, 7, impl.MaxBlocks} {
		first := impl.NandNew(blocks)
		for _, r := range numbered(int(blocks-1) * impl.PageCount).Recs {
			first = appendRec(t, first, r, 1).Nand
		}
		n := first
		for i := range 3 * blocks {
			block := impl.Coldest(n)
			wantList(t, "the size of the load", []int64{int64(len(impl.Load(n, block)))}, []int64{impl.PageCount})
			wantList(t, "Victim", []int64{impl.Victim(n)}, []int64{impl.NoVictim})
			wantMoved(t, n, block)
			n = moveOut(t, n, block, impl.PageCount+1).Nand
			wantSameContents(t, strconv.FormatInt(i+1, 10)+" moves", n, first)
			wantList(t, "Room", []int64{impl.Room(n)}, []int64{impl.PageCount})
		}
		if gap := impl.GapOf(n); gap > 1 {
			t.Errorf("the gap is %d after moving out of the coldest block each time", gap)
		}
	}
}

// A move that was interrupted is taken up by the next one, which does only what is left.
func TestInterruptedMovesAreTakenUp(t *testing.T) {
	w := encodedAll(numbered(8).Recs...)
	n := chipOf(good(2), good(7, w[7], w[5], w[4], w[6]), good(0, w[:4]...), good(0))
	all := moveOut(t, n, 1, 5)
	wantOut(t, "all steps at once", all, impl.NandOut{Nand: chipOf(good(2), good(8), n.Blocks[2], good(0, w[4:8]...))})
	for first := range int64(5) {
		for second := int64(0); first+second <= 5; second++ {
			part := moveOut(t, n, 1, first).Nand
			wantList(t, "the rest of the load", impl.Load(part, 1), []int64{5, 6, 7, 8}[first:])
			part = moveOut(t, part, 1, second).Nand
			wantOut(t, "in two parts", impl.NandOut{Nand: part}, moveOut(t, n, 1, first+second))
			if first+second < 5 {
				wantOut(t, "in three parts", moveOut(t, part, 1, math.MaxInt64), all)
			}
		}
	}
	wantCode(t, "once more", moveOut(t, all.Nand, 1, 0), impl.ErrState)
}

// Chips that were made by hand, so that their loads are known.
func TestMovingOutOfChosenBlocks(t *testing.T) {
	several := []impl.Rec{write(1, 0, 0, "a"), write(2, 1, 1, "b"), write(3, 1, 1, "c"), write(4, 2, 2, "d"), trim(5, 3, 0), roll(6, 4, 0), write(7, 5, 1, "e")}
	low := []impl.Rec{write(1, 0, 0, "a"), write(2, 1, 0, "b"), floor(3, 5, 4), write(4, 6, 0, "c"), floor(5, 7, 2)}
	needed := encodedAll(numbered(4).Recs...)
	half := encoded(write(9, 9, 0, "half"))[:9]
	for what, c := range map[string]struct {
		n     impl.Nand
		block int64
		load  []int64
	}{
		"one sector":                     {fourWrites(), 0, []int64{4}},
		"several sectors":                {chipOf(good(0, encodedAll(several[:4]...)...), good(0, encodedAll(several[4:]...)...), good(0)), 0, []int64{1, 3, 4}},
		"as many records as pages":       {chipOf(good(0, needed...), good(0)), 0, []int64{1, 2, 3, 4}},
		"against the order":              {chipOf(good(0), good(0, needed[3], needed[2], needed[1], needed[0])), 1, []int64{1, 2, 3, 4}},
		"without a floor":                {chipOf(good(0), good(0, encodedAll(low[0], low[1], low[3], low[0])...), good(3)), 1, []int64{1, 2, 4}},
		"with a floor":                   {chipOf(good(0, encodedAll(low[:4]...)...), good(0, encodedAll(low[4])...)), 0, []int64{2, 3, 4}},
		"the last record, a low floor":   {chipOf(good(0, encodedAll(low[0], low[4], low[0], low[4])...), good(0, encodedAll(low[1:4]...)...)), 0, []int64{5}},
		"not the victim":                 {chipOf(good(0, junk(4)...), good(0, encodedAll(several[:4]...)...), good(0, encodedAll(several[4:]...)...), good(0)), 1, []int64{1, 3, 4}},
		"only torn pages":                {chipOf(good(0, half, half, half, half), good(0, encodedAll(several[:4]...)...)), 0, nil},
		"torn pages between":             {chipOf(good(0), good(0, half, needed[1], half, needed[0]), good(0, needed[2], half)), 1, []int64{1, 2}},
		"the same record beside itself":  {chipOf(good(0, slices.Repeat(encodedAll(low[0]), 4)...), good(0)), 0, []int64{1}},
		"the same record in another one": {chipOf(good(0, slices.Repeat(encodedAll(low[0]), 4)...), good(0, encodedAll(low[0])...)), 0, nil},
		"the same record in a bad one":   {chipOf(bad(0, encodedAll(low[:4]...)...), good(0, encodedAll(low[:4]...)...)), 1, nil},
		"some of them in a bad one":      {chipOf(bad(0, encodedAll(low[1], low[3])...), good(0, encodedAll(low[:4]...)...), good(0)), 1, []int64{3}},
		"two full blocks with the same":  {chipOf(good(0, encodedAll(several[:4]...)...), good(0, encodedAll(several[:4]...)...)), 1, nil},
	} {
		wantList(t, what+": Load", impl.Load(c.n, c.block), c.load)
		if code, _ := wantMoved(t, c.n, c.block); code != impl.OK {
			t.Errorf("%s: MoveOut returns the code %d", what, code)
		}
		for steps := range int64(len(c.load)) + 2 {
			wantEveryTime(t, what, moveOut(t, c.n, c.block, steps).Nand, c.n)
		}
		wantWear(t, c.n)
	}
}

// MoveOut.

func TestStepsOfMovingOut(t *testing.T) {
	w := encodedAll(numbered(9).Recs...)
	// Block 3 has one page left, then comes block 4, which has the least Erases.
	n := chipOf(good(5), good(7, w[8], w[5], w[7], w[4]), good(0, w[:4]...), good(0, w[6], "", ""), good(2), bad(0))
	first := programmed(n, 3, w[4])
	second := programmed(first, 4, w[5])
	third := programmed(second, 4, w[7])
	fourth := programmed(third, 4, w[8])
	last := chipCopy(fourth)
	last.Blocks[1] = good(8)
	for steps, want := range map[int64]impl.Nand{
		math.MinInt64: n, -1 << 32: n, -6: n, -5: n, -1: n, 0: n,
		1: first, 2: second, 3: third, 4: fourth,
		5: last, 6: last, 9: last, 1 << 32: last, math.MaxInt64: last,
	} {
		wantOut(t, strconv.FormatInt(steps, 10)+" steps", moveOut(t, n, 1, steps), impl.NandOut{Nand: want})
	}
	wantMoved(t, n, 1)
	wantWear(t, n)
}

// Without a load only the erase remains, for which there need not be any room.
func TestMovingOutWithoutALoad(t *testing.T) {
	n := chipOf(good(0, encodedAll(numbered(4).Recs...)...), good(3, junk(4)...), bad(0))
	for _, steps := range someSteps() {
		want := n
		if steps > 0 {
			want = chipOf(n.Blocks[0], good(4), n.Blocks[2])
		}
		wantOut(t, strconv.FormatInt(steps, 10)+" steps", moveOut(t, n, 1, steps), impl.NandOut{Nand: want})
	}
	wantMoved(t, n, 1)
	wantWear(t, n)
}

// The reserve is 0: the last free block is used.
func TestMovingOutUsesTheLastFreeBlock(t *testing.T) {
	w := encodedAll(numbered(8).Recs...)
	n := chipOf(good(0, w[:4]...), good(1), good(0, w[4:8]...))
	wantOut(t, "block 0", moveOut(t, n, 0, 5), impl.NandOut{Nand: chipOf(good(1), good(1, w[:4]...), n.Blocks[2])})
	wantOut(t, "block 2", moveOut(t, n, 2, 5), impl.NandOut{Nand: chipOf(n.Blocks[0], good(1, w[4:8]...), good(1))})
	wantMoved(t, n, 0)
	wantMoved(t, n, 2)
}

func TestMovingOutWithoutEnoughRoom(t *testing.T) {
	w := encodedAll(numbered(20).Recs...)
	block := good(0, w[:4]...)
	for what, c := range map[string]struct {
		n    impl.Nand
		room int64
	}{
		"no other block":   {chipOf(block), 0},
		"no room":          {chipOf(block, good(0, w[4:8]...)), 0},
		"only bad room":    {chipOf(block, bad(0), bad(0, w[4])), 0},
		"one page":         {chipOf(block, good(0, w[4:7]...)), 1},
		"two pages":        {chipOf(block, good(0, w[4:6]...), bad(0)), 2},
		"three pages":      {chipOf(block, good(0, w[4]), good(0, w[8:12]...)), 3},
		"a page in two":    {chipOf(block, good(0, w[4:7]...), good(0, w[8:11]...)), 2},
		"a page in three":  {chipOf(block, good(0, w[4:7]...), good(0, w[8:11]...), good(0, w[12:15]...)), 3},
		"worn out, though": {chipOf(good(impl.MaxTime, w[:4]...), good(0, w[4:7]...)), 1},
	} {
		for steps := int64(-1); steps <= allSteps; steps++ {
			out := moveOut(t, c.n, 0, steps)
			wantOut(t, what, out, refMoveOut(c.n, 0, steps))
			if steps > c.room {
				wantCode(t, what+", too many steps", out, impl.ErrFull)
			} else if out.Code != impl.OK {
				t.Errorf("%s: MoveOut with %d steps returns the code %d", what, steps, out.Code)
			}
		}
		wantCode(t, what+", all steps", moveOut(t, c.n, 0, math.MaxInt64), impl.ErrFull)
		wantMoved(t, c.n, 0)
		wantWear(t, c.n)
	}
	// Beside the four records there is nothing that needs room.
	wantOut(t, "four pages in two", moveOut(t, chipOf(block, good(0, w[4:6]...), good(0, w[8:10]...)), 0, 5),
		impl.NandOut{Nand: chipOf(good(1), good(0, w[4], w[5], w[0], w[1]), good(0, w[8], w[9], w[2], w[3]))})
}

// The last step fails if the block can be erased no more, the steps before it do not.
func TestMovingOutOfAWornOutBlock(t *testing.T) {
	w := encodedAll(numbered(4).Recs...)
	for size := range impl.PageCount + 1 {
		for _, erases := range []int64{impl.MaxTime - 1, impl.MaxTime} {
			block := good(erases, append(slices.Clone(w[:size]), junk(impl.PageCount-size)...)...)
			n := chipOf(good(0), block)
			for steps := int64(0); steps <= int64(size); steps++ {
				wantOut(t, "moving", moveOut(t, n, 1, steps), impl.NandOut{Nand: chipOf(good(0, w[:steps]...), block)})
			}
			for _, steps := range []int64{int64(size) + 1, int64(size) + 2, math.MaxInt64} {
				if erases == impl.MaxTime {
					wantCode(t, "one time too many", moveOut(t, n, 1, steps), impl.ErrFull)
					continue
				}
				wantOut(t, "the last time", moveOut(t, n, 1, steps), impl.NandOut{Nand: chipOf(good(0, w[:size]...), good(impl.MaxTime))})
			}
			wantWear(t, n)
		}
	}
}

// withoutHistory is a chip whose records are no history, with a full, a full bad, an open bad, an open and a free block. The first block has the least Erases.
func withoutHistory() impl.Nand {
	late := encodedAll(write(1, 5, 0, "a"), write(2, 4, 0, "b"))
	return chipOf(good(0, late[0], late[1], "x", "x"), bad(1, junk(4)...), bad(1, junk(3)...), good(1, junk(3)...), good(9))
}

// spoiled returns a chip with another block that makes it invalid.
func spoiled(n impl.Nand) impl.Nand {
	n = chipCopy(n)
	n.Blocks = append(n.Blocks, good(-1))
	return n
}

func TestOrderOfErrorsOfMovingOut(t *testing.T) {
	w := encodedAll(numbered(12).Recs...)
	n := chipOf(good(0, w[:4]...), bad(0, w[4:8]...), bad(0, w[8:11]...), good(0, junk(3)...), good(0), bad(0), bad(impl.MaxTime, junk(4)...))
	crowded := chipOf(bad(0, w[:4]...), good(0, w[4:8]...), bad(0))
	for _, steps := range someSteps() {
		for _, block := range blocksAround(n) {
			wantCode(t, "an invalid chip", moveOut(t, spoiled(n), block, steps), impl.ErrForm)
			wantCode(t, "an invalid chip without a history", moveOut(t, spoiled(withoutHistory()), block, steps), impl.ErrForm)
			if block < 0 || block >= int64(len(n.Blocks)) {
				wantCode(t, "no such block", moveOut(t, n, block, steps), impl.ErrNone)
				wantCode(t, "no such block and no history", moveOut(t, withoutHistory(), block, steps), impl.ErrNone)
			}
		}
		for block := range withoutHistory().Blocks {
			wantCode(t, "no history", moveOut(t, withoutHistory(), int64(block), steps), impl.ErrState)
		}
		wantCode(t, "a full bad block", moveOut(t, n, 1, steps), impl.ErrBad)
		wantCode(t, "a bad block with an empty page", moveOut(t, n, 2, steps), impl.ErrBad)
		wantCode(t, "a block with an empty page", moveOut(t, n, 3, steps), impl.ErrState)
		wantCode(t, "a free block", moveOut(t, n, 4, steps), impl.ErrState)
		wantCode(t, "a bad block without a used page", moveOut(t, n, 5, steps), impl.ErrBad)
		wantCode(t, "a worn out bad block", moveOut(t, n, 6, steps), impl.ErrBad)
		wantCode(t, "a bad block and no room", moveOut(t, crowded, 0, steps), impl.ErrBad)
		wantCode(t, "an empty bad block and no room", moveOut(t, crowded, 2, steps), impl.ErrBad)
		wantCode(t, "a worn out block with an empty page", moveOut(t, chipOf(good(impl.MaxTime, w[:3]...)), 0, steps), impl.ErrState)
		wantCode(t, "a worn out block without a used page", moveOut(t, chipOf(good(impl.MaxTime)), 0, steps), impl.ErrState)
	}
	wantMoved(t, n, 0)
	wantWear(t, n)
	wantWear(t, withoutHistory())
	wantWear(t, crowded)
}

// One to four used pages, in a good and in a bad block.
func TestMovingOutOfBlocksThatAreNotFull(t *testing.T) {
	w := encodedAll(numbered(4).Recs...)
	for used := range impl.PageCount + 1 {
		n := chipOf(good(0), good(1, w[:used]...), bad(1, w[:used]...))
		want := int64(impl.ErrState)
		if used == impl.PageCount {
			want = impl.OK
		}
		if got := moveOut(t, n, 1, 0).Code; got != want {
			t.Errorf("MoveOut of a block with %d used pages returns the code %d", used, got)
		}
		wantCode(t, "a bad block", moveOut(t, n, 2, 0), impl.ErrBad)
		wantWear(t, n)
	}
}

// Coldest.

func TestColdest(t *testing.T) {
	w := encodedAll(numbered(12).Recs...)
	full := func(erases int64) impl.Block { return good(erases, w[:4]...) }
	open := func(erases int64) impl.Block { return good(erases, w[4:7]...) }
	badly := func(erases int64) impl.Block { return bad(erases, w[8:12]...) }
	for what, c := range map[string]struct {
		n    impl.Nand
		want int64
	}{
		"a new chip":                           {impl.NandNew(1), -1},
		"the most new blocks":                  {impl.NandNew(impl.MaxBlocks), -1},
		"only open ones":                       {chipOf(open(0), good(0, "x"), open(3)), -1},
		"only a bad one":                       {chipOf(badly(0)), -1},
		"only bad ones":                        {chipOf(badly(3), badly(0), badly(2)), -1},
		"bad, open and free ones":              {chipOf(badly(0), open(0), good(0)), -1},
		"the only one":                         {chipOf(full(9)), 0},
		"the only one, between":                {chipOf(good(0), full(9), badly(0), open(0)), 1},
		"the least, first":                     {chipOf(full(1), full(2), full(3)), 0},
		"the least, between":                   {chipOf(full(2), full(1), full(3)), 1},
		"the least, last":                      {chipOf(full(3), full(2), full(1)), 2},
		"the first of several":                 {chipOf(full(3), full(1), full(2), full(1), full(1)), 1},
		"the first of several that are new":    {chipOf(full(1), full(0), full(0)), 1},
		"all the same":                         {chipOf(full(5), full(5), full(5)), 0},
		"not a colder open one":                {chipOf(open(0), full(3), full(2), good(1, "x")), 2},
		"not a colder one with an empty page":  {chipOf(full(3), open(2), full(3)), 0},
		"not a colder free one":                {chipOf(good(0), full(3), good(1)), 1},
		"not a colder bad one":                 {chipOf(full(3), badly(2), badly(0)), 0},
		"not a bad one with the same":          {chipOf(badly(1), full(1)), 1},
		"worn out":                             {chipOf(good(0), full(impl.MaxTime)), 1},
		"almost worn out":                      {chipOf(full(impl.MaxTime), full(impl.MaxTime-1)), 1},
		"the first of several that are so":     {chipOf(badly(0), full(impl.MaxTime), full(impl.MaxTime)), 1},
		"whatever the loads are":               {chipOf(good(2, junk(4)...), full(1), good(3, junk(4)...)), 1},
		"no records at all":                    {chipOf(good(2, junk(4)...), good(1, "", "", "", "")), 1},
		"no history":                           {chipOf(good(4, junk(4)...), good(3, encodedAll(write(1, 5, 0, ""), write(2, 4, 0, ""), write(3, 6, 0, ""), write(4, 7, 0, ""))...)), 1},
		"more blocks, the last one":            {chipOf(full(5), full(4), open(0), good(0), full(4), full(4), badly(0), full(4), full(4), full(4), full(4), full(3)), 11},
		"more blocks, the first of the colder": {chipOf(full(5), full(4), open(0), good(0), full(4), full(4), badly(0), full(4), full(4), full(3), full(4), full(3)), 9},
	} {
		if got := impl.Coldest(c.n); got != c.want {
			t.Errorf("%s: Coldest = %d, want %d", what, got, c.want)
		}
		wantWear(t, c.n)
	}
}

func TestColdestAmongAllOrdersOfErases(t *testing.T) {
	for code := range int64(4 * 4 * 4) {
		erases := []int64{code % 4, code / 4 % 4, code / 16}
		var n impl.Nand
		for _, e := range erases {
			n.Blocks = append(n.Blocks, good(e, junk(4)...))
		}
		wantList(t, "Coldest and GapOf", []int64{impl.Coldest(n), impl.GapOf(n)},
			[]int64{int64(slices.Index(erases, slices.Min(erases))), slices.Max(erases) - slices.Min(erases)})
	}
}

// GapOf.

func TestGapOf(t *testing.T) {
	w := encodedAll(numbered(4).Recs...)
	for what, c := range map[string]struct {
		n    impl.Nand
		want int64
	}{
		"no block":                 {impl.Nand{}, 0},
		"a new chip":               {impl.NandNew(3), 0},
		"one block":                {chipOf(good(7)), 0},
		"one full block":           {chipOf(good(7, w...)), 0},
		"all the same":             {chipOf(good(7), good(7, w...), good(7, "x")), 0},
		"increasing":               {chipOf(good(1), good(4), good(9)), 8},
		"decreasing":               {chipOf(good(9), good(4), good(1)), 8},
		"free, open and full ones": {chipOf(good(4), good(9, w...), good(1, "x"), good(5)), 8},
		"the least is free":        {chipOf(good(4, w...), good(1), good(5, "x")), 4},
		"a bad greatest":           {chipOf(good(4), bad(9), good(1)), 3},
		"a bad least":              {chipOf(good(4), bad(0, "x"), good(9)), 5},
		"bad at both ends":         {chipOf(bad(0), good(4), good(6), bad(impl.MaxTime)), 2},
		"one that is not bad":      {chipOf(bad(0), good(4), bad(9)), 0},
		"one bad block":            {chipOf(bad(4)), 0},
		"none that is not bad":     {chipOf(bad(0), bad(4, w...), bad(9)), 0},
		"bad ones from the most":   {chipOf(bad(impl.MaxTime), bad(0)), 0},
		"the most":                 {chipOf(good(impl.MaxTime), good(0)), impl.MaxTime},
		"worn out":                 {chipOf(good(impl.MaxTime), good(impl.MaxTime)), 0},
		"no history":               {withoutHistory(), 9},
	} {
		if got := impl.GapOf(c.n); got != c.want {
			t.Errorf("%s: GapOf = %d, want %d", what, got, c.want)
		}
		if impl.NandRight(c.n) {
			wantWear(t, c.n)
		}
	}
}

// Level.

func TestGapsOfLevel(t *testing.T) {
	w := encodedAll(numbered(8).Recs...)
	full := good(4, w[:4]...)
	for what, c := range map[string]struct {
		n          impl.Nand
		block      int64
		difference int64
	}{
		"a free greatest":             {chipOf(good(9), full), 1, 5},
		"a full greatest":             {chipOf(full, good(9, w[4:]...), good(6)), 0, 5},
		"an open greatest":            {chipOf(good(5), full, good(7, w[4])), 1, 3},
		"no bad greatest":             {chipOf(bad(99), full, good(5), bad(7, w[4:]...)), 1, 1},
		"not the least, a free one":   {chipOf(full, good(0), good(6)), 0, 2},
		"not the least, an open one":  {chipOf(full, good(6), good(0, w[4:7]...)), 0, 2},
		"not the least, a bad one":    {chipOf(full, good(6), bad(0, w[4:]...)), 0, 2},
		"the first of the coldest":    {chipOf(good(5, w[4:]...), full, full, good(6)), 1, 2},
		"the greatest itself":         {chipOf(good(0), full, good(3)), 1, 0},
		"the greatest difference":     {chipOf(good(0, w[:4]...), good(impl.MaxTime)), 0, impl.MaxTime},
		"without a load":              {chipOf(good(1, junk(4)...), full, good(3)), 0, 3},
		"all but the greatest is bad": {chipOf(bad(0), bad(1, w[4:]...), full), 2, 0},
	} {
		wantList(t, what+": Coldest", []int64{impl.Coldest(c.n)}, []int64{c.block})
		for _, steps := range someSteps() {
			want := moveOut(t, c.n, c.block, steps)
			for _, gap := range []int64{c.difference, c.difference + 1, c.difference + 9, math.MaxInt64} {
				wantCode(t, what, level(t, c.n, gap, steps), impl.ErrNone)
			}
			for _, gap := range []int64{0, 1, c.difference / 2, c.difference - 1} {
				if gap >= 0 && gap < c.difference {
					wantOut(t, what, level(t, c.n, gap, steps), want)
				}
			}
			for _, gap := range []int64{-1, -c.difference - 1, math.MinInt64} {
				wantCode(t, what+", a negative gap", level(t, c.n, gap, steps), impl.ErrForm)
			}
		}
		wantWear(t, c.n)
	}
}

func TestOrderOfErrorsOfLevel(t *testing.T) {
	w := encodedAll(numbered(8).Recs...)
	warm := good(9, w[4:]...)
	late := encodedAll(write(1, 5, 0, "a"), write(2, 4, 0, "b"))
	for _, steps := range someSteps() {
		for what, n := range map[string]impl.Nand{
			"a new chip":                   impl.NandNew(2),
			"only bad blocks":              chipOf(bad(0, w[:4]...), bad(9)),
			"only an open block":           chipOf(good(0, w[:3]...), good(9)),
			"no history and no full block": chipOf(good(0, late...), good(9)),
			"the warmest one":              chipOf(warm, good(0)),
			"no history, the warmest one":  chipOf(good(9, junk(4)...), good(0, late...)),
			"worn out and thus warmest":    chipOf(good(impl.MaxTime, junk(4)...), good(0)),
		} {
			for _, gap := range []int64{0, 1, math.MaxInt64} {
				wantCode(t, what, level(t, n, gap, steps), impl.ErrNone)
				wantCode(t, what+", invalid", level(t, spoiled(n), gap, steps), impl.ErrForm)
			}
			for _, gap := range []int64{-1, math.MinInt64} {
				wantCode(t, what+", a negative gap", level(t, n, gap, steps), impl.ErrForm)
				wantCode(t, what+", a negative gap, invalid", level(t, spoiled(n), gap, steps), impl.ErrForm)
			}
		}
		// The codes of MoveOut.
		wantCode(t, "no history", level(t, withoutHistory(), 8, steps), impl.ErrState)
		wantCode(t, "no history, too large a gap", level(t, withoutHistory(), 9, steps), impl.ErrNone)
		wantCode(t, "no history, a negative gap", level(t, withoutHistory(), -1, steps), impl.ErrForm)
	}
	crowded := chipOf(warm, good(0, w[:4]...))
	for _, steps := range []int64{math.MinInt64, -1, 0} {
		wantOut(t, "no steps", level(t, crowded, 8, steps), impl.NandOut{Nand: crowded})
	}
	for _, steps := range []int64{1, 4, 5, math.MaxInt64} {
		wantCode(t, "no room", level(t, crowded, 8, steps), impl.ErrFull)
		wantCode(t, "no room, too large a gap", level(t, crowded, 9, steps), impl.ErrNone)
	}
	wantWear(t, crowded)
}

// Leveling again and again brings the Erases together, and then returns ErrNone.
func TestLevelUntilTheGapIsReached(t *testing.T) {
	for gap := range int64(4) {
		n := chipOf(good(0), good(6), good(2), good(5), good(6), good(9))
		for _, r := range numbered(5 * impl.PageCount).Recs {
			n = appendRec(t, n, r, 0).Nand
		}
		first := n
		moves := 0
		for out := level(t, n, gap, allSteps); out.Code == impl.OK && moves < 99; out = level(t, n, gap, allSteps) {
			n = out.Nand
			wantSameContents(t, "after leveling", n, first)
			moves++
		}
		wantCode(t, "in the end", level(t, n, gap, allSteps), impl.ErrNone)
		if moves == 0 || moves == 99 || refWarmer(n) > gap {
			t.Errorf("after %d moves the coldest block is %d behind, with the gap %d", moves, refWarmer(n), gap)
		}
	}
}

// Invalid arguments.

func wantNothingToLevel(t *testing.T, what string, n impl.Nand) {
	t.Helper()
	before := chipCopy(n)
	wantList(t, what+": Coldest and GapOf", []int64{impl.Coldest(n), impl.GapOf(n)}, []int64{-1, 0})
	for _, steps := range someSteps() {
		for _, block := range blocksAround(impl.NandNew(3)) {
			wantCode(t, what, impl.MoveOut(n, block, steps), impl.ErrForm)
		}
		for _, gap := range []int64{math.MinInt64, -1, 0, 1, impl.MaxTime, math.MaxInt64} {
			wantCode(t, what, impl.Level(n, gap, steps), impl.ErrForm)
		}
	}
	if !sameChip(n, before) {
		t.Errorf("%s: the argument was changed", what)
	}
}

func TestLevelingOfInvalidChips(t *testing.T) {
	for name, n := range invalidChips() {
		wantNothingToLevel(t, name, n)
	}
	sample := func() impl.Nand {
		return chipOf(good(0, encodedAll(numbered(4).Recs...)...), good(3, junk(4)...), good(9))
	}
	wantMoved(t, sample(), 0)
	wantMoved(t, sample(), 1)
	wantList(t, "Coldest and GapOf", []int64{impl.Coldest(sample()), impl.GapOf(sample())}, []int64{0, 9})
	for what, change := range map[string]func(n *impl.Nand){
		"negative Erases":          func(n *impl.Nand) { n.Blocks[1].Erases = -1 },
		"negative Erases, bad":     func(n *impl.Nand) { n.Blocks[2] = bad(-1) },
		"Erases above the most":    func(n *impl.Nand) { n.Blocks[2].Erases = impl.MaxTime + 1 },
		"a page too many":          func(n *impl.Nand) { n.Blocks[1].Pages = append(n.Blocks[1].Pages, impl.Page{}) },
		"a page too few":           func(n *impl.Nand) { n.Blocks[1].Pages = n.Blocks[1].Pages[1:] },
		"an unused page with Data": func(n *impl.Nand) { n.Blocks[2].Pages[0].Data = "x" },
		"Data above the most":      func(n *impl.Nand) { n.Blocks[1].Pages[2].Data = pattern(impl.PageSize + 1) },
		"an unused first page":     func(n *impl.Nand) { n.Blocks[1].Pages[0] = impl.Page{} },
		"too many blocks":          func(n *impl.Nand) { n.Blocks = slices.Repeat(n.Blocks, 5) },
		"no blocks":                func(n *impl.Nand) { n.Blocks = n.Blocks[:0] },
	} {
		n := sample()
		change(&n)
		wantNothingToLevel(t, what, n)
	}
}

// Memory.

// leveledChip has a coldest block with a load of two, room for it, and records on several pages.
func leveledChip() impl.Nand {
	w := encodedAll(numbered(6).Recs...)
	return chipOf(good(3, w[2], w[0], w[0], w[1]), bad(1, w[3], w[0]), good(4, w[4], w[5]), good(6))
}

func TestLeveledChipsShareNoMemory(t *testing.T) {
	for _, steps := range someSteps() {
		wantOwnMemory(t, "MoveOut with "+strconv.FormatInt(steps, 10)+" steps", leveledChip, func(n impl.Nand) impl.NandOut { return impl.MoveOut(n, 0, steps) })
		wantOwnMemory(t, "Level with "+strconv.FormatInt(steps, 10)+" steps", leveledChip, func(n impl.Nand) impl.NandOut { return impl.Level(n, 2, steps) })
	}
}

// A chip that was returned is used and changed, and the same call still returns the same.
func TestLeveledChipsAreUsed(t *testing.T) {
	for steps := int64(-1); steps <= 4; steps++ {
		n := leveledChip()
		first := moveOut(t, n, 0, steps).Nand
		next := appendRec(t, first, write(7, 9, 0, "next"), 0).Nand
		wantValue(t, "the next record", impl.AsOf(impl.Mount(next).Hist, 0, 9), there("next"))
		first.Blocks[2].Pages[2] = impl.Page{Used: true, Data: "wrong"}
		first.Blocks[0].Erases = 77
		if !sameChip(n, leveledChip()) {
			t.Error("a change of a result changed the argument")
		}
		wantOut(t, "the same move", moveOut(t, n, 0, steps), refMoveOut(leveledChip(), 0, steps))
		wantOut(t, "the same move by Level", level(t, n, 2, steps), refMoveOut(leveledChip(), 0, steps))
		wantOut(t, "going on", moveOut(t, next, 2, 9), refMoveOut(next, 2, 9))
	}
}

func TestArgumentsOfLevelingAreLeftAsTheyWere(t *testing.T) {
	// The slices have room behind them, which is not to be used.
	pages := append(usedPages(encoded(write(1, 0, 0, "a")), "x", "x", "x"), impl.Page{Data: "behind"})
	blocks := append(make([]impl.Block, 0, 4), impl.Block{Pages: pages[:impl.PageCount]}, good(5), bad(7, "behind"))
	n := impl.Nand{Blocks: blocks[:2]}
	before := chipCopy(n)
	impl.Coldest(n)
	impl.GapOf(n)
	for _, steps := range someSteps() {
		impl.MoveOut(n, 0, steps)
		impl.Level(n, 4, steps)
	}
	if !sameChip(n, before) {
		t.Errorf("the argument was changed: %#v", n)
	}
	if pages[impl.PageCount].Data != "behind" || blocks[2].Erases != 7 || blocks[2].Pages[0].Data != "behind" {
		t.Error("memory behind the argument was changed")
	}
}

func TestCallsOfLevelingAreRepeatable(t *testing.T) {
	random := rand.New(rand.NewSource(44))
	for range 60 {
		n := randomChip(random)
		wantRepeatable(t, func() []any {
			return []any{impl.Coldest(n), impl.GapOf(n), impl.MoveOut(n, 0, 1), impl.MoveOut(n, 1, 9), impl.Level(n, 0, 1), impl.Level(n, 0, 9)}
		})
	}
}
