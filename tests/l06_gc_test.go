package tests

import (
	"math"
	"math/rand"
	"slices"
	"strconv"
	"testing"

	"loop.example/g00637/impl"
)

func gc(t *testing.T, n impl.Nand, steps int64) impl.NandOut {
	t.Helper()
	return do(t, n, func(n impl.Nand) impl.NandOut { return impl.Gc(n, steps) })
}

// junk returns that many texts that are no records.
func junk(count int) []string {
	return slices.Repeat([]string{"no record"}, count)
}

// The reference, by the definitions of the document.

// refLoads returns the load of each block.
func refLoads(n impl.Nand) [][]int64 {
	loads := make([][]int64, len(n.Blocks))
	log := refLog(n)
	for _, r := range refPrune(refMount(n).Hist.Recs).Recs {
		blocks := map[int64]bool{}
		for _, l := range log {
			if l.rec.Seq == r.Seq {
				blocks[l.place/4] = true
			}
		}
		for block := range blocks {
			if len(blocks) == 1 {
				loads[block] = append(loads[block], r.Seq)
			}
		}
	}
	return loads
}

func refVictim(n impl.Nand, loads [][]int64) int64 {
	victim := int64(-1)
	if refMount(n).Code != impl.OK {
		return victim
	}
	// From larger loads to smaller ones and from the last block to the first, so that the last block found is the one.
	for size := 3; size >= 0; size-- {
		for block, b := range slices.Backward(n.Blocks) {
			if !b.Bad && refUsed(b) == 4 && len(loads[block]) == size {
				victim = int64(block)
			}
		}
	}
	return victim
}

func refRoom(n impl.Nand) int64 {
	room := 0
	for _, b := range n.Blocks {
		if !b.Bad {
			room += 4 - refUsed(b)
		}
	}
	if refMount(n).Code != impl.OK {
		return 0
	}
	return int64(room)
}

// refEmptied moves the load of a block to other blocks and erases the block, or does the first steps of that.
func refEmptied(n impl.Nand, block, steps int64) impl.NandOut {
	recs := refMount(n).Hist.Recs
	chip := chipCopy(n)
	load := refLoads(n)[block]
	for i := range load {
		if int64(i) >= steps {
			return impl.NandOut{Nand: chip}
		}
		next := refNext(chip, 0)
		if next < 0 {
			return impl.NandOut{Code: impl.ErrFull}
		}
		at := slices.IndexFunc(recs, func(r impl.Rec) bool { return r.Seq == load[i] })
		chip = programmed(chip, next, encoded(recs[at]))
	}
	if steps <= int64(len(load)) {
		return impl.NandOut{Nand: chip}
	}
	if chip.Blocks[block].Erases == impl.MaxTime {
		return impl.NandOut{Code: impl.ErrFull}
	}
	chip.Blocks[block] = good(chip.Blocks[block].Erases + 1)
	return impl.NandOut{Nand: chip}
}

func refGc(n impl.Nand, steps int64) impl.NandOut {
	if code := refMount(n).Code; code != impl.OK {
		return impl.NandOut{Code: code}
	}
	victim := refVictim(n, refLoads(n))
	if victim < 0 {
		return impl.NandOut{Code: impl.ErrNone}
	}
	return refEmptied(n, victim, steps)
}

// someSteps are numbers of steps from none to more than any collection has.
func someSteps() []int64 {
	return []int64{math.MinInt64, -1, 0, 1, 2, 3, 4, 5, 6, 48, 1 << 32, math.MaxInt64}
}

// blocksAround are the blocks of a chip and numbers that are none of them.
func blocksAround(n impl.Nand) []int64 {
	l := []int64{math.MinInt64, -1 << 32, -2, -1}
	for block := range len(n.Blocks) + 2 {
		l = append(l, int64(block))
	}
	return append(l, impl.MaxBlocks, impl.MaxBlocks+1, 1<<32, math.MaxInt64)
}

// wantGc compares the answers of a valid chip with the reference.
func wantGc(t *testing.T, n impl.Nand) {
	t.Helper()
	before := chipCopy(n)
	loads := refLoads(n)
	for _, block := range blocksAround(n) {
		want := []int64(nil)
		if block >= 0 && block < int64(len(n.Blocks)) {
			want = loads[block]
		}
		wantList(t, "Load of block "+strconv.FormatInt(block, 10), impl.Load(n, block), want)
	}
	wantList(t, "Victim and Room", []int64{impl.Victim(n), impl.Room(n)}, []int64{refVictim(n, loads), refRoom(n)})
	for _, steps := range someSteps() {
		wantOut(t, strconv.FormatInt(steps, 10)+" steps", gc(t, n, steps), refGc(n, steps))
	}
	if !sameChip(n, before) {
		t.Error("the argument was changed")
	}
	if t.Failed() {
		t.Fatalf("of the chip %#v", before)
	}
}

// wantSameContents requires that two chips have the same contents at every time from the floor on, the same floor and the same last record.
func wantSameContents(t *testing.T, what string, after, before impl.Nand) {
	t.Helper()
	old, now := impl.Mount(before), impl.Mount(after)
	if old.Code != impl.OK || now.Code != impl.OK {
		t.Fatalf("%s: Mount returns the codes %d and then %d", what, old.Code, now.Code)
	}
	is := []int64{impl.FloorOf(now.Hist), impl.LastSeq(now.Hist), impl.LastTime(now.Hist)}
	was := []int64{impl.FloorOf(old.Hist), impl.LastSeq(old.Hist), impl.LastTime(old.Hist)}
	wantList(t, what+": the floor, LastSeq and LastTime", is, was)
	wantList(t, what+": Needed", impl.Needed(now.Hist), impl.Needed(old.Hist))
	oldStates, newStates := statesOf(old.Hist.Recs), statesOf(now.Hist.Recs)
	for _, at := range moments(old.Hist) {
		if at < was[0] {
			continue
		}
		want := oldStates[countUntil(old.Hist.Recs, at)]
		if got := newStates[countUntil(now.Hist.Recs, at)]; got != want {
			t.Errorf("%s: at time %d\ngot  %+v\nwant %+v", what, at, got, want)
		}
	}
	for _, at := range []int64{was[0], was[2]} {
		if got, want := contentsAt(now.Hist, at), contentsAt(old.Hist, at); got != want {
			t.Errorf("%s: AsOf time %d\ngot  %+v\nwant %+v", what, at, got, want)
		}
	}
	if t.Failed() {
		t.Fatalf("%s: from the chip\n%#v\nto\n%#v", what, before, after)
	}
}

// wantKept requires promise 8 of a chip: whatever number of steps a collection has, the contents stay, and after all of them there is more room. It returns the code of the whole collection and the size of the load.
func wantKept(t *testing.T, n impl.Nand) (int64, int) {
	t.Helper()
	victim := impl.Victim(n)
	size := len(impl.Load(n, victim))
	for steps := int64(0); steps <= int64(size); steps++ {
		out := gc(t, n, steps)
		if out.Code != impl.OK {
			return gc(t, n, math.MaxInt64).Code, size
		}
		wantSameContents(t, strconv.FormatInt(steps, 10)+" steps", out.Nand, n)
		wantList(t, "Room on the way", []int64{impl.Room(out.Nand)}, []int64{impl.Room(n) - steps})
	}
	all := gc(t, n, int64(size)+1)
	wantOut(t, "more steps than there are", gc(t, n, int64(size)+2), all)
	wantOut(t, "the most steps", gc(t, n, math.MaxInt64), all)
	if all.Code == impl.OK {
		wantSameContents(t, "all steps", all.Nand, n)
		wantList(t, "Room in the end", []int64{impl.Room(all.Nand)}, []int64{impl.Room(n) + impl.PageCount - int64(size)})
		if impl.Room(all.Nand) <= impl.Room(n) || impl.UsedOf(all.Nand, victim) != 0 {
			t.Errorf("collecting block %d gave no room", victim)
		}
	}
	return all.Code, size
}

// Random chips.

// agreeingChip returns a chip in whose pages are the records of one history, in any order and some of them several times, and pages that are no records. Unlike those of randomChip, the records with one Seq are all the same.
func agreeingChip(random *rand.Rand, plan histPlan) impl.Nand {
	h := plan.make(random)
	var n impl.Nand
	for range 2 + random.Intn(impl.MaxBlocks-1) {
		var texts []string
		for range []int{0, 0, 1, 2, 3, 4, 4, 4, 4, 4}[random.Intn(10)] {
			r := h.Recs[random.Intn(len(h.Recs))]
			text := encoded(r)
			if random.Intn(5) == 0 {
				text = noRecord(random, r)
			}
			texts = append(texts, text)
		}
		b := good(random.Int63n(5), texts...)
		b.Bad = random.Intn(6) == 0
		n.Blocks = append(n.Blocks, b)
	}
	return n
}

// orderedChip returns a chip to which a history was appended, as far as there was room, and of which some blocks went bad later.
func orderedChip(random *rand.Rand, plan histPlan) impl.Nand {
	h := plan.make(random)
	n := impl.NandNew(2 + random.Int63n(impl.MaxBlocks-1))
	for block := range n.Blocks {
		n.Blocks[block].Erases = random.Int63n(4)
	}
	for _, r := range h.Recs {
		next := refNext(n, random.Int63n(2))
		if next < 0 {
			break
		}
		text := encoded(r)
		if random.Intn(8) == 0 {
			text = text[:len(text)/2]
		}
		n = programmed(n, next, text)
		if random.Intn(30) == 0 {
			n.Blocks[next].Bad = true
		}
	}
	return n
}

// gcPlans are plans with one sector and with several ones, with and without floors.
func gcPlans() []histPlan {
	return append(histPlans(),
		histPlan{count: 12, step: 1, gap: 1, sectors: 1},
		histPlan{count: 20, step: 0, gap: 1, sectors: 1, rolls: 1},
		histPlan{count: 30, step: 1, gap: 1, sectors: 2, rolls: 1, floors: 6},
		histPlan{count: 40, step: 2, gap: 1, sectors: 6, floors: 5},
		histPlan{count: fullHist, step: 0, gap: 1, sectors: 3},
		histPlan{count: fullHist, step: 3, gap: 2, sectors: 1, rolls: 1, floors: 4},
	)
}

// fiveWrites is the chip of the document's example.
func fiveWrites() impl.Nand {
	var recs []impl.Rec
	for seq := int64(1); seq <= 5; seq++ {
		recs = append(recs, write(seq, 0, 0, "a"))
	}
	texts := encodedAll(recs...)
	return chipOf(good(0, texts[:4]...), good(0, texts[4]), good(0))
}

func TestExampleOfGarbageCollection(t *testing.T) {
	n := fiveWrites()
	wantList(t, "the load of block 0", impl.Load(n, 0), nil)
	wantList(t, "the load of block 1", impl.Load(n, 1), []int64{5})
	wantList(t, "the victim and the room", []int64{impl.Victim(n), impl.Room(n)}, []int64{0, 7})
	out := gc(t, n, 1)
	wantOut(t, "Gc", out, impl.NandOut{Nand: chipOf(good(1), n.Blocks[1], good(0))})
	wantList(t, "the room afterwards", []int64{impl.Room(out.Nand)}, []int64{11})
	wantGc(t, n)
	wantGc(t, out.Nand)
	if impl.NoVictim != -1 {
		t.Error("a constant has changed")
	}
}

func TestManyChipsAreCollectedAsDocumented(t *testing.T) {
	random := rand.New(rand.NewSource(21))
	codes := map[int64]int{}
	sizes := map[int]int{}
	for range 300 {
		n := randomChip(random)
		wantGc(t, n)
		codes[impl.Gc(n, math.MaxInt64).Code]++
		if victim := impl.Victim(n); victim != impl.NoVictim {
			sizes[len(impl.Load(n, victim))]++
		}
	}
	for code, least := range map[int64]int{impl.OK: 50, impl.ErrState: 20, impl.ErrNone: 20, impl.ErrFull: 3} {
		if codes[code] < least {
			t.Errorf("the codes were %v", codes)
		}
	}
	for size := range impl.PageCount {
		if sizes[size] < 5 {
			t.Errorf("the sizes of the loads were %v", sizes)
		}
	}
}

// Promise 8.

func TestCollectionChangesNoContents(t *testing.T) {
	random := rand.New(rand.NewSource(22))
	codes := map[int64]int{}
	sizes := map[int]int{}
	for _, plan := range gcPlans() {
		for range 8 {
			for _, n := range []impl.Nand{agreeingChip(random, plan), orderedChip(random, plan)} {
				code, size := wantKept(t, n)
				codes[code]++
				if code == impl.OK {
					sizes[size]++
				}
				wantGc(t, n)
			}
		}
	}
	if codes[impl.OK] < 100 || codes[impl.ErrNone] < 20 || codes[impl.ErrFull] < 1 {
		t.Errorf("the codes were %v", codes)
	}
	for size := range impl.PageCount {
		if sizes[size] < 5 {
			t.Errorf("the sizes of the loads were %v", sizes)
		}
	}
}

// The contents of chips that were made by hand, so that their needed records are known.
func TestCollectionOfChosenChips(t *testing.T) {
	several := []impl.Rec{write(1, 0, 0, "a"), write(2, 1, 1, "b"), write(3, 1, 1, "c"), write(4, 2, 2, "d"), trim(5, 3, 0), roll(6, 4, 0), write(7, 5, 1, "e")}
	low := []impl.Rec{write(1, 0, 0, "a"), write(2, 1, 0, "b"), floor(3, 5, 4), write(4, 6, 0, "c"), floor(5, 7, 2)}
	for what, c := range map[string]struct {
		n      impl.Nand
		victim int64
		load   []int64
	}{
		"one sector":                     {fiveWrites(), 0, nil},
		"several sectors":                {chipOf(good(0, encodedAll(several[:4]...)...), good(0, encodedAll(several[4:]...)...), good(0)), 0, []int64{1, 3, 4}},
		"without a floor":                {chipOf(good(0), good(0, encodedAll(low[0], low[1], low[3], low[0])...), good(3)), 1, []int64{1, 2, 4}},
		"with a floor":                   {chipOf(good(0, encodedAll(low[:4]...)...), good(0, encodedAll(low[4])...)), 0, []int64{2, 3, 4}},
		"the last record, a low floor":   {chipOf(good(0, encodedAll(low[0], low[4], low[0], low[4])...), good(0, encodedAll(low[1:4]...)...)), 0, []int64{5}},
		"the same record beside itself":  {chipOf(good(0, slices.Repeat(encodedAll(low[0]), 4)...), good(0)), 0, []int64{1}},
		"the same record in another one": {chipOf(good(0, slices.Repeat(encodedAll(low[0]), 4)...), good(0, encodedAll(low[0])...)), 0, nil},
		"the same record in a bad one":   {chipOf(bad(0, encodedAll(low[:4]...)...), good(0, encodedAll(low[:4]...)...)), 1, nil},
		"two full blocks with the same":  {chipOf(good(0, encodedAll(several[:4]...)...), good(0, encodedAll(several[:4]...)...)), 0, nil},
	} {
		wantList(t, what+": the victim", []int64{impl.Victim(c.n)}, []int64{c.victim})
		wantList(t, what+": its load", impl.Load(c.n, c.victim), c.load)
		code, _ := wantKept(t, c.n)
		if code != impl.OK {
			t.Errorf("%s: Gc returns the code %d", what, code)
		}
		wantGc(t, c.n)
	}
}

// A collection that was interrupted is taken up by the next one, again and again, until nothing is left to collect.
func TestInterruptedCollectionsAreTakenUp(t *testing.T) {
	random := rand.New(rand.NewSource(23))
	done := 0
	for _, plan := range gcPlans() {
		for range 3 {
			first := orderedChip(random, plan)
			n := first
			for range 40 {
				out := gc(t, n, random.Int63n(4))
				if out.Code != impl.OK {
					break
				}
				n = out.Nand
				wantSameContents(t, "after some collections", n, first)
			}
			if impl.Gc(n, 9).Code == impl.ErrNone {
				done++
			}
		}
	}
	if done < 10 {
		t.Errorf("only %d chips were collected to the end", done)
	}
}

// life is a chip at work, with all the records that were ever appended to it.
type life struct {
	n   impl.Nand
	all []impl.Rec
}

// next returns a record that follows all others. Floors are frequent, so that there is something to collect.
func (l *life) next(random *rand.Rand) impl.Rec {
	var last impl.Rec
	if len(l.all) > 0 {
		last = l.all[len(l.all)-1]
	}
	seq, time := last.Seq+1, last.Time+random.Int63n(3)
	least := refFloor(l.all)
	switch random.Intn(10) {
	case 0:
		return roll(seq, time, least+random.Int63n(time-least+1))
	case 1:
		return trim(seq, time, random.Int63n(3))
	case 2, 3:
		return floor(seq, time, max(0, time-random.Int63n(4)))
	}
	return write(seq, time, random.Int63n(3), strconv.FormatInt(seq, 10))
}

// wantAll requires that nothing is lost from the floor on.
func (l *life) wantAll(t *testing.T) {
	t.Helper()
	h := impl.Mount(l.n).Hist
	wantList(t, "the floor and LastSeq", []int64{impl.FloorOf(h), impl.LastSeq(h)}, []int64{refFloor(l.all), l.all[len(l.all)-1].Seq})
	kept, all := statesOf(h.Recs), statesOf(l.all)
	for _, at := range moments(histOf(l.all...)) {
		if at < refFloor(l.all) {
			continue
		}
		if got, want := kept[countUntil(h.Recs, at)], all[countUntil(l.all, at)]; got != want {
			t.Fatalf("at time %d of the records %+v\ngot  %+v\nwant %+v", at, l.all, got, want)
		}
	}
}

// tear lets the power fail, now and then, before a record is written, and returns the record. The last free block is left.
func (l *life) tear(t *testing.T, random *rand.Rand) impl.Rec {
	t.Helper()
	r := l.next(random)
	if out := torn(t, l.n, encoded(r)); random.Intn(8) == 0 && impl.FreeBlocks(out.Nand) > 0 {
		l.n = out.Nand
	}
	return r
}

// write appends a record if there is room for it, and reports whether there is.
func (l *life) write(t *testing.T, r impl.Rec) bool {
	t.Helper()
	out := appendRec(t, l.n, r, 1)
	if out.Code != impl.OK {
		return false
	}
	l.n = out.Nand
	l.all = append(l.all, r)
	l.wantAll(t)
	return true
}

// collect does some steps of a collection, and reports whether there was anything to collect.
func (l *life) collect(t *testing.T, steps int64) bool {
	t.Helper()
	out := gc(t, l.n, steps)
	if out.Code != impl.OK {
		return false
	}
	l.n = out.Nand
	l.wantAll(t)
	return true
}

func TestChipsAtWorkLoseNothing(t *testing.T) {
	random := rand.New(rand.NewSource(24))
	appended, collected, interrupted := 0, 0, 0
	for i := range int64(30) {
		l := life{n: impl.NandNew(3 + i%5)}
		for range 60 {
			if l.write(t, l.tear(t, random)) {
				appended++
			}
			steps := random.Int63n(6)
			before := impl.Room(l.n)
			if l.collect(t, steps) {
				if impl.Room(l.n) > before {
					collected++
				} else if steps > 0 {
					interrupted++
				}
			}
		}
	}
	if appended < 800 || collected < 150 || interrupted < 50 {
		t.Errorf("%d records were appended, %d blocks were collected, and %d collections interrupted", appended, collected, interrupted)
	}
}

// Load.

func TestLoad(t *testing.T) {
	// Needed are 2 (the contents at the floor), 4 (the floor), 5, 6; 8 is the last one.
	recs := []impl.Rec{write(1, 0, 0, "a"), write(2, 1, 0, "b"), floor(3, 2, 1), floor(4, 5, 4), trim(5, 6, 1), roll(6, 7, 4), floor(7, 7, 2), floor(8, 7, 3)}
	wantList(t, "Needed", impl.Needed(histOf(recs...)), []int64{2, 4, 5, 6})
	texts := encodedAll(recs...)
	for what, c := range map[string]struct {
		n     impl.Nand
		loads [][]int64
	}{
		"in order":                        {chipOf(good(0, texts[:4]...), good(0, texts[4:]...)), [][]int64{{2, 4}, {5, 6, 8}}},
		"against the order":               {chipOf(good(0, texts[7], texts[5], texts[4], texts[3]), good(0, texts[2], texts[1], texts[0])), [][]int64{{4, 5, 6, 8}, {2}}},
		"in open and bad blocks":          {chipOf(good(0, texts[5], texts[4], texts[3]), bad(0, texts[2], texts[1]), bad(0, texts[0], texts[6], texts[7], "x"), good(0), bad(0)), [][]int64{{4, 5, 6}, {2}, {8}, nil, nil}},
		"a page in another block":         {chipOf(good(0, texts[:4]...), good(0, texts[4:]...), good(0, texts[1], texts[7])), [][]int64{{4}, {5, 6}, nil}},
		"a page in a bad block":           {chipOf(good(0, texts[:4]...), bad(0, texts[3], texts[5]), good(0, texts[4:]...)), [][]int64{{2}, nil, {5, 8}}},
		"several pages in one block":      {chipOf(good(0, texts[1], texts[1], texts[3], texts[1]), good(0, texts[4], texts[7], texts[7], texts[5])), [][]int64{{2, 4}, {5, 6, 8}}},
		"several pages in two blocks":     {chipOf(good(0, texts[1], texts[1], texts[3], texts[0]), good(0, texts[1], texts[7], texts[7], texts[5])), [][]int64{{4}, {6, 8}}},
		"a page in each block":            {chipOf(good(0, texts[7]), good(0, texts[7]), good(0, texts[7])), [][]int64{nil, nil, nil}},
		"one record":                      {chipOf(good(0, texts[2])), [][]int64{{3}}},
		"no records":                      {chipOf(good(0, junk(4)...), good(0)), [][]int64{nil, nil}},
		"beside pages that are no record": {chipOf(good(0, "", texts[1], "x", texts[0]), good(0, texts[7][:10], texts[7])), [][]int64{{2}, {8}}},
	} {
		for block, want := range c.loads {
			wantList(t, what+": block "+strconv.Itoa(block), impl.Load(c.n, int64(block)), want)
		}
		for _, block := range blocksAround(c.n) {
			if block < 0 || block >= int64(len(c.n.Blocks)) {
				wantList(t, what+": no block", impl.Load(c.n, block), nil)
			}
		}
		wantGc(t, c.n)
	}
}

// The last record stays for its Seq and Time, though no contents depend on it.
func TestLastRecordIsInTheLoadThoughItIsNotNeeded(t *testing.T) {
	recs := []impl.Rec{floor(1, 5, 4), write(2, 6, 0, "a"), floor(3, 9, 2)}
	wantList(t, "Needed", impl.Needed(histOf(recs...)), []int64{1, 2})
	n := chipOf(good(0, append(encodedAll(recs[2]), junk(3)...)...), good(0, encodedAll(recs[:2]...)...))
	wantList(t, "Load", impl.Load(n, 0), []int64{3})
	out := gc(t, n, 2)
	wantOut(t, "Gc", out, impl.NandOut{Nand: chipOf(good(1), good(0, encodedAll(recs...)...))})
	// With a record behind it, it is not needed at all.
	n = chipOf(n.Blocks[0], good(0, encodedAll(recs[0], recs[1], trim(4, 9, 0))...))
	wantList(t, "Load with a later record", impl.Load(n, 0), nil)
	wantOut(t, "Gc", gc(t, n, 1), impl.NandOut{Nand: chipOf(good(1), n.Blocks[1])})
}

// A page is one of a record if it has its Seq, as for Places.
func TestLoadWithDifferentRecordsOfOneSeq(t *testing.T) {
	a, b, last := write(1, 0, 0, "a"), write(1, 0, 1, "b"), write(2, 1, 2, "c")
	n := chipOf(good(0, encodedAll(a, a, a, last)...), good(0, encodedAll(b, b, b, b)...), good(0))
	wantList(t, "Load of the first", impl.Load(n, 0), []int64{2})
	wantList(t, "Load of the second", impl.Load(n, 1), nil)
	wantGc(t, n)
	// In one block the first page counts, which is the one that is mounted.
	n = chipOf(good(0, encodedAll(b, a, a, last)...), good(0))
	wantList(t, "Load of the only one", impl.Load(n, 0), []int64{1, 2})
	wantOut(t, "Gc", gc(t, n, 9), impl.NandOut{Nand: chipOf(good(1), good(0, encodedAll(b, last)...))})
	wantGc(t, n)
}

// Victim.

func TestVictim(t *testing.T) {
	// All of these records are needed.
	w := encodedAll(numbered(20).Recs...)
	free, half := good(0), good(0, w[16], "x")
	all := good(0, w[:4]...)
	three := good(0, w[4], w[5], "x", w[6])
	two := good(0, "x", w[7], w[8], "x")
	one := good(0, "x", "x", "x", w[9])
	other := good(0, w[10], "x", "x", "x")
	none := good(0, junk(4)...)
	badly := func(b impl.Block) impl.Block { b.Bad = true; return b }
	for what, c := range map[string]struct {
		n    impl.Nand
		want int64
	}{
		"the only one":                      {chipOf(one), 0},
		"the smallest load, first":          {chipOf(none, one, two, three, all), 0},
		"the smallest load, last":           {chipOf(all, three, two, one, none), 4},
		"the smallest load, between":        {chipOf(all, three, one, two, good(0, w[11:15]...)), 2},
		"the first of several":              {chipOf(all, two, one, other), 2},
		"the first of several without load": {chipOf(two, none, none, one), 1},
		"the first of several after a rise": {chipOf(one, two, other), 0},
		"a load of one element less":        {chipOf(all, free, three), 2},
		"a load of as many as pages":        {chipOf(all), impl.NoVictim},
		"several such loads":                {chipOf(all, good(0, w[11:15]...), free), impl.NoVictim},
		"not a bad one":                     {chipOf(badly(none), two, badly(one)), 1},
		"not an open one":                   {chipOf(half, two, good(0, junk(3)...), good(0, junk(1)...)), 1},
		"not a free one":                    {chipOf(free, three, free), 1},
		"only bad ones":                     {chipOf(badly(none), badly(one), badly(all)), impl.NoVictim},
		"only open ones":                    {chipOf(half, good(0, "x", "y", "z")), impl.NoVictim},
		"only free ones":                    {impl.NandNew(impl.MaxBlocks), impl.NoVictim},
		"only others":                       {chipOf(badly(none), half, free, all), impl.NoVictim},
		"worn out":                          {chipOf(two, good(impl.MaxTime, junk(4)...), one), 1},
		"whatever the Erases are":           {chipOf(good(9, w[0], "x", "x", "x"), good(1, w[1], "x", "x", "x")), 0},
		"the same records in two blocks":    {chipOf(one, half, all, all), 2},
		"more blocks, the last one":         {chipOf(all, free, free, free, free, free, free, free, free, free, two, one), 11},
	} {
		if got := impl.Victim(c.n); got != c.want {
			t.Errorf("%s: Victim = %d, want %d", what, got, c.want)
		}
		wantGc(t, c.n)
	}
}

// Each order of the loads from none to all has its own first smallest one.
func TestVictimAmongAllOrdersOfLoads(t *testing.T) {
	w := encodedAll(numbered(16).Recs...)
	for code := range 5 * 5 * 5 {
		loads := []int{code % 5, code / 5 % 5, code / 25}
		var n impl.Nand
		for i, size := range loads {
			n.Blocks = append(n.Blocks, good(0, append(slices.Clone(w[4*i:4*i+size]), junk(4-size)...)...))
		}
		want := int64(slices.Index(loads, slices.Min(loads)))
		if slices.Min(loads) == impl.PageCount {
			want = impl.NoVictim
		}
		if got := impl.Victim(n); got != want {
			t.Errorf("Victim with loads of %v elements = %d, want %d", loads, got, want)
		}
	}
}

// Gc.

func TestStepsOfCollection(t *testing.T) {
	w := encodedAll(numbered(8).Recs...)
	// Block 1 is the victim, with a load of three. Block 3 has one page left, then comes block 4, which has the least Erases.
	n := chipOf(good(5), good(7, w[5], w[7], "x", w[4]), good(0, w[:4]...), good(0, w[6], "", ""), good(2), bad(0))
	wantList(t, "Load", impl.Load(n, 1), []int64{5, 6, 8})
	first := programmed(n, 3, w[4])
	second := programmed(first, 4, w[5])
	third := programmed(second, 4, w[7])
	last := chipCopy(third)
	last.Blocks[1] = good(8)
	for steps, want := range map[int64]impl.Nand{math.MinInt64: n, -1: n, 0: n, 1: first, 2: second, 3: third, 4: last, 5: last, 9: last, math.MaxInt64: last} {
		wantOut(t, strconv.FormatInt(steps, 10)+" steps", gc(t, n, steps), impl.NandOut{Nand: want})
	}
	wantKept(t, n)
	// After an interruption only the rest is moved.
	wantList(t, "the rest of the load", impl.Load(second, 1), []int64{8})
	wantOut(t, "the rest", gc(t, second, 2), impl.NandOut{Nand: last})
	wantList(t, "nothing is left", impl.Load(third, 1), nil)
	wantOut(t, "erasing alone", gc(t, third, 1), impl.NandOut{Nand: last})
}

func TestCollectionWithoutALoadNeedsNoRoom(t *testing.T) {
	n := chipOf(good(3, junk(4)...), bad(0), good(0, encodedAll(numbered(4).Recs...)...))
	wantOut(t, "no steps", gc(t, n, 0), impl.NandOut{Nand: n})
	for _, steps := range []int64{1, 2, math.MaxInt64} {
		wantOut(t, "the only step", gc(t, n, steps), impl.NandOut{Nand: chipOf(good(4), n.Blocks[1], n.Blocks[2])})
	}
	wantKept(t, n)
}

// The copies can be in a block before the victim, where they become the first pages of their Seqs.
func TestCollectionMovesBackwards(t *testing.T) {
	w := encodedAll(numbered(3).Recs...)
	n := chipOf(good(0), good(0, w[2], w[0], w[1], w[2]))
	wantOut(t, "Gc", gc(t, n, 4), impl.NandOut{Nand: chipOf(good(0, w...), good(1))})
	wantKept(t, n)
}

// The reserve is 0: the last free block is used.
func TestCollectionUsesTheLastFreeBlock(t *testing.T) {
	w := encodedAll(numbered(11).Recs...)
	n := chipOf(good(0, w[:4]...), good(1), good(0, w[4:8]...), good(0, w[8], w[9], w[10], "x"))
	wantOut(t, "Gc", gc(t, n, 9), impl.NandOut{Nand: chipOf(n.Blocks[0], good(1, w[8:11]...), n.Blocks[2], good(1))})
	wantKept(t, n)
}

func TestCollectionWithoutEnoughRoom(t *testing.T) {
	w := encodedAll(numbered(12).Recs...)
	victim := good(0, w[0], "x", w[1], w[2])
	for what, c := range map[string]struct {
		n    impl.Nand
		room int64
	}{
		"no room":       {chipOf(victim, good(0, w[3:7]...)), 0},
		"only bad room": {chipOf(bad(0), victim, bad(0, w[3])), 0},
		"one page":      {chipOf(victim, good(0, w[3:6]...)), 1},
		"two pages":     {chipOf(good(0, w[3:5]...), bad(0), victim), 2},
		"a page each":   {chipOf(good(0, w[3:6]...), victim, good(0, w[6:9]...)), 2},
	} {
		for steps := int64(-1); steps <= 5; steps++ {
			out := gc(t, c.n, steps)
			wantOut(t, what, out, refGc(c.n, steps))
			if steps > c.room {
				wantCode(t, what+", too many steps", out, impl.ErrFull)
			} else if out.Code != impl.OK {
				t.Errorf("%s: Gc with %d steps returns the code %d", what, steps, out.Code)
			}
		}
		wantCode(t, what+", all steps", gc(t, c.n, math.MaxInt64), impl.ErrFull)
		wantGc(t, c.n)
	}
}

// The last step fails if the victim can be erased no more, the steps before it do not.
func TestCollectionOfAWornOutVictim(t *testing.T) {
	w := encodedAll(numbered(3).Recs...)
	for size := range 4 {
		for _, erases := range []int64{impl.MaxTime - 1, impl.MaxTime} {
			victim := good(erases, append(slices.Clone(w[:size]), junk(4-size)...)...)
			n := chipOf(good(0), victim)
			for steps := int64(0); steps <= int64(size); steps++ {
				wantOut(t, "moving", gc(t, n, steps), impl.NandOut{Nand: chipOf(good(0, w[:steps]...), victim)})
			}
			for _, steps := range []int64{int64(size) + 1, int64(size) + 2, math.MaxInt64} {
				if erases == impl.MaxTime {
					wantCode(t, "one time too many", gc(t, n, steps), impl.ErrFull)
					continue
				}
				wantOut(t, "the last time", gc(t, n, steps), impl.NandOut{Nand: chipOf(good(0, w[:size]...), good(impl.MaxTime))})
			}
			wantGc(t, n)
		}
	}
}

func TestOrderOfErrorsOfCollection(t *testing.T) {
	w := encodedAll(numbered(4).Recs...)
	late := encodedAll(write(1, 5, 0, "a"), write(2, 4, 0, "b"))
	worn := good(impl.MaxTime, junk(4)...)
	invalid := func(n impl.Nand) impl.Nand {
		n = chipCopy(n)
		n.Blocks[0].Erases = -1
		return n
	}
	for _, steps := range someSteps() {
		wantCode(t, "no history", gc(t, chipOf(worn, good(0, late...)), steps), impl.ErrState)
		wantCode(t, "no history and no victim", gc(t, chipOf(good(0, late...)), steps), impl.ErrState)
		wantCode(t, "an invalid chip without a history", gc(t, invalid(chipOf(worn, good(0, late...))), steps), impl.ErrForm)
		wantCode(t, "an invalid chip with a worn out victim", gc(t, invalid(chipOf(good(0), worn)), steps), impl.ErrForm)
		wantCode(t, "an invalid chip without a victim", gc(t, invalid(impl.NandNew(2)), steps), impl.ErrForm)
		wantCode(t, "no victim", gc(t, impl.NandNew(2), steps), impl.ErrNone)
		wantCode(t, "no victim and no room", gc(t, chipOf(good(0, w...), bad(0)), steps), impl.ErrNone)
		wantCode(t, "no victim, worn out", gc(t, chipOf(good(impl.MaxTime, w...), good(0)), steps), impl.ErrNone)
	}
	// Without room a worn out victim is not even tried to be erased.
	n := chipOf(good(impl.MaxTime, w[0], "x", "x", "x"), good(0, w[1], "", "", w[2]))
	wantOut(t, "no steps", gc(t, n, 0), impl.NandOut{Nand: n})
	wantCode(t, "no room", gc(t, n, 1), impl.ErrFull)
}

// Room.

func TestRoom(t *testing.T) {
	w := encodedAll(numbered(8).Recs...)
	for what, c := range map[string]struct {
		n    impl.Nand
		want int64
	}{
		"a new block":           {impl.NandNew(1), 4},
		"the most new blocks":   {impl.NandNew(impl.MaxBlocks), 48},
		"one page":              {chipOf(good(0, w[0])), 3},
		"a full block":          {chipOf(good(0, w[:4]...)), 0},
		"several blocks":        {chipOf(good(9, w[:4]...), good(1, w[4:6]...), good(0), good(0, "", "", "")), 7},
		"bad blocks":            {chipOf(bad(0), good(0, w[0]), bad(0, w[1]), bad(0, w[4:8]...)), 3},
		"only bad blocks":       {chipOf(bad(0), bad(0, "x")), 0},
		"pages without records": {chipOf(good(0, junk(3)...), good(0, "")), 4},
		"worn out blocks":       {chipOf(good(impl.MaxTime), good(impl.MaxTime, "")), 7},
		"no history":            {chipOf(good(0, encodedAll(write(1, 5, 0, "a"), write(2, 4, 0, "b"))...), good(0)), 0},
	} {
		if got := impl.Room(c.n); got != c.want {
			t.Errorf("%s: Room = %d, want %d", what, got, c.want)
		}
		wantGc(t, c.n)
	}
}

// Invalid arguments.

func wantNothingToCollect(t *testing.T, what string, n impl.Nand, code int64) {
	t.Helper()
	before := chipCopy(n)
	for _, block := range blocksAround(n) {
		wantList(t, what+": Load", impl.Load(n, block), nil)
	}
	wantList(t, what+": Victim and Room", []int64{impl.Victim(n), impl.Room(n)}, []int64{impl.NoVictim, 0})
	for _, steps := range someSteps() {
		wantCode(t, what, impl.Gc(n, steps), code)
	}
	if !sameChip(n, before) {
		t.Errorf("%s: the argument was changed", what)
	}
}

func TestCollectionOfInvalidChips(t *testing.T) {
	for name, n := range invalidChips() {
		wantNothingToCollect(t, name, n, impl.ErrForm)
	}
	sample := func() impl.Nand {
		return chipOf(good(0, encodedAll(numbered(2).Recs...)...), good(0, junk(4)...), good(0), good(0))
	}
	wantKept(t, sample())
	for what, change := range map[string]func(n *impl.Nand){
		"negative Erases":          func(n *impl.Nand) { n.Blocks[1].Erases = -1 },
		"Erases above the most":    func(n *impl.Nand) { n.Blocks[1].Erases = impl.MaxTime + 1 },
		"a page too many":          func(n *impl.Nand) { n.Blocks[1].Pages = append(n.Blocks[1].Pages, impl.Page{}) },
		"a page too few":           func(n *impl.Nand) { n.Blocks[1].Pages = n.Blocks[1].Pages[1:] },
		"an unused page with Data": func(n *impl.Nand) { n.Blocks[3].Pages[0].Data = "x" },
		"Data above the most":      func(n *impl.Nand) { n.Blocks[1].Pages[2].Data = pattern(impl.PageSize + 1) },
		"an unused first page":     func(n *impl.Nand) { n.Blocks[1].Pages[0] = impl.Page{} },
		"too many blocks":          func(n *impl.Nand) { n.Blocks = slices.Repeat(n.Blocks, 4) },
		"no blocks":                func(n *impl.Nand) { n.Blocks = n.Blocks[:0] },
	} {
		n := sample()
		change(&n)
		wantNothingToCollect(t, what, n, impl.ErrForm)
	}
}

func TestCollectionOfChipsWithoutAHistory(t *testing.T) {
	late := encodedAll(write(1, 5, 0, "a"), write(2, 4, 0, "b"))
	for what, n := range map[string]impl.Nand{
		"in one block":    chipOf(good(0, junk(4)...), good(0, late...), good(0)),
		"in two blocks":   chipOf(good(0, late[1]), good(0, junk(4)...), good(0, late[0])),
		"in a bad block":  chipOf(good(0, junk(4)...), bad(0, late...), good(0)),
		"in a full block": chipOf(good(0, late[0], late[1], "x", "x"), good(0)),
	} {
		wantNothingToCollect(t, what, n, impl.ErrState)
	}
}

// Memory.

// collectedChip has a victim with a load of two, room for it, and records on several pages.
func collectedChip() impl.Nand {
	w := encodedAll(numbered(6).Recs...)
	return chipOf(good(3, w[2], w[0], w[0], w[1]), bad(1, w[3], w[0]), good(2, w[4], w[5]), good(4))
}

func TestCollectedChipsShareNoMemory(t *testing.T) {
	for steps := int64(-1); steps <= 4; steps++ {
		wantOwnMemory(t, "Gc with "+strconv.FormatInt(steps, 10)+" steps", collectedChip, func(n impl.Nand) impl.NandOut { return impl.Gc(n, steps) })
	}
}

func TestLoadsShareNoMemory(t *testing.T) {
	n := collectedChip()
	want := []int64{2, 3}
	first, second := impl.Load(n, 0), impl.Load(n, 0)
	wantList(t, "Load", first, want)
	spoil(first, -7)
	wantList(t, "another result", second, want)
	wantList(t, "Load again", impl.Load(n, 0), want)
	wantList(t, "Load of another block", impl.Load(n, 2), []int64{5, 6})
	if !sameChip(n, collectedChip()) {
		t.Error("a change of a result changed the argument")
	}
}

func TestArgumentsOfCollectionAreLeftAsTheyWere(t *testing.T) {
	// The slices have room behind them, which is not to be used.
	pages := append(usedPages(encoded(write(1, 0, 0, "a")), "x", "x", "x"), impl.Page{Data: "behind"})
	blocks := append(make([]impl.Block, 0, 4), impl.Block{Pages: pages[:impl.PageCount]}, good(0), bad(7, "behind"))
	n := impl.Nand{Blocks: blocks[:2]}
	before := chipCopy(n)
	impl.Load(n, 0)
	impl.Victim(n)
	impl.Room(n)
	for _, steps := range someSteps() {
		impl.Gc(n, steps)
	}
	if !sameChip(n, before) {
		t.Errorf("the argument was changed: %#v", n)
	}
	if pages[impl.PageCount].Data != "behind" || blocks[2].Erases != 7 || blocks[2].Pages[0].Data != "behind" {
		t.Error("memory behind the argument was changed")
	}
}

func TestCollectionsAreRepeatable(t *testing.T) {
	random := rand.New(rand.NewSource(25))
	for range 60 {
		n := randomChip(random)
		wantRepeatable(t, func() []any {
			return []any{impl.Load(n, 0), impl.Victim(n), impl.Room(n), impl.Gc(n, 1), impl.Gc(n, 9)}
		})
	}
}
