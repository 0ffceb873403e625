package tests

import (
	"cmp"
	"encoding/binary"
	"math"
	"math/rand"
	"slices"
	"strconv"
	"strings"
	"testing"

	"loop.example/g00637/impl"
)

// The reference, by the definitions of the document.

// prefixed returns a text behind its length.
func prefixed(text string) string {
	return numbers(int64(len(text))) + text
}

// ckptInner returns what is sealed in the encoding of a checkpoint.
func ckptInner(num int64, recs ...impl.Rec) string {
	text := numbers(num, int64(len(recs)))
	for _, r := range recs {
		text += prefixed(encoded(r))
	}
	return text
}

func refHistRight(recs []impl.Rec) bool {
	seq, time := int64(0), int64(0)
	for _, r := range recs {
		if !refRight(r) || r.Seq <= seq || r.Time < time {
			return false
		}
		seq, time = r.Seq, r.Time
	}
	return len(recs) <= 48
}

func refCkptBytes(num int64, recs []impl.Rec) string {
	if num < 1 || num > 1000000 || !refHistRight(recs) {
		return ""
	}
	return sealed(ckptInner(num, recs...))
}

// refSplit splits what is sealed into a number and records, as far as there are any, whatever their number is said to be.
func refSplit(text string) (int64, []impl.Rec) {
	b := []byte(text)
	number := func() int64 {
		n, size := binary.Varint(b)
		b = b[max(size, 0):]
		return n
	}
	num := number()
	number()
	var recs []impl.Rec
	for len(b) > 0 {
		size := number()
		if size < 4 || size > int64(len(b)) {
			break
		}
		r, ok := refRec(string(b[:size-4]))
		if !ok {
			break
		}
		recs, b = append(recs, r), b[size:]
	}
	return num, recs
}

// refCkptRead splits a text, which must be what its parts are encoded as.
func refCkptRead(text string) impl.CkptOut {
	switch {
	case len(text) > 8000:
		return impl.CkptOut{Code: impl.ErrSize}
	case len(text) < 4:
		return impl.CkptOut{Code: impl.ErrShort}
	case sealed(text[:len(text)-4]) != text:
		return impl.CkptOut{Code: impl.ErrSum}
	}
	num, recs := refSplit(text[:len(text)-4])
	if refCkptBytes(num, recs) != text {
		return impl.CkptOut{Code: impl.ErrSyntax}
	}
	return impl.CkptOut{Num: num, Hist: histOf(recs...)}
}

// refBest returns the best checkpoint and the name of its slot, which is empty if there is none.
func refBest(s impl.Slots) (impl.CkptOut, string) {
	a, b := refCkptRead(s.A), refCkptRead(s.B)
	switch {
	case len(s.A) > 4000 || len(s.B) > 4000:
		return impl.CkptOut{Code: impl.ErrForm}, ""
	case a.Code == impl.OK && (b.Code != impl.OK || b.Num <= a.Num):
		return a, "A"
	case b.Code == impl.OK:
		return b, "B"
	}
	return impl.CkptOut{Code: impl.ErrNone}, ""
}

// refPut also returns how many bytes were to be written; none if s is unchanged.
func refPut(s impl.Slots, h impl.Hist, power int64) (impl.Slots, int) {
	best, slot := refBest(s)
	if best.Code == impl.ErrForm || best.Num == 1000000 || !refHistRight(h.Recs) || power < -1 {
		return s, 0
	}
	text := refCkptBytes(best.Num+1, refPrune(h.Recs).Recs)
	kept := text
	if power >= 0 && power < int64(len(text)) {
		kept = text[:power]
	}
	if slot == "A" {
		return impl.Slots{A: s.A, B: kept}, len(text)
	}
	return impl.Slots{A: kept, B: s.B}, len(text)
}

// refMountWith is for valid chips.
func refMountWith(n impl.Nand, s impl.Slots) impl.HistOut {
	best, slot := refBest(s)
	if best.Code == impl.ErrForm {
		return impl.HistOut{Code: impl.ErrForm}
	}
	recs := slices.Clone(best.Hist.Recs)
	seqs := []int64{0}
	for _, r := range recs {
		seqs = append(seqs, r.Seq)
	}
	last := slices.Max(seqs)
	for _, l := range refLog(n) {
		if l.rec.Seq > last && !slices.Contains(seqs, l.rec.Seq) {
			seqs, recs = append(seqs, l.rec.Seq), append(recs, l.rec)
		}
	}
	slices.SortFunc(recs, func(a, b impl.Rec) int { return cmp.Compare(a.Seq, b.Seq) })
	if slot == "" || !refHistRight(recs) {
		return refMount(n)
	}
	return impl.HistOut{Hist: histOf(recs...)}
}

func sameCkpt(a, b impl.CkptOut) bool {
	return a.Num == b.Num && a.Code == b.Code && sameHist(a.Hist, b.Hist)
}

func wantCkpt(t *testing.T, what string, got, want impl.CkptOut) {
	t.Helper()
	if !sameCkpt(got, want) {
		t.Errorf("%s:\ngot  %s\nwant %s", what, brief(got), brief(want))
	}
}

// wantCkptRead requires an answer of CkptRead, and that a checkpoint that was read is encoded as it was.
func wantCkptRead(t *testing.T, what, text string, want impl.CkptOut) {
	t.Helper()
	got := impl.CkptRead(text)
	wantCkpt(t, what+": CkptRead", got, want)
	if got.Code == impl.OK && impl.CkptBytes(got.Num, got.Hist) != text {
		t.Errorf("%s: what CkptRead returns is not encoded as %.200q", what, text)
	}
}

func wantCkptCode(t *testing.T, what, text string, code int64) {
	t.Helper()
	wantCkptRead(t, what, text, impl.CkptOut{Code: code})
}

// wantCkptSealed compares what CkptRead answers for a text under a correct seal with the reference.
func wantCkptSealed(t *testing.T, what, text string) impl.CkptOut {
	t.Helper()
	want := refCkptRead(sealed(text))
	wantCkptRead(t, what, sealed(text), want)
	return want
}

func wantSlots(t *testing.T, what string, got, want impl.Slots) {
	t.Helper()
	if got != want {
		t.Errorf("%s:\ngot  %s\nwant %s", what, brief(got), brief(want))
	}
}

// wantBest compares what is answered for slots with the reference.
func wantBest(t *testing.T, what string, s impl.Slots) impl.CkptOut {
	t.Helper()
	best, _ := refBest(s)
	wantCkpt(t, what+": CkptBest", impl.CkptBest(s), best)
	if got := impl.SlotsRight(s); got != (best.Code != impl.ErrForm) {
		t.Errorf("%s: SlotsRight = %v", what, got)
	}
	return best
}

// put writes a checkpoint, compares the result with the reference, and requires that the history is left as it was.
func put(t *testing.T, s impl.Slots, h impl.Hist, power int64) impl.Slots {
	t.Helper()
	before := histCopy(h)
	got := impl.CkptPut(s, h, power)
	want, _ := refPut(s, before, power)
	wantSlots(t, "CkptPut with power "+strconv.FormatInt(power, 10), got, want)
	if !sameHist(h, before) {
		t.Errorf("CkptPut changed its argument:\nfrom %+v\nto   %+v", before, h)
	}
	return got
}

// mountWith mounts a valid chip, compares the result with the reference, and requires that the chip is left as it was.
func mountWith(t *testing.T, what string, n impl.Nand, s impl.Slots) impl.HistOut {
	t.Helper()
	before := chipCopy(n)
	got := impl.MountWith(n, s)
	wantHistOut(t, what+": MountWith", got, refMountWith(before, s))
	if !sameChip(n, before) {
		t.Errorf("%s: MountWith changed its argument", what)
	}
	return got
}

// somePowers are powers beside those from 0 to the length of a checkpoint.
func somePowers() []int64 {
	return []int64{-1, impl.MaxCkpt, impl.MaxCkpt + 1, impl.MaxBytes + 1, 1 << 32, math.MaxInt64}
}

// sampleHists are histories that differ in all that is encoded: none, one and several records, each kind, the least and greatest numbers, and more records than one byte counts.
func sampleHists() []impl.Hist {
	return []impl.Hist{
		{},
		histOf(write(1, 0, 0, "")),
		histOf(sampleRecs()...),
		histOf(write(1, 0, 0, "a"), write(2, 4, 0, "b"), roll(3, 6, 2), floor(4, 9, 6)),
		histOf(trim(7, 3, 5), floor(impl.MaxTime, impl.MaxTime, impl.MaxTime)),
		numbered(fullHist),
		greatestHist(),
	}
}

// greatestHist returns the history with the longest encoding. All of its records are needed.
func greatestHist() impl.Hist {
	var h impl.Hist
	for i := int64(fullHist - 1); i >= 0; i-- {
		h.Recs = append(h.Recs, write(impl.MaxTime-i, impl.MaxTime-i, 5, pattern(impl.MaxData)))
	}
	return h
}

func TestExampleOfTheCheckpoints(t *testing.T) {
	first := histOf(write(1, 1, 1, "a"))
	second := histOf(write(1, 1, 1, "a"), trim(2, 3, 0))
	third := histOf(write(1, 1, 1, "a"), trim(2, 3, 0), roll(3, 4, 2))
	s := put(t, impl.Slots{}, first, -1)
	wantSlots(t, "the first one", s, impl.Slots{A: refCkptBytes(1, first.Recs)})
	s = put(t, s, second, -1)
	wantSlots(t, "the second one", s, impl.Slots{A: refCkptBytes(1, first.Recs), B: refCkptBytes(2, second.Recs)})
	s = put(t, s, third, 5)
	wantSlots(t, "the third one", s, impl.Slots{A: refCkptBytes(3, third.Recs)[:5], B: refCkptBytes(2, second.Recs)})
	wantCkpt(t, "CkptBest", impl.CkptBest(s), impl.CkptOut{Num: 2, Hist: second})
	if impl.MaxCkpt != 4000 {
		t.Error("a limit has changed")
	}
}

// Promise 18: a checkpoint is recovered.

func TestCheckpointsAreRecovered(t *testing.T) {
	random := rand.New(rand.NewSource(51))
	pruned := 0
	for _, plan := range histPlans() {
		for range 10 {
			var s impl.Slots
			for num := int64(1); num <= 5; num++ {
				h := plan.make(random)
				s = put(t, s, h, somePowers()[random.Intn(6)])
				want := impl.CkptOut{Num: num, Hist: refPrune(h.Recs)}
				wantCkpt(t, "CkptBest", impl.CkptBest(s), want)
				slot := s.A
				if num%2 == 0 {
					slot = s.B
				}
				wantCkptRead(t, "the slot", slot, want)
				pruned += len(h.Recs) - len(want.Hist.Recs)
			}
			if t.Failed() {
				t.Fatal("of the plan", plan)
			}
		}
	}
	if pruned < 1000 {
		t.Errorf("only %d records were pruned", pruned)
	}
}

// Promise 18: if the writing is interrupted, the previous checkpoint is still there.

// wantInterrupted writes a checkpoint with every power, and requires that only what was written changes.
func wantInterrupted(t *testing.T, what string, s impl.Slots, h impl.Hist) {
	t.Helper()
	before, slot := refBest(s)
	text := refCkptBytes(before.Num+1, refPrune(h.Recs).Recs)
	powers := somePowers()
	for power := range len(text) + 5 {
		powers = append(powers, int64(power))
	}
	for _, power := range powers {
		got := impl.CkptPut(s, h, power)
		written, other, kept, best := got.A, got.B, s.B, before
		if slot == "A" {
			written, other, kept = got.B, got.A, s.A
		}
		if power < 0 || power >= int64(len(text)) {
			power = int64(len(text))
			best = impl.CkptOut{Num: before.Num + 1, Hist: refPrune(h.Recs)}
		}
		if written != text[:power] || other != kept {
			t.Fatalf("%s: %d bytes of %q written to\n%+q\nresult in\n%+q", what, power, text, s, got)
		}
		wantCkpt(t, what+": CkptBest after "+strconv.FormatInt(power, 10)+" bytes", impl.CkptBest(got), best)
	}
}

// slotPairs returns slots that contain two, one and no checkpoint, whichever is the better one.
func slotPairs() map[string]impl.Slots {
	hists := sampleHists()
	first, second := refCkptBytes(6, hists[2].Recs), refCkptBytes(7, hists[3].Recs)
	damaged := "x" + second[1:]
	return map[string]impl.Slots{
		"both empty":            {},
		"only A":                {A: first},
		"only B":                {B: first},
		"the better in A":       {A: second, B: first},
		"the better in B":       {A: first, B: second},
		"both the same":         {A: first, B: first},
		"A, B is damaged":       {A: first, B: damaged},
		"B, A is damaged":       {A: damaged, B: first},
		"A, B is interrupted":   {A: first, B: second[:20]},
		"B, A is interrupted":   {A: second[:20], B: first},
		"both are damaged":      {A: damaged, B: damaged},
		"A, B is full of bytes": {A: first, B: pattern(impl.MaxCkpt)},
		"B, A is full of bytes": {A: pattern(impl.MaxCkpt), B: first},
		"both full of bytes":    {A: pattern(impl.MaxCkpt), B: pattern(impl.MaxCkpt)},
		"before the last Num":   {A: refCkptBytes(impl.MaxTime-1, nil), B: refCkptBytes(impl.MaxTime-2, nil)},
	}
}

func TestInterruptedCheckpoints(t *testing.T) {
	random := rand.New(rand.NewSource(52))
	for what, s := range slotPairs() {
		for _, h := range sampleHists() {
			wantInterrupted(t, what, s, h)
		}
		for _, plan := range histPlans()[:6] {
			wantInterrupted(t, what, s, plan.make(random))
		}
	}
}

// Checkpoints are written again and again, most of which are interrupted.
func TestCheckpointsAfterInterruptedOnes(t *testing.T) {
	random := rand.New(rand.NewSource(53))
	for _, plan := range histPlans() {
		best := impl.CkptOut{Code: impl.ErrNone}
		var s impl.Slots
		completed, interrupted := 0, 0
		for range 60 {
			h := plan.make(random)
			next := impl.CkptOut{Num: best.Num + 1, Hist: refPrune(h.Recs)}
			size := int64(len(refCkptBytes(next.Num, next.Hist.Recs)))
			power := []int64{-1, 0, 1, 4, random.Int63n(size), random.Int63n(size), size - 4, size - 1, size, size + 1}[random.Intn(10)]
			s = put(t, s, h, power)
			if power < 0 || power >= size {
				best = next
				completed++
			} else {
				interrupted++
			}
			wantCkpt(t, "CkptBest", impl.CkptBest(s), best)
		}
		if completed < 5 || interrupted < 20 || best.Num != int64(completed) {
			t.Errorf("%d checkpoints were completed, %d interrupted; the last one has the number %d", completed, interrupted, best.Num)
		}
	}
}

// Promise 19.

// saver is a drive at work with checkpoints.
type saver struct {
	*story
	slots  impl.Slots
	counts map[string]int
}

// save writes a checkpoint of the chip's history, and now and then is interrupted.
func (s *saver) save(t *testing.T, random *rand.Rand) {
	t.Helper()
	h := impl.Mount(s.d.Nand).Hist
	power := int64(-1)
	s.counts["saved"]++
	if random.Intn(3) == 0 {
		_, size := refPut(s.slots, h, power)
		power = random.Int63n(int64(size))
		s.counts["interrupted"]++
	}
	s.slots = put(t, s.slots, h, power)
}

// wantMounted requires that the drive has the same contents at every time from the floor on, the same floor and the same last Seq, whether it is mounted with checkpoints or without, and that these are the contents without any loss.
func (s *saver) wantMounted(t *testing.T) {
	t.Helper()
	alone := impl.Mount(s.d.Nand)
	with := mountWith(t, "a drive at work", s.d.Nand, s.slots)
	if alone.Code != impl.OK || with.Code != impl.OK {
		t.Fatalf("Mount returns the code %d, and MountWith %d", alone.Code, with.Code)
	}
	s.count(with.Hist, alone.Hist)
	is := []int64{impl.FloorOf(with.Hist), impl.LastSeq(with.Hist), impl.LastTime(with.Hist)}
	was := []int64{impl.FloorOf(alone.Hist), impl.LastSeq(alone.Hist), impl.LastTime(alone.Hist)}
	wantList(t, "the floor, LastSeq and LastTime", is, was)
	wantList(t, "the floor and LastSeq of all", is[:2], []int64{refFloor(s.all), int64(len(s.all))})
	states, mounted := statesOf(with.Hist.Recs), statesOf(alone.Hist.Recs)
	for _, at := range s.times() {
		got := states[countUntil(with.Hist.Recs, at)]
		if want := mounted[countUntil(alone.Hist.Recs, at)]; got != want || got != s.without(at) {
			t.Errorf("at time %d\nwith checkpoints    %+v\nwithout checkpoints %+v\nwithout any loss    %+v", at, got, want, s.without(at))
		}
	}
	for _, at := range []int64{s.floor, s.floor + (s.d.Now-s.floor)/2, s.d.Now} {
		if got, want := contentsAt(with.Hist, at), contentsAt(alone.Hist, at); got != want {
			t.Errorf("AsOf time %d\nwith checkpoints    %+v\nwithout checkpoints %+v", at, got, want)
		}
	}
	if s.floor > 0 {
		wantValue(t, "below the floor", impl.AsOf(with.Hist, 0, s.floor-1), impl.ValueOut{Code: impl.ErrPast})
	}
	if t.Failed() {
		t.Fatalf("of the records %+v\nwith the slots %+q\nand the chip %#v", s.all, s.slots, s.d.Nand)
	}
}

// count counts what the mounted history is made of.
func (s *saver) count(with, alone impl.Hist) {
	best, slot := refBest(s.slots)
	if slot == "" {
		s.counts["without a checkpoint"]++
		return
	}
	lacks := func(h, of impl.Hist) bool {
		return slices.ContainsFunc(of.Recs, func(r impl.Rec) bool { return !slices.Contains(h.Recs, r) })
	}
	if lacks(alone, best.Hist) {
		s.counts["lost records"]++
		if sameHist(with, alone) {
			s.counts["too many records"]++
		}
	}
	if lacks(with, alone) {
		s.counts["pruned records"]++
	}
	if impl.LastSeq(alone) > impl.LastSeq(best.Hist) {
		s.counts["later records"]++
	}
}

// level moves data of the drive to other blocks, if it can.
func (s *saver) level(t *testing.T, random *rand.Rand) {
	t.Helper()
	if out := level(t, s.d.Nand, 0, random.Int63n(6)); out.Code == impl.OK && impl.FreeBlocks(out.Nand) > 0 {
		s.d = driveOf(out.Nand, s.d.Now, s.d.Retain)
		s.act(t, "level", restarts())
	}
}

func TestDrivesAreMountedWithCheckpointsAsWithout(t *testing.T) {
	random := rand.New(rand.NewSource(54))
	counts := map[string]int{}
	for _, plan := range storyPlans() {
		for _, seldom := range []int{2, 5, 40} {
			s := &saver{story: newStory(t, plan.blocks, plan.retain), counts: counts}
			for range 120 {
				s.step(t, random, plan.sectors)
				if random.Intn(10) == 0 {
					s.level(t, random)
				}
				s.wantMounted(t)
				if random.Intn(seldom) == 0 {
					s.save(t, random)
					s.wantMounted(t)
				}
			}
		}
	}
	for what, least := range map[string]int{
		"saved": 500, "interrupted": 100, "without a checkpoint": 100, "lost records": 200, "pruned records": 500, "later records": 500,
	} {
		if counts[what] < least {
			t.Errorf("%s: %d; the counts are %v", what, counts[what], counts)
		}
	}
}

// Each checkpoint of a drive's whole life is as good as the others, as long as it and the later records of the chip are few enough.
func TestEveryCheckpointOfADrive(t *testing.T) {
	random := rand.New(rand.NewSource(55))
	counts := map[string]int{}
	for _, plan := range storyPlans() {
		s := &saver{story: newStory(t, plan.blocks, plan.retain), counts: counts}
		var all []impl.Slots
		for i := range 160 {
			s.step(t, random, plan.sectors)
			all = append(all, impl.Slots{B: refCkptBytes(1, refPrune(refMount(s.d.Nand).Hist.Recs).Recs)})
			if i%40 != 39 {
				continue
			}
			for _, slots := range all {
				s.slots = slots
				s.wantMounted(t)
			}
		}
	}
	if counts["lost records"] < 500 || counts["too many records"] < 20 {
		t.Errorf("the counts are %v", counts)
	}
}

// The chip was collected after the checkpoint, so that only the checkpoint has what was needed once.
func TestContentsThatOnlyACheckpointHas(t *testing.T) {
	s := &saver{story: newStory(t, 4, 2), counts: map[string]int{}}
	for i := range int64(6) {
		s.act(t, "write", writes(i%2, strconv.FormatInt(i, 10)))
		s.act(t, "tick", ticks(1))
	}
	s.slots = put(t, s.slots, impl.Mount(s.d.Nand).Hist, -1)
	s.wantMounted(t)
	saved := impl.Mount(s.d.Nand).Hist
	s.act(t, "tick", ticks(3))
	s.act(t, "raise", raises(s.d))
	s.act(t, "collect", collects(9))
	s.wantMounted(t)
	with, alone := impl.MountWith(s.d.Nand, s.slots).Hist, impl.Mount(s.d.Nand).Hist
	wantHistOut(t, "with the checkpoint", impl.HistOut{Hist: with}, impl.HistOut{Hist: histOf(append(saved.Recs, floor(7, 9, 7))...)})
	wantHistOut(t, "without it", impl.HistOut{Hist: alone}, impl.HistOut{Hist: histOf(saved.Recs[4], saved.Recs[5], floor(7, 9, 7))})
}

// The checkpoint and what was logged behind it are too many records for a history, so that the chip alone is mounted.
func TestTooManyRecordsForACheckpoint(t *testing.T) {
	s := &saver{story: newStory(t, impl.MaxBlocks, 10), counts: map[string]int{}}
	for i := range int64(40) {
		s.act(t, "write", writes(i%impl.MaxSectors, strconv.FormatInt(i, 10)))
		s.act(t, "tick", ticks(1))
	}
	s.slots = put(t, s.slots, impl.Mount(s.d.Nand).Hist, -1)
	s.act(t, "tick", ticks(60))
	s.act(t, "raise", raises(s.d))
	for range impl.MaxBlocks {
		s.act(t, "collect", collects(9))
		s.wantMounted(t)
	}
	for count := 42; count <= 60; count++ {
		s.act(t, "write", writes(int64(count%impl.MaxSectors), strconv.Itoa(count)))
		s.wantMounted(t)
		want := 0
		if count > fullHist {
			want = count - fullHist
		}
		if got := s.counts["too many records"]; got != want {
			t.Errorf("of %d records in all: %d times too many, want %d", count, got, want)
		}
	}
}

// CkptBytes.

func TestEncodingsOfCheckpoints(t *testing.T) {
	r := impl.Seal("\x02\x0a\x80\x01\xc8\x01\x00\x04ab")
	h := histOf(impl.Rec{Kind: impl.RcWrite, Sector: 5, Seq: 64, Time: 100, Data: "ab"})
	for text, got := range map[string]string{
		impl.Seal("\x02\x00"):                 impl.CkptBytes(1, impl.Hist{}),
		impl.Seal("\x80\x01\x00"):             impl.CkptBytes(64, impl.Hist{Recs: []impl.Rec{}}),
		impl.Seal("\x80\x89\x7a\x00"):         impl.CkptBytes(impl.MaxTime, impl.Hist{}),
		impl.Seal("\x04\x02" + "\x1c" + r):    impl.CkptBytes(2, h),
		impl.Seal(ckptInner(3, h.Recs...)):    impl.CkptBytes(3, h),
		sealed(ckptInner(1, sampleRecs()...)): impl.CkptBytes(1, histOf(sampleRecs()...)),
	} {
		if got != text {
			t.Errorf("CkptBytes: got %q, want %q", got, text)
		}
	}
}

func TestNumbersOfCheckpoints(t *testing.T) {
	for _, h := range sampleHists() {
		for _, num := range []int64{1, 2, 63, 64, 8191, 8192, impl.MaxTime - 1, impl.MaxTime} {
			text := sealed(ckptInner(num, h.Recs...))
			if got := impl.CkptBytes(num, h); got != text {
				t.Errorf("CkptBytes(%d, %s):\ngot  %.200q\nwant %.200q", num, brief(h), got, text)
			}
			wantCkptRead(t, "a checkpoint", text, impl.CkptOut{Num: num, Hist: h})
		}
		for _, num := range []int64{0, -1, -2, -impl.MaxTime, impl.MaxTime + 1, impl.MaxTime + 2, 1 << 32, 1<<32 + 1, math.MinInt64, math.MaxInt64} {
			if got := impl.CkptBytes(num, h); got != "" {
				t.Errorf("CkptBytes(%d, %s): got %.200q", num, brief(h), got)
			}
			wantCkptCode(t, "the number "+strconv.FormatInt(num, 10), sealed(ckptInner(num, h.Recs...)), impl.ErrSyntax)
		}
	}
}

func TestSizesOfCheckpoints(t *testing.T) {
	for count := range fullHist + 1 {
		h := numbered(count)
		wantCkptRead(t, "a checkpoint", impl.CkptBytes(1, h), impl.CkptOut{Num: 1, Hist: h})
	}
	// Even the longest checkpoint is not too long for a slot.
	h := greatestHist()
	if got := len(impl.CkptBytes(impl.MaxTime, h)); got > impl.MaxCkpt || got != 3+1+fullHist*31+4 {
		t.Errorf("the longest checkpoint has %d bytes", got)
	}
	s := impl.Slots{A: refCkptBytes(impl.MaxTime-2, nil)}
	for num := int64(impl.MaxTime - 1); num <= impl.MaxTime; num++ {
		s = put(t, s, h, -1)
		wantCkpt(t, "CkptBest", wantBest(t, "the longest", s), impl.CkptOut{Num: num, Hist: h})
	}
}

func TestInvalidHistoriesHaveNoCheckpoint(t *testing.T) {
	for what, h := range invalidHists() {
		before := histCopy(h)
		for _, num := range []int64{0, 1, 7, impl.MaxTime, impl.MaxTime + 1} {
			if got := impl.CkptBytes(num, h); got != "" {
				t.Errorf("%s: CkptBytes = %.200q", what, got)
			}
		}
		for name, s := range slotPairs() {
			for _, power := range append(somePowers(), -2, 0, 5) {
				wantSlots(t, what+", "+name, put(t, s, h, power), s)
			}
		}
		if !sameHist(h, before) {
			t.Errorf("%s: the argument was changed", what)
		}
	}
}

// CkptRead.

func TestTextsThatAreNoSealsOfCheckpoints(t *testing.T) {
	for _, text := range []string{"", "x", "ab", "abc", "\x00\x00\x00"} {
		wantCkptCode(t, "few bytes", text, impl.ErrShort)
	}
	wantCkptCode(t, "the seal of the empty string", "\x00\x00\x00\x00", impl.ErrSyntax)
	wantCkptCode(t, "a wrong seal of a checkpoint", ckptInner(1)+"\x00\x00\x00\x00", impl.ErrSum)
	// The seal is tested before what is sealed.
	wantCkptCode(t, "a wrong seal of no checkpoint", ckptInner(0)+"\x00\x00\x00\x00", impl.ErrSum)
	for _, h := range sampleHists() {
		text := refCkptBytes(1, h.Recs)
		full := text + strings.Repeat("\x00", impl.MaxBytes-len(text))
		wantCkptCode(t, "MaxBytes bytes", full, impl.ErrSum)
		wantCkptCode(t, "more than MaxBytes bytes", full+"\x00", impl.ErrSize)
	}
	for _, size := range []int{impl.MaxCkpt, impl.MaxBytes - 4} {
		wantCkptCode(t, "a long seal", sealed(pattern(size)), impl.ErrSyntax)
	}
	for _, size := range []int{impl.MaxBytes - 3, impl.MaxBytes, 2 * impl.MaxBytes} {
		wantCkptCode(t, "too long a seal", sealed(pattern(size)), impl.ErrSize)
	}
}

func TestFirstBytesOfCheckpoints(t *testing.T) {
	for _, h := range sampleHists() {
		text := refCkptBytes(300, h.Recs)
		for kept := range len(text) {
			code := int64(impl.ErrSum)
			if kept < 4 {
				code = impl.ErrShort
			}
			wantCkptCode(t, "the first bytes", text[:kept], code)
		}
		for kept := range len(text) - 4 {
			wantCkptCode(t, "the first bytes under a correct seal", sealed(text[:kept]), impl.ErrSyntax)
		}
	}
}

func TestCheckpointsWithAChangedByte(t *testing.T) {
	accepted := 0
	for _, h := range sampleHists()[:5] {
		text := refCkptBytes(300, h.Recs)
		for at := range len(text) {
			for change := 1; change < 256; change++ {
				b := []byte(text)
				b[at] ^= byte(change)
				wantCkptCode(t, "a changed byte", string(b), impl.ErrSum)
				if at < len(text)-4 && wantCkptSealed(t, "a changed byte under a correct seal", string(b[:len(b)-4])).Code == impl.OK {
					accepted++
				}
			}
		}
		wantCkptCode(t, "a byte behind", text+"\x00", impl.ErrSum)
		wantCkptCode(t, "a byte before", "\x00"+text, impl.ErrSum)
	}
	// Only another number is another checkpoint.
	if accepted < 100 {
		t.Errorf("%d changed checkpoints were accepted", accepted)
	}
	// With a changed byte at some places also the longest ones are rejected.
	for _, h := range sampleHists()[5:] {
		text := refCkptBytes(300, h.Recs)
		for at := range len(text) {
			b := []byte(text)
			b[at] ^= byte(1 + at%255)
			wantCkptCode(t, "a changed byte", string(b), impl.ErrSum)
		}
	}
}

func TestBytesBehindTheLastRecord(t *testing.T) {
	for _, h := range sampleHists() {
		text := ckptInner(2, h.Recs...)
		for _, more := range []string{"\x00", "\x02", "\x80", "ab", prefixed(""), prefixed(encoded(write(impl.MaxTime, impl.MaxTime, 0, ""))), prefixed("abc"), ckptInner(2), pattern(200)} {
			wantCkptCode(t, "bytes behind", sealed(text+more), impl.ErrSyntax)
			wantCkptSealed(t, "bytes before", more+text)
		}
		wantCkptCode(t, "a seal in a seal", sealed(sealed(text)), impl.ErrSyntax)
	}
}

func TestWrongNumbersOfRecords(t *testing.T) {
	for _, h := range sampleHists() {
		right := int64(len(h.Recs))
		rest := ckptInner(2, h.Recs...)[2:]
		for _, number := range []int64{right - 1, right + 1, right + 2, 0, -1, -2, -right, 48, 49, 1 << 32, math.MinInt64, math.MaxInt64} {
			if number != right {
				wantCkptCode(t, "a wrong number", sealed(numbers(2, number)+rest), impl.ErrSyntax)
			}
		}
		wantCkptRead(t, "the right number", sealed(numbers(2, right)+rest), impl.CkptOut{Num: 2, Hist: h})
	}
	for _, count := range []int{fullHist + 1, fullHist + 2, 300} {
		wantCkptCode(t, strconv.Itoa(count)+" records", sealed(ckptInner(1, numbered(count).Recs...)), impl.ErrSyntax)
	}
	// No number is encoded in more bytes than necessary.
	for _, text := range []string{"\x82\x00\x00", "\x02\x80\x00", "\x82\x80\x00\x00", strings.Repeat("\xff", 9) + "\x02\x00", "\x02" + strings.Repeat("\xff", 9) + "\x02"} {
		wantCkptCode(t, "long numbers", sealed(text), impl.ErrSyntax)
	}
	one := encoded(write(1, 0, 0, ""))
	for _, text := range []string{"\x02\x82\x00" + prefixed(one), "\x02\x02" + string([]byte{byte(2*len(one)) | 128, 0}) + one} {
		wantCkptCode(t, "long numbers", sealed(text), impl.ErrSyntax)
	}
	wantCkptRead(t, "short numbers", sealed("\x02\x02"+string([]byte{byte(2 * len(one))})+one), impl.CkptOut{Num: 1, Hist: histOf(write(1, 0, 0, ""))})
}

// noRecords returns texts that RecRead rejects.
func noRecords() []string {
	right := encoded(write(5, 6, 1, "five"))
	l := []string{"", "x", "abc", "\x00\x00\x00\x00", right[:len(right)-1], right[1:], right + "\x00", "\x00" + right, sealed(right), fields(write(5, 6, 1, "five")), pattern(impl.PageSize), pattern(300)}
	for _, r := range []impl.Rec{{}, {Kind: 5, Seq: 5, Time: 6}, write(0, 6, 1, ""), write(impl.MaxTime+1, 6, 1, ""), write(5, -1, 1, ""), write(5, 6, 6, ""), write(5, 6, -1, ""), write(5, 6, 1, pattern(impl.MaxData+1)), roll(5, 6, 7), floor(5, 6, -1), {Kind: impl.RcTrim, Seq: 5, Time: 6, Data: "x"}, {Kind: impl.RcRoll, Sector: 1, Seq: 5, Time: 6}} {
		l = append(l, encoded(r))
	}
	for at := range len(right) {
		l = append(l, right[:at]+string([]byte{right[at] ^ 1})+right[at+1:])
	}
	return l
}

func TestCheckpointsWithATextThatIsNoRecord(t *testing.T) {
	before, behind := prefixed(encoded(write(4, 6, 0, "four"))), prefixed(encoded(trim(6, 6, 2)))
	right := prefixed(encoded(write(5, 6, 1, "five")))
	wantCkptRead(t, "three records", sealed(numbers(1, 3)+before+right+behind), impl.CkptOut{Num: 1, Hist: histOf(write(4, 6, 0, "four"), write(5, 6, 1, "five"), trim(6, 6, 2))})
	for _, text := range noRecords() {
		wrong := prefixed(text)
		for _, whole := range []string{numbers(1, 1) + wrong, numbers(1, 3) + before + wrong + behind, numbers(1, 3) + wrong + before + behind, numbers(1, 3) + before + behind + wrong} {
			wantCkptCode(t, "a text that is no record", sealed(whole), impl.ErrSyntax)
			wantCkptSealed(t, "a text that is no record", whole)
		}
	}
	for _, size := range []int64{-1, math.MinInt64, impl.MaxBytes + 1, math.MaxInt64, int64(len(right)), int64(len(right)) - 2} {
		wantCkptCode(t, "a wrong length", sealed(numbers(1, 1, size)+right[1:]), impl.ErrSyntax)
	}
}

func TestCheckpointsOfRecordsThatAreNoHistory(t *testing.T) {
	for what, h := range invalidHists() {
		for _, num := range []int64{1, 7, impl.MaxTime} {
			if text := ckptInner(num, h.Recs...); len(text) <= impl.MaxBytes-4 {
				wantCkptCode(t, what, sealed(text), impl.ErrSyntax)
			} else {
				wantCkptCode(t, what, sealed(text), impl.ErrSize)
			}
		}
	}
	for what, recs := range map[string][]impl.Rec{
		"a Seq twice":         {write(1, 0, 0, "a"), write(1, 0, 0, "a")},
		"a Seq in between":    {write(1, 0, 0, "a"), write(3, 0, 0, "a"), write(2, 0, 0, "a")},
		"a Time that is less": {write(1, 5, 0, "a"), write(2, 4, 0, "a")},
	} {
		wantCkptCode(t, what, sealed(ckptInner(1, recs...)), impl.ErrSyntax)
	}
	// A history needs not be pruned to be encoded.
	for _, h := range []impl.Hist{histOf(write(3, 5, 0, "a"), write(9, 5, 0, "b")), histOf(floor(1, 7, 7), floor(2, 8, 3), write(4, 9, 0, ""))} {
		wantCkptRead(t, "no pruned history", sealed(ckptInner(1, h.Recs...)), impl.CkptOut{Num: 1, Hist: h})
	}
}

func TestAllShortTextsOfCheckpoints(t *testing.T) {
	accepted := 0
	wantCkptSealed(t, "no byte", "")
	for a := range 256 {
		wantCkptSealed(t, "one byte", string([]byte{byte(a)}))
		for b := range 256 {
			two := string([]byte{byte(a), byte(b)})
			if wantCkptSealed(t, "two bytes", two).Code == impl.OK {
				accepted++
			}
			wantCkptSealed(t, "a number of two bytes", two+"\x00")
			wantCkptSealed(t, "two bytes behind a number", "\x02"+two)
		}
		if t.Failed() {
			return
		}
	}
	// The numbers from 1 to 63, without records.
	if accepted != 63 {
		t.Errorf("%d texts of two bytes were accepted", accepted)
	}
}

// someMutated changes a text now and then.
func someMutated(random *rand.Rand, text string) string {
	if random.Intn(4) == 0 {
		return mutated(random, text)
	}
	return text
}

func TestManyTextsOfCheckpoints(t *testing.T) {
	random := rand.New(rand.NewSource(56))
	codes := map[int64]int{}
	plan := histPlan{step: 1, gap: 1, sectors: 2, rolls: 2, floors: 2}
	for range 40000 {
		plan.count = random.Intn(4)
		// What is changed in a record is under a correct seal.
		text := someMutated(random, numbers(random.Int63n(3), int64(plan.count)))
		for _, r := range plan.make(random).Recs {
			text += someMutated(random, prefixed(sealed(someMutated(random, fields(r)))))
		}
		codes[wantCkptSealed(t, "a text", text).Code]++
	}
	if codes[impl.OK] < 2000 || codes[impl.ErrSyntax] < 2000 {
		t.Errorf("the codes were %v", codes)
	}
}

// SlotsRight.

func TestSizesOfSlots(t *testing.T) {
	sizes := map[int]bool{0: true, 1: true, impl.MaxCkpt - 1: true, impl.MaxCkpt: true, impl.MaxCkpt + 1: false, impl.MaxBytes: false, impl.MaxBytes + 1: false}
	for a, rightA := range sizes {
		for b, rightB := range sizes {
			s := impl.Slots{A: pattern(a), B: pattern(b)}
			if got := impl.SlotsRight(s); got != (rightA && rightB) {
				t.Errorf("SlotsRight of %d and %d bytes = %v", a, b, got)
			}
			wantBest(t, "no checkpoint", s)
			put(t, s, numbered(3), -1)
			mountWith(t, "no checkpoint", chipWith(numbered(3).Recs), s)
		}
	}
}

// invalidSlots are too long, and contain checkpoints, as far as they fit.
func invalidSlots() map[string]impl.Slots {
	right, long := refCkptBytes(1, numbered(3).Recs), pattern(impl.MaxCkpt+1)
	last := refCkptBytes(impl.MaxTime, nil)
	return map[string]impl.Slots{
		"A":                       {A: long},
		"B":                       {B: long},
		"both":                    {A: long, B: long},
		"A, with a checkpoint":    {A: long, B: right},
		"B, with a checkpoint":    {A: right, B: long},
		"B, with the last number": {A: last, B: long},
		"A beyond MaxBytes":       {A: pattern(impl.MaxBytes + 1), B: right},
		"B beyond MaxBytes":       {A: right, B: pattern(impl.MaxBytes + 1)},
	}
}

func TestInvalidSlots(t *testing.T) {
	for what, s := range invalidSlots() {
		if impl.SlotsRight(s) {
			t.Errorf("%s: valid", what)
		}
		wantCkpt(t, what, impl.CkptBest(s), impl.CkptOut{Code: impl.ErrForm})
		for _, h := range append(sampleHists(), numbered(fullHist+1)) {
			for _, power := range append(somePowers(), math.MinInt64, -2, 0, 5) {
				wantSlots(t, what, put(t, s, h, power), s)
			}
		}
		for _, n := range []impl.Nand{impl.NandNew(2), loggedChip(), withoutHistory()} {
			wantHistOut(t, what, mountWith(t, what, n, s), impl.HistOut{Code: impl.ErrForm})
		}
		for name, n := range invalidChips() {
			wantHistOut(t, what+", "+name, impl.MountWith(n, s), impl.HistOut{Code: impl.ErrForm})
		}
	}
}

// CkptBest.

func TestCkptBest(t *testing.T) {
	hists := sampleHists()
	ckpt := func(num int64, i int) string { return refCkptBytes(num, hists[i].Recs) }
	none := impl.CkptOut{Code: impl.ErrNone}
	best := func(num int64, i int) impl.CkptOut { return impl.CkptOut{Num: num, Hist: hists[i]} }
	damaged := func(text string) string { return text[:1] + string([]byte{text[1] ^ 4}) + text[2:] }
	for what, c := range map[string]struct {
		a, b string
		want impl.CkptOut
	}{
		"both empty":                        {"", "", none},
		"only A":                            {ckpt(3, 2), "", best(3, 2)},
		"only B":                            {"", ckpt(3, 2), best(3, 2)},
		"A greater":                         {ckpt(4, 2), ckpt(3, 3), best(4, 2)},
		"B greater":                         {ckpt(4, 2), ckpt(5, 3), best(5, 3)},
		"A much greater":                    {ckpt(impl.MaxTime, 2), ckpt(1, 3), best(impl.MaxTime, 2)},
		"B much greater":                    {ckpt(1, 2), ckpt(impl.MaxTime, 3), best(impl.MaxTime, 3)},
		"greater by more than bytes":        {ckpt(63, 2), ckpt(64, 3), best(64, 3)},
		"less by more than bytes":           {ckpt(8192, 2), ckpt(8191, 3), best(8192, 2)},
		"the same number, A has less":       {ckpt(4, 1), ckpt(4, 2), best(4, 1)},
		"the same number, A has more":       {ckpt(4, 2), ckpt(4, 1), best(4, 2)},
		"the same number, A has none":       {ckpt(4, 0), ckpt(4, 2), best(4, 0)},
		"the same":                          {ckpt(4, 3), ckpt(4, 3), best(4, 3)},
		"the last number twice":             {ckpt(impl.MaxTime, 1), ckpt(impl.MaxTime, 2), best(impl.MaxTime, 1)},
		"A has no records":                  {ckpt(1, 0), "", best(1, 0)},
		"B has no records":                  {"", ckpt(1, 0), best(1, 0)},
		"B is greater, without records":     {ckpt(1, 2), ckpt(2, 0), best(2, 0)},
		"A damaged":                         {damaged(ckpt(9, 2)), ckpt(3, 3), best(3, 3)},
		"B damaged":                         {ckpt(3, 2), damaged(ckpt(9, 3)), best(3, 2)},
		"A damaged, less":                   {damaged(ckpt(2, 2)), ckpt(3, 3), best(3, 3)},
		"only A, damaged":                   {damaged(ckpt(9, 2)), "", none},
		"only B, damaged":                   {"", damaged(ckpt(9, 2)), none},
		"both damaged":                      {damaged(ckpt(9, 2)), damaged(ckpt(8, 2)), none},
		"A interrupted":                     {ckpt(9, 2)[:30], ckpt(3, 3), best(3, 3)},
		"B interrupted":                     {ckpt(3, 3), ckpt(9, 2)[:30], best(3, 3)},
		"A with the number 0":               {sealed(ckptInner(0)), ckpt(3, 3), best(3, 3)},
		"B with too great a number":         {ckpt(3, 3), sealed(ckptInner(impl.MaxTime + 1)), best(3, 3)},
		"both with the number 0":            {sealed(ckptInner(0)), sealed(ckptInner(0)), none},
		"A is no history":                   {sealed(ckptInner(9, write(1, 5, 0, ""), write(2, 4, 0, ""))), ckpt(3, 3), best(3, 3)},
		"few bytes":                         {"a", "ab", none},
		"the seals of nothing":              {sealed(""), sealed(""), none},
		"as many bytes as there can be":     {pattern(impl.MaxCkpt), ckpt(3, 3), best(3, 3)},
		"B with as many bytes":              {ckpt(3, 3), pattern(impl.MaxCkpt), best(3, 3)},
		"both with as many bytes":           {pattern(impl.MaxCkpt), pattern(impl.MaxCkpt), none},
		"the longest ones":                  {ckpt(4, 6), ckpt(5, 5), best(5, 5)},
		"A too long":                        {pattern(impl.MaxCkpt + 1), ckpt(3, 3), impl.CkptOut{Code: impl.ErrForm}},
		"B too long":                        {ckpt(3, 3), pattern(impl.MaxCkpt + 1), impl.CkptOut{Code: impl.ErrForm}},
		"A too long, no checkpoint":         {pattern(impl.MaxCkpt + 1), "", impl.CkptOut{Code: impl.ErrForm}},
		"B too long, no checkpoint":         {"x", pattern(impl.MaxCkpt + 1), impl.CkptOut{Code: impl.ErrForm}},
		"A too long, and sealed":            {sealed(pattern(impl.MaxCkpt)), "", impl.CkptOut{Code: impl.ErrForm}},
		"A a checkpoint with bytes behind":  {ckpt(5, 3) + strings.Repeat("\x00", 9), "", none},
		"B a checkpoint with bytes before":  {"", "\x00" + ckpt(5, 3), none},
		"two checkpoints in one slot":       {ckpt(5, 3) + ckpt(6, 2), "", none},
		"a record instead of a checkpoint":  {encoded(write(1, 0, 0, "a")), "", none},
		"the greater one is not the longer": {ckpt(9, 1), ckpt(8, 5), best(9, 1)},
	} {
		s := impl.Slots{A: c.a, B: c.b}
		wantCkpt(t, what, impl.CkptBest(s), c.want)
		wantBest(t, what, s)
	}
}

// CkptPut.

func TestSlotsToWhichCheckpointsAreWritten(t *testing.T) {
	h := histOf(write(1, 0, 0, "a"), write(2, 0, 0, "b"), trim(3, 2, 1))
	kept := histOf(h.Recs[1], h.Recs[2])
	text := func(num int64) string { return refCkptBytes(num, kept.Recs) }
	five, six := refCkptBytes(5, numbered(3).Recs), refCkptBytes(6, numbered(2).Recs)
	for what, c := range map[string]struct{ s, want impl.Slots }{
		"neither":                   {impl.Slots{}, impl.Slots{A: text(1)}},
		"neither can be read":       {impl.Slots{A: "x", B: "y"}, impl.Slots{A: text(1), B: "y"}},
		"neither, both interrupted": {impl.Slots{A: five[:9], B: six[:9]}, impl.Slots{A: text(1), B: six[:9]}},
		"only A":                    {impl.Slots{A: five}, impl.Slots{A: five, B: text(6)}},
		"only A can be read":        {impl.Slots{A: five, B: "y"}, impl.Slots{A: five, B: text(6)}},
		"only B":                    {impl.Slots{B: five}, impl.Slots{A: text(6), B: five}},
		"only B can be read":        {impl.Slots{A: "x", B: five}, impl.Slots{A: text(6), B: five}},
		"A is greater":              {impl.Slots{A: six, B: five}, impl.Slots{A: six, B: text(7)}},
		"B is greater":              {impl.Slots{A: five, B: six}, impl.Slots{A: text(7), B: six}},
		"both are the same":         {impl.Slots{A: five, B: refCkptBytes(5, nil)}, impl.Slots{A: five, B: text(6)}},
		"the last but one":          {impl.Slots{A: refCkptBytes(impl.MaxTime-1, nil), B: six}, impl.Slots{A: refCkptBytes(impl.MaxTime-1, nil), B: text(impl.MaxTime)}},
		"the last but one in B":     {impl.Slots{A: five, B: refCkptBytes(impl.MaxTime-1, nil)}, impl.Slots{A: text(impl.MaxTime), B: refCkptBytes(impl.MaxTime-1, nil)}},
	} {
		for _, power := range somePowers() {
			wantSlots(t, what, put(t, c.s, h, power), c.want)
		}
		for size := range int64(9) {
			want := c.want
			if want.A != c.s.A {
				want.A = want.A[:size]
			} else {
				want.B = want.B[:size]
			}
			wantSlots(t, what+", interrupted", put(t, c.s, h, size), want)
		}
		for _, power := range []int64{-2, -3, -impl.MaxCkpt, math.MinInt64} {
			wantSlots(t, what+", no such power", put(t, c.s, h, power), c.s)
		}
	}
}

func TestFirstSecondAndThirdCheckpoint(t *testing.T) {
	for _, h := range sampleHists() {
		pruned := refPrune(h.Recs).Recs
		first := put(t, impl.Slots{}, h, -1)
		wantSlots(t, "the first", first, impl.Slots{A: refCkptBytes(1, pruned)})
		second := put(t, first, h, -1)
		wantSlots(t, "the second", second, impl.Slots{A: refCkptBytes(1, pruned), B: refCkptBytes(2, pruned)})
		third := put(t, second, h, -1)
		wantSlots(t, "the third", third, impl.Slots{A: refCkptBytes(3, pruned), B: refCkptBytes(2, pruned)})
		wantSlots(t, "the third, not begun", put(t, second, h, 0), impl.Slots{B: refCkptBytes(2, pruned)})
		// The one that was not completed has given its number to the next one.
		again := put(t, put(t, second, h, 5), h, -1)
		wantSlots(t, "the third again", again, third)
	}
}

func TestCheckpointBehindTheLastNumber(t *testing.T) {
	last, other := refCkptBytes(impl.MaxTime, numbered(2).Recs), refCkptBytes(4, numbered(1).Recs)
	for what, s := range map[string]impl.Slots{
		"only A": {A: last}, "only B": {B: last}, "A": {A: last, B: other}, "B": {A: other, B: last}, "both": {A: last, B: last},
		"A, B is damaged": {A: last, B: "x"}, "B, A is damaged": {A: "x", B: last},
	} {
		for _, h := range sampleHists() {
			for _, power := range append(somePowers(), -2, 0, 1, 30) {
				wantSlots(t, what, put(t, s, h, power), s)
			}
		}
		wantCkpt(t, what, wantBest(t, what, s), impl.CkptOut{Num: impl.MaxTime, Hist: numbered(2)})
	}
	// A slot that cannot be read has no number.
	s := impl.Slots{A: last[:len(last)-1], B: other}
	wantSlots(t, "the last number is damaged", put(t, s, numbered(2), -1), impl.Slots{A: refCkptBytes(5, numbered(2).Recs), B: other})
}

// MountWith.

// chipBehind is a chip with records behind those of a checkpoint.
func chipBehind() impl.Nand {
	return chipOf(
		good(0, encodedAll(write(5, 8, 0, "e"), write(2, 3, 1, "other"), write(1, 0, 0, "a"))...),
		bad(3, encoded(trim(6, 9, 1)), "junk"),
		good(1, encodedAll(write(5, 8, 0, "second"), write(4, 7, 3, "d"))...),
	)
}

func TestMountWithCheckpoints(t *testing.T) {
	saved := []impl.Rec{write(1, 0, 0, "a"), write(2, 3, 1, "b"), roll(3, 6, 2)}
	slots := impl.Slots{B: refCkptBytes(9, saved)}
	e, f, d := write(5, 8, 0, "e"), trim(6, 9, 1), write(4, 7, 3, "d")
	for what, c := range map[string]struct {
		n    impl.Nand
		s    impl.Slots
		want []impl.Rec
	}{
		"no records on the chip":              {impl.NandNew(2), slots, saved},
		"no later records on the chip":        {chipWith(saved), slots, saved},
		"only the last one on the chip":       {chipWith(saved[2:]), slots, saved},
		"only the first one on the chip":      {chipWith(saved[:1]), slots, saved},
		"some later records":                  {chipBehind(), slots, append(saved[:3:3], d, e, f)},
		"later records beside the same ones":  {chipWith(append(saved[:3:3], d, f)), slots, append(saved[:3:3], d, f)},
		"the first of two with one Seq":       {chipOf(good(0, encodedAll(write(7, 9, 2, "x"), write(7, 8, 1, "y"))...)), slots, append(saved[:3:3], write(7, 9, 2, "x"))},
		"the first one, which is in a bad":    {chipOf(bad(0, encoded(trim(7, 8, 1))), good(0, encoded(write(7, 9, 2, "x")))), slots, append(saved[:3:3], trim(7, 8, 1))},
		"another record with the last Seq":    {chipWith([]impl.Rec{write(3, 6, 0, "x")}), slots, saved},
		"another record with an earlier Seq":  {chipWith([]impl.Rec{write(2, 6, 0, "x"), d}), slots, append(saved[:3:3], d)},
		"earlier records that are no history": {chipWith([]impl.Rec{write(1, 5, 0, "x"), write(2, 4, 0, "y"), d}), slots, append(saved[:3:3], d)},
		"the last Seq with too late a Time":   {chipWith([]impl.Rec{write(3, 9, 0, "x"), d}), slots, append(saved[:3:3], d)},
		"the Time of the last record":         {chipWith([]impl.Rec{trim(4, 6, 0)}), slots, append(saved[:3:3], trim(4, 6, 0))},
		"a Seq much later":                    {chipWith([]impl.Rec{trim(impl.MaxTime, impl.MaxTime, 0)}), slots, append(saved[:3:3], trim(impl.MaxTime, impl.MaxTime, 0))},
		"pages that are no records":           {chipOf(good(0, encoded(d)[:9], "", "junk", encoded(e)), good(0)), slots, append(saved[:3:3], e)},
		"a floor behind":                      {chipWith([]impl.Rec{floor(4, 9, 7)}), slots, append(saved[:3:3], floor(4, 9, 7))},
		"the better one":                      {chipBehind(), impl.Slots{A: refCkptBytes(8, saved[:1]), B: slots.B}, append(saved[:3:3], d, e, f)},
		"the better one in A":                 {chipBehind(), impl.Slots{A: refCkptBytes(10, saved[:1]), B: slots.B}, []impl.Rec{saved[0], write(2, 3, 1, "other"), d, e, f}},
		"the other one is damaged":            {chipBehind(), impl.Slots{A: "x" + slots.B, B: slots.B}, append(saved[:3:3], d, e, f)},
		"a checkpoint without records":        {chipBehind(), impl.Slots{A: refCkptBytes(10, nil), B: slots.B}, []impl.Rec{saved[0], write(2, 3, 1, "other"), d, e, f}},
		"no checkpoint":                       {chipBehind(), impl.Slots{}, []impl.Rec{saved[0], write(2, 3, 1, "other"), d, e, f}},
		"no checkpoint that can be read":      {chipBehind(), impl.Slots{A: slots.B[:20], B: "junk"}, []impl.Rec{saved[0], write(2, 3, 1, "other"), d, e, f}},
		"neither":                             {impl.NandNew(2), impl.Slots{}, nil},
		"a checkpoint without records, a new": {impl.NandNew(2), impl.Slots{A: refCkptBytes(1, nil)}, nil},
		"the greatest history":                {impl.NandNew(1), impl.Slots{A: refCkptBytes(1, greatestHist().Recs)}, greatestHist().Recs},
		"48 records in all":                   {chipWith([]impl.Rec{trim(60, 60, 0), trim(61, 60, 1)}), impl.Slots{A: refCkptBytes(1, numbered(46).Recs)}, append(numbered(46).Recs, trim(60, 60, 0), trim(61, 60, 1))},
	} {
		wantHistOut(t, what, mountWith(t, what, c.n, c.s), impl.HistOut{Hist: histOf(c.want...)})
	}
}

// Where a checkpoint and a chip do not fit together, the chip alone is mounted.
func TestMountWithCheckpointsThatDoNotFit(t *testing.T) {
	saved := []impl.Rec{write(1, 5, 0, "a"), write(2, 7, 1, "b")}
	slots := impl.Slots{A: refCkptBytes(1, saved)}
	for what, c := range map[string]struct {
		n    impl.Nand
		s    impl.Slots
		want impl.HistOut
	}{
		"a later record with too early a Time": {chipWith([]impl.Rec{write(3, 6, 0, "x")}), slots, impl.HistOut{Hist: histOf(write(3, 6, 0, "x"))}},
		"the second one is too early":          {chipWith([]impl.Rec{write(1, 2, 0, "w"), write(3, 6, 0, "x"), write(4, 8, 0, "y")}), slots, impl.HistOut{Hist: histOf(write(1, 2, 0, "w"), write(3, 6, 0, "x"), write(4, 8, 0, "y"))}},
		"later records that are no history":    {chipWith([]impl.Rec{write(3, 9, 0, "x"), write(4, 8, 0, "y")}), slots, impl.HistOut{Code: impl.ErrState}},
		"too early, and no history":            {chipWith([]impl.Rec{write(1, 9, 0, "w"), write(3, 6, 0, "x")}), slots, impl.HistOut{Code: impl.ErrState}},
		"49 records in all":                    {chipWith([]impl.Rec{trim(60, 60, 0)}), impl.Slots{A: refCkptBytes(1, numbered(48).Recs)}, impl.HistOut{Hist: histOf(trim(60, 60, 0))}},
		"49 records, of which some are both":   {chipWith([]impl.Rec{numbered(2).Recs[1], trim(60, 60, 0), trim(61, 60, 0)}), impl.Slots{B: refCkptBytes(1, numbered(47).Recs)}, impl.HistOut{Hist: histOf(numbered(2).Recs[1], trim(60, 60, 0), trim(61, 60, 0))}},
		"49 records, and no history":           {chipWith([]impl.Rec{trim(1, 61, 0), trim(60, 60, 0)}), impl.Slots{A: refCkptBytes(1, numbered(48).Recs)}, impl.HistOut{Code: impl.ErrState}},
		"only the worse checkpoint would fit":  {chipWith([]impl.Rec{write(3, 6, 0, "x")}), impl.Slots{A: slots.A, B: refCkptBytes(9, saved)}, impl.HistOut{Hist: histOf(write(3, 6, 0, "x"))}},
		"the worse one fits, with less":        {chipWith([]impl.Rec{write(3, 6, 0, "x")}), impl.Slots{A: refCkptBytes(1, saved[:1]), B: refCkptBytes(9, saved)}, impl.HistOut{Hist: histOf(write(3, 6, 0, "x"))}},
		"no checkpoint, and no history":        {withoutHistory(), impl.Slots{}, impl.HistOut{Code: impl.ErrState}},
		"no checkpoint can be read":            {withoutHistory(), impl.Slots{A: "x", B: "y"}, impl.HistOut{Code: impl.ErrState}},
		"a checkpoint without records":         {withoutHistory(), impl.Slots{A: refCkptBytes(1, nil)}, impl.HistOut{Code: impl.ErrState}},
	} {
		wantHistOut(t, what, mountWith(t, what, c.n, c.s), c.want)
	}
}

func TestMountWithInvalidChips(t *testing.T) {
	slots := slotPairs()
	for what, s := range invalidSlots() {
		slots[what] = s
	}
	for name, n := range invalidChips() {
		before := chipCopy(n)
		for what, s := range slots {
			wantHistOut(t, name+", "+what, impl.MountWith(n, s), impl.HistOut{Code: impl.ErrForm})
		}
		if !sameChip(n, before) {
			t.Errorf("%s: the argument was changed", name)
		}
	}
	right := impl.Slots{A: refCkptBytes(1, numbered(3).Recs)}
	wantHistOut(t, "a spoiled chip", impl.MountWith(spoiled(loggedChip()), right), impl.HistOut{Code: impl.ErrForm})
}

// fittingHist returns a history of records of a chip, as far as they are one, up to some record.
func fittingHist(random *rand.Rand, n impl.Nand) impl.Hist {
	log := refLog(n)
	slices.SortStableFunc(log, func(a, b placedRec) int { return cmp.Compare(a.rec.Seq, b.rec.Seq) })
	var h impl.Hist
	for _, l := range log[:random.Intn(len(log)+1)] {
		if next := append(slices.Clone(h.Recs), l.rec); random.Intn(5) > 0 && refHistRight(next) {
			h.Recs = next
		}
	}
	return h
}

// randomSlot returns a slot with a checkpoint that mostly fits to a chip, or without one.
func randomSlot(random *rand.Rand, n impl.Nand) string {
	plans := histPlans()
	num := 1 + random.Int63n(3)
	text := refCkptBytes(num, fittingHist(random, n).Recs)
	switch random.Intn(8) {
	case 0:
		return ""
	case 1:
		return refCkptBytes(num, plans[random.Intn(len(plans))].make(random).Recs)
	case 2:
		return mutated(random, text)
	case 3:
		return text[:random.Intn(len(text))]
	}
	return text
}

func TestManyChipsAreMountedWithCheckpoints(t *testing.T) {
	random := rand.New(rand.NewSource(57))
	counts := map[string]int{}
	for range 2000 {
		n := randomChip(random)
		s := impl.Slots{A: randomSlot(random, n), B: randomSlot(random, n)}
		best := wantBest(t, "random slots", s)
		with, alone := mountWith(t, "a random chip", n, s), refMount(n)
		switch {
		case best.Code != impl.OK:
			counts["no checkpoint"]++
		case with.Code != impl.OK:
			counts["neither"]++
		case alone.Code != impl.OK:
			counts["only with a checkpoint"]++
		case sameHist(with.Hist, alone.Hist):
			counts["the same"]++
		default:
			counts["another one"]++
		}
		put(t, s, fittingHist(random, n), random.Int63n(600)-1)
		if t.Failed() {
			t.Fatalf("of the chip %#v\nand the slots %+q", n, s)
		}
	}
	for _, what := range []string{"no checkpoint", "neither", "only with a checkpoint", "the same", "another one"} {
		if counts[what] < 50 {
			t.Errorf("the counts are %v", counts)
		}
	}
}

// Memory.

// savedHists returns calls that return the same history of three records each time.
func savedHists() map[string]func() impl.Hist {
	saved := []impl.Rec{write(1, 0, 0, "a"), write(2, 3, 1, "b"), roll(3, 6, 2)}
	text := refCkptBytes(4, saved)
	last := chipWith(saved[2:])
	return map[string]func() impl.Hist{
		"CkptRead":                   func() impl.Hist { return impl.CkptRead(text).Hist },
		"CkptBest":                   func() impl.Hist { return impl.CkptBest(impl.Slots{B: text}).Hist },
		"MountWith a new chip":       func() impl.Hist { return impl.MountWith(impl.NandNew(2), impl.Slots{A: text}).Hist },
		"MountWith the last record":  func() impl.Hist { return impl.MountWith(last, impl.Slots{A: text}).Hist },
		"MountWith later records":    func() impl.Hist { return impl.MountWith(last, impl.Slots{B: refCkptBytes(4, saved[:2])}).Hist },
		"MountWith a chip by itself": func() impl.Hist { return impl.MountWith(chipWith(saved), impl.Slots{}).Hist },
	}
}

func TestHistoriesOfCheckpointsShareNoMemory(t *testing.T) {
	want := histOf(write(1, 0, 0, "a"), write(2, 3, 1, "b"), roll(3, 6, 2))
	for what, call := range savedHists() {
		first, second := call(), call()
		wantHistOut(t, what, impl.HistOut{Hist: first}, impl.HistOut{Hist: want})
		// The history is used, and then overwritten.
		next := add(t, first, write(4, 7, 2, "c"))
		wantSlots(t, what, put(t, impl.Slots{}, next, -1), impl.Slots{A: refCkptBytes(1, next.Recs)})
		_ = append(first.Recs, write(4, 7, 2, "appended"))
		spoil(first.Recs, write(99, 99, 5, "wrong"))
		wantHistOut(t, what+", used", impl.HistOut{Hist: second}, impl.HistOut{Hist: want})
		wantHistOut(t, what+", again", impl.HistOut{Hist: call()}, impl.HistOut{Hist: want})
		wantHistOut(t, what+", continued", impl.HistOut{Hist: next}, impl.HistOut{Hist: histOf(append(want.Recs[:3:3], write(4, 7, 2, "c"))...)})
	}
}

func TestArgumentsOfCheckpointsAreLeftAsTheyWere(t *testing.T) {
	// The slice has room behind it, which is not to be used.
	h, whole := roomyHist()
	before := slices.Clone(whole)
	slots := impl.Slots{A: refCkptBytes(3, h.Recs), B: "junk"}
	text := impl.CkptBytes(1, h)
	put := impl.CkptPut(slots, h, -1)
	for power := int64(-2); power < 200; power++ {
		impl.CkptPut(slots, h, power)
	}
	if !slices.Equal(whole, before) {
		t.Errorf("an argument was changed:\nfrom %+v\nto   %+v", before, whole)
	}
	want := refPrune(histCopy(h).Recs).Recs
	spoil(whole, write(99, 99, 5, "wrong"))
	if text != refCkptBytes(1, before[:6]) || put.B != refCkptBytes(4, want) {
		t.Error("a change of an argument changed a result")
	}
	pages := append(usedPages(encoded(write(9, 9, 0, "i")), "x", "x", "x"), impl.Page{Data: "behind"})
	blocks := append(make([]impl.Block, 0, 4), impl.Block{Pages: pages[:impl.PageCount]}, bad(7, "behind"))
	n := impl.Nand{Blocks: blocks[:1]}
	mounted := mountWith(t, "a roomy chip", n, slots).Hist
	if pages[impl.PageCount].Data != "behind" || blocks[1].Erases != 7 || blocks[1].Pages[0].Data != "behind" {
		t.Error("memory behind the argument was changed")
	}
	spoilChip(n)
	wantHistOut(t, "a changed chip", impl.HistOut{Hist: mounted}, impl.HistOut{Hist: histOf(append(before[:6:6], write(9, 9, 0, "i"))...)})
}

func TestCallsOfCheckpointsAreRepeatable(t *testing.T) {
	random := rand.New(rand.NewSource(58))
	for range 60 {
		n := randomChip(random)
		s := impl.Slots{A: randomSlot(random, n), B: randomSlot(random, n)}
		h := fittingHist(random, n)
		wantRepeatable(t, func() []any {
			return []any{impl.CkptBytes(5, h), impl.CkptRead(s.A), impl.SlotsRight(s), impl.CkptBest(s), impl.CkptPut(s, h, -1), impl.CkptPut(s, h, 30), impl.MountWith(n, s)}
		})
	}
}
