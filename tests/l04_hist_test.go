package tests

import (
	"math"
	"math/rand"
	"reflect"
	"slices"
	"strconv"
	"testing"

	"loop.example/g00637/impl"
)

// fullHist is the greatest number of records of a history.
const fullHist = 48

// contents has an element for each sector.
type contents [impl.MaxSectors]impl.ValueOut

func write(seq, time, sector int64, data string) impl.Rec {
	return impl.Rec{Kind: impl.RcWrite, Sector: sector, Seq: seq, Time: time, Data: data}
}

func trim(seq, time, sector int64) impl.Rec {
	return impl.Rec{Kind: impl.RcTrim, Sector: sector, Seq: seq, Time: time}
}

func roll(seq, time, to int64) impl.Rec {
	return impl.Rec{Kind: impl.RcRoll, Seq: seq, Time: time, To: to}
}

func floor(seq, time, to int64) impl.Rec {
	return impl.Rec{Kind: impl.RcFloor, Seq: seq, Time: time, To: to}
}

func histOf(recs ...impl.Rec) impl.Hist {
	return impl.Hist{Recs: recs}
}

func histCopy(h impl.Hist) impl.Hist {
	return histOf(slices.Clone(h.Recs)...)
}

func sameHist(a, b impl.Hist) bool {
	return slices.Equal(a.Recs, b.Recs)
}

// numbered returns a history of that many writes of sector 0, one at each time.
func numbered(count int) impl.Hist {
	var h impl.Hist
	for i := range count {
		h.Recs = append(h.Recs, write(int64(i+1), int64(i), 0, strconv.Itoa(i)))
	}
	return h
}

func wantHistOut(t *testing.T, what string, got, want impl.HistOut) {
	t.Helper()
	if got.Code != want.Code || !sameHist(got.Hist, want.Hist) {
		t.Errorf("%s:\ngot  %+v\nwant %+v", what, got, want)
	}
}

func wantValue(t *testing.T, what string, got, want impl.ValueOut) {
	t.Helper()
	if got != want {
		t.Errorf("%s: got %+v, want %+v", what, got, want)
	}
}

func wantList(t *testing.T, what string, got, want []int64) {
	t.Helper()
	if !slices.Equal(got, want) {
		t.Errorf("%s: got %v, want %v", what, got, want)
	}
}

func there(data string) impl.ValueOut {
	return impl.ValueOut{There: true, Data: data}
}

// add appends a record that must be accepted, and requires that nothing but the record is added and that the argument is left as it was.
func add(t *testing.T, h impl.Hist, r impl.Rec) impl.Hist {
	t.Helper()
	before := histCopy(h)
	out := impl.HistAdd(h, r)
	wantHistOut(t, "HistAdd", out, impl.HistOut{Hist: histOf(append(slices.Clone(before.Recs), r)...)})
	if !sameHist(h, before) {
		t.Errorf("HistAdd changed its argument:\nfrom %+v\nto   %+v", before, h)
	}
	return out.Hist
}

// The reference: the contents are computed forwards, from record to record, and not by trails.

// statesOf returns, for each number of first records, the contents after them. A roll returns to the state after those records before it that are not later than its To.
func statesOf(recs []impl.Rec) []contents {
	states := []contents{{}}
	for i, r := range recs {
		next := states[i]
		switch r.Kind {
		case impl.RcWrite:
			next[r.Sector] = there(r.Data)
		case impl.RcTrim:
			next[r.Sector] = impl.ValueOut{}
		case impl.RcRoll:
			next = states[countUntil(recs[:i], r.To)]
		}
		states = append(states, next)
	}
	return states
}

func countUntil(recs []impl.Rec, at int64) int {
	count := 0
	for _, r := range recs {
		if r.Time <= at {
			count++
		}
	}
	return count
}

func refFloor(recs []impl.Rec) int64 {
	greatest := int64(0)
	for _, r := range recs {
		if r.Kind == impl.RcFloor {
			greatest = max(greatest, r.To)
		}
	}
	return greatest
}

func concerns(r impl.Rec, sector int64) bool {
	ofSector := r.Kind == impl.RcWrite || r.Kind == impl.RcTrim
	return ofSector && r.Sector == sector || r.Kind == impl.RcRoll
}

func refTrail(recs []impl.Rec, sector, at int64) []int64 {
	found := -1
	for i, r := range recs {
		if r.Time <= at && concerns(r, sector) {
			found = i
		}
	}
	if found < 0 {
		return nil
	}
	r := recs[found]
	if r.Kind != impl.RcRoll {
		return []int64{r.Seq}
	}
	return append([]int64{r.Seq}, refTrail(recs[:found], sector, r.To)...)
}

func refTimes(recs []impl.Rec, sector int64) []int64 {
	var times []int64
	for _, r := range recs {
		if concerns(r, sector) && r.Time >= refFloor(recs) {
			times = append(times, r.Time)
		}
	}
	return slices.Compact(times)
}

func refNeeded(recs []impl.Rec) []int64 {
	least := refFloor(recs)
	moments := []int64{least}
	floorSeq := int64(0)
	for _, r := range recs {
		if r.Time >= least {
			moments = append(moments, r.Time)
		}
		if r.Kind == impl.RcFloor && r.To == least {
			floorSeq = r.Seq
		}
	}
	var seqs []int64
	if floorSeq > 0 {
		seqs = append(seqs, floorSeq)
	}
	for _, at := range slices.Compact(moments) {
		for sector := int64(0); sector < impl.MaxSectors; sector++ {
			seqs = append(seqs, refTrail(recs, sector, at)...)
		}
	}
	slices.Sort(seqs)
	return slices.Compact(seqs)
}

func refPrune(recs []impl.Rec) impl.Hist {
	needed := refNeeded(recs)
	var kept impl.Hist
	for i, r := range recs {
		if i == len(recs)-1 || slices.Contains(needed, r.Seq) {
			kept.Recs = append(kept.Recs, r)
		}
	}
	return kept
}

// moments returns the times at which something could change in a history, those beside them, and the least and greatest one.
func moments(h impl.Hist) []int64 {
	l := []int64{0, 1, impl.MaxTime}
	for _, r := range h.Recs {
		l = append(l, r.Time-1, r.Time, r.Time+1, r.To-1, r.To, r.To+1)
	}
	slices.Sort(l)
	l = slices.Compact(l)
	return slices.DeleteFunc(l, func(at int64) bool { return at < 0 || at > impl.MaxTime })
}

// contentsAt asks for every sector.
func contentsAt(h impl.Hist, at int64) contents {
	var c contents
	for sector := range c {
		c[sector] = impl.AsOf(h, int64(sector), at)
	}
	return c
}

// withoutFloors returns the history that can be read at every time.
func withoutFloors(h impl.Hist) impl.Hist {
	return histOf(slices.DeleteFunc(slices.Clone(h.Recs), func(r impl.Rec) bool { return r.Kind == impl.RcFloor })...)
}

// histPlan says how random histories are made.
type histPlan struct {
	count   int   // records
	step    int64 // greatest difference of successive Times
	gap     int64 // greatest difference of successive Seqs
	sectors int64
	rolls   int // of 10 records
	floors  int // of 20 records
}

func histPlans() []histPlan {
	return []histPlan{
		{count: 5, step: 2, gap: 1, sectors: 2, rolls: 3},
		{count: 10, step: 1, gap: 1, sectors: 1, rolls: 5},
		{count: 12, step: 0, gap: 2, sectors: 2, rolls: 4, floors: 3},
		{count: 24, step: 3, gap: 1, sectors: 6, rolls: 2},
		{count: 30, step: 2, gap: 3, sectors: 3, rolls: 3, floors: 2},
		{count: fullHist, step: 1, gap: 1, sectors: 6, rolls: 1, floors: 1},
		{count: fullHist, step: 4, gap: 2, sectors: 6, rolls: 4},
		{count: fullHist, step: 2, gap: 1, sectors: 4, rolls: 3, floors: 4},
		{count: fullHist, step: impl.MaxTime / fullHist, gap: impl.MaxTime / fullHist, sectors: 6, rolls: 3, floors: 1},
	}
}

// next returns a record that can follow a history.
func (p histPlan) next(random *rand.Rand, h impl.Hist) impl.Rec {
	var last impl.Rec
	if len(h.Recs) > 0 {
		last = h.Recs[len(h.Recs)-1]
	}
	seq := last.Seq + 1 + random.Int63n(p.gap)
	time := last.Time + random.Int63n(p.step+1)
	to := random.Int63n(time + 1)
	// The Times of records are where an error by one would show.
	if len(h.Recs) > 0 && random.Intn(2) == 0 {
		to = h.Recs[random.Intn(len(h.Recs))].Time
	}
	switch {
	case random.Intn(20) < p.floors:
		return floor(seq, time, to/(1+random.Int63n(3)))
	case random.Intn(10) < p.rolls:
		return roll(seq, time, to)
	case random.Intn(4) == 0:
		return trim(seq, time, random.Int63n(p.sectors))
	}
	return write(seq, time, random.Int63n(p.sectors), strconv.FormatInt(seq, 36))
}

func (p histPlan) make(random *rand.Rand) impl.Hist {
	var h impl.Hist
	for range p.count {
		h.Recs = append(h.Recs, p.next(random, h))
	}
	return h
}

// wantHist compares the answers of all functions of a valid history with the reference.
func wantHist(t *testing.T, h impl.Hist) {
	t.Helper()
	var last impl.Rec
	if len(h.Recs) > 0 {
		last = h.Recs[len(h.Recs)-1]
	}
	if !impl.HistRight(h) {
		t.Errorf("invalid: %+v", h)
	}
	wantList(t, "LastSeq, LastTime and FloorOf", []int64{impl.LastSeq(h), impl.LastTime(h), impl.FloorOf(h)}, []int64{last.Seq, last.Time, refFloor(h.Recs)})
	wantList(t, "Needed", impl.Needed(h), refNeeded(h.Recs))
	wantHistOut(t, "Prune", impl.HistOut{Hist: impl.Prune(h)}, impl.HistOut{Hist: refPrune(h.Recs)})
	states := statesOf(h.Recs)
	for sector := int64(0); sector < impl.MaxSectors; sector++ {
		wantList(t, "Times", impl.Times(h, sector), refTimes(h.Recs, sector))
		for _, at := range moments(h) {
			want := impl.ValueOut{Code: impl.ErrPast}
			if at >= refFloor(h.Recs) {
				want = states[countUntil(h.Recs, at)][sector]
			}
			wantValue(t, "AsOf", impl.AsOf(h, sector, at), want)
			wantList(t, "Trail", impl.Trail(h, sector, at), refTrail(h.Recs, sector, at))
		}
	}
	if t.Failed() {
		t.Fatalf("of the history %+v", h)
	}
}

func TestExampleOfHistories(t *testing.T) {
	h := histOf(write(1, 0, 0, "a"), write(2, 4, 0, "b"), roll(3, 6, 2))
	for at, want := range map[int64]string{3: "a", 5: "b", 6: "a"} {
		wantValue(t, "the sector", impl.AsOf(h, 0, at), there(want))
	}
	wantList(t, "the trail at 9", impl.Trail(h, 0, 9), []int64{3, 1})
	h = add(t, h, floor(4, 9, 6))
	wantValue(t, "time 5", impl.AsOf(h, 0, 5), impl.ValueOut{Code: impl.ErrPast})
	wantList(t, "Needed", impl.Needed(h), []int64{1, 3, 4})
}

func TestEmptyHistory(t *testing.T) {
	for _, h := range []impl.Hist{{}, {Recs: []impl.Rec{}}} {
		wantHist(t, h)
		wantValue(t, "an absent sector", impl.AsOf(h, 5, impl.MaxTime), impl.ValueOut{})
		wantList(t, "nothing", slices.Concat(impl.Trail(h, 0, 0), impl.Times(h, 0), impl.Needed(h)), nil)
		if got := impl.Prune(h); len(got.Recs) != 0 {
			t.Errorf("Prune = %+v", got)
		}
	}
}

func TestManyHistoriesAreAnsweredAsDocumented(t *testing.T) {
	random := rand.New(rand.NewSource(6))
	for _, plan := range histPlans() {
		for range 30 {
			wantHist(t, plan.make(random))
		}
	}
}

// Promise 5.

func TestContentsBetweenRecords(t *testing.T) {
	h := histOf(write(1, 2, 1, "a"), write(2, 5, 0, "b"), trim(3, 8, 1), write(4, 8, 2, ""), write(5, 11, 1, "c"))
	for _, c := range []struct {
		sector, at int64
		want       impl.ValueOut
	}{
		{1, 0, impl.ValueOut{}}, {1, 1, impl.ValueOut{}}, {1, 2, there("a")}, {1, 5, there("a")}, {1, 7, there("a")},
		{1, 8, impl.ValueOut{}}, {1, 10, impl.ValueOut{}}, {1, 11, there("c")}, {1, impl.MaxTime, there("c")},
		{0, 4, impl.ValueOut{}}, {0, 5, there("b")}, {0, impl.MaxTime, there("b")},
		{2, 7, impl.ValueOut{}}, {2, 8, there("")}, {2, 9, there("")}, {3, 11, impl.ValueOut{}},
	} {
		wantValue(t, "a sector", impl.AsOf(h, c.sector, c.at), c.want)
	}
	wantHist(t, h)
}

func TestRecordsWithTheSameTime(t *testing.T) {
	// Of the records of one time the last one counts, and a roll returns only to those before it.
	h := histOf(write(1, 3, 0, "a"), write(2, 3, 0, "b"))
	wantValue(t, "two writes", impl.AsOf(h, 0, 3), there("b"))
	h = add(t, h, roll(3, 3, 3))
	wantValue(t, "a roll to its own time", impl.AsOf(h, 0, 3), there("b"))
	wantList(t, "its trail", impl.Trail(h, 0, 3), []int64{3, 2})
	h = add(t, h, write(4, 3, 0, "c"))
	wantValue(t, "a write behind the roll", impl.AsOf(h, 0, 3), there("c"))
	h = add(t, h, roll(5, 3, 2))
	wantValue(t, "a roll to before all", impl.AsOf(h, 0, 3), impl.ValueOut{})
	wantList(t, "its trail", impl.Trail(h, 0, 3), []int64{5})
	h = add(t, h, roll(6, 3, 3))
	wantValue(t, "a roll to a roll", impl.AsOf(h, 0, 3), impl.ValueOut{})
	wantList(t, "its trail", impl.Trail(h, 0, 3), []int64{6, 5})
	h = add(t, h, trim(7, 3, 1))
	wantList(t, "the trail of another sector", impl.Trail(h, 1, 3), []int64{7})
	wantList(t, "Times", impl.Times(h, 0), []int64{3})
	wantHist(t, h)
}

func TestRollsOfRolls(t *testing.T) {
	h := histOf(write(1, 0, 0, "a"), write(2, 4, 0, "b"), roll(3, 6, 2))
	h = add(t, h, roll(4, 8, 5))
	wantValue(t, "forward again", impl.AsOf(h, 0, 8), there("b"))
	h = add(t, h, roll(5, 10, 7))
	wantValue(t, "to the time after the first roll", impl.AsOf(h, 0, 10), there("a"))
	h = add(t, h, roll(6, 12, 9))
	wantValue(t, "to the time after the second roll", impl.AsOf(h, 0, 12), there("b"))
	wantList(t, "the trail", impl.Trail(h, 0, 12), []int64{6, 4, 2})
	for at, want := range map[int64]string{0: "a", 3: "a", 4: "b", 5: "b", 6: "a", 7: "a", 8: "b", 9: "b", 10: "a", 11: "a"} {
		wantValue(t, "an earlier time", impl.AsOf(h, 0, at), there(want))
	}
	wantHist(t, h)
}

func TestLongTrail(t *testing.T) {
	h := histOf(write(1, 0, 2, "first"))
	want := []int64{1}
	for i := int64(2); i <= fullHist; i++ {
		h = add(t, h, roll(i, 10*i, 10*i-1))
		want = append([]int64{i}, want...)
	}
	wantList(t, "the trail of all records", impl.Trail(h, 2, impl.MaxTime), want)
	wantList(t, "the trail of a sector without writes", impl.Trail(h, 3, impl.MaxTime), want[:fullHist-1])
	wantValue(t, "the sector", impl.AsOf(h, 2, impl.MaxTime), there("first"))
	wantValue(t, "the other one", impl.AsOf(h, 3, impl.MaxTime), impl.ValueOut{})
	wantHist(t, h)
}

func TestLaterRecordsChangeNoEarlierContents(t *testing.T) {
	random := rand.New(rand.NewSource(7))
	for _, plan := range histPlans() {
		for range 4 {
			whole := plan.make(random)
			all := moments(whole)
			var h impl.Hist
			for _, r := range whole.Recs {
				next := add(t, h, r)
				for _, at := range all {
					if at < impl.FloorOf(next) {
						continue
					}
					// A record of the floor changes no contents at all.
					if (at < r.Time || r.Kind == impl.RcFloor) && contentsAt(next, at) != contentsAt(h, at) {
						t.Fatalf("%+v changes the contents at %d of %+v", r, at, h)
					}
				}
				h = next
			}
		}
	}
}

// rolledUntil returns the first time from which a later record than number i can change a sector.
func rolledUntil(recs []impl.Rec, i int, sector int64) int64 {
	for _, r := range recs[i+1:] {
		if concerns(r, sector) {
			return r.Time
		}
	}
	return impl.MaxTime + 1
}

func TestAfterARollTheContentsAreThoseOfItsGoal(t *testing.T) {
	random := rand.New(rand.NewSource(8))
	compared := 0
	for _, plan := range histPlans() {
		for range 20 {
			h := plan.make(random)
			for i, r := range h.Recs {
				if r.Kind != impl.RcRoll {
					continue
				}
				want := contentsAt(withoutFloors(histOf(h.Recs[:i]...)), r.To)
				for sector := range want {
					until := rolledUntil(h.Recs, i, int64(sector))
					for _, at := range moments(h) {
						if at < r.Time || at >= until || at < refFloor(h.Recs) {
							continue
						}
						compared++
						wantValue(t, "after a roll", impl.AsOf(h, int64(sector), at), want[sector])
					}
				}
			}
			if t.Failed() {
				t.Fatalf("of the history %+v", h)
			}
		}
	}
	if compared < 1000 {
		t.Errorf("only %d contents were compared", compared)
	}
}

// A floor hides earlier times from AsOf, but not the records to which a roll returned.
func TestRollToBeforeTheFloor(t *testing.T) {
	h := histOf(write(1, 1, 0, "a"), write(2, 5, 0, "b"), floor(3, 8, 6), roll(4, 9, 2))
	wantValue(t, "time 9", impl.AsOf(h, 0, 9), there("a"))
	wantValue(t, "time 6", impl.AsOf(h, 0, 6), there("b"))
	wantValue(t, "time 5", impl.AsOf(h, 0, 5), impl.ValueOut{Code: impl.ErrPast})
	wantList(t, "the trail at 2", impl.Trail(h, 0, 2), []int64{1})
	wantList(t, "Times", impl.Times(h, 0), []int64{9})
	wantList(t, "Needed", impl.Needed(h), []int64{1, 2, 3, 4})
	wantHist(t, h)
}

// Floors.

func TestFloors(t *testing.T) {
	h := histOf(write(1, 0, 0, "a"), floor(2, 9, 0))
	if got := impl.FloorOf(h); got != 0 {
		t.Errorf("FloorOf = %d", got)
	}
	wantList(t, "a floor of 0 is needed", impl.Needed(h), []int64{1, 2})
	h = add(t, h, floor(3, 9, 7))
	h = add(t, h, floor(4, 9, 5))
	if got := impl.FloorOf(h); got != 7 {
		t.Errorf("FloorOf = %d", got)
	}
	wantList(t, "the greatest floor", impl.Needed(h), []int64{1, 3})
	h = add(t, h, floor(5, 10, 7))
	wantList(t, "the last one of the greatest floors", impl.Needed(h), []int64{1, 5})
	h = add(t, h, floor(6, 10, 3))
	wantList(t, "not a lower one behind it", impl.Needed(h), []int64{1, 5})
	wantHistOut(t, "Prune keeps the last record", impl.HistOut{Hist: impl.Prune(h)}, impl.HistOut{Hist: histOf(h.Recs[0], h.Recs[4], h.Recs[5])})
	wantHist(t, h)
}

func TestTimesBelowTheFloor(t *testing.T) {
	h := histOf(write(1, 2, 0, "a"), write(2, 5, 0, "b"), roll(3, 7, 6), trim(4, 9, 0), floor(5, 9, 7))
	for at := int64(0); at < 7; at++ {
		for sector := int64(0); sector < impl.MaxSectors; sector++ {
			wantValue(t, "below the floor", impl.AsOf(h, sector, at), impl.ValueOut{Code: impl.ErrPast})
		}
	}
	wantValue(t, "at the floor", impl.AsOf(h, 0, 7), there("b"))
	wantList(t, "Times from the floor on", impl.Times(h, 0), []int64{7, 9})
	wantList(t, "the trail below the floor", impl.Trail(h, 0, 4), []int64{1})
	wantHist(t, h)
	h = histOf(write(1, 0, 0, "a"), floor(2, impl.MaxTime, impl.MaxTime))
	wantValue(t, "the greatest floor", impl.AsOf(h, 0, impl.MaxTime), there("a"))
	wantValue(t, "just below it", impl.AsOf(h, 0, impl.MaxTime-1), impl.ValueOut{Code: impl.ErrPast})
	wantHist(t, h)
}

func TestNeededRecords(t *testing.T) {
	for _, c := range []struct {
		h    impl.Hist
		want []int64
	}{
		// Without a floor, overwritten records are needed unless they have the Time of what overwrites them.
		{histOf(write(1, 0, 0, "a"), write(2, 0, 0, "b"), write(3, 1, 0, "c")), []int64{2, 3}},
		{histOf(trim(1, 0, 0), trim(2, 1, 1)), []int64{1, 2}},
		// At the floor itself the earlier record is visible.
		{histOf(write(1, 0, 0, "a"), write(2, 4, 0, "b"), floor(3, 5, 3)), []int64{1, 2, 3}},
		{histOf(write(1, 0, 0, "a"), write(2, 4, 0, "b"), floor(3, 5, 4)), []int64{2, 3}},
		// Each sector keeps its own record.
		{histOf(write(1, 0, 0, "a"), write(2, 0, 5, "b"), write(3, 4, 0, "c"), floor(4, 9, 9)), []int64{2, 3, 4}},
		// What only a rolled back time had is not needed below the floor.
		{histOf(write(1, 0, 0, "a"), write(2, 4, 0, "b"), write(3, 5, 1, "c"), roll(4, 6, 4), floor(5, 9, 8)), []int64{2, 4, 5}},
		// A roll is in the trail of sectors that no record writes.
		{histOf(roll(1, 3, 1), floor(2, 4, 4)), []int64{1, 2}},
		{histOf(roll(1, 3, 1), roll(2, 4, 2), floor(3, 4, 4)), []int64{2, 3}},
		{histOf(roll(1, 3, 1), roll(2, 4, 3), floor(3, 4, 4)), []int64{1, 2, 3}},
	} {
		wantList(t, "Needed", impl.Needed(c.h), c.want)
		wantHist(t, c.h)
	}
}

// Promise 6.

func wantPruned(t *testing.T, h impl.Hist) {
	t.Helper()
	pruned := impl.Prune(h)
	if !impl.HistRight(pruned) {
		t.Errorf("Prune returns an invalid history: %+v", pruned)
	}
	wantList(t, "LastSeq, LastTime and FloorOf", []int64{impl.LastSeq(pruned), impl.LastTime(pruned), impl.FloorOf(pruned)}, []int64{impl.LastSeq(h), impl.LastTime(h), impl.FloorOf(h)})
	for _, at := range moments(h) {
		if contentsAt(pruned, at) != contentsAt(h, at) {
			t.Errorf("Prune changes the contents at %d", at)
		}
	}
	wantList(t, "Needed", impl.Needed(pruned), impl.Needed(h))
	if again := impl.Prune(pruned); !sameHist(again, pruned) {
		t.Errorf("a second Prune returns %+v", again)
	}
	if t.Failed() {
		t.Fatalf("of the history %+v", h)
	}
}

func TestPruningChangesNoContents(t *testing.T) {
	random := rand.New(rand.NewSource(9))
	removed := 0
	for _, plan := range histPlans() {
		for range 40 {
			h := plan.make(random)
			wantPruned(t, h)
			removed += len(h.Recs) - len(impl.Prune(h).Recs)
		}
	}
	if removed < 1000 {
		t.Errorf("only %d records were pruned", removed)
	}
}

// A history that is pruned whenever it is full is read as one that keeps everything.
func TestPrunedHistoryIsContinued(t *testing.T) {
	random := rand.New(rand.NewSource(10))
	plan := histPlan{step: 2, gap: 1, sectors: 3, rolls: 2}
	for range 20 {
		var h, kept impl.Hist
		for range fullHist {
			r := plan.next(random, kept)
			h, kept = impl.Prune(add(t, h, r)), add(t, kept, r)
		}
		for _, at := range moments(kept) {
			if contentsAt(h, at) != contentsAt(kept, at) {
				t.Fatalf("at %d of %+v", at, kept)
			}
		}
	}
}

func TestPruneKeepsTheLastRecord(t *testing.T) {
	h := histOf(write(1, 0, 0, "a"), write(2, 5, 0, "b"), floor(3, 6, 6), floor(4, 9, 2))
	wantHistOut(t, "a last record that is not needed", impl.HistOut{Hist: impl.Prune(h)}, impl.HistOut{Hist: histOf(h.Recs[1:]...)})
	wantPruned(t, h)
	wantPruned(t, numbered(fullHist))
	wantPruned(t, impl.Hist{})
}

// Limits and invalid arguments.

func TestFullHistory(t *testing.T) {
	var h impl.Hist
	for _, r := range numbered(fullHist).Recs {
		h = add(t, h, r)
	}
	wantHist(t, h)
	wantHistOut(t, "one more", impl.HistAdd(h, write(49, 47, 0, "x")), impl.HistOut{Code: impl.ErrFull})
	wantHistOut(t, "a later one", impl.HistAdd(h, floor(impl.MaxTime, impl.MaxTime, 5)), impl.HistOut{Code: impl.ErrFull})
	for what, r := range map[string]impl.Rec{
		"an invalid record": {Kind: 9, Seq: 49, Time: 47},
		"a Seq again":       write(48, 47, 0, "x"),
		"an earlier Time":   write(49, 46, 0, "x"),
	} {
		wantHistOut(t, what+" is ErrForm, full or not", impl.HistAdd(h, r), impl.HistOut{Code: impl.ErrForm})
	}
}

func TestSeqsAndTimesOfAddedRecords(t *testing.T) {
	h := histOf(write(4, 10, 0, "a"), trim(7, 20, 0))
	for _, r := range []impl.Rec{write(8, 20, 1, ""), trim(9, 21, 5), roll(100, 20, 0), floor(impl.MaxTime, impl.MaxTime, impl.MaxTime)} {
		wantHist(t, add(t, h, r))
	}
	for _, r := range []impl.Rec{write(7, 20, 1, ""), write(6, 20, 1, ""), write(5, 30, 1, ""), write(1, 20, 0, ""), write(8, 19, 1, ""), write(8, 0, 1, ""), trim(8, 19, 0), roll(8, 19, 0), floor(7, 20, 0)} {
		wantHistOut(t, "a record that does not follow", impl.HistAdd(h, r), impl.HistOut{Code: impl.ErrForm})
	}
	for _, r := range []impl.Rec{{}, write(8, 20, impl.MaxSectors, ""), write(8, 20, -1, ""), write(8, 20, 0, pattern(impl.MaxData+1)), write(impl.MaxTime+1, 20, 0, ""), write(8, impl.MaxTime+1, 0, ""), roll(8, 20, 21), floor(8, 20, -1), {Kind: 5, Seq: 8, Time: 20}} {
		wantHistOut(t, "an invalid record", impl.HistAdd(h, r), impl.HistOut{Code: impl.ErrForm})
		wantHistOut(t, "an invalid first record", impl.HistAdd(impl.Hist{}, r), impl.HistOut{Code: impl.ErrForm})
	}
	wantHist(t, add(t, impl.Hist{}, write(1, 0, 0, "")))
	last := add(t, impl.Hist{}, write(impl.MaxTime, impl.MaxTime, 0, "z"))
	wantHist(t, last)
	wantHistOut(t, "behind the greatest Seq", impl.HistAdd(last, write(impl.MaxTime, impl.MaxTime, 0, "")), impl.HistOut{Code: impl.ErrForm})
}

// invalidHists are invalid for one reason each. They have a floor, so that a time below it would be ErrPast.
func invalidHists() map[string]impl.Hist {
	altered := func(i int, change func(r *impl.Rec)) impl.Hist {
		h := histOf(write(2, 3, 0, "a"), write(4, 5, 1, "b"), roll(6, 7, 4), floor(8, 9, 6), trim(10, 11, 0))
		change(&h.Recs[i])
		return h
	}
	many := numbered(fullHist)
	many.Recs[20] = floor(21, 20, 20)
	return map[string]impl.Hist{
		"49 records":                histOf(append(many.Recs, write(49, 48, 0, "x"))...),
		"500 records":               numbered(500),
		"an invalid first record":   altered(0, func(r *impl.Rec) { r.Kind = 0 }),
		"an invalid middle record":  altered(2, func(r *impl.Rec) { r.To = 8 }),
		"an invalid last record":    altered(4, func(r *impl.Rec) { r.Data = "x" }),
		"a zero record":             altered(1, func(r *impl.Rec) { *r = impl.Rec{} }),
		"a first Seq of 0":          altered(0, func(r *impl.Rec) { r.Seq = 0 }),
		"a last Seq above the most": altered(4, func(r *impl.Rec) { r.Seq = impl.MaxTime + 1 }),
		"a Seq twice":               altered(1, func(r *impl.Rec) { r.Seq = 2 }),
		"a last Seq twice":          altered(4, func(r *impl.Rec) { r.Seq = 8 }),
		"a Seq that decreases":      altered(3, func(r *impl.Rec) { r.Seq = 5 }),
		"a Time that decreases":     altered(1, func(r *impl.Rec) { r.Time = 2 }),
		"a last Time too low":       altered(4, func(r *impl.Rec) { r.Time = 8 }),
		"a first Time below 0":      altered(0, func(r *impl.Rec) { r.Time = -1 }),
		"a last Time above the most": altered(4, func(r *impl.Rec) {
			r.Time = impl.MaxTime + 1
		}),
	}
}

func TestInvalidHistories(t *testing.T) {
	for what, h := range invalidHists() {
		before := histCopy(h)
		if impl.HistRight(h) {
			t.Errorf("%s: valid", what)
		}
		for _, r := range []impl.Rec{write(1000, 1000, 0, "x"), floor(impl.MaxTime, impl.MaxTime, 0), {}} {
			wantHistOut(t, what, impl.HistAdd(h, r), impl.HistOut{Code: impl.ErrForm})
		}
		wantList(t, what, []int64{impl.LastSeq(h), impl.LastTime(h), impl.FloorOf(h)}, []int64{0, 0, 0})
		for _, sector := range []int64{-1, 0, 1, impl.MaxSectors} {
			for _, at := range []int64{-1, 0, 5, 6, 100, impl.MaxTime, impl.MaxTime + 1} {
				wantValue(t, what, impl.AsOf(h, sector, at), impl.ValueOut{Code: impl.ErrForm})
				wantList(t, what+": Trail", impl.Trail(h, sector, at), nil)
			}
			wantList(t, what+": Times", impl.Times(h, sector), nil)
		}
		wantList(t, what+": Needed", impl.Needed(h), nil)
		if got := impl.Prune(h); len(got.Recs) != 0 {
			t.Errorf("%s: Prune = %+v", what, got)
		}
		if !sameHist(h, before) {
			t.Errorf("%s: the argument was changed", what)
		}
	}
}

func TestSectorsOfHistories(t *testing.T) {
	h := histOf(write(1, 0, 0, "a"), write(2, 4, 5, "b"), roll(3, 6, 5), floor(4, 7, 3))
	wantHist(t, h)
	for _, sector := range []int64{-1, -6, impl.MaxSectors, impl.MaxSectors + 1, 1 << 32, math.MinInt64, math.MaxInt64} {
		for _, at := range []int64{-1, 0, 2, 3, 6, impl.MaxTime, impl.MaxTime + 1} {
			wantValue(t, "no such sector", impl.AsOf(h, sector, at), impl.ValueOut{Code: impl.ErrForm})
			wantList(t, "its trail", impl.Trail(h, sector, at), nil)
		}
		wantList(t, "its times", impl.Times(h, sector), nil)
	}
}

func TestTimesThatAreNone(t *testing.T) {
	h := histOf(write(1, 0, 0, "a"), roll(2, 6, 5), floor(3, 7, 3))
	for _, at := range []int64{-1, -2, math.MinInt64} {
		wantValue(t, "below 0 is not below the floor", impl.AsOf(h, 0, at), impl.ValueOut{Code: impl.ErrForm})
		wantList(t, "no record is that early", impl.Trail(h, 0, at), nil)
	}
	for _, at := range []int64{impl.MaxTime + 1, impl.MaxTime + 2, math.MaxInt64} {
		wantValue(t, "above MaxTime", impl.AsOf(h, 0, at), impl.ValueOut{Code: impl.ErrForm})
		// Trail names only the history and the sector as reasons for an empty slice.
		wantList(t, "all records are that early", impl.Trail(h, 0, at), []int64{2, 1})
	}
	wantValue(t, "the greatest time", impl.AsOf(h, 0, impl.MaxTime), there("a"))
	wantValue(t, "the least time", impl.AsOf(h, 0, 0), impl.ValueOut{Code: impl.ErrPast})
}

// Memory.

// roomyHist returns a history whose slice has room for more, and the whole of that memory.
func roomyHist() (impl.Hist, []impl.Rec) {
	whole := []impl.Rec{write(1, 0, 0, "a"), write(2, 4, 1, "b"), trim(3, 5, 0), roll(4, 6, 2), floor(5, 7, 6), write(6, 8, 2, "c"), {Data: "spare"}, {Data: "spare"}}
	return histOf(whole[:6]...), whole
}

func TestArgumentsOfHistoriesAreLeftAsTheyWere(t *testing.T) {
	h, whole := roomyHist()
	before := slices.Clone(whole)
	impl.HistRight(h)
	impl.HistAdd(h, write(7, 9, 3, "d"))
	impl.HistAdd(h, write(1, 1, 3, "d"))
	impl.LastSeq(h)
	impl.LastTime(h)
	impl.FloorOf(h)
	for sector := int64(-1); sector <= impl.MaxSectors; sector++ {
		impl.Trail(h, sector, 8)
		impl.AsOf(h, sector, 8)
		impl.Times(h, sector)
	}
	impl.Needed(h)
	impl.Prune(h)
	if !slices.Equal(whole, before) {
		t.Errorf("an argument was changed:\nfrom %+v\nto   %+v", before, whole)
	}
}

// spoil overwrites all the memory of a slice.
func spoil[T any](l []T, with T) {
	l = l[:cap(l)]
	for i := range l {
		l[i] = with
	}
}

func TestHistoriesShareNoMemory(t *testing.T) {
	wrong := write(99, 99, 5, "wrong")
	h, whole := roomyHist()
	before := slices.Clone(whole)
	for what, f := range map[string]func() impl.Hist{
		"HistAdd": func() impl.Hist { return impl.HistAdd(h, write(7, 9, 3, "d")).Hist },
		"Prune":   func() impl.Hist { return impl.Prune(h) },
	} {
		first, second := f(), f()
		want := histCopy(second)
		spoil(first.Recs, wrong)
		if !sameHist(second, want) || !slices.Equal(whole, before) {
			t.Errorf("%s: a change of a result changed something else", what)
		}
		spoil(whole, wrong)
		if !sameHist(second, want) {
			t.Errorf("%s: a change of the argument changed the result", what)
		}
		copy(whole, before)
	}
}

func TestListsOfHistoriesShareNoMemory(t *testing.T) {
	h, whole := roomyHist()
	before := slices.Clone(whole)
	for what, f := range map[string]func() []int64{
		"Trail":  func() []int64 { return impl.Trail(h, 0, 8) },
		"Times":  func() []int64 { return impl.Times(h, 2) },
		"Needed": func() []int64 { return impl.Needed(h) },
	} {
		first, second := f(), f()
		want := slices.Clone(second)
		if len(want) < 2 {
			t.Fatalf("%s has too few elements: %v", what, want)
		}
		spoil(first, -7)
		wantList(t, what, second, want)
		wantList(t, what+" again", f(), want)
	}
	if !slices.Equal(whole, before) {
		t.Error("a change of a result changed the argument")
	}
}

// Both histories that continue a common one are right, whatever capacity that one has.
func TestTwoContinuationsOfOneHistory(t *testing.T) {
	h := histOf(write(1, 0, 0, "a"))
	for len(h.Recs) < fullHist {
		seq := int64(len(h.Recs) + 1)
		left := add(t, h, write(seq, seq, 0, "left"))
		right := add(t, h, write(seq, seq, 0, "right"))
		wantValue(t, "left", impl.AsOf(left, 0, seq), there("left"))
		wantValue(t, "right", impl.AsOf(right, 0, seq), there("right"))
		h = left
	}
}

func TestCallsOfHistoriesAreRepeatable(t *testing.T) {
	random := rand.New(rand.NewSource(11))
	for _, plan := range histPlans() {
		h := plan.make(random)
		first := []any{impl.Needed(h), impl.Prune(h), impl.Times(h, 0), impl.Trail(h, 0, impl.MaxTime), contentsAt(h, impl.MaxTime)}
		again := []any{impl.Needed(h), impl.Prune(h), impl.Times(h, 0), impl.Trail(h, 0, impl.MaxTime), contentsAt(h, impl.MaxTime)}
		if !reflect.DeepEqual(first, again) {
			t.Errorf("the same calls return\n%+v and\n%+v", first, again)
		}
	}
}
