package tests

import (
	"math"
	"math/rand"
	"slices"
	"strconv"
	"testing"

	"loop.example/g00637/impl"
)

func driveOf(n impl.Nand, now, retain int64) impl.Drive {
	return impl.Drive{Nand: n, Now: now, Retain: retain}
}

func driveCopy(d impl.Drive) impl.Drive {
	return driveOf(chipCopy(d.Nand), d.Now, d.Retain)
}

func sameDrive(a, b impl.Drive) bool {
	return a.Now == b.Now && a.Retain == b.Retain && sameChip(a.Nand, b.Nand)
}

// wantDriveOut compares all of a result: the code, the clock, the retention period and every page.
func wantDriveOut(t *testing.T, what string, got, want impl.DriveOut) {
	t.Helper()
	if got.Code != want.Code || !sameDrive(got.Drive, want.Drive) {
		t.Errorf("%s:\ngot  %#v\nwant %#v", what, got, want)
	}
}

// wantRefused requires the code, and the zero Drive beside it.
func wantRefused(t *testing.T, what string, got impl.DriveOut, code int64) {
	t.Helper()
	wantDriveOut(t, what, got, impl.DriveOut{Code: code})
}

// formatted returns a new drive.
func formatted(t *testing.T, blocks, retain int64) impl.Drive {
	t.Helper()
	out := impl.Format(blocks, retain)
	wantDriveOut(t, "Format", out, impl.DriveOut{Drive: driveOf(impl.NandNew(blocks), 0, retain)})
	return out.Drive
}

// The reference, by the definitions of the document.

// refDriveRight is for drives with a valid chip.
func refDriveRight(d impl.Drive) bool {
	h := refMount(d.Nand)
	last := int64(0)
	for _, r := range h.Hist.Recs {
		last = r.Time
	}
	return h.Code == impl.OK && d.Now >= last && d.Now <= 1000000 && d.Retain >= 0 && d.Retain <= 1000000
}

// refLogged returns the drive with one more record.
func refLogged(d impl.Drive, r impl.Rec) impl.DriveOut {
	recs := refMount(d.Nand).Hist.Recs
	r.Seq, r.Time = 1, d.Now
	if len(recs) > 0 {
		r.Seq = recs[len(recs)-1].Seq + 1
	}
	block := refNext(d.Nand, 1)
	if r.Seq > 1000000 || len(recs) >= 48 || block < 0 {
		return impl.DriveOut{Code: impl.ErrFull}
	}
	return impl.DriveOut{Drive: driveOf(programmed(d.Nand, block, encoded(r)), d.Now, d.Retain)}
}

func refValue(d impl.Drive, sector, at int64) impl.ValueOut {
	recs := refMount(d.Nand).Hist.Recs
	switch {
	case !refDriveRight(d) || sector < 0 || sector > 5 || at < 0 || at > d.Now:
		return impl.ValueOut{Code: impl.ErrForm}
	case at < refFloor(recs):
		return impl.ValueOut{Code: impl.ErrPast}
	}
	return statesOf(recs)[countUntil(recs, at)][sector]
}

func refWear(d impl.Drive) int64 {
	if !refDriveRight(d) {
		return 0
	}
	return refGap(d.Nand)
}

// deed is an operation on a drive, with the record that it logs, if it does, and what the document requires for a valid drive.
type deed struct {
	what string
	rec  impl.Rec
	call func(d impl.Drive) impl.DriveOut
	want func(d impl.Drive) impl.DriveOut
}

func refusal(code int64) impl.DriveOut {
	return impl.DriveOut{Code: code}
}

func ticks(by int64) deed {
	return deed{
		what: "Tick by " + strconv.FormatInt(by, 10),
		call: func(d impl.Drive) impl.DriveOut { return impl.Tick(d, by) },
		want: func(d impl.Drive) impl.DriveOut {
			if by < 0 || by > 1000000 || d.Now+by > 1000000 {
				return refusal(impl.ErrForm)
			}
			return impl.DriveOut{Drive: driveOf(d.Nand, d.Now+by, d.Retain)}
		},
	}
}

func writes(sector int64, data string) deed {
	r := write(0, 0, sector, data)
	return deed{
		what: "Write of sector " + strconv.FormatInt(sector, 10) + " with " + strconv.Itoa(len(data)) + " bytes",
		rec:  r,
		call: func(d impl.Drive) impl.DriveOut { return impl.Write(d, sector, data) },
		want: func(d impl.Drive) impl.DriveOut {
			if sector < 0 || sector > 5 || len(data) > 16 {
				return refusal(impl.ErrForm)
			}
			return refLogged(d, r)
		},
	}
}

func trims(sector int64) deed {
	r := trim(0, 0, sector)
	return deed{
		what: "Trim of sector " + strconv.FormatInt(sector, 10),
		rec:  r,
		call: func(d impl.Drive) impl.DriveOut { return impl.Trim(d, sector) },
		want: func(d impl.Drive) impl.DriveOut {
			if sector < 0 || sector > 5 {
				return refusal(impl.ErrForm)
			}
			return refLogged(d, r)
		},
	}
}

func rolls(at int64) deed {
	r := roll(0, 0, at)
	return deed{
		what: "RollTo " + strconv.FormatInt(at, 10),
		rec:  r,
		call: func(d impl.Drive) impl.DriveOut { return impl.RollTo(d, at) },
		want: func(d impl.Drive) impl.DriveOut {
			if at < 0 || at > d.Now {
				return refusal(impl.ErrForm)
			}
			if at < refFloor(refMount(d.Nand).Hist.Recs) {
				return refusal(impl.ErrPast)
			}
			return refLogged(d, r)
		},
	}
}

// raises is the deed for a drive with this clock and retention period.
func raises(d impl.Drive) deed {
	r := floor(0, 0, d.Now-d.Retain)
	return deed{
		what: "Raise",
		rec:  r,
		call: impl.Raise,
		want: func(d impl.Drive) impl.DriveOut {
			if r.To <= refFloor(refMount(d.Nand).Hist.Recs) {
				return refusal(impl.ErrState)
			}
			return refLogged(d, r)
		},
	}
}

func collects(steps int64) deed {
	return deed{
		what: "Collect with " + strconv.FormatInt(steps, 10) + " steps",
		call: func(d impl.Drive) impl.DriveOut { return impl.Collect(d, steps) },
		want: func(d impl.Drive) impl.DriveOut {
			out := refGc(d.Nand, steps)
			if out.Code != impl.OK {
				return refusal(out.Code)
			}
			return impl.DriveOut{Drive: driveOf(out.Nand, d.Now, d.Retain)}
		},
	}
}

func restarts() deed {
	return deed{
		what: "Restart",
		call: func(d impl.Drive) impl.DriveOut { return impl.Restart(d.Nand, d.Now, d.Retain) },
		want: func(d impl.Drive) impl.DriveOut { return impl.DriveOut{Drive: d} },
	}
}

// on does the deed, compares the result with the reference, and requires that the argument is left as it was.
func (a deed) on(t *testing.T, d impl.Drive) impl.DriveOut {
	t.Helper()
	before := driveCopy(d)
	out := a.call(d)
	want := refusal(impl.ErrForm)
	if refDriveRight(before) {
		want = a.want(before)
	}
	wantDriveOut(t, a.what, out, want)
	if !sameDrive(d, before) {
		t.Errorf("%s changed its argument:\nfrom %#v\nto   %#v", a.what, before, d)
	}
	return out
}

// done does a deed that must succeed.
func (a deed) done(t *testing.T, d impl.Drive) impl.Drive {
	t.Helper()
	out := a.on(t, d)
	if out.Code != impl.OK {
		t.Fatalf("%s returns the code %d", a.what, out.Code)
	}
	return out.Drive
}

// driveAfter does deeds, all of which must succeed.
func driveAfter(t *testing.T, d impl.Drive, deeds ...deed) impl.Drive {
	t.Helper()
	for _, a := range deeds {
		d = a.done(t, d)
	}
	return d
}

// timesAround are times at which something could change for a drive, and numbers that are no times.
func timesAround(d impl.Drive) []int64 {
	l := moments(histOf(refMount(d.Nand).Hist.Recs...))
	l = append(l, math.MinInt64, -1, impl.MaxTime+1, math.MaxInt64, d.Now-1, d.Now, d.Now+1)
	slices.Sort(l)
	return slices.Compact(l)
}

func sectorsAround() []int64 {
	return []int64{math.MinInt64, -1, 0, 1, 2, 3, 4, 5, 6, 7, 1 << 32, math.MaxInt64}
}

// deedsAround are deeds with ordinary arguments and with those at their limits.
func deedsAround(d impl.Drive) []deed {
	deeds := []deed{raises(d), restarts()}
	for _, sector := range sectorsAround() {
		deeds = append(deeds, trims(sector), writes(sector, "x"))
	}
	for _, size := range []int{0, impl.MaxData, impl.MaxData + 1} {
		deeds = append(deeds, writes(5, pattern(size)))
	}
	for _, by := range []int64{math.MinInt64, -1, 0, 1, impl.MaxTime - d.Now, impl.MaxTime - d.Now + 1, math.MaxInt64} {
		deeds = append(deeds, ticks(by))
	}
	for _, steps := range someSteps() {
		deeds = append(deeds, collects(steps))
	}
	for _, at := range timesAround(d) {
		deeds = append(deeds, rolls(at))
	}
	return deeds
}

// wantDrive compares the answers of a drive with a valid chip with the reference.
func wantDrive(t *testing.T, d impl.Drive) {
	t.Helper()
	before := driveCopy(d)
	if got, want := impl.DriveRight(d), refDriveRight(d); got != want {
		t.Errorf("DriveRight = %v, want %v", got, want)
	}
	if got, want := impl.Wear(d), refWear(d); got != want {
		t.Errorf("Wear = %d, want %d", got, want)
	}
	for _, a := range deedsAround(d) {
		a.on(t, d)
	}
	for _, sector := range sectorsAround() {
		wantValue(t, "Read", impl.Read(d, sector), refValue(d, sector, d.Now))
	}
	for i, at := range timesAround(d) {
		sector := int64(i % impl.MaxSectors)
		wantValue(t, "ReadAt", impl.ReadAt(d, sector, at), refValue(d, sector, at))
		wantValue(t, "ReadAt of no sector", impl.ReadAt(d, 6-7*(sector%2), at), impl.ValueOut{Code: impl.ErrForm})
	}
	if !sameDrive(d, before) {
		t.Error("the argument was changed")
	}
	if t.Failed() {
		t.Fatalf("of the drive %#v", before)
	}
}

// randomDrive returns a drive that is mostly valid.
func randomDrive(random *rand.Rand) impl.Drive {
	plans := gcPlans()
	plan := plans[random.Intn(len(plans))]
	var n impl.Nand
	switch random.Intn(4) {
	case 0:
		n = randomChip(random)
	case 1:
		n = agreeingChip(random, plan)
	default:
		n = orderedChip(random, plan)
	}
	last := int64(0)
	for _, r := range refMount(n).Hist.Recs {
		last = r.Time
	}
	nows := []int64{last - 1, last, last + 1, last + random.Int63n(9), last + random.Int63n(9), impl.MaxTime, impl.MaxTime + 1}
	retains := []int64{0, 0, 1, random.Int63n(9), last / 2, last, impl.MaxTime, -1}
	return driveOf(n, nows[random.Intn(len(nows))], retains[random.Intn(len(retains))])
}

// exampleDrive is the drive of the document's example before it is rolled back, with this retention period.
func exampleDrive(t *testing.T, retain int64) impl.Drive {
	t.Helper()
	return driveAfter(t, formatted(t, 4, retain), writes(0, "a"), ticks(2), writes(0, "b"), ticks(2))
}

func TestExampleOfTheDrive(t *testing.T) {
	d := exampleDrive(t, 3)
	wantValue(t, "time 1", impl.ReadAt(d, 0, 1), there("a"))
	wantValue(t, "Now", impl.Read(d, 0), there("b"))
	rolled := rolls(1).done(t, d)
	wantValue(t, "Now after rolling to time 1", impl.Read(rolled, 0), there("a"))
	wantValue(t, "time 3 after rolling to time 1", impl.ReadAt(rolled, 0, 3), there("b"))
	for what, start := range map[string]impl.Drive{"before rolling": d, "after rolling": rolled} {
		d := ticks(3).done(t, start)
		raised := raises(d).done(t, d)
		wantList(t, what+": the floor", []int64{impl.FloorOf(impl.Mount(raised.Nand).Hist)}, []int64{4})
		wantValue(t, what+": time 3", impl.ReadAt(raised, 0, 3), impl.ValueOut{Code: impl.ErrPast})
		wantValue(t, what+": time 4", impl.ReadAt(raised, 0, 4), impl.ReadAt(start, 0, 4))
		wantRefused(t, what+": a second Raise", raises(raised).on(t, raised), impl.ErrState)
		wantDrive(t, raised)
	}
	if impl.Reserve != 1 {
		t.Error("a constant has changed")
	}
}

func TestManyDrivesAnswerAsDocumented(t *testing.T) {
	random := rand.New(rand.NewSource(31))
	right, codes := 0, map[int64]int{}
	for range 250 {
		d := randomDrive(random)
		wantDrive(t, d)
		if !impl.DriveRight(d) {
			continue
		}
		right++
		codes[impl.Write(d, 0, "x").Code]++
		codes[impl.Raise(d).Code]++
		codes[impl.RollTo(d, 0).Code]++
	}
	if right < 100 || right > 230 {
		t.Errorf("%d drives were valid", right)
	}
	for code, least := range map[int64]int{impl.OK: 50, impl.ErrFull: 20, impl.ErrState: 20, impl.ErrPast: 20} {
		if codes[code] < least {
			t.Errorf("the codes were %v", codes)
		}
	}
}

// Drives at work, for promises 9 to 12.

// story is a drive at work, with all the records that were ever logged: what it would contain without any loss.
type story struct {
	d     impl.Drive
	all   []impl.Rec
	floor int64
	codes map[string]map[int64]int
}

func newStory(t *testing.T, blocks, retain int64) *story {
	t.Helper()
	return &story{d: formatted(t, blocks, retain), codes: map[string]map[int64]int{}}
}

// act does a deed, keeps its record, and requires promise 9 and, in short, promise 11.
func (s *story) act(t *testing.T, kind string, a deed) int64 {
	t.Helper()
	out := a.on(t, s.d)
	if s.codes[kind] == nil {
		s.codes[kind] = map[int64]int{}
	}
	s.codes[kind][out.Code]++
	if out.Code == impl.OK {
		s.d = out.Drive
		if a.rec.Kind != 0 {
			r := a.rec
			r.Seq, r.Time = int64(len(s.all)+1), s.d.Now
			s.all = append(s.all, r)
		}
	}
	s.wantAll(t)
	if t.Failed() {
		t.Fatalf("%s after the records %+v", a.what, s.all)
	}
	return out.Code
}

// wantAll requires that the drive is valid, that its floor has not decreased, and that nothing is lost from the floor on.
func (s *story) wantAll(t *testing.T) {
	t.Helper()
	if !impl.DriveRight(s.d) {
		t.Fatalf("the drive is invalid after the records %+v: %#v", s.all, s.d)
	}
	h := impl.Mount(s.d.Nand).Hist
	wantList(t, "the floor and LastSeq", []int64{impl.FloorOf(h), impl.LastSeq(h)}, []int64{refFloor(s.all), int64(len(s.all))})
	if impl.FloorOf(h) < s.floor || impl.FloorOf(h) > s.d.Now {
		t.Errorf("the floor was %d and is %d", s.floor, impl.FloorOf(h))
	}
	s.floor = impl.FloorOf(h)
	kept, all := statesOf(h.Recs), statesOf(s.all)
	for _, at := range s.times() {
		if got, want := kept[countUntil(h.Recs, at)], all[countUntil(s.all, at)]; got != want {
			t.Errorf("at time %d:\ngot  %+v\nwant %+v", at, got, want)
		}
	}
}

// times are the times from the floor on at which contents could differ.
func (s *story) times() []int64 {
	l := []int64{s.floor, s.d.Now}
	for _, at := range moments(histOf(s.all...)) {
		if at >= s.floor && at <= s.d.Now {
			l = append(l, at)
		}
	}
	slices.Sort(l)
	return slices.Compact(l)
}

// readAll asks the drive for every sector at a time.
func readAll(d impl.Drive, at int64) contents {
	var c contents
	for sector := range c {
		c[sector] = impl.ReadAt(d, int64(sector), at)
	}
	return c
}

// without returns the contents at a time without any loss.
func (s *story) without(at int64) contents {
	return statesOf(s.all)[countUntil(s.all, at)]
}

// wantReads requires promise 11 as a user of the drive sees it.
func (s *story) wantReads(t *testing.T, times ...int64) {
	t.Helper()
	for _, at := range times {
		if got, want := readAll(s.d, at), s.without(at); got != want {
			t.Fatalf("ReadAt time %d with the floor %d and the records %+v\ngot  %+v\nwant %+v", at, s.floor, s.all, got, want)
		}
	}
	for sector, want := range s.without(s.d.Now) {
		wantValue(t, "Read", impl.Read(s.d, int64(sector)), want)
	}
	if s.floor > 0 {
		wantValue(t, "below the floor", impl.ReadAt(s.d, 0, s.floor-1), impl.ValueOut{Code: impl.ErrPast})
	}
	wantValue(t, "above Now", impl.ReadAt(s.d, 0, s.d.Now+1), impl.ValueOut{Code: impl.ErrForm})
}

// tear lets the power fail while the next write is on its way: its page is torn, and the drive is restarted.
func (s *story) tear(t *testing.T, random *rand.Rand) {
	t.Helper()
	r := write(int64(len(s.all)+1), s.d.Now, random.Int63n(impl.MaxSectors), "torn")
	out := torn(t, s.d.Nand, encoded(r))
	// Mostly the last free block is left, since a drive without one may never collect again.
	if out.Code != impl.OK || impl.FreeBlocks(out.Nand) == 0 && random.Intn(4) > 0 {
		return
	}
	s.d = driveOf(out.Nand, s.d.Now, s.d.Retain)
	s.act(t, "tear", restarts())
}

// someTime returns a time from the floor on, often one at which something changed.
func (s *story) someTime(random *rand.Rand) int64 {
	if times := s.times(); random.Intn(2) == 0 {
		return times[random.Intn(len(times))]
	}
	return s.floor + random.Int63n(s.d.Now-s.floor+1)
}

// step does something at random.
func (s *story) step(t *testing.T, random *rand.Rand, sectors int64) {
	t.Helper()
	sector := random.Int63n(sectors)
	switch random.Intn(16) {
	case 0, 1, 2:
		s.act(t, "tick", ticks(random.Int63n(4)))
	case 3, 4, 5, 6, 7:
		data := pattern(random.Intn(impl.MaxData + 1))
		if s.act(t, "write", writes(sector, data)) == impl.OK {
			wantValue(t, "what was written", impl.Read(s.d, sector), there(data))
		}
	case 8:
		if s.act(t, "trim", trims(sector)) == impl.OK {
			wantValue(t, "what was trimmed", impl.Read(s.d, sector), impl.ValueOut{})
		}
	case 9:
		s.act(t, "roll", rolls(s.someTime(random)))
	case 10:
		s.act(t, "roll too far", rolls(s.floor-1+random.Int63n(2)*(s.d.Now-s.floor+2)))
	case 11, 12:
		s.act(t, "raise", raises(s.d))
	case 13:
		s.act(t, "collect", collects(random.Int63n(6)))
		if random.Intn(2) == 0 {
			s.act(t, "restart", restarts())
		}
	case 14:
		s.act(t, "collect", collects(math.MaxInt64))
	case 15:
		s.tear(t, random)
	}
}

// storyPlan says how a random story goes.
type storyPlan struct {
	blocks, retain, sectors int64
}

func storyPlans() []storyPlan {
	return []storyPlan{
		{2, 0, 1}, {2, 2, 2}, {3, 0, 2}, {3, 1, 1}, {4, 0, 6}, {4, 3, 2}, {5, 5, 3}, {6, 0, 6}, {6, 10, 3}, {6, 2, 6},
		{8, 4, 6}, {8, 20, 2}, {10, 1, 6}, {10, 40, 4}, {12, 0, 6}, {12, 8, 6}, {12, 100, 6},
	}
}

// addCodes adds the counts of a story to those of all.
func addCodes(all, some map[string]map[int64]int) {
	for kind, codes := range some {
		if all[kind] == nil {
			all[kind] = map[int64]int{}
		}
		for code, count := range codes {
			all[kind][code] += count
		}
	}
}

// Promises 9 and 11.

func TestDrivesAtWorkLoseNothing(t *testing.T) {
	random := rand.New(rand.NewSource(32))
	codes := map[string]map[int64]int{}
	for _, plan := range storyPlans() {
		for range 4 {
			s := newStory(t, plan.blocks, plan.retain)
			for i := range 70 {
				s.step(t, random, plan.sectors)
				if i%10 == 0 {
					s.wantReads(t, s.someTime(random))
				}
			}
			s.wantReads(t, s.times()...)
			addCodes(codes, s.codes)
		}
	}
	for kind, want := range map[string]map[int64]int{
		"tick":         {impl.OK: 500},
		"write":        {impl.OK: 500, impl.ErrFull: 100},
		"trim":         {impl.OK: 100, impl.ErrFull: 20},
		"roll":         {impl.OK: 100, impl.ErrFull: 20},
		"roll too far": {impl.ErrForm: 100, impl.ErrPast: 50},
		"raise":        {impl.OK: 100, impl.ErrState: 100, impl.ErrFull: 20},
		"collect":      {impl.OK: 200, impl.ErrNone: 100, impl.ErrFull: 1},
		"restart":      {impl.OK: 50},
		"tear":         {impl.OK: 100},
	} {
		for code, least := range want {
			if codes[kind][code] < least {
				t.Errorf("%s returned the code %d only %d times: %v", kind, code, codes[kind][code], codes)
			}
		}
	}
}

// A power failure after every number of steps of every collection, with a torn page before and behind it.
func TestInterruptedCollectionsOfADrive(t *testing.T) {
	random := rand.New(rand.NewSource(33))
	interrupted := map[int64]int{}
	for _, plan := range storyPlans() {
		s := newStory(t, plan.blocks, plan.retain)
		for range 60 {
			s.step(t, random, plan.sectors)
			victim := impl.Victim(s.d.Nand)
			for steps := range int64(len(impl.Load(s.d.Nand, victim)) + 2) {
				fork := *s
				fork.tear(t, random)
				if fork.act(t, "collect", collects(steps)) == impl.OK {
					interrupted[steps]++
				}
				fork.tear(t, random)
				fork.act(t, "restart", restarts())
				fork.wantReads(t, fork.someTime(random))
			}
		}
	}
	for steps := range int64(impl.PageCount + 1) {
		if interrupted[steps] < 10 {
			t.Errorf("the numbers of steps were %v", interrupted)
		}
	}
}

// Promise 10.

// wantRolledBack requires that after a rollback each sector is as it was, that all other times can still be read, and that a second rollback restores what was before the first one. The clock has advanced since the last record.
func wantRolledBack(t *testing.T, s *story, at, later int64) {
	t.Helper()
	before := map[int64]contents{}
	for _, time := range s.times() {
		before[time] = readAll(s.d, time)
	}
	now := s.d.Now
	before[at], before[now-1] = readAll(s.d, at), readAll(s.d, now-1)
	if code := s.act(t, "roll", rolls(at)); code == impl.ErrFull {
		return
	}
	wantThen := func(what string, time int64, want contents) {
		if got := readAll(s.d, time); got != want {
			t.Fatalf("%s, at time %d of the records %+v\ngot  %+v\nwant %+v", what, time, s.all, got, want)
		}
	}
	wantBetween := func(what string) {
		for time, want := range before {
			if time < now {
				wantThen(what, time, want)
			}
		}
	}
	wantThen("after the rollback", now, before[at])
	wantBetween("after the rollback")
	s.act(t, "tick", ticks(later))
	wantThen("some time after the rollback", s.d.Now, before[at])
	if later > 0 {
		s.act(t, "write", writes(later%impl.MaxSectors, "between"))
	}
	if code := s.act(t, "restore", rolls(now-1)); code == impl.ErrFull {
		return
	}
	wantThen("after the second rollback", s.d.Now, before[now-1])
	wantBetween("after the second rollback")
}

func TestRollbacksOfDrivesAtWork(t *testing.T) {
	random := rand.New(rand.NewSource(34))
	codes := map[string]map[int64]int{}
	for _, plan := range storyPlans() {
		for range 2 {
			s := newStory(t, plan.blocks, plan.retain)
			for range 15 {
				for range random.Intn(8) {
					s.step(t, random, plan.sectors)
				}
				s.act(t, "tick", ticks(1+random.Int63n(3)))
				// The time before the rollback, at which the second one aims, is above the floor.
				if s.floor < s.d.Now {
					wantRolledBack(t, s, s.someTime(random), random.Int63n(3))
				}
			}
			addCodes(codes, s.codes)
		}
	}
	if codes["roll"][impl.OK] < 100 || codes["restore"][impl.OK] < 100 {
		t.Errorf("the codes were %v", codes)
	}
}

func TestRollbackForthAndBack(t *testing.T) {
	d := driveAfter(t, formatted(t, 6, 0),
		writes(0, "a"), writes(1, "b"), ticks(5), writes(0, "c"), trims(1), writes(2, "d"), ticks(5))
	first := contents{0: there("a"), 1: there("b")}
	second := contents{0: there("c"), 2: there("d")}
	want := func(what string, d impl.Drive, states map[int64]contents) {
		t.Helper()
		for at, state := range states {
			if got := readAll(d, at); got != state {
				t.Errorf("%s, time %d:\ngot  %+v\nwant %+v", what, at, got, state)
			}
		}
	}
	want("before", d, map[int64]contents{0: first, 4: first, 5: second, 10: second})
	// To a time between the records, to that of a record, and just before it.
	for at, state := range map[int64]contents{0: first, 1: first, 4: first, 5: second, 9: second, 10: second} {
		want("rolled", rolls(at).done(t, d), map[int64]contents{0: first, 4: first, 5: second, 9: second, 10: state})
	}
	back := driveAfter(t, d, rolls(4), ticks(5), writes(3, "e"), ticks(1))
	other := first
	other[3] = there("e")
	states := map[int64]contents{0: first, 4: first, 5: second, 9: second, 10: first, 14: first, 15: other, 16: other}
	want("rolled back", back, states)
	forth := rolls(9).done(t, back)
	states[16] = second
	want("rolled forth", forth, states)
	again := driveAfter(t, forth, ticks(1), rolls(15))
	states[17] = other
	want("rolled back again", again, states)
}

// The state that was replaced by a rollback at the same time has no time of its own.
func TestRollbackAtTheTimeOfAWrite(t *testing.T) {
	d := driveAfter(t, formatted(t, 3, 0), writes(0, "a"), ticks(1), writes(0, "b"), rolls(0))
	wantValue(t, "Now", impl.Read(d, 0), there("a"))
	wantValue(t, "rolled to Now", impl.Read(rolls(1).done(t, d), 0), there("a"))
	wantValue(t, "rolled to before", impl.Read(rolls(0).done(t, d), 0), there("a"))
	wantDrive(t, d)
}

// Promise 12.

// liveRolls returns the number of rollbacks behind which some sector has neither been written nor trimmed. They are all in its trail.
func liveRolls(all []impl.Rec) int64 {
	count := int64(0)
	touched := map[int64]bool{}
	for _, r := range slices.Backward(all) {
		switch r.Kind {
		case impl.RcWrite, impl.RcTrim:
			touched[r.Sector] = true
		case impl.RcRoll:
			count++
		}
		if len(touched) == impl.MaxSectors {
			break
		}
	}
	return count
}

// mostRolls returns how many live rollbacks a drive has room for. Beside them, a record of each sector and a floor are needed. An operation and Raise take two pages. If then none is left but the reserve, all blocks but one are full, and one of them must need at most two pages, so that two are gained by collecting it. If one page is left, all blocks but two are full, and one of them must need at most three.
func mostRolls(blocks int64) int64 {
	return min(3*(blocks-1), 4*(blocks-2)) - 1 - impl.MaxSectors - 1
}

// cycle does a deed that must not be refused, and then raises the floor and collects.
func (s *story) cycle(t *testing.T, kind string, a deed) {
	t.Helper()
	if code := s.act(t, kind, a); code != impl.OK {
		t.Fatalf("%s returns the code %d after the records %+v", a.what, code, s.all)
	}
	if code := s.act(t, "raise", raises(s.d)); code != impl.OK && code != impl.ErrState {
		t.Fatalf("Raise returns the code %d after the records %+v", code, s.all)
	}
	if code := s.act(t, "collect", collects(math.MaxInt64)); code != impl.OK && code != impl.ErrNone {
		t.Fatalf("Collect returns the code %d after the records %+v", code, s.all)
	}
}

func TestDriveThatRetainsNothingIsNeverFull(t *testing.T) {
	random := rand.New(rand.NewSource(35))
	for blocks := int64(4); blocks <= impl.MaxBlocks; blocks++ {
		for _, most := range []int64{0, 1} {
			for step := range int64(3) {
				s := newStory(t, blocks, 0)
				for range 70 {
					s.act(t, "tick", ticks(random.Int63n(step+1)))
					sector := random.Int63n(impl.MaxSectors)
					switch kind := random.Intn(4); {
					case most > 0 && kind < 3 && liveRolls(s.all) < mostRolls(blocks):
						s.cycle(t, "roll", rolls(s.someTime(random)))
					case kind == 0:
						s.cycle(t, "trim", trims(sector))
					default:
						s.cycle(t, "write", writes(sector, pattern(impl.MaxData)))
					}
				}
				s.wantReads(t, s.times()...)
				// All that was written is far more than there are pages, so blocks were collected.
				if s.codes["collect"][impl.OK] < 10 {
					t.Errorf("with %d blocks the codes were %v", blocks, s.codes)
				}
			}
		}
	}
}

// The sectors are written in turn, all the same, or in an order that spreads what is needed over the blocks.
func TestDriveThatRetainsNothingWithChosenWrites(t *testing.T) {
	for what, order := range map[string][]int64{
		"in turn":          {0, 1, 2, 3, 4, 5},
		"one only":         {3},
		"some seldom":      {0, 0, 1, 0, 0, 2, 0, 0, 3, 0, 0, 4, 0, 0, 5},
		"one very often":   {0, 0, 0, 0, 0, 0, 0, 1, 0, 0, 0, 0, 0, 0, 2, 0, 0, 0, 3, 0, 0, 0, 4, 0, 0, 5},
		"forth and back":   {0, 1, 2, 3, 4, 5, 4, 3, 2, 1},
		"each three times": {0, 0, 0, 1, 1, 1, 2, 2, 2, 3, 3, 3, 4, 4, 4, 5, 5, 5},
	} {
		for _, blocks := range []int64{4, 5, 8, impl.MaxBlocks} {
			for by := range int64(2) {
				s := newStory(t, blocks, 0)
				for i := range 60 {
					s.act(t, "tick", ticks(by))
					s.cycle(t, what, writes(order[i%len(order)], strconv.Itoa(i)))
				}
				s.wantReads(t, s.times()...)
			}
		}
	}
}

// A rollback is needed as long as a sector has not been changed behind it. That is why a drive can be full of them, and a small one of sectors.
func TestDriveThatNeedsAllItsPages(t *testing.T) {
	s := newStory(t, 3, 0)
	for range 2 * impl.PageCount {
		s.act(t, "tick", ticks(1))
		s.act(t, "roll", rolls(s.d.Now))
	}
	wantRefused(t, "rolled back once more", rolls(s.d.Now).on(t, s.d), impl.ErrFull)
	wantRefused(t, "all are needed", collects(9).on(t, s.d), impl.ErrNone)
	s = newStory(t, 2, 0)
	for sector := range int64(impl.PageCount) {
		s.act(t, "write", writes(sector, "x"))
	}
	wantRefused(t, "a fifth sector", writes(4, "x").on(t, s.d), impl.ErrFull)
	wantRefused(t, "all are needed", collects(9).on(t, s.d), impl.ErrNone)
}

// Validity.

func TestClocksAndRetentionPeriods(t *testing.T) {
	chip := chipOf(good(0, encodedAll(write(1, 5, 0, "a"), write(2, 7, 1, "b"))...), good(0))
	for what, c := range map[string]struct {
		d    impl.Drive
		want bool
	}{
		"a new drive":               {driveOf(impl.NandNew(2), 0, 0), true},
		"one block":                 {driveOf(impl.NandNew(1), 0, 0), true},
		"the most of all":           {driveOf(impl.NandNew(impl.MaxBlocks), impl.MaxTime, impl.MaxTime), true},
		"Now below 0":               {driveOf(impl.NandNew(2), -1, 0), false},
		"the least Now":             {driveOf(impl.NandNew(2), math.MinInt64, 0), false},
		"Now above MaxTime":         {driveOf(impl.NandNew(2), impl.MaxTime+1, 0), false},
		"the greatest Now":          {driveOf(impl.NandNew(2), math.MaxInt64, 0), false},
		"Retain below 0":            {driveOf(impl.NandNew(2), 0, -1), false},
		"the least Retain":          {driveOf(impl.NandNew(2), 5, math.MinInt64), false},
		"Retain above MaxTime":      {driveOf(impl.NandNew(2), 0, impl.MaxTime+1), false},
		"the greatest Retain":       {driveOf(impl.NandNew(2), impl.MaxTime, math.MaxInt64), false},
		"Now less than LastTime":    {driveOf(chip, 6, 0), false},
		"Now at an earlier record":  {driveOf(chip, 5, 0), false},
		"Now 0 behind records":      {driveOf(chip, 0, 0), false},
		"Now equal to LastTime":     {driveOf(chip, 7, 0), true},
		"Now greater than LastTime": {driveOf(chip, 8, 9), true},
		"Now at the end":            {driveOf(chip, impl.MaxTime, impl.MaxTime), true},
		"Now too late":              {driveOf(chip, impl.MaxTime+1, 0), false},
		"no history":                {driveOf(chipOf(good(0, encodedAll(write(1, 5, 0, "a"), write(2, 4, 0, "b"))...)), 9, 0), false},
		"bad blocks only":           {driveOf(chipOf(bad(0), bad(3, encoded(write(1, 5, 0, "a")))), 5, 0), true},
		"a last record in a bad":    {driveOf(chipOf(good(0), bad(3, encoded(write(1, 5, 0, "a")))), 4, 0), false},
		"the greatest LastTime":     {driveOf(chipOf(good(0, encoded(write(1, impl.MaxTime, 0, "a")))), impl.MaxTime, 0), true},
		"one less than that":        {driveOf(chipOf(good(0, encoded(write(1, impl.MaxTime, 0, "a")))), impl.MaxTime-1, 0), false},
	} {
		if got := impl.DriveRight(c.d); got != c.want {
			t.Errorf("%s: DriveRight = %v", what, got)
		}
		out := impl.Restart(c.d.Nand, c.d.Now, c.d.Retain)
		if c.want {
			wantDriveOut(t, what+": Restart", out, impl.DriveOut{Drive: c.d})
		} else {
			wantInvalidDrive(t, what, c.d)
		}
		wantDrive(t, c.d)
	}
}

// wantInvalidDrive requires that all functions refuse a drive, with good and with wrong other arguments.
func wantInvalidDrive(t *testing.T, what string, d impl.Drive) {
	t.Helper()
	before := driveCopy(d)
	if impl.DriveRight(d) {
		t.Errorf("%s: valid", what)
	}
	for _, n := range []int64{math.MinInt64, -1, 0, 1, 5, 6, 9, impl.MaxTime, math.MaxInt64} {
		wantRefused(t, what+": Tick", impl.Tick(d, n), impl.ErrForm)
		wantRefused(t, what+": Write", impl.Write(d, n, "x"), impl.ErrForm)
		wantRefused(t, what+": Write of too much", impl.Write(d, n, pattern(impl.MaxBytes)), impl.ErrForm)
		// The size limit comes before everything else.
		wantRefused(t, what+": Write beyond the limit", impl.Write(d, n, pattern(impl.MaxBytes+1)), impl.ErrSize)
		wantRefused(t, what+": Trim", impl.Trim(d, n), impl.ErrForm)
		wantRefused(t, what+": RollTo", impl.RollTo(d, n), impl.ErrForm)
		wantRefused(t, what+": Collect", impl.Collect(d, n), impl.ErrForm)
		wantValue(t, what+": Read", impl.Read(d, n), impl.ValueOut{Code: impl.ErrForm})
		wantValue(t, what+": ReadAt", impl.ReadAt(d, 0, n), impl.ValueOut{Code: impl.ErrForm})
		wantValue(t, what+": ReadAt", impl.ReadAt(d, n, 0), impl.ValueOut{Code: impl.ErrForm})
	}
	wantRefused(t, what+": Raise", impl.Raise(d), impl.ErrForm)
	wantRefused(t, what+": Restart", impl.Restart(d.Nand, d.Now, d.Retain), impl.ErrForm)
	if got := impl.Wear(d); got != 0 {
		t.Errorf("%s: Wear = %d", what, got)
	}
	if !sameDrive(d, before) {
		t.Errorf("%s: the argument was changed", what)
	}
}

func TestDrivesWithInvalidChips(t *testing.T) {
	for name, n := range invalidChips() {
		wantInvalidDrive(t, name, driveOf(n, 9, 0))
	}
	wantInvalidDrive(t, "the zero Drive", impl.Drive{})
	// Erases differ, there is a victim, a floor and room: each function would have an answer.
	texts := encodedAll(write(1, 0, 0, "a"), write(2, 1, 0, "b"), write(3, 2, 0, "c"), floor(4, 5, 4))
	sample := func() impl.Drive { return driveOf(chipOf(good(3, texts...), good(9), good(0), good(0)), 9, 2) }
	wantDrive(t, sample())
	for what, change := range map[string]func(d *impl.Drive){
		"negative Erases":          func(d *impl.Drive) { d.Nand.Blocks[1].Erases = -1 },
		"a page too many":          func(d *impl.Drive) { d.Nand.Blocks[2].Pages = append(d.Nand.Blocks[2].Pages, impl.Page{}) },
		"an unused page with Data": func(d *impl.Drive) { d.Nand.Blocks[3].Pages[0].Data = "x" },
		"an unused first page":     func(d *impl.Drive) { d.Nand.Blocks[0].Pages[0] = impl.Page{} },
		"too many blocks":          func(d *impl.Drive) { d.Nand.Blocks = slices.Repeat(d.Nand.Blocks, 4) },
		"Data above the most":      func(d *impl.Drive) { d.Nand.Blocks[0].Pages[1].Data = pattern(impl.PageSize + 1) },
		"no history":               func(d *impl.Drive) { d.Nand.Blocks[1] = good(0, encoded(write(5, 4, 0, "early"))) },
		"Now too early":            func(d *impl.Drive) { d.Now = 4 },
		"Now below 0":              func(d *impl.Drive) { d.Now = -1 },
		"Now too late":             func(d *impl.Drive) { d.Now = impl.MaxTime + 1 },
		"Retain below 0":           func(d *impl.Drive) { d.Retain = -1 },
		"Retain above MaxTime":     func(d *impl.Drive) { d.Retain = impl.MaxTime + 1 },
	} {
		d := sample()
		change(&d)
		wantInvalidDrive(t, what, d)
	}
}

// Format and Tick.

func TestFormat(t *testing.T) {
	for blocks := int64(2); blocks <= impl.MaxBlocks; blocks++ {
		for _, retain := range []int64{0, 1, 20, impl.MaxTime} {
			d := formatted(t, blocks, retain)
			if !impl.DriveRight(d) || impl.FreeBlocks(d.Nand) != blocks || impl.Wear(d) != 0 {
				t.Errorf("Format(%d, %d) = %#v", blocks, retain, d)
			}
			if got := readAll(d, 0); got != (contents{}) {
				t.Errorf("a new drive contains %+v", got)
			}
		}
		for _, retain := range []int64{math.MinInt64, -1, impl.MaxTime + 1, math.MaxInt64} {
			wantRefused(t, "a Retain that is no time", impl.Format(blocks, retain), impl.ErrForm)
		}
	}
	for _, blocks := range []int64{math.MinInt64, -2, -1, 0, 1, impl.MaxBlocks + 1, impl.MaxBlocks + 2, 1 << 32, 1<<32 + 4, math.MaxInt64} {
		for _, retain := range []int64{-1, 0, 5, impl.MaxTime, impl.MaxTime + 1} {
			wantRefused(t, strconv.FormatInt(blocks, 10)+" blocks", impl.Format(blocks, retain), impl.ErrForm)
		}
	}
}

func TestTick(t *testing.T) {
	texts := encodedAll(write(1, 5, 0, "a"), write(2, 7, 1, "b"))
	for _, now := range []int64{7, 8, 500, impl.MaxTime - 1, impl.MaxTime} {
		d := driveOf(chipOf(good(4, texts...), good(0)), now, 3)
		for _, by := range []int64{0, 1, 2, impl.MaxTime - now - 1, impl.MaxTime - now} {
			if by >= 0 && now+by <= impl.MaxTime {
				wantDriveOut(t, "Tick", ticks(by).on(t, d), impl.DriveOut{Drive: driveOf(d.Nand, now+by, 3)})
			}
		}
		for _, by := range []int64{math.MinInt64, -impl.MaxTime, -2, -1, impl.MaxTime - now + 1, impl.MaxTime + 1, math.MaxInt64 - now, math.MaxInt64 - now + 1, math.MaxInt64} {
			wantRefused(t, "Tick by "+strconv.FormatInt(by, 10), ticks(by).on(t, d), impl.ErrForm)
		}
	}
}

// Logging.

// logs are deeds that log a record, for a drive whose clock is past its retention period.
func logs(d impl.Drive) []deed {
	return []deed{writes(0, "x"), writes(5, ""), writes(3, pattern(impl.MaxData)), trims(0), trims(5), rolls(d.Now), rolls(d.Now - d.Retain), raises(d)}
}

func TestSeqAndTimeOfLoggedRecords(t *testing.T) {
	old := []impl.Rec{write(3, 5, 0, "a"), floor(8, 6, 2)}
	for _, c := range []struct {
		d    impl.Drive
		kept []impl.Rec
		seq  int64
	}{
		{driveOf(impl.NandNew(3), 9, 4), nil, 1},
		{driveOf(impl.NandNew(3), impl.MaxTime, 4), nil, 1},
		// The Seq follows the greatest one, wherever its page is.
		{driveOf(chipOf(good(0, encodedAll(old...)...), good(0)), 9, 4), old, 9},
		{driveOf(chipOf(good(0, encodedAll(old[1], old[0])...), good(0)), 9, 4), old, 9},
		{driveOf(chipOf(bad(0, encoded(old[1])), good(0, "x", encoded(old[0]))), 9, 4), old, 9},
		{driveOf(chipOf(good(0, encodedAll(old...)...), good(0)), 6, 3), old, 9},
		{driveOf(chipOf(good(0, encoded(write(impl.MaxTime-1, 1, 0, "a"))), good(0)), 9, 4), []impl.Rec{write(impl.MaxTime-1, 1, 0, "a")}, impl.MaxTime},
	} {
		for _, a := range logs(c.d) {
			out := a.done(t, c.d)
			r := a.rec
			r.Seq, r.Time = c.seq, c.d.Now
			wantHistOut(t, a.what, impl.Mount(out.Nand), impl.HistOut{Hist: histOf(append(slices.Clone(c.kept), r)...)})
			if out.Now != c.d.Now || out.Retain != c.d.Retain {
				t.Errorf("%s changed Now or Retain: %#v", a.what, out)
			}
		}
	}
}

// wantAllFull requires that nothing can be logged any more.
func wantAllFull(t *testing.T, what string, d impl.Drive) {
	t.Helper()
	for _, a := range logs(d) {
		wantRefused(t, what+": "+a.what, a.on(t, d), impl.ErrFull)
	}
}

func TestLoggingBehindTheGreatestSeq(t *testing.T) {
	last := encoded(write(impl.MaxTime, 1, 0, "a"))
	for what, n := range map[string]impl.Nand{
		"one record":   chipOf(good(0, last), good(0), good(0)),
		"several":      chipOf(good(0, encodedAll(numbered(2).Recs...)...), good(0, "x", last), good(0)),
		"in a bad one": chipOf(bad(0, last), good(0), good(0)),
		"without room": chipOf(good(0, last, "", "", ""), good(0)),
	} {
		wantAllFull(t, what, driveOf(n, 9, 4))
	}
	d := driveOf(chipOf(good(0, encoded(write(impl.MaxTime-1, 1, 0, "a"))), good(0)), 9, 4)
	for _, a := range logs(d) {
		wantAllFull(t, "after "+a.what, withRetain(ticks(9).done(t, a.done(t, d))))
	}
}

// withRetain returns the drive with a retention period after which Raise has something to do.
func withRetain(d impl.Drive) impl.Drive {
	return driveOf(d.Nand, d.Now, 1)
}

func TestLoggingOf48Records(t *testing.T) {
	for count := fullHist - 2; count <= fullHist; count++ {
		n := impl.NandNew(impl.MaxBlocks)
		for i, r := range numbered(count).Recs {
			n = programmed(n, int64(i/impl.PageCount), encoded(r))
		}
		d := driveOf(n, 100, 4)
		for _, a := range logs(d) {
			out := a.on(t, d)
			if count == fullHist {
				wantRefused(t, a.what, out, impl.ErrFull)
			} else if out.Code != impl.OK || len(impl.Mount(out.Drive.Nand).Hist.Recs) != count+1 {
				t.Errorf("%s behind %d records: %#v", a.what, count, out)
			}
		}
		wantDrive(t, d)
	}
}

func TestLoggingLeavesTheReserve(t *testing.T) {
	for blocks := int64(2); blocks <= impl.MaxBlocks; blocks++ {
		d := driveOf(impl.NandNew(blocks), 9, 4)
		for i := range (blocks - 1) * impl.PageCount {
			d = []deed{writes(i%impl.MaxSectors, "x"), trims(i % impl.MaxSectors), rolls(9)}[i%3].done(t, d)
		}
		if got := impl.FreeBlocks(d.Nand); got != impl.Reserve {
			t.Errorf("%d of %d blocks are free", got, blocks)
		}
		wantAllFull(t, "a free block that is reserved", d)
		wantDrive(t, d)
		// A torn page opens the reserved block, whose other pages can be used.
		d.Nand = torn(t, d.Nand, "torn").Nand
		for _, a := range logs(d) {
			a.done(t, d)
		}
		d = driveAfter(t, d, writes(0, "1"), writes(0, "2"), writes(0, "3"))
		wantAllFull(t, "no free block", d)
	}
	full := encodedAll(numbered(4).Recs...)
	for what, n := range map[string]impl.Nand{
		"one free block":            chipOf(good(0, full...), good(0)),
		"no free block":             chipOf(good(0, full...)),
		"one free block beside bad": chipOf(good(0, full...), good(0), bad(0), bad(0, "a")),
		"bad blocks only":           chipOf(bad(0), bad(0, full...), bad(0, "a")),
		"one new block":             impl.NandNew(1),
	} {
		wantAllFull(t, what, driveOf(n, 9, 4))
	}
}

func TestOrderOfErrorsOfLogging(t *testing.T) {
	texts := encodedAll(write(1, 0, 0, "a"), floor(2, 5, 5), write(impl.MaxTime, 8, 1, "b"))
	for what, n := range map[string]impl.Nand{
		"the greatest Seq":             chipOf(good(0, texts...), good(0), good(0)),
		"no room":                      chipOf(good(0, texts[0], texts[1], "", ""), good(0)),
		"no room and the greatest Seq": chipOf(good(0, append(texts, "")...), good(0)),
	} {
		d := driveOf(n, 8, 2)
		for _, sector := range []int64{math.MinInt64, -1, impl.MaxSectors, math.MaxInt64} {
			wantRefused(t, what+": no such sector", writes(sector, "x").on(t, d), impl.ErrForm)
			wantRefused(t, what+": no such sector", trims(sector).on(t, d), impl.ErrForm)
			wantRefused(t, what+": no such sector, and too much data", writes(sector, pattern(17)).on(t, d), impl.ErrForm)
		}
		for _, size := range []int{impl.MaxData + 1, impl.PageSize, impl.MaxBytes} {
			wantRefused(t, what+": too much data", writes(0, pattern(size)).on(t, d), impl.ErrForm)
		}
		wantRefused(t, what+": data beyond the limit", impl.Write(d, 0, pattern(impl.MaxBytes+1)), impl.ErrSize)
		for _, at := range []int64{math.MinInt64, -1, 9, impl.MaxTime, impl.MaxTime + 1, math.MaxInt64} {
			wantRefused(t, what+": no such time", rolls(at).on(t, d), impl.ErrForm)
		}
		for at := range int64(5) {
			wantRefused(t, what+": below the floor", rolls(at).on(t, d), impl.ErrPast)
		}
		for at := int64(5); at <= 8; at++ {
			wantRefused(t, what+": from the floor on", rolls(at).on(t, d), impl.ErrFull)
		}
		for _, retain := range []int64{3, 4, 8, 9, impl.MaxTime} {
			low := driveOf(n, 8, retain)
			wantRefused(t, what+": not above the floor", raises(low).on(t, low), impl.ErrState)
		}
		for _, retain := range []int64{0, 1, 2} {
			high := driveOf(n, 8, retain)
			wantRefused(t, what+": above the floor", raises(high).on(t, high), impl.ErrFull)
		}
		wantRefused(t, what+": Write", writes(0, "x").on(t, d), impl.ErrFull)
		wantRefused(t, what+": Trim", trims(0).on(t, d), impl.ErrFull)
	}
}

// Write, Trim, Read and ReadAt.

func TestSectorsOfTheDrive(t *testing.T) {
	d := driveAfter(t, formatted(t, 8, 0), writes(0, "a"), writes(5, "b"), ticks(1))
	for sector := range int64(impl.MaxSectors) {
		out := writes(sector, "x").done(t, d)
		trimmed := trims(sector).done(t, out)
		for other := range int64(impl.MaxSectors) {
			before := impl.Read(d, other)
			if other == sector {
				wantValue(t, "the sector", impl.Read(out, other), there("x"))
				wantValue(t, "the trimmed sector", impl.Read(trimmed, other), impl.ValueOut{})
			} else {
				wantValue(t, "another sector", impl.Read(out, other), before)
				wantValue(t, "another sector", impl.Read(trimmed, other), before)
			}
			wantValue(t, "an earlier time", impl.ReadAt(trimmed, other, 0), before)
		}
	}
	for _, sector := range []int64{math.MinInt64, -6, -1, impl.MaxSectors, impl.MaxSectors + 1, 1 << 32, math.MaxInt64} {
		wantRefused(t, "Write", writes(sector, "x").on(t, d), impl.ErrForm)
		wantRefused(t, "Trim", trims(sector).on(t, d), impl.ErrForm)
		wantValue(t, "Read", impl.Read(d, sector), impl.ValueOut{Code: impl.ErrForm})
		for at := int64(-1); at <= 2; at++ {
			wantValue(t, "ReadAt", impl.ReadAt(d, sector, at), impl.ValueOut{Code: impl.ErrForm})
		}
	}
}

func TestDataOfTheDrive(t *testing.T) {
	d := formatted(t, 2, 0)
	for size := 0; size <= impl.MaxData; size++ {
		out := writes(2, pattern(size)).done(t, d)
		wantValue(t, "Read", impl.Read(out, 2), there(pattern(size)))
	}
	wantValue(t, "any bytes", impl.Read(writes(2, "\x00\xff\n\x80").done(t, d), 2), there("\x00\xff\n\x80"))
	for size, code := range map[int]int64{impl.MaxData + 1: impl.ErrForm, impl.PageSize: impl.ErrForm, impl.MaxBytes: impl.ErrForm, impl.MaxBytes + 1: impl.ErrSize, 2 * impl.MaxBytes: impl.ErrSize} {
		for _, sector := range []int64{-1, 0, 5, 6} {
			wantRefused(t, strconv.Itoa(size)+" bytes", impl.Write(d, sector, pattern(size)), code)
		}
	}
	// Writing nothing is not trimming.
	empty := writes(4, "").done(t, d)
	wantValue(t, "an empty sector", impl.Read(empty, 4), there(""))
	wantValue(t, "a trimmed sector", impl.Read(trims(4).done(t, empty), 4), impl.ValueOut{})
	wantValue(t, "an absent sector", impl.Read(trims(3).done(t, empty), 3), impl.ValueOut{})
}

func TestTimesThatTheDriveReads(t *testing.T) {
	recs := []impl.Rec{write(1, 2, 0, "a"), write(2, 6, 0, "b"), floor(3, 8, 5), trim(4, 9, 0)}
	d := driveOf(chipOf(good(0, encodedAll(recs...)...), good(0)), 12, 3)
	for at, want := range map[int64]impl.ValueOut{
		math.MinInt64: {Code: impl.ErrForm}, -1: {Code: impl.ErrForm},
		0: {Code: impl.ErrPast}, 2: {Code: impl.ErrPast}, 4: {Code: impl.ErrPast},
		5: there("a"), 6: there("b"), 8: there("b"), 9: {}, 11: {}, 12: {},
		13: {Code: impl.ErrForm}, impl.MaxTime: {Code: impl.ErrForm}, impl.MaxTime + 1: {Code: impl.ErrForm}, math.MaxInt64: {Code: impl.ErrForm},
	} {
		wantValue(t, "time "+strconv.FormatInt(at, 10), impl.ReadAt(d, 0, at), want)
	}
	wantValue(t, "Read", impl.Read(d, 0), impl.ValueOut{})
	early := driveOf(chipOf(good(0, encodedAll(recs[:3]...)...), good(0)), 8, 3)
	wantValue(t, "Read at the time of the last record", impl.Read(early, 0), there("b"))
	// The floor may be as late as Now.
	top := driveOf(chipOf(good(0, encodedAll(recs[0], floor(2, impl.MaxTime, impl.MaxTime))...), good(0)), impl.MaxTime, 0)
	wantValue(t, "at the greatest floor", impl.Read(top, 0), there("a"))
	wantValue(t, "below it", impl.ReadAt(top, 0, impl.MaxTime-1), impl.ValueOut{Code: impl.ErrPast})
	for _, d := range []impl.Drive{d, early, top} {
		wantDrive(t, d)
	}
}

// RollTo and Raise.

func TestTimesToWhichTheDriveRolls(t *testing.T) {
	d := driveAfter(t, formatted(t, 4, 3), writes(0, "a"), ticks(4), writes(0, "b"), ticks(4))
	raised := raises(d).done(t, d) // to 5
	for what, c := range map[string]struct {
		d    impl.Drive
		at   int64
		code int64
		want string
	}{
		"-1":                      {d, -1, impl.ErrForm, ""},
		"-1 with a floor":         {raised, -1, impl.ErrForm, ""},
		"0":                       {d, 0, impl.OK, "a"},
		"0 with a floor":          {raised, 0, impl.ErrPast, ""},
		"before the second write": {d, 3, impl.OK, "a"},
		"at the second write":     {d, 4, impl.OK, "b"},
		"just below the floor":    {raised, 4, impl.ErrPast, ""},
		"the floor":               {raised, 5, impl.OK, "b"},
		"above the floor":         {raised, 6, impl.OK, "b"},
		"Now":                     {d, 8, impl.OK, "b"},
		"Now with a floor":        {raised, 8, impl.OK, "b"},
		"Now + 1":                 {d, 9, impl.ErrForm, ""},
		"Now + 1 with a floor":    {raised, 9, impl.ErrForm, ""},
		"MaxTime":                 {d, impl.MaxTime, impl.ErrForm, ""},
		"above MaxTime":           {d, impl.MaxTime + 1, impl.ErrForm, ""},
		"the least number":        {raised, math.MinInt64, impl.ErrForm, ""},
		"the greatest number":     {raised, math.MaxInt64, impl.ErrForm, ""},
	} {
		out := rolls(c.at).on(t, c.d)
		if c.code != impl.OK {
			wantRefused(t, what, out, c.code)
			continue
		}
		wantValue(t, what, impl.Read(out.Drive, 0), there(c.want))
	}
}

func TestRaise(t *testing.T) {
	for _, c := range []struct {
		floor, now, retain int64
		code               int64
	}{
		{0, 0, 0, impl.ErrState},
		{0, 1, 0, impl.OK},
		{0, 5, 6, impl.ErrState},
		{0, 5, 5, impl.ErrState},
		{0, 5, 4, impl.OK},
		{0, 5, impl.MaxTime, impl.ErrState},
		{0, impl.MaxTime, 0, impl.OK},
		{0, impl.MaxTime, impl.MaxTime, impl.ErrState},
		{0, impl.MaxTime, impl.MaxTime - 1, impl.OK},
		{7, 20, 14, impl.ErrState},
		{7, 20, 13, impl.ErrState},
		{7, 20, 12, impl.OK},
		{7, 20, 0, impl.OK},
		{7, 20, 21, impl.ErrState},
		{impl.MaxTime, impl.MaxTime, 0, impl.ErrState},
		{impl.MaxTime - 1, impl.MaxTime, 0, impl.OK},
	} {
		what := "Raise with Now " + strconv.FormatInt(c.now, 10) + " and Retain " + strconv.FormatInt(c.retain, 10)
		var recs []impl.Rec
		if c.floor > 0 {
			// Of several floors the greatest one counts, not the last one.
			recs = []impl.Rec{floor(1, c.floor, c.floor), floor(2, c.floor, 1)}
		}
		d := driveOf(chipOf(good(0, encodedAll(recs...)...), good(0), good(0)), c.now, c.retain)
		out := raises(d).on(t, d)
		if c.code != impl.OK {
			wantRefused(t, what, out, c.code)
			continue
		}
		r := floor(int64(len(recs)+1), c.now, c.now-c.retain)
		wantDriveOut(t, what, out, impl.DriveOut{Drive: driveOf(programmed(d.Nand, 0, encoded(r)), c.now, c.retain)})
		wantRefused(t, what+", again", raises(out.Drive).on(t, out.Drive), impl.ErrState)
	}
}

// Collect.

func TestCollect(t *testing.T) {
	w := encodedAll(numbered(8).Recs...)
	// Block 1 is the victim, with a load of three; block 3 has one page left.
	n := chipOf(good(5), good(7, w[5], w[7], "x", w[4]), good(0, w[:4]...), good(0, w[6], "", ""), good(2), bad(0))
	first := programmed(n, 3, w[4])
	second := programmed(first, 4, w[5])
	third := programmed(second, 4, w[7])
	last := chipCopy(third)
	last.Blocks[1] = good(8)
	for steps, want := range map[int64]impl.Nand{math.MinInt64: n, -1: n, 0: n, 1: first, 2: second, 3: third, 4: last, 5: last, math.MaxInt64: last} {
		for _, now := range []int64{7, 8, impl.MaxTime} {
			for _, retain := range []int64{0, 3, impl.MaxTime} {
				out := collects(steps).on(t, driveOf(n, now, retain))
				wantDriveOut(t, "Collect", out, impl.DriveOut{Drive: driveOf(want, now, retain)})
			}
		}
	}
	for what, c := range map[string]struct {
		n           impl.Nand
		steps, code int64
	}{
		"no victim":                     {impl.NandNew(2), 9, impl.ErrNone},
		"no victim and no steps":        {impl.NandNew(2), 0, impl.ErrNone},
		"all are needed":                {chipOf(good(0, w[:4]...), good(0)), 9, impl.ErrNone},
		"no room for the load":          {chipOf(good(0, w[0], "x", w[1], w[2]), good(0, w[3:7]...)), 1, impl.ErrFull},
		"no room for all of it":         {chipOf(good(0, w[0], "x", w[1], w[2]), good(0, w[3:6]...)), 9, impl.ErrFull},
		"room for the first":            {chipOf(good(0, w[0], "x", w[1], w[2]), good(0, w[3:6]...)), 1, impl.OK},
		"no steps need no room":         {chipOf(good(0, w[0], "x", w[1], w[2]), good(0, w[3:7]...)), 0, impl.OK},
		"a worn out victim":             {chipOf(good(impl.MaxTime, junk(4)...), good(0)), 1, impl.ErrFull},
		"a worn out victim, not erased": {chipOf(good(impl.MaxTime, junk(4)...), good(0)), 0, impl.OK},
		"without a free block":          {chipOf(good(3, junk(4)...), good(0, w[:4]...)), 1, impl.OK},
	} {
		d := driveOf(c.n, 9, 2)
		out := collects(c.steps).on(t, d)
		if c.code != impl.OK {
			wantRefused(t, what, out, c.code)
		} else if out.Code != impl.OK {
			t.Errorf("%s: Collect returns the code %d", what, out.Code)
		}
		wantDrive(t, d)
	}
}

// A drive from which everything was collected goes on as before.
func TestCollectedDriveGoesOn(t *testing.T) {
	d := driveAfter(t, formatted(t, 3, 0), writes(0, "a"), writes(0, "b"), ticks(1), writes(0, "c"), trims(1))
	d = raises(d).done(t, d)
	d = collects(9).done(t, d)
	wantList(t, "Places of Seq 3", impl.Places(d.Nand, 3), []int64{5})
	wantList(t, "Wear", []int64{impl.Wear(d)}, []int64{1})
	d = driveAfter(t, d, ticks(1), writes(1, "d"))
	h := impl.Mount(d.Nand).Hist
	wantHistOut(t, "the records", impl.HistOut{Hist: h}, impl.HistOut{Hist: histOf(write(3, 1, 0, "c"), trim(4, 1, 1), floor(5, 1, 1), write(6, 2, 1, "d"))})
	for at, want := range map[int64]contents{1: {0: there("c")}, 2: {0: there("c"), 1: there("d")}} {
		if got := readAll(d, at); got != want {
			t.Errorf("at time %d: %+v, want %+v", at, got, want)
		}
	}
}

// Restart and Wear.

func TestRestart(t *testing.T) {
	d := exampleDrive(t, 3) // its last record has the Time 2
	for _, c := range []struct {
		now, retain int64
		right       bool
	}{
		{2, 3, true}, {4, 3, true}, {9, 0, true}, {impl.MaxTime, impl.MaxTime, true},
		{1, 3, false}, {0, 3, false}, {-1, 3, false}, {impl.MaxTime + 1, 3, false},
		{4, -1, false}, {4, impl.MaxTime + 1, false}, {math.MaxInt64, 3, false}, {math.MinInt64, 3, false},
		{4, math.MinInt64, false}, {4, math.MaxInt64, false}, {1, -1, false},
	} {
		out := impl.Restart(d.Nand, c.now, c.retain)
		if !c.right {
			wantRefused(t, "Restart", out, impl.ErrForm)
			continue
		}
		wantDriveOut(t, "Restart", out, impl.DriveOut{Drive: driveOf(d.Nand, c.now, c.retain)})
		wantDrive(t, out.Drive)
	}
	// A power failure while a page is written: the drive is as it was, but for the page.
	power := torn(t, d.Nand, encoded(write(3, 4, 0, "c"))).Nand
	again := impl.Restart(power, 4, 3)
	wantDriveOut(t, "after a power failure", again, impl.DriveOut{Drive: driveOf(power, 4, 3)})
	if readAll(again.Drive, 4) != readAll(d, 4) {
		t.Error("a torn page changed the contents")
	}
	wantHistOut(t, "the next record", impl.Mount(writes(1, "d").done(t, again.Drive).Nand),
		impl.HistOut{Hist: histOf(write(1, 0, 0, "a"), write(2, 2, 0, "b"), write(3, 4, 1, "d"))})
}

func TestWear(t *testing.T) {
	full := encodedAll(numbered(4).Recs...)
	for what, c := range map[string]struct {
		n    impl.Nand
		want int64
	}{
		"a new chip":           {impl.NandNew(3), 0},
		"one block":            {chipOf(good(7)), 0},
		"all the same":         {chipOf(good(7), good(7, full...), good(7, "x")), 0},
		"increasing":           {chipOf(good(1), good(4), good(9)), 8},
		"decreasing":           {chipOf(good(9), good(4), good(1)), 8},
		"between":              {chipOf(good(4), good(9, full...), good(1, "x"), good(5)), 8},
		"a bad greatest":       {chipOf(good(4), bad(9), good(1)), 3},
		"a bad least":          {chipOf(good(4), bad(0, "x"), good(9)), 5},
		"bad at both ends":     {chipOf(bad(0), good(4), good(6), bad(impl.MaxTime)), 2},
		"one that is not bad":  {chipOf(bad(0), good(4), bad(9)), 0},
		"none that is not bad": {chipOf(bad(0), bad(4), bad(9)), 0},
		"the most":             {chipOf(good(impl.MaxTime), good(0)), impl.MaxTime},
		"worn out":             {chipOf(good(impl.MaxTime), good(impl.MaxTime)), 0},
	} {
		if got := impl.Wear(driveOf(c.n, 9, 0)); got != c.want {
			t.Errorf("%s: Wear = %d, want %d", what, got, c.want)
		}
		for name, d := range map[string]impl.Drive{"Now": driveOf(c.n, -1, 0), "Retain": driveOf(c.n, 9, -1)} {
			if got := impl.Wear(d); got != 0 {
				t.Errorf("%s with an invalid %s: Wear = %d", what, name, got)
			}
		}
	}
}

// Memory.

// workDrive has a victim, room, a floor and an open block, so that every deed can be done.
func workDrive() impl.Drive {
	texts := encodedAll(write(1, 0, 0, "a"), write(2, 1, 0, "b"), write(3, 2, 0, "c"), floor(4, 5, 4), write(5, 6, 1, "d"))
	return driveOf(chipOf(good(3, texts[:4]...), good(2, texts[4]), good(0), good(0)), 9, 2)
}

func TestDrivesShareNoMemory(t *testing.T) {
	d := workDrive()
	deeds := []deed{ticks(0), ticks(3), writes(0, "x"), trims(1), rolls(6), raises(d), collects(-1), collects(0), collects(1), collects(2), collects(9), restarts()}
	for _, a := range deeds {
		wantOwnMemory(t, a.what, func() impl.Nand { return workDrive().Nand }, func(n impl.Nand) impl.NandOut {
			out := a.call(driveOf(n, d.Now, d.Retain))
			return impl.NandOut{Nand: out.Drive.Nand, Code: out.Code}
		})
	}
	first, second := formatted(t, 3, 1), formatted(t, 3, 1)
	wantSeparate(t, "Format", first.Nand)
	spoilChip(first.Nand)
	wantDriveOut(t, "another new drive", impl.DriveOut{Drive: second}, impl.DriveOut{Drive: driveOf(impl.NandNew(3), 0, 1)})
}

func TestArgumentsOfTheDriveAreLeftAsTheyWere(t *testing.T) {
	// The slices have room behind them, which is not to be used.
	pages := append(usedPages(encoded(write(1, 0, 0, "a")), "x", "x", "x"), impl.Page{Data: "behind"})
	blocks := append(make([]impl.Block, 0, 6), impl.Block{Pages: pages[:impl.PageCount]}, good(0), good(0), bad(7, "behind"))
	d := driveOf(impl.Nand{Blocks: blocks[:3]}, 9, 2)
	wantDrive(t, d)
	if pages[impl.PageCount].Data != "behind" || blocks[3].Erases != 7 || blocks[3].Pages[0].Data != "behind" {
		t.Error("memory behind the argument was changed")
	}
}

// Two drives that continue a common one are both right.
func TestTwoContinuationsOfOneDrive(t *testing.T) {
	d := formatted(t, 4, 0)
	for range 3 * impl.PageCount {
		left, right := writes(0, "left").done(t, d), writes(0, "right").done(t, d)
		wantValue(t, "left", impl.Read(left, 0), there("left"))
		wantValue(t, "right", impl.Read(right, 0), there("right"))
		d = left
	}
}

func TestCallsOfTheDriveAreRepeatable(t *testing.T) {
	random := rand.New(rand.NewSource(36))
	for range 40 {
		d := randomDrive(random)
		wantRepeatable(t, func() []any {
			return []any{impl.DriveRight(d), impl.Tick(d, 1), impl.Write(d, 0, "x"), impl.Trim(d, 1), impl.RollTo(d, d.Now), impl.Raise(d),
				impl.Collect(d, 2), impl.Restart(d.Nand, d.Now, d.Retain), impl.Wear(d), impl.Read(d, 0), impl.ReadAt(d, 1, d.Now-1)}
		})
	}
}
