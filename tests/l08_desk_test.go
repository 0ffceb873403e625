package tests

import (
	"fmt"
	"maps"
	"math/rand"
	"regexp"
	"slices"
	"strconv"
	"strings"
	"testing"

	"loop.example/g00637/impl"
)

// text returns lines with a line feed behind each.
func text(lines ...string) string {
	all := ""
	for _, line := range lines {
		all += line + "\n"
	}
	return all
}

// linesOf returns the lines of a text in which each one ends with a line feed.
func linesOf(text string) []string {
	return slices.Collect(strings.Lines(text))
}

// The reference, by the definitions of the document.

// refLine is a well-formed line without its line feed.
var refLine = regexp.MustCompile(`\A(raise|gc|room|(trim|roll|tick|read|times|cut) N|at N N|(write|torn) N [^ \n]+)\z`)

// refNumber replaces each number by an N, so that a line can be compared with refLine.
func refNumber(word string) string {
	n, err := strconv.ParseUint(word, 10, 64)
	if err == nil && len(word) <= 9 && strconv.FormatUint(n, 10) == word {
		return "N"
	}
	if word == "N" {
		return "no number"
	}
	return word
}

func refLineRight(line string) bool {
	words := strings.Split(line, " ")
	for i := 1; i < len(words) && i <= 2; i++ {
		if i == 1 || words[0] == "at" {
			words[i] = refNumber(words[i])
		}
	}
	return refLine.MatchString(strings.Join(words, " "))
}

func refDeskFault(text string) impl.DeskOut {
	if len(text) > 8000 {
		return impl.DeskOut{Code: impl.ErrSize}
	}
	for i, line := range linesOf(text) {
		inner, ended := strings.CutSuffix(line, "\n")
		if i >= 40 || !ended || !refLineRight(inner) {
			return impl.DeskOut{Line: int64(i), Code: impl.ErrSyntax}
		}
	}
	return impl.DeskOut{}
}

// deskModel is the drive of a text. Its chip is that of the reference of the drive; its contents come from all records that were ever logged, as if none could be lost.
type deskModel struct {
	d   impl.Drive
	all []impl.Rec
}

func newDeskModel() *deskModel {
	return &deskModel{d: driveOf(chipOf(good(0), good(0), good(0), good(0), good(0), good(0)), 0, 20)}
}

func failed(code int64) string {
	return "error " + strconv.FormatInt(code, 10)
}

// do changes the drive as the document requires for a deed, and returns its output.
func (m *deskModel) do(a deed, say func() string) string {
	out := a.want(m.d)
	if out.Code != impl.OK {
		return failed(out.Code)
	}
	m.d = out.Drive
	if a.rec.Kind != 0 {
		r := a.rec
		r.Seq, r.Time = int64(len(m.all)+1), m.d.Now
		m.all = append(m.all, r)
	}
	return say()
}

func (m *deskModel) floor() int64 {
	return refFloor(m.all)
}

func (m *deskModel) read(sector, at int64) string {
	switch {
	case sector > 5 || at > m.d.Now:
		return failed(impl.ErrForm)
	case at < m.floor():
		return failed(impl.ErrPast)
	}
	value := statesOf(m.all)[countUntil(m.all, at)][sector]
	if !value.There {
		return "-"
	}
	return value.Data
}

func (m *deskModel) times(sector int64) string {
	if sector > 5 || len(refTimes(m.all, sector)) == 0 {
		return "-"
	}
	return strings.ReplaceAll(strings.Trim(fmt.Sprint(refTimes(m.all, sector)), "[]"), " ", ",")
}

func (m *deskModel) tear(sector int64, data string) string {
	r := write(int64(len(m.all)+1), m.d.Now, sector, data)
	if !refRight(r) {
		return failed(impl.ErrForm)
	}
	block := refNext(m.d.Nand, 0)
	if block < 0 {
		return failed(impl.ErrFull)
	}
	m.d.Nand = programmed(m.d.Nand, block, encoded(r)[:len(encoded(r))/2])
	return "ok"
}

func (m *deskModel) free() int {
	free := 0
	for _, b := range m.d.Nand.Blocks {
		if refUsed(b) == 0 {
			free++
		}
	}
	return free
}

// answer executes a well-formed line and returns its output.
func (m *deskModel) answer(line string) string {
	words := append(strings.Split(line, " "), "", "")
	first, _ := strconv.ParseInt(words[1], 10, 64)
	second, _ := strconv.ParseInt(words[2], 10, 64)
	ok := func() string { return "ok" }
	switch words[0] {
	case "write":
		return m.do(writes(first, words[2]), ok)
	case "trim":
		return m.do(trims(first), ok)
	case "roll":
		return m.do(rolls(first), ok)
	case "tick":
		return m.do(ticks(first), func() string { return fmt.Sprint("now ", m.d.Now) })
	case "read":
		return m.read(first, m.d.Now)
	case "at":
		return m.read(first, second)
	case "times":
		return m.times(first)
	case "raise":
		return m.do(raises(m.d), func() string { return fmt.Sprint("floor ", m.floor()) })
	case "gc":
		return m.do(collects(100), func() string { return fmt.Sprint("room ", refRoom(m.d.Nand)) })
	case "cut":
		return m.do(collects(first), ok)
	case "torn":
		return m.tear(first, words[2])
	}
	return fmt.Sprint(refRoom(m.d.Nand), " ", m.free())
}

func refDeskRun(text string) impl.DeskOut {
	out := refDeskFault(text)
	if out.Code != impl.OK {
		return out
	}
	m := newDeskModel()
	for _, line := range linesOf(text) {
		out.Text += m.answer(strings.TrimSuffix(line, "\n")) + "\n"
	}
	return out
}

// wantDesk compares what a text returns with the reference: its output, or its fault and no output.
func wantDesk(t *testing.T, text string) impl.DeskOut {
	t.Helper()
	got, want := impl.DeskRun(text), refDeskRun(text)
	if got != want {
		t.Errorf("DeskRun of %.900q:\ngot  %.900q, line %d, code %d\nwant %.900q, line %d, code %d", text, got.Text, got.Line, got.Code, want.Text, want.Line, want.Code)
	}
	want.Text = ""
	if fault := impl.DeskFault(text); fault != want {
		t.Errorf("DeskFault of %.900q:\ngot  %+v\nwant %+v", text, fault, want)
	}
	if got.Code == impl.OK && strings.Count(got.Text, "\n") != strings.Count(text, "\n") {
		t.Errorf("DeskRun of %.900q: not one line for each: %q", text, got.Text)
	}
	return got
}

// wantOutput requires the output, line by line, of the reference and of the test.
func wantOutput(t *testing.T, what string, lines, outputs []string) {
	t.Helper()
	if got := wantDesk(t, text(lines...)); got != (impl.DeskOut{Text: text(outputs...)}) {
		t.Errorf("%s: DeskRun of %q:\ngot  %q, line %d, code %d\nwant %q", what, lines, got.Text, got.Line, got.Code, outputs)
	}
}

// wantFault requires ErrSyntax in a line, and no output.
func wantFault(t *testing.T, what, text string, line int64) {
	t.Helper()
	if got := wantDesk(t, text); got != (impl.DeskOut{Line: line, Code: impl.ErrSyntax}) {
		t.Errorf("%s: DeskRun of %.900q: got %+v, want a fault in line %d", what, text, got, line)
	}
}

// lastOutput returns what the last one of some lines puts out.
func lastOutput(t *testing.T, lines []string) string {
	t.Helper()
	outputs := linesOf(wantDesk(t, text(lines...)).Text)
	if len(outputs) != len(lines) {
		t.Fatalf("%d lines for %q", len(outputs), lines)
	}
	return strings.TrimSuffix(outputs[len(outputs)-1], "\n")
}

// with returns the lines and further ones, in memory of their own.
func with(lines []string, more ...string) []string {
	return slices.Concat(lines, more)
}

// Examples.

func TestExampleOfTheDesk(t *testing.T) {
	lines := []string{"write 1 a", "tick 2", "write 1 b", "read 1", "at 1 1", "times 1", "roll 0", "read 1", "torn 1 zz", "read 1", "raise", "gc", "room"}
	outputs := []string{"ok", "now 2", "ok", "b", "a", "0,2", "ok", "a", "ok", "a", "error 10", "room 22", "22 5"}
	wantOutput(t, "the example", lines, outputs)
	wantOutput(t, "and more of it", with(lines, "trim 6", "at 1 9", "tick 30", "raise", "at 1 5"), with(outputs, "error 1", "error 1", "now 32", "floor 12", "error 12"))
	wantFault(t, "a word too few", "room\nat 1\n", 1)
	if impl.MaxDesk != 40 {
		t.Error("a constant has changed")
	}
}

// Texts at random.

// deskPlan says how random lines are made.
type deskPlan struct {
	words   []string // each is chosen as often as it is here
	sectors int64
	tick    int64 // the greatest one
}

func deskPlans() []deskPlan {
	often := func(counts map[string]int) []string {
		var words []string
		for _, word := range impl.DeskWords() {
			words = append(words, slices.Repeat([]string{word}, 1+counts[word])...)
		}
		return words
	}
	return []deskPlan{
		{often(nil), 6, 3},
		{often(nil), 2, 30},
		{often(map[string]int{"write": 12, "torn": 2}), 6, 1},
		{often(map[string]int{"write": 12, "cut": 4, "gc": 2}), 2, 2},
		{often(map[string]int{"write": 9, "tick": 4, "raise": 3, "gc": 4, "cut": 3}), 3, 12},
		{often(map[string]int{"write": 6, "roll": 5, "tick": 4, "at": 6, "times": 2}), 2, 4},
		{often(map[string]int{"write": 6, "trim": 5, "torn": 9, "cut": 6}), 1, 1},
		{often(map[string]int{"write": 15, "tick": 3, "torn": 5, "gc": 2, "raise": 1}), 6, 8},
		{often(map[string]int{"write": 8, "tick": 3, "at": 9, "read": 5, "cut": 4, "torn": 2}), 3, 9},
	}
}

func someWord(random *rand.Rand) string {
	signs := "abcxyz019-_,.:\t\r\x00\x7f\x80\xc3\xa9\xff"
	length := 1 + random.Intn(3)
	if random.Intn(6) == 0 {
		length = 14 + random.Intn(4)
	}
	word := ""
	for range length {
		at := random.Intn(len(signs))
		word += signs[at : at+1]
	}
	return word
}

// line makes a line for a drive that is as the model is.
func (p deskPlan) line(random *rand.Rand, m *deskModel) string {
	sector := random.Int63n(p.sectors)
	if random.Intn(20) == 0 {
		sector = []int64{6, 7, 999999999}[random.Intn(3)]
	}
	from := max(0, m.floor()-2)
	time := from + random.Int63n(m.d.Now+2-from)
	switch word := p.words[random.Intn(len(p.words))]; word {
	case "write", "torn":
		return fmt.Sprint(word, " ", sector, " ", someWord(random))
	case "trim", "read", "times":
		return fmt.Sprint(word, " ", sector)
	case "roll":
		return fmt.Sprint(word, " ", time)
	case "at":
		return fmt.Sprint(word, " ", sector, " ", time)
	case "tick":
		if random.Intn(30) == 0 {
			return fmt.Sprint("tick ", impl.MaxTime-m.d.Now+random.Int63n(2))
		}
		return fmt.Sprint("tick ", random.Int63n(p.tick+1))
	case "cut":
		return fmt.Sprint(word, " ", random.Intn(6))
	default:
		return word
	}
}

// behind makes further lines, up to a number in all.
func (p deskPlan) behind(random *rand.Rand, begin []string, count int) []string {
	m := newDeskModel()
	lines := slices.Clone(begin)
	for _, line := range begin {
		m.answer(line)
	}
	for len(lines) < count {
		line := p.line(random, m)
		lines = append(lines, line)
		m.answer(line)
	}
	return lines
}

// lines makes a number of lines.
func (p deskPlan) lines(random *rand.Rand, count int) []string {
	return p.behind(random, nil, count)
}

// Promises 13 and 14: the reference knows all that was ever written.
func TestManyTextsAnswerAsDocumented(t *testing.T) {
	random := rand.New(rand.NewSource(41))
	counts := map[string]int{}
	states := deskStates()
	names := slices.Sorted(maps.Keys(states))
	for i := range 120 {
		for _, plan := range deskPlans() {
			begin := states[names[i%len(names)]]
			lines := plan.behind(random, begin, impl.MaxDesk-random.Intn(2)*random.Intn(impl.MaxDesk-len(begin)))
			outputs := linesOf(wantDesk(t, text(lines...)).Text)
			for i, output := range outputs {
				word, _, _ := strings.Cut(lines[i], " ")
				if strings.HasPrefix(output, "error ") {
					word += " " + strings.TrimSuffix(output, "\n")
				}
				counts[word]++
			}
			if t.Failed() {
				return
			}
		}
	}
	// Each word succeeds often, and fails with each code that it can return.
	for _, word := range impl.DeskWords() {
		if counts[word] < 100 {
			t.Errorf("%s succeeded only %d times", word, counts[word])
		}
	}
	for _, word := range []string{
		"write error 1", "write error 9", "trim error 1", "trim error 9", "roll error 1", "roll error 9", "roll error 12", "tick error 1", "read error 1",
		"at error 1", "at error 12", "raise error 9", "raise error 10", "gc error 6", "gc error 9", "cut error 6", "cut error 9", "torn error 1", "torn error 9",
	} {
		if counts[word] < 10 {
			t.Errorf("%q was put out only %d times: %v", word, counts[word], counts)
		}
	}
}

// wantPrefixes requires that the output of the first lines is the beginning of the whole output, one line for each.
func wantPrefixes(t *testing.T, lines []string) {
	t.Helper()
	whole := linesOf(impl.DeskRun(text(lines...)).Text)
	if len(whole) != len(lines) {
		t.Fatalf("%d lines of output for %d lines", len(whole), len(lines))
	}
	for k := range len(lines) + 1 {
		want := impl.DeskOut{Text: strings.Join(whole[:k], "")}
		if got := impl.DeskRun(text(lines[:k]...)); got != want {
			t.Errorf("the first %d lines of %q:\ngot  %+v\nwant %+v", k, lines, got, want)
		}
	}
}

// Promise 13.
func TestFirstLinesOfATextPutOutTheSame(t *testing.T) {
	random := rand.New(rand.NewSource(42))
	for range 5 {
		for _, plan := range deskPlans() {
			wantPrefixes(t, plan.lines(random, impl.MaxDesk))
		}
	}
	for _, lines := range chosenDesks() {
		wantPrefixes(t, lines)
	}
}

// A rejected text puts nothing out, however many of its lines are right.
func TestTextsWithOneWrongLine(t *testing.T) {
	random := rand.New(rand.NewSource(43))
	for _, plan := range deskPlans() {
		lines := plan.lines(random, impl.MaxDesk)
		for at := range lines {
			for _, wrong := range []string{"", " ", "read", "read x", "read  1", "room 1", "Room", "stop"} {
				changed := slices.Clone(lines)
				changed[at] = wrong
				wantFault(t, "a wrong line", text(changed...), int64(at))
				// Of two the first one is told.
				changed[len(changed)-1] = "wrong"
				wantFault(t, "two wrong lines", text(changed...), int64(at))
			}
			wantFault(t, "a missing line feed", strings.TrimSuffix(text(lines[:at+1]...), "\n"), int64(at))
		}
	}
}

// Texts with a byte replaced, inserted or removed are mostly rejected; the others are executed as the reference does.
func TestTextsWithWrongBytes(t *testing.T) {
	random := rand.New(rand.NewSource(44))
	signs := []string{"", "", " ", "  ", "\n", "\t", "\r", "0", "1", "9", "-", "+", "a", "r", "W", "\x00", "\x80", "\xff", "é"}
	right := 0
	for range 80 {
		for _, plan := range deskPlans() {
			all := text(plan.lines(random, 1+random.Intn(8))...)
			for range 1 + random.Intn(2) {
				at := random.Intn(len(all))
				all = all[:at] + signs[random.Intn(len(signs))] + all[at+random.Intn(2):]
			}
			if wantDesk(t, all).Code == impl.OK {
				right++
			}
		}
	}
	if right < 80 || right > 500 {
		t.Errorf("%d of 720 texts were right", right)
	}
}

// Every short text of some signs.
func TestShortTexts(t *testing.T) {
	texts := []string{""}
	for range 5 {
		var longer []string
		for _, begin := range texts {
			wantDesk(t, begin)
			wantDesk(t, "tick"+begin)
			for _, sign := range []string{"gc", " ", "\n", "0", "2", "x"} {
				longer = append(longer, begin+sign)
			}
		}
		texts = longer
	}
}

// Promise 14, with outputs that are written out.

func TestOverwrittenDataIsReadAsItWas(t *testing.T) {
	wantOutput(t, "back and forward",
		[]string{"write 1 a", "write 2 x", "tick 5", "write 1 b", "trim 2", "tick 5", "roll 4", "read 1", "read 2", "at 1 9", "at 2 9", "at 1 4", "tick 5", "roll 9", "read 1", "read 2", "at 1 12", "at 2 12", "at 1 0", "times 1", "times 2", "times 0"},
		[]string{"ok", "ok", "now 5", "ok", "ok", "now 10", "ok", "a", "x", "b", "-", "a", "now 15", "ok", "b", "-", "a", "x", "a", "0,5,10,15", "0,5,10,15", "10,15"})
	wantOutput(t, "changed after rolling back",
		[]string{"write 0 a", "tick 1", "write 0 b", "tick 1", "roll 0", "tick 1", "write 0 c", "tick 1", "at 0 0", "at 0 1", "at 0 2", "at 0 3", "read 0", "roll 1", "read 0", "tick 1", "roll 3", "read 0"},
		[]string{"ok", "now 1", "ok", "now 2", "ok", "now 3", "ok", "now 4", "a", "b", "a", "c", "c", "ok", "b", "now 5", "ok", "c"})
}

// disturbances are lines that change no contents: torn pages, and collections that are interrupted or not.
func disturbances() [][]string {
	l := [][]string{{"torn 0 zz"}, {"torn 5 0123456789abcdef"}, {"torn 1 z", "torn 1 z"}, {"gc"}, {"gc", "gc"}, {"cut 1", "torn 0 z", "cut 1"}, {"cut 1", "cut 1", "cut 1", "cut 1"}, {"torn 2 z", "cut 2", "gc"}}
	for steps := range impl.PageCount + 2 {
		l = append(l, []string{"cut " + strconv.Itoa(steps)})
	}
	return l
}

// threeSectors are the contents of the first three sectors as they are put out.
type threeSectors [3]string

// wantThen reads the sectors at a time, and again after rolling back to it, behind lines with which they became as they are. Nothing is read if the time has a code.
func wantThen(t *testing.T, lines []string, at int, code string, was, are threeSectors) {
	t.Helper()
	for sector := range was {
		want := []string{was[sector], "ok", was[sector]}
		if code != "" {
			want = []string{code, code, are[sector]}
		}
		asked := with(lines, fmt.Sprint("at ", sector, " ", at), fmt.Sprint("roll ", at), fmt.Sprint("read ", sector))
		got := linesOf(wantDesk(t, text(asked...)).Text)[len(lines):]
		if !slices.Equal(got, linesOf(text(want...))) {
			t.Errorf("the last outputs of %q:\ngot  %q\nwant %q", asked, got, want)
		}
	}
}

func TestDataIsGoneWhenItsRetentionPeriodEnds(t *testing.T) {
	before, from5 := threeSectors{"a", "y", "-"}, threeSectors{"b", "-", "c"}
	for wait := range 41 {
		now := 5 + wait
		least, raised := 0, "error 10"
		if now > 20 {
			least, raised = now-20, fmt.Sprint("floor ", now-20)
		}
		lines := []string{"write 0 a", "write 1 x", "write 1 y", "tick 5", "write 0 b", "write 2 c", "trim 1", fmt.Sprint("tick ", wait), "raise"}
		if got := lastOutput(t, lines); got != raised {
			t.Errorf("raise at %d: %q, want %q", now, got, raised)
		}
		for _, at := range []int{0, 4, 5, 6, now} {
			was, code := from5, ""
			if at < 5 {
				was = before
			}
			if at > now {
				code = "error 1"
			} else if at < least {
				code = "error 12"
			}
			for _, between := range append(disturbances(), nil) {
				wantThen(t, with(lines, between...), at, code, was, from5)
			}
		}
	}
}

// chosenDesks are texts with few pages, so that disturbances leave room for all that is written.
func chosenDesks() [][]string {
	return [][]string{
		{"write 0 a", "write 0 b", "write 0 c", "write 1 d", "tick 3", "write 0 e", "trim 1", "write 2 f", "write 2 g", "tick 2", "roll 1", "tick 1", "times 0", "at 0 4", "at 2 4", "read 0", "roll 4", "read 0", "read 2", "at 0 5"},
		{"write 0 a", "tick 1", "write 0 b", "tick 1", "write 0 c", "tick 1", "write 0 d", "tick 25", "raise", "at 0 8", "at 0 7", "write 0 e", "read 0", "tick 20", "raise", "at 0 27", "at 0 28", "times 0"},
		{"write 5 a", "write 4 a", "write 3 a", "write 2 a", "write 1 a", "write 0 a", "tick 21", "write 5 b", "raise", "trim 4", "at 5 20", "at 5 21", "at 4 20", "at 4 0", "read 4", "roll 20", "read 4", "read 5", "times 4", "times 0"},
		{"roll 0", "tick 2", "roll 0", "write 3 x", "tick 2", "roll 1", "tick 2", "roll 2", "read 3", "at 3 2", "at 3 4", "tick 40", "raise", "read 3", "roll 26", "read 3", "times 3"},
	}
}

// wantUndisturbed requires that other lines than gc and room put out the same with a disturbance before one of them.
func wantUndisturbed(t *testing.T, lines, disturbance []string, at int) {
	t.Helper()
	quiet := linesOf(impl.DeskRun(text(lines...)).Text)
	outputs := linesOf(wantDesk(t, text(slices.Insert(slices.Clone(lines), at, disturbance...)...)).Text)
	if len(outputs) != len(lines)+len(disturbance) {
		t.Fatalf("%d lines of output", len(outputs))
	}
	outputs = slices.Delete(outputs, at, at+len(disturbance))
	if !slices.Equal(outputs, quiet) {
		t.Errorf("with %q before line %d of %q:\ngot  %q\nwant %q", disturbance, at, lines, outputs, quiet)
	}
}

func TestTornPagesAndInterruptedCollectionsChangeNothing(t *testing.T) {
	worked := map[string]int{}
	for _, lines := range chosenDesks() {
		for _, disturbance := range disturbances() {
			for at := range len(lines) + 1 {
				wantUndisturbed(t, lines, disturbance, at)
				worked[lastOutput(t, with(lines[:at], disturbance...))]++
			}
		}
	}
	if worked["ok"] < 100 {
		t.Errorf("the disturbances put out %v", worked)
	}
}

// All that is asked behind a collection that was interrupted after any number of steps, and then again.
func TestContentsBehindInterruptedCollections(t *testing.T) {
	lines := []string{"write 0 a", "write 1 b", "write 2 c", "write 0 d", "tick 1", "write 0 e", "trim 1"}
	asked := questions(2)
	quiet := behind(t, lines, asked)
	for first := range 6 {
		for second := range 6 {
			cut := with(lines, fmt.Sprint("cut ", first), "torn 3 z", fmt.Sprint("cut ", second))
			for i, got := range behind(t, cut, asked) {
				if !strings.HasPrefix(asked[i], "room") && got != quiet[i] {
					t.Errorf("%s behind %q: %q, want %q", asked[i], cut, got, quiet[i])
				}
			}
		}
	}
}

// Commands.

// questions are lines that change nothing, for the times up to a given one.
func questions(until int) []string {
	l := []string{"room", "tick 0"}
	for sector := range impl.MaxSectors {
		l = append(l, fmt.Sprint("read ", sector), fmt.Sprint("times ", sector))
		for at := range until + 1 {
			l = append(l, fmt.Sprint("at ", sector, " ", at))
		}
	}
	return l
}

// behind returns the outputs of lines that change nothing, in as many texts as they need.
func behind(t *testing.T, lines, asked []string) []string {
	t.Helper()
	var outputs []string
	for some := range slices.Chunk(asked, impl.MaxDesk-len(lines)) {
		got := linesOf(wantDesk(t, text(with(lines, some...)...)).Text)
		if len(got) != len(lines)+len(some) {
			t.Fatalf("%d lines of output for %q", len(got), with(lines, some...))
		}
		outputs = append(outputs, got[len(lines):]...)
	}
	return outputs
}

// deskStates are the beginnings of texts, after which the drive is as the name says.
func deskStates() map[string][]string {
	old := []string{"write 0 a", "write 1 b", "tick 5", "write 0 c", "tick 25", "raise"}
	// Twenty pages are used, and of the writes at one time only the last one is needed.
	full := append([]string{"tick 21"}, slices.Repeat([]string{"write 0 a"}, 20)...)
	needed := slices.Concat(
		writesAt("a", 0, 1, 2), []string{"torn 0 z"}, writesAt("a", 3, 4, 5), []string{"tick 1"},
		writesAt("b", 0, 1, 2, 3, 4, 5), []string{"tick 20"}, writesAt("c", 0, 1, 2, 3, 4, 5), []string{"tick 1"}, writesAt("d", 0))
	// The torn page takes the reserved block, whose other pages are then written.
	spent := with(needed, "torn 0 z", "write 1 d", "write 2 d", "write 3 d")
	return map[string][]string{
		"new":    nil,
		"old":    old,
		"full":   full,
		"needed": needed,
		"spent":  spent,
		"late":   {"write 0 a", "tick 1000000", "write 0 b"},
	}
}

// writesAt returns a line for each of some sectors.
func writesAt(data string, sectors ...int) []string {
	var lines []string
	for _, sector := range sectors {
		lines = append(lines, fmt.Sprint("write ", sector, " ", data))
	}
	return lines
}

// deskCase is a line behind one of the states, and its output.
type deskCase struct {
	state, line, want string
}

func deskSuccesses() []deskCase {
	return []deskCase{
		{"new", "write 0 a", "ok"}, {"old", "write 5 0123456789abcdef", "ok"}, {"late", "write 3 -", "ok"},
		{"new", "trim 0", "ok"}, {"old", "trim 5", "ok"}, {"late", "trim 3", "ok"},
		{"new", "roll 0", "ok"}, {"old", "roll 10", "ok"}, {"old", "roll 30", "ok"}, {"late", "roll 1000000", "ok"}, {"late", "roll 0", "ok"},
		{"new", "tick 0", "now 0"}, {"new", "tick 1", "now 1"}, {"new", "tick 1000000", "now 1000000"}, {"old", "tick 12", "now 42"}, {"old", "tick 999970", "now 1000000"}, {"late", "tick 0", "now 1000000"},
		{"new", "read 0", "-"}, {"old", "read 0", "c"}, {"old", "read 1", "b"}, {"old", "read 5", "-"}, {"late", "read 0", "b"}, {"spent", "read 0", "d"}, {"spent", "read 5", "c"},
		{"new", "at 0 0", "-"}, {"old", "at 0 10", "c"}, {"old", "at 1 30", "b"}, {"old", "at 2 20", "-"}, {"late", "at 0 0", "a"}, {"late", "at 0 999999", "a"}, {"late", "at 0 1000000", "b"}, {"needed", "at 5 0", "a"}, {"needed", "at 5 1", "b"}, {"needed", "at 5 20", "b"}, {"needed", "at 5 21", "c"},
		{"new", "times 0", "-"}, {"new", "times 6", "-"}, {"old", "times 0", "-"}, {"old", "times 1", "-"}, {"late", "times 0", "0,1000000"}, {"late", "times 1", "-"}, {"late", "times 999999999", "-"}, {"needed", "times 0", "0,1,21,22"}, {"needed", "times 5", "0,1,21"}, {"spent", "times 3", "0,1,21,22"}, {"full", "times 0", "21"}, {"full", "times 6", "-"},
		{"late", "raise", "floor 999980"},
		{"old", "gc", "room 21"}, {"old", "cut 1", "ok"}, {"full", "gc", "room 8"}, {"full", "cut 0", "ok"}, {"full", "cut 1", "ok"}, {"full", "cut 2", "ok"}, {"full", "cut 999999999", "ok"}, {"needed", "gc", "room 5"}, {"needed", "cut 0", "ok"}, {"needed", "cut 1", "ok"}, {"needed", "cut 3", "ok"}, {"needed", "cut 4", "ok"}, {"spent", "cut 0", "ok"},
		{"new", "torn 0 a", "ok"}, {"old", "torn 5 0123456789abcdef", "ok"}, {"full", "torn 0 a", "ok"}, {"needed", "torn 0 a", "ok"}, {"late", "torn 0 read", "ok"},
		{"new", "room", "24 6"}, {"old", "room", "20 5"}, {"full", "room", "4 1"}, {"needed", "room", "4 1"}, {"spent", "room", "0 0"}, {"late", "room", "22 5"},
	}
}

func deskFailures() []deskCase {
	return []deskCase{
		{"new", "write 6 a", "error 1"}, {"new", "write 999999999 a", "error 1"}, {"old", "write 0 0123456789abcdefg", "error 1"}, {"full", "write 0 a", "error 9"}, {"needed", "write 0 a", "error 9"}, {"spent", "write 5 a", "error 9"}, {"full", "write 6 a", "error 1"}, {"spent", "write 0 0123456789abcdefg", "error 1"},
		{"new", "trim 6", "error 1"}, {"old", "trim 999999999", "error 1"}, {"full", "trim 0", "error 9"}, {"spent", "trim 5", "error 9"}, {"full", "trim 6", "error 1"},
		{"new", "roll 1", "error 1"}, {"old", "roll 31", "error 1"}, {"old", "roll 999999999", "error 1"}, {"old", "roll 9", "error 12"}, {"old", "roll 0", "error 12"}, {"full", "roll 21", "error 9"}, {"full", "roll 22", "error 1"}, {"spent", "roll 0", "error 9"}, {"late", "roll 1000001", "error 1"},
		{"new", "tick 1000001", "error 1"}, {"old", "tick 999971", "error 1"}, {"old", "tick 999999999", "error 1"}, {"late", "tick 1", "error 1"}, {"late", "tick 1000000", "error 1"},
		{"new", "read 6", "error 1"}, {"old", "read 999999999", "error 1"}, {"spent", "read 7", "error 1"},
		{"new", "at 0 1", "error 1"}, {"new", "at 6 0", "error 1"}, {"old", "at 0 31", "error 1"}, {"old", "at 0 9", "error 12"}, {"old", "at 0 0", "error 12"}, {"old", "at 6 9", "error 1"}, {"old", "at 999999999 999999999", "error 1"}, {"late", "at 0 1000001", "error 1"},
		{"new", "raise", "error 10"}, {"old", "raise", "error 10"}, {"full", "raise", "error 9"}, {"needed", "raise", "error 9"}, {"spent", "raise", "error 9"},
		{"new", "gc", "error 6"}, {"late", "gc", "error 6"}, {"spent", "gc", "error 9"},
		{"new", "cut 0", "error 6"}, {"new", "cut 9", "error 6"}, {"late", "cut 1", "error 6"}, {"spent", "cut 1", "error 9"}, {"spent", "cut 4", "error 9"}, {"spent", "cut 999999999", "error 9"},
		{"new", "torn 6 a", "error 1"}, {"old", "torn 999999999 a", "error 1"}, {"new", "torn 0 0123456789abcdefg", "error 1"}, {"spent", "torn 0 a", "error 9"}, {"spent", "torn 6 a", "error 1"}, {"spent", "torn 0 0123456789abcdefg", "error 1"},
	}
}

func TestOutputOfEachCommand(t *testing.T) {
	states := deskStates()
	worked, refused := map[string]bool{}, map[string]bool{}
	for _, c := range deskSuccesses() {
		word, _, _ := strings.Cut(c.line, " ")
		worked[word] = true
		if got := lastOutput(t, with(states[c.state], c.line)); got != c.want {
			t.Errorf("%s behind %s: %q, want %q", c.line, c.state, got, c.want)
		}
	}
	for _, c := range deskFailures() {
		word, _, _ := strings.Cut(c.line, " ")
		refused[word] = true
		if got := lastOutput(t, with(states[c.state], c.line)); got != c.want {
			t.Errorf("%s behind %s: %q, want %q", c.line, c.state, got, c.want)
		}
	}
	// Nothing that times and room ask for has a code.
	if len(worked) != 12 || len(refused) != 10 || refused["times"] || refused["room"] {
		t.Errorf("worked: %v, refused: %v", worked, refused)
	}
}

func TestDriveIsUnchangedBehindAnError(t *testing.T) {
	states := deskStates()
	asked := with(questions(32), "at 0 999999", "at 0 1000000", "at 0 1000001")
	for _, c := range deskFailures() {
		before := behind(t, states[c.state], asked)
		for i, got := range behind(t, with(states[c.state], c.line), asked) {
			if got != before[i] {
				t.Errorf("%s behind %s: %s is %q instead of %q", c.line, c.state, asked[i], got, before[i])
			}
		}
		// What is done next is done to the same chip.
		for _, next := range []string{"write 2 z", "trim 0", "roll 20", "tick 3", "raise", "gc", "cut 1", "torn 1 z"} {
			for _, question := range []string{"room", "read 0", "tick 0"} {
				without := lastOutput(t, with(states[c.state], next, question))
				if got := lastOutput(t, with(states[c.state], c.line, next, question)); got != without {
					t.Errorf("%s behind %s: %s and %s is %q instead of %q", c.line, c.state, next, question, got, without)
				}
			}
		}
	}
}

// Lines that ask change nothing either.
func TestQuestionsChangeNothing(t *testing.T) {
	for name, lines := range deskStates() {
		room := lastOutput(t, with(lines, "room"))
		for _, question := range questions(3) {
			if got := lastOutput(t, with(lines, question, "room")); got != room {
				t.Errorf("%s behind %s: %q instead of %q", question, name, got, room)
			}
			if first, second := lastOutput(t, with(lines, question)), lastOutput(t, with(lines, question, question)); first != second {
				t.Errorf("%s behind %s: first %q, then %q", question, name, first, second)
			}
		}
	}
}

// Collections with every number of steps, by the number of records that have to be moved.
func TestGcAndCut(t *testing.T) {
	for load := range impl.PageCount {
		var lines []string
		for sector := range load {
			lines = append(lines, fmt.Sprint("write ", sector+1, " x"))
		}
		// Of the writes of sector 0 only the last one is needed, which is in the next block.
		for range impl.PageCount - load + 1 {
			lines = append(lines, "write 0 y")
		}
		wantRoom := func(what string, more []string, room, free int) {
			t.Helper()
			if got, want := lastOutput(t, with(lines, with(more, "room")...)), fmt.Sprint(room, " ", free); got != want {
				t.Errorf("a load of %d, %s: room %q, want %q", load, what, got, want)
			}
		}
		wantRoom("nothing", nil, 19, 4)
		if got, want := lastOutput(t, with(lines, "gc")), fmt.Sprint("room ", 23-load); got != want {
			t.Errorf("a load of %d: gc is %q, want %q", load, got, want)
		}
		wantRoom("gc", []string{"gc"}, 23-load, 5)
		for steps := range 8 {
			cut := fmt.Sprint("cut ", steps)
			if steps <= load {
				wantRoom(cut, []string{cut}, 19-steps, 4)
			} else {
				wantRoom(cut, []string{cut}, 23-load, 5)
			}
			if got := lastOutput(t, with(lines, cut)); got != "ok" {
				t.Errorf("a load of %d: %s is %q", load, cut, got)
			}
			// What was interrupted is completed, and no page is written twice for that.
			if steps <= load {
				wantRoom(cut+" and gc", []string{cut, "gc"}, 23-load, 5)
			}
		}
	}
	wantOutput(t, "all are needed", []string{"write 0 a", "write 1 a", "write 2 a", "write 3 a", "gc", "cut 1", "cut 0", "room"}, []string{"ok", "ok", "ok", "ok", "error 6", "error 6", "error 6", "20 5"})
	wantOutput(t, "not full yet", []string{"write 0 a", "write 0 a", "write 0 a", "gc", "cut 9", "write 0 a", "gc", "gc", "room"}, []string{"ok", "ok", "ok", "error 6", "error 6", "ok", "room 23", "error 6", "23 5"})
	wantOutput(t, "torn pages only", []string{"torn 0 a", "torn 0 a", "torn 0 a", "torn 0 a", "room", "gc", "room"}, []string{"ok", "ok", "ok", "ok", "20 5", "room 24", "24 6"})
}

// What is retained cannot be collected until the floor is raised.
func TestCollectingWhatIsRetained(t *testing.T) {
	var lines, outputs []string
	for i := range 8 {
		lines = append(lines, fmt.Sprint("write 0 v", i), "tick 1")
		outputs = append(outputs, "ok", fmt.Sprint("now ", i+1))
	}
	wantOutput(t, "retained", with(lines, "gc", "raise", "tick 19", "raise", "at 0 7", "at 0 6", "gc", "gc", "gc", "at 0 7", "read 0", "times 0", "room"),
		with(outputs, "error 6", "error 10", "now 27", "floor 7", "v7", "error 12", "room 19", "room 22", "error 6", "v7", "v7", "7", "22 5"))
}

func TestTimesOfSectors(t *testing.T) {
	wantOutput(t, "several",
		[]string{"times 0", "write 0 a", "write 0 b", "trim 0", "times 0", "tick 7", "times 0", "trim 1", "times 1", "tick 3", "roll 0", "tick 100", "write 1 c", "times 0", "times 1", "times 2", "times 5", "times 6", "raise", "times 0", "times 1", "torn 1 d", "times 1", "cut 3", "times 1"},
		[]string{"-", "ok", "ok", "ok", "0", "now 7", "0", "ok", "7", "now 10", "ok", "now 110", "ok", "0,10", "7,10,110", "10", "10", "-", "floor 90", "-", "110", "ok", "110", "ok", "110"})
}

func TestRoomBehindEachCommand(t *testing.T) {
	lines := []string{"write 0 a", "trim 0", "roll 0", "tick 30", "read 0", "at 0 0", "times 0", "raise", "cut 1", "gc", "torn 0 z", "room"}
	rooms := []string{"23 5", "22 5", "21 5", "21 5", "21 5", "21 5", "21 5", "20 5", "19 4", "21 5", "20 5", "20 5"}
	for i, want := range rooms {
		if got := lastOutput(t, with(lines[:i+1], "room")); got != want {
			t.Errorf("room behind %q: %q, want %q", lines[:i+1], got, want)
		}
	}
}

func TestClockOfTheDesk(t *testing.T) {
	wantOutput(t, "up to MaxTime",
		[]string{"tick 0", "tick 999999", "tick 2", "tick 1", "tick 0", "tick 1", "write 0 a", "at 0 1000000", "at 0 1000001", "roll 1000000", "roll 1000001", "raise", "at 0 999980", "at 0 999979", "raise"},
		[]string{"now 0", "now 999999", "error 1", "now 1000000", "now 1000000", "error 1", "ok", "a", "error 1", "ok", "error 1", "floor 999980", "-", "error 12", "error 10"})
	wantOutput(t, "the retention period",
		[]string{"raise", "tick 20", "raise", "tick 1", "raise", "raise", "tick 1", "raise", "at 0 1", "at 0 2", "roll 1", "roll 2", "roll 22", "roll 23"},
		[]string{"error 10", "now 20", "error 10", "now 21", "floor 1", "error 10", "now 22", "floor 2", "error 12", "-", "error 12", "ok", "ok", "error 1"})
}

// Syntax.

func TestLinesOfTexts(t *testing.T) {
	rooms := func(count int) string { return strings.Repeat("room\n", count) }
	for what, c := range map[string]struct {
		text string
		line int64 // or -1
	}{
		"an empty text":                       {"", -1},
		"one line":                            {"room\n", -1},
		"MaxDesk lines":                       {rooms(40), -1},
		"one more":                            {rooms(41), 40},
		"many more":                           {rooms(100), 40},
		"an empty line":                       {"\n", 0},
		"an empty line first":                 {"\nroom\n", 0},
		"an empty line last":                  {"room\n\n", 1},
		"an empty line between":               {"room\n\nroom\n", 1},
		"MaxDesk lines and an empty one":      {rooms(40) + "\n", 40},
		"no line feed":                        {"room", 0},
		"no line feed behind others":          {rooms(3) + "room", 3},
		"no line feed behind the last one":    {rooms(39) + "room", 39},
		"no line feed behind one more":        {rooms(40) + "room", 40},
		"malformed ahead of one too many":     {rooms(7) + "rooms\n" + rooms(40), 7},
		"the last one is malformed":           {rooms(39) + "rooms\n" + rooms(5), 39},
		"malformed and one too many":          {rooms(40) + "rooms\n", 40},
		"malformed behind one too many":       {rooms(41) + "rooms\n", 40},
		"malformed ahead of a missing feed":   {"room\nroom 1\nroom\nroom", 1},
		"malformed and without a feed":        {"room\nroom 1", 1},
		"a space only":                        {" \n", 0},
		"a space":                             {" ", 0},
		"a space at the beginning":            {" room\n", 0},
		"a space at the end":                  {"room \n", 0},
		"a space at the end of a number":      {"read 1 \n", 0},
		"a space at the end of two numbers":   {"at 1 0 \n", 0},
		"a space at the end of a TEXT":        {"write 1 a \n", 0},
		"two spaces":                          {"read  1\n", 0},
		"two spaces before a TEXT":            {"write 1  a\n", 0},
		"two spaces between numbers":          {"at 1  1\n", 0},
		"a space for a TEXT":                  {"write 1 \n", 0},
		"a space for a number":                {"write  a\n", 0},
		"a TEXT of two words":                 {"write 1 a b\n", 0},
		"an unknown word":                     {"format\n", 0},
		"an unknown word with a number":       {"format 6\n", 0},
		"a number":                            {"1\n", 0},
		"the beginning of a word":             {"ro\n", 0},
		"a longer word":                       {"rooms\n", 0},
		"a word with a number in it":          {"read1\n", 0},
		"two commands":                        {"room room\n", 0},
		"a capital letter":                    {"Room\n", 0},
		"capital letters":                     {"READ 1\n", 0},
		"a capital letter behind others":      {"room\nwRite 1 a\n", 1},
		"a tab":                               {"read\t1\n", 0},
		"a tab at the end":                    {"room\t\n", 0},
		"a tab at the beginning":              {"\troom\n", 0},
		"a tab behind a number":               {"read 1\t\n", 0},
		"a tab in a TEXT":                     {"write 1 a\tb\n", -1},
		"a tab as a TEXT":                     {"write 1 \t\n", -1},
		"a carriage return":                   {"room\r\n", 0},
		"a carriage return behind a number":   {"read 1\r\n", 0},
		"a carriage return in a TEXT":         {"write 1 a\r\n", -1},
		"a carriage return instead of a feed": {"room\rroom\n", 0},
		"a form feed instead of a line feed":  {"room\froom\n", 0},
		"a byte of 128":                       {"room\x80\n", 0},
		"a byte of 255":                       {"\xffroom\n", 0},
		"a byte of 128 behind a number":       {"read 1\x80\n", 0},
		"bytes of 128 and above in a TEXT":    {"write 1 \x80\xff\n", -1},
		"a no-break space":                    {"read\u00a01\n", 0},
		"a line separator":                    {"room\u2028room\n", 0},
		"a zero byte":                         {"room\x00\n", 0},
		"a zero byte in a TEXT":               {"torn 1 \x00\n", -1},
		"a mark before the text":              {"\ufeffroom\n", 0},
	} {
		if c.line >= 0 {
			wantFault(t, what, c.text, c.line)
		} else if got := wantDesk(t, c.text); got.Code != impl.OK || got.Line != 0 {
			t.Errorf("%s: %+v", what, got)
		}
	}
	wantOutput(t, "no lines", nil, nil)
	wantOutput(t, "MaxDesk lines", slices.Repeat([]string{"room"}, 40), slices.Repeat([]string{"24 6"}, 40))
	wantOutput(t, "a TEXT of any bytes", []string{"write 1 \t\r\x00\x80\xff", "read 1", "write 1 \xc3\xa9", "at 1 0"}, []string{"ok", "\t\r\x00\x80\xff", "ok", "\xc3\xa9"})
}

// rightLines has a right line for each command.
func rightLines() []string {
	return []string{"write 1 a", "trim 1", "roll 0", "tick 2", "read 1", "at 1 0", "times 1", "raise", "gc", "cut 2", "torn 1 a", "room"}
}

func TestWordsTooFewAndTooMany(t *testing.T) {
	for _, line := range rightLines() {
		if got := wantDesk(t, line+"\n"); got.Code != impl.OK || got.Text == "" {
			t.Errorf("%s: %+v", line, got)
		}
		words := strings.Split(line, " ")
		for count := range len(words) {
			wantFault(t, "words too few", text("room", strings.Join(words[:count], " ")), 1)
		}
		for _, more := range []string{"1", "a", "0 0", "room", "-", "\t", "\r"} {
			wantFault(t, "a word too many", text(line+" "+more, "room"), 0)
			wantFault(t, "a word too many before it", text("gc", "gc", more+" "+line), 2)
		}
		wantFault(t, "a capital letter", text(strings.ToUpper(line[:1])+line[1:]), 0)
		wantFault(t, "a last capital letter", text(words[0][:len(words[0])-1]+strings.ToUpper(words[0][len(words[0])-1:])+line[len(words[0]):]), 0)
		wantFault(t, "a letter too many", text(words[0]+"s"+line[len(words[0]):]), 0)
		wantFault(t, "a letter too few", text(line[1:]), 0)
		for i := range len(line) + 1 {
			if i == len(line) || i == 0 || line[i] == ' ' {
				wantFault(t, "a space too many", text(line[:i]+" "+line[i:]), 0)
			}
			if i < len(line) && line[i] == ' ' {
				wantFault(t, "a tab for a space", text(line[:i]+"\t"+line[i+1:]), 0)
				wantFault(t, "no space", text(line[:i]+line[i+1:]), 0)
			}
		}
	}
}

// numberPlaces are lines with an N each, which stands for a number.
func numberPlaces() []string {
	return []string{"write N a", "trim N", "roll N", "tick N", "read N", "at N 0", "at 0 N", "at N N", "times N", "cut N", "torn N a"}
}

func TestNumbersOfLines(t *testing.T) {
	right := []string{"0", "1", "5", "6", "9", "10", "19", "100", "1000000", "1000001", "99999999", "100000000", "123456789", "999999999"}
	wrong := []string{"00", "01", "000000000", "000000001", "0000000000", "0000000001", "1000000000", "1234567890", "9999999999", "4294967296", "18446744073709551616", "18446744073709551617",
		"-0", "-1", "+0", "+1", "a", "a1", "1a", "1a1", "x", "N", "0x1", "1e3", "1.0", "1.", ".5", "1_0", "1,0", "1/", "1:", "/", ":", "'1'", "\u0661", "\uff11", "1\t", "\t1", "1\r", "1\x00", "\xb1", "1\x80", "\xff"}
	for _, line := range numberPlaces() {
		for _, number := range right {
			got := wantDesk(t, text(strings.ReplaceAll(line, "N", number)))
			if got.Code != impl.OK {
				t.Errorf("%s with %s: %+v", line, number, got)
			}
		}
		for _, number := range wrong {
			wantFault(t, "no number", text("room", strings.ReplaceAll(line, "N", number)), 1)
		}
		wantFault(t, "an empty number", text(strings.ReplaceAll(line, "N", "")), 0)
	}
	// A number of nine digits is greater than every sector and time.
	for line, want := range map[string]string{"write N a": "error 1", "trim N": "error 1", "roll N": "error 1", "tick N": "error 1", "read N": "error 1", "at N 0": "error 1", "at 0 N": "error 1", "times N": "-", "cut N": "error 6", "torn N a": "error 1"} {
		for _, number := range []string{"1000001", "100000000", "999999999"} {
			if got := lastOutput(t, []string{strings.ReplaceAll(line, "N", number)}); got != want {
				t.Errorf("%s with %s: %q, want %q", line, number, got, want)
			}
		}
	}
	// All digits count, and in their order.
	for _, number := range []string{"10", "12", "21", "120", "1203", "98765", "100001", "987654"} {
		wantOutput(t, "the digits", []string{"tick " + number, "write 0 a", "times 0", "roll " + number, "at 0 " + number}, []string{"now " + number, "ok", number, "ok", "a"})
	}
}

func TestTextsOfLines(t *testing.T) {
	for _, word := range []string{"a", "-", "0", "00", "007", "1234567890", "+1", "ab", "write", "read", "room", "ok", "error", "tick", ",", "A", "0123456789abcde", "0123456789abcdef", "\x80", "\xff\xfe", "é", "\t", strings.Repeat("é", 8)} {
		wantOutput(t, "a TEXT", []string{"torn 2 " + word, "read 2", "times 2", "write 2 " + word, "read 2", "at 2 0", "room"}, []string{"ok", "-", "-", "ok", word, word, "22 5"})
	}
	for _, word := range []string{"0123456789abcdefg", strings.Repeat("é", 9), strings.Repeat("write", 4), strings.Repeat("x", 100), strings.Repeat("x", 3000)} {
		wantOutput(t, "too long", []string{"write 2 " + word, "torn 2 " + word, "read 2", "room"}, []string{"error 1", "error 1", "-", "24 6"})
	}
}

// A torn page takes the place of a record, also in the reserved block, but is none.
func TestTornPagesOfTheDesk(t *testing.T) {
	full := deskStates()["full"]
	wantTail := func(what string, lines []string, outputs ...string) {
		t.Helper()
		got := linesOf(wantDesk(t, text(lines...)).Text)
		if want := linesOf(text(outputs...)); len(got) < len(want) || !slices.Equal(got[len(got)-len(want):], want) {
			t.Errorf("%s: %q, want %q", what, got, want)
		}
	}
	wantTail("the reserved block", with(full, "write 0 b", "torn 0 b", "write 1 b", "torn 6 b", "torn 1 b", "torn 2 b", "room", "torn 3 b", "torn 6 b", "torn 0 0123456789abcdefg", "room", "read 0", "read 1"),
		"error 9", "ok", "ok", "error 1", "ok", "ok", "0 0", "error 9", "error 1", "error 1", "0 0", "a", "b")
	all := slices.Repeat([]string{"torn 0 z"}, 24)
	wantTail("torn pages only", with(all, "room", "torn 0 z", "read 0", "times 0", "write 0 a", "gc", "write 0 a", "torn 0 z", "read 0", "room"),
		"0 0", "error 9", "-", "-", "error 9", "room 4", "error 9", "ok", "-", "3 0")
	// The record that is written next has the Seq that the torn one would have had.
	wantOutput(t, "between writes", []string{"write 0 a", "torn 0 b", "tick 1", "write 0 c", "torn 0 d", "at 0 0", "read 0", "times 0", "room"}, []string{"ok", "ok", "now 1", "ok", "ok", "a", "c", "0,1", "20 5"})
}

func TestSizesOfTexts(t *testing.T) {
	long := func(size int) string { return "write 1 " + strings.Repeat("x", size-9) + "\n" }
	for _, size := range []int{100, impl.MaxBytes - 1, impl.MaxBytes} {
		if got := wantDesk(t, long(size)); got != (impl.DeskOut{Text: "error 1\n"}) {
			t.Errorf("%d bytes: %+v", size, got)
		}
		wantFault(t, "no line feed", "room\n"+strings.Repeat("x", size-5), 1)
		wantFault(t, "line feeds", strings.Repeat("\n", size), 0)
	}
	for _, size := range []int{impl.MaxBytes + 1, 2 * impl.MaxBytes, 100000} {
		for what, all := range map[string]string{
			"right":          long(size),
			"no line feed":   "room\n" + strings.Repeat("x", size-5),
			"line feeds":     strings.Repeat("\n", size),
			"too many lines": strings.Repeat("room\n", size/5+1),
			"zero bytes":     string(make([]byte, size)),
		} {
			if got := wantDesk(t, all); got != (impl.DeskOut{Code: impl.ErrSize}) {
				t.Errorf("%s of %d bytes: %+v", what, size, got)
			}
		}
	}
}

// DeskWords.

func TestDeskWords(t *testing.T) {
	want := []string{"at", "cut", "gc", "raise", "read", "roll", "room", "tick", "times", "torn", "trim", "write"}
	words := impl.DeskWords()
	if !slices.Equal(words, want) {
		t.Errorf("DeskWords = %q", words)
	}
	spoil(words, "wrong")
	if again := impl.DeskWords(); !slices.Equal(again, want) {
		t.Errorf("after a change of an earlier answer DeskWords = %q", again)
	}
	wantOutput(t, "after a change of the words", []string{"room", "at 0 0"}, []string{"24 6", "-"})
	for _, line := range rightLines() {
		word, _, _ := strings.Cut(line, " ")
		if !slices.Contains(want, word) || impl.DeskFault(line+"\n").Code != impl.OK {
			t.Errorf("no line can begin with %q", word)
		}
	}
}

// Nothing is kept from one text for another one.
func TestTextsOfTheDeskAreIndependent(t *testing.T) {
	random := rand.New(rand.NewSource(45))
	for _, plan := range deskPlans() {
		all := text(plan.lines(random, impl.MaxDesk)...)
		wantRepeatable(t, func() []any {
			return []any{impl.DeskRun(all), impl.DeskFault(all), impl.DeskRun(all + "x"), impl.DeskFault(all + "x"), impl.DeskWords()}
		})
		wantOutput(t, "a new drive", []string{"room", "tick 0", "read 0"}, []string{"24 6", "now 0", "-"})
	}
}
