package tests

import (
	"fmt"
	"math/rand"
	"regexp"
	"runtime"
	"slices"
	"strconv"
	"strings"
	"sync"
	"testing"

	"loop.example/g00066/impl"
)

// The face of the chapter, held as it was given.
var (
	_ func(text string) string      = impl.Bench
	_ [impl.MaxLines - 200]struct{} = [0]struct{}{}
)

const (
	mostBenchLines = 200
	greatestRead   = 999999999
)

// The lines that there are, each as one form: a number is what the conventions read as one.
var benchForms = []*regexp.Regexp{
	regexp.MustCompile(strings.ReplaceAll(`\A(insert|over) # # # #\z`, "#", benchNumber)),
	regexp.MustCompile(strings.ReplaceAll(`\A(extract|lift|roll|slip|slide|ripple) # #\z`, "#", benchNumber)),
	regexp.MustCompile(strings.ReplaceAll(`\A(at) #\z`, "#", benchNumber)),
	regexp.MustCompile(`\A(undo|show|changes|sum)\z`),
}

const benchNumber = `(0|-?[1-9][0-9]{0,8})`

// benchLine is a line that is one: its word and its numbers.
type benchLine struct {
	word string
	told numbers
}

func readBenchLine(line string) (benchLine, bool) {
	for _, form := range benchForms {
		if found := form.FindStringSubmatch(line); found != nil {
			out := benchLine{word: found[1]}
			for _, word := range found[2:] {
				n := int64(0)
				fmt.Sscan(word, &n)
				out.told = append(out.told, n)
			}
			return out, true
		}
	}
	return benchLine{}, false
}

// editOf is the edit of the cut that a line names; it is told what the line tells.
func (l benchLine) editOf() (e cutEdit, at, n int64, c impl.Clip, ok bool) {
	names := map[string]string{"insert": "Insert", "over": "Overwrite", "extract": "Extract", "lift": "Lift", "roll": "Roll", "slip": "Slip", "slide": "Slide", "ripple": "Ripple"}
	name, ok := names[l.word]
	if !ok {
		return cutEdit{}, 0, 0, impl.Clip{}, false
	}
	e = editNamed(name)
	if e.hasClip {
		return e, l.told[0], 0, clip(l.told[1], l.told[2], l.told[3]), true
	}
	return e, l.told[0], l.told[1], impl.Clip{}, true
}

// benchTeller is where what a line answers is taken from.
type benchTeller struct {
	edit    func(e cutEdit, list track, at, n int64, c impl.Clip) (track, bool)
	seen    func(list track, at int64) picture
	changes func(list track) changes
}

// The chapters' own functions, for tracks of any length.
var benchByChapters = benchTeller{
	edit:    func(e cutEdit, list track, at, n int64, c impl.Clip) (track, bool) { return e.do(list, at, n, c) },
	seen:    frameAt,
	changes: func(list track) changes { return impl.Changes(nil, list) },
}

// The frames one by one, for short tracks.
var benchByPictures = benchTeller{
	edit: func(e cutEdit, list track, at, n int64, c impl.Clip) (track, bool) {
		seen, ok := e.words(list, at, n, c)
		made := clipsOf(seen)
		return made, ok && trackByWords(made)
	},
	seen: func(list track, at int64) picture {
		if seen := picturesOf(list...); at >= 0 && at < int64(len(seen)) {
			return seen[at]
		}
		return picture{-1, -1}
	},
	changes: func(list track) changes { return changesByWords(nil, list) },
}

// trackBehind does all edits over again from the beginning.
func (b benchTeller) trackBehind(done []benchLine) (track, bool) {
	list := track{}
	for _, line := range done {
		e, at, n, c, _ := line.editOf()
		made, ok := b.edit(e, list, at, n, c)
		if !ok {
			return nil, false
		}
		list = made
	}
	return list, true
}

func shownByWords(list track) string {
	out := ""
	for _, c := range list {
		out += fmt.Sprintf(" %d:%d+%d", c.Src, c.In, c.Len)
	}
	return strings.TrimPrefix(out, " ")
}

// ask answers a line that is no edit and no undo.
func (b benchTeller) ask(line benchLine, list track) string {
	switch line.word {
	case "at":
		if p := b.seen(list, line.told[0]); p.src >= 0 {
			return fmt.Sprintf("ok %d %d", p.src, p.frame)
		}
		return "error 4"
	case "show":
		return strings.TrimSpace("ok " + shownByWords(list))
	case "changes":
		all, frames := b.changes(list), int64(0)
		for _, c := range all {
			if c.Kind == 3 {
				frames += c.Len
			}
		}
		return fmt.Sprintf("ok %d %d", len(all), frames)
	}
	return fmt.Sprintf("ok %d", digestByWords([]byte(shownByWords(list))))
}

// answers keeps no track but the edits that were done: what it has is worked out from the beginning each time one is taken back.
func (b benchTeller) answers(lines []string) []string {
	out, done, list := []string{}, []benchLine{}, track{}
	for _, text := range lines {
		line, ok := readBenchLine(text)
		_, _, _, _, edits := line.editOf()
		answer := ""
		switch {
		case text == "":
			continue
		case !ok:
			answer = "error 1"
		case line.word == "undo" && len(done) == 0:
			answer = "error 3"
		case line.word == "undo":
			done = done[:len(done)-1]
			list, _ = b.trackBehind(done)
			answer = fmt.Sprintf("ok %d", lengthByWords(list))
		case edits:
			e, at, n, c, _ := line.editOf()
			if made, ok := b.edit(e, list, at, n, c); ok {
				list, done = made, append(done, line)
				answer = fmt.Sprintf("ok %d", lengthByWords(list))
			} else {
				answer = "error 2"
			}
		default:
			answer = b.ask(line, list)
		}
		out = append(out, answer)
	}
	return out
}

func benchLines(text string) []string {
	lines := strings.Split(text, "\n")
	if lines[len(lines)-1] == "" {
		lines = lines[:len(lines)-1]
	}
	return lines
}

// withEnds puts a newline behind each line.
func withEnds(lines []string) string {
	out := ""
	for _, line := range lines {
		out += line + "\n"
	}
	return out
}

func (b benchTeller) tell(text string) string {
	lines := benchLines(text)
	if len(text) > mostText || len(lines) > mostBenchLines {
		return ""
	}
	return withEnds(b.answers(lines))
}

// checkBenchIs asks twice; a text cannot be written into, but the answers may lie in its memory, or in each other's.
func checkBenchIs(t *testing.T, text, want string) {
	t.Helper()
	given := strings.Clone(text)
	got, again := impl.Bench(given), impl.Bench(given)
	if got != want || again != want {
		t.Fatalf("Bench of %s:\n%s\nthen\n%s\nwant\n%s", shortText(text), shortText(got), shortText(again), shortText(want))
	}
	if given != text || shareBytes(got, given) || shareBytes(again, given) || shareBytes(got, again) {
		t.Fatalf("Bench of %s: an answer lies in the memory of the text or of another one", shortText(text))
	}
}

func checkBench(t *testing.T, b benchTeller, text string) {
	t.Helper()
	checkBenchIs(t, text, b.tell(text))
	checkAnswered(t, text)
}

// checkAnswered holds of any text that there is an answer for each line with a byte, of one of the forms that there are.
func checkAnswered(t *testing.T, text string) {
	t.Helper()
	answers, lines := impl.Bench(text), benchLines(text)
	if len(text) > mostText || len(lines) > mostBenchLines {
		return
	}
	full := slices.DeleteFunc(lines, func(line string) bool { return line == "" })
	told := benchLines(answers)
	if len(told) != len(full) || answers != withEnds(told) {
		t.Fatalf("Bench of %s: %d answers for %d lines: %s", shortText(text), len(told), len(full), shortText(answers))
	}
	for i, answer := range told {
		if !benchAnswer.MatchString(answer) {
			t.Fatalf("Bench answers %q to %q", answer, full[i])
		}
	}
}

var benchAnswer = regexp.MustCompile(`\A(error [1-4]|ok( [0-9]+){1,2}|ok( [0-9]+:[0-9]+\+[0-9]+)*)\z`)

// checkLaterLines holds that what comes later changes no answer ahead of it.
func checkLaterLines(t *testing.T, text string) {
	t.Helper()
	if len(text) > mostText || len(benchLines(text)) > mostBenchLines {
		return
	}
	whole, begin := impl.Bench(text), ""
	for _, line := range benchLines(text) {
		begin += line
		if got := impl.Bench(begin); !strings.HasPrefix(whole, got) || got != impl.Bench(begin+"\n") {
			t.Fatalf("Bench of %s: %s, and of all of it: %s", shortText(begin), shortText(got), shortText(whole))
		}
		begin += "\n"
	}
	if impl.Bench(begin) != whole {
		t.Fatalf("Bench of %s is not that of all its lines", shortText(text))
	}
}

// checkScript takes lines with their answers behind =>, as they are worked out by hand.
func checkScript(t *testing.T, script string) {
	t.Helper()
	lines, answers := []string{}, []string{}
	for row := range strings.Lines(script) {
		line, answer, ok := strings.Cut(strings.TrimSpace(row), " => ")
		if !ok {
			if strings.TrimSpace(row) != "" {
				t.Fatalf("no answer in %q", row)
			}
			continue
		}
		lines, answers = append(lines, line), append(answers, answer)
	}
	text, want := withEnds(lines), withEnds(answers)
	checkBenchIs(t, text, want)
	checkBenchIs(t, strings.TrimSuffix(text, "\n"), want)
	if 3*len(lines) <= mostBenchLines {
		checkBenchIs(t, "\n"+strings.ReplaceAll(text, "\n", "\n\n\n"), want)
		checkBenchIs(t, strings.ReplaceAll(text, "\n", "\n\n"), want)
	}
	if got := benchByChapters.tell(text); got != want {
		t.Fatalf("the words say another thing of %s: %s, want %s", shortText(text), shortText(got), shortText(want))
	}
	checkAnswered(t, text)
	checkLaterLines(t, text)
	checkTakenBack(t, lines)
}

// benchProbe tells all that can be told of the track of now.
var benchProbe = []string{"show", "sum", "changes", "at -1", "at 0", "at 1", "at 4", "at 9", "at 10", "at 999999999"}

// probed has the answers of the probe behind each line, a row for each.
func probed(lines []string) (own []string, probes [][]string) {
	for i := range lines {
		told := benchLines(impl.Bench(withEnds(slices.Concat(lines[:i+1], benchProbe))))
		at := len(told) - len(benchProbe)
		own, probes = append(own, told[at-1]), append(probes, told[at:])
	}
	return own, probes
}

// checkTakenBack does all lines, and then as many undos as edits were done: each takes the answers back to those ahead of its edit, to the first ones at last.
func checkTakenBack(t *testing.T, lines []string) {
	t.Helper()
	lines = slices.DeleteFunc(slices.Clone(lines), func(line string) bool { return line == "" })
	if len(lines) > 60 {
		return
	}
	own, probes := probed(lines)
	now := benchLines(impl.Bench(withEnds(benchProbe)))
	was := [][]string{}
	for i, line := range lines {
		read, _ := readBenchLine(line)
		_, _, _, _, edits := read.editOf()
		done := strings.HasPrefix(own[i], "ok")
		switch {
		case done && edits:
			was = append(was, now)
		case done && read.word == "undo":
			was = was[:len(was)-1]
		case !slices.Equal(probes[i], now):
			t.Fatalf("%q was answered %q in %q, and the track is another one: %q, not %q", line, own[i], lines, probes[i], now)
		}
		now = probes[i]
	}
	undos := slices.Repeat([]string{"undo"}, len(was)+2)
	own, probes = probed(slices.Concat(lines, undos))
	own, probes = own[len(lines):], probes[len(lines):]
	for i := range was {
		want := was[len(was)-1-i]
		if !strings.HasPrefix(own[i], "ok ") || !slices.Equal(probes[i], want) {
			t.Fatalf("undo number %d behind %q: %q and %q, want %q", i+1, lines, own[i], probes[i], want)
		}
	}
	first := benchLines(impl.Bench(withEnds(benchProbe)))
	for i := len(was); i < len(own); i++ {
		if own[i] != "error 3" || !slices.Equal(probes[i], first) {
			t.Fatalf("undo number %d behind %q, where no edit is left: %q and %q", i+1, lines, own[i], probes[i])
		}
	}
}

func TestBenchRowInsert(t *testing.T) {
	checkScript(t, `
		insert 0 1 5 10 => ok 10
		show => ok 1:5+10
		insert 10 2 0 4 => ok 14
		show => ok 1:5+10 2:0+4
		insert 3 3 7 2 => ok 16
		show => ok 1:5+3 3:7+2 1:8+7 2:0+4
		insert 0 0 0 5 => ok 21
		show => ok 0:0+5 1:5+3 3:7+2 1:8+7 2:0+4
		insert 5 0 0 2 => ok 23
		show => ok 0:0+7 1:5+3 3:7+2 1:8+7 2:0+4
		insert 23 2 4 6 => ok 29
		show => ok 0:0+7 1:5+3 3:7+2 1:8+7 2:0+10
		sum => ok 668619870
		changes => ok 5 29
	`)
	for _, line := range []string{"-1 2 0 1", "11 2 0 1", "999999999 2 0 1", "-999999999 2 0 1", "0 -1 0 1", "0 501 0 1", "0 999999999 0 1", "0 2 -1 1", "0 2 10000000 1", "0 2 9999999 2", "0 2 0 0", "0 2 0 -1", "0 2 0 9999991", "0 2 0 10000001", "0 0 1 1", "0 0 0 0", "0 0 -1 1", "0 0 0 9999991", "0 2 999999999 999999999", "0 2 -5 5"} {
		checkNotDone(t, []string{"insert 0 1 5 10"}, "insert "+line, "error 2")
	}
	checkScript(t, `
		insert 0 500 9999999 1 => ok 1
		show => ok 500:9999999+1
		sum => ok 452085745
		insert 1 1 0 9999999 => ok 10000000
		show => ok 500:9999999+1 1:0+9999999
		insert 0 1 0 1 => error 2
		undo => ok 1
		insert 0 1 0 10000000 => error 2
		undo => ok 0
		insert 0 1 0 10000000 => ok 10000000
		sum => ok 847651922
		undo => ok 0
		insert 0 0 0 10000000 => ok 10000000
		sum => ok 881399390
		at 9999999 => ok 0 0
		at 10000000 => error 4
		changes => ok 1 10000000
	`)
}

func TestBenchRowOver(t *testing.T) {
	checkScript(t, `
		over 0 1 5 10 => ok 10
		show => ok 1:5+10
		over 2 2 0 3 => ok 10
		show => ok 1:5+2 2:0+3 1:10+5
		over 10 3 7 4 => ok 14
		show => ok 1:5+2 2:0+3 1:10+5 3:7+4
		over 12 4 0 5 => ok 17
		show => ok 1:5+2 2:0+3 1:10+5 3:7+2 4:0+5
		over 2 1 7 3 => ok 17
		show => ok 1:5+10 3:7+2 4:0+5
		over 0 0 0 20 => ok 20
		show => ok 0:0+20
		over 0 500 0 10000000 => ok 10000000
		over 10000000 1 0 1 => error 2
		over 9999999 1 0 1 => ok 10000000
		over 9999999 1 0 2 => error 2
		show => ok 500:0+9999999 1:0+1
	`)
	for _, line := range []string{"-1 2 0 1", "11 2 0 1", "999999999 2 0 1", "-999999999 2 0 1", "0 -1 0 1", "0 501 0 1", "0 2 -1 1", "0 2 9999999 2", "0 2 0 0", "0 2 0 -1", "1 2 0 10000000", "10 2 0 9999991", "0 2 0 10000001", "0 0 1 1", "0 0 0 0"} {
		checkNotDone(t, []string{"insert 0 1 5 10"}, "over "+line, "error 2")
	}
}

func TestBenchRowExtract(t *testing.T) {
	checkScript(t, `
		insert 0 1 5 10 => ok 10
		extract 2 3 => ok 7
		show => ok 1:5+2 1:10+5
		extract 0 1 => ok 6
		show => ok 1:6+1 1:10+5
		extract 5 1 => ok 5
		show => ok 1:6+1 1:10+4
		undo => ok 6
		insert 1 1 7 3 => ok 9
		show => ok 1:6+9
		extract 0 9 => ok 0
		show => ok
		sum => ok 0
		extract 0 1 => error 2
		extract 0 0 => error 2
		undo => ok 9
		show => ok 1:6+9
	`)
	for _, line := range []string{"0 0", "0 -1", "-1 1", "-1 2", "0 11", "10 1", "10 0", "9 2", "11 1", "999999999 1", "0 999999999", "-999999999 999999999", "999999999 -999999999"} {
		checkNotDone(t, []string{"insert 0 1 5 10"}, "extract "+line, "error 2")
		checkNotDone(t, []string{"insert 0 1 5 10"}, "lift "+line, "error 2")
		checkNotDone(t, nil, "extract "+line, "error 2")
		checkNotDone(t, nil, "lift "+line, "error 2")
	}
}

func TestBenchRowLift(t *testing.T) {
	checkScript(t, `
		insert 0 1 5 10 => ok 10
		lift 2 3 => ok 10
		show => ok 1:5+2 0:0+3 1:10+5
		sum => ok 849819380
		lift 0 2 => ok 10
		show => ok 0:0+5 1:10+5
		lift 9 1 => ok 10
		show => ok 0:0+5 1:10+4 0:0+1
		lift 1 2 => ok 10
		show => ok 0:0+5 1:10+4 0:0+1
		lift 0 10 => ok 10
		show => ok 0:0+10
		changes => ok 1 10
		undo => ok 10
		undo => ok 10
		undo => ok 10
		show => ok 0:0+5 1:10+5
	`)
}

// Two clips of a source that can be moved both ways, a gap, and one alone behind it.
var trimmedTrack = []string{"insert 0 1 10 20", "insert 20 2 5 10", "insert 30 3 0 5", "insert 35 0 0 4", "insert 39 4 9999990 10"}

func TestBenchRowRoll(t *testing.T) {
	checkScript(t, `
		insert 0 1 10 20 => ok 20
		insert 20 2 5 10 => ok 30
		show => ok 1:10+20 2:5+10
		sum => ok 281564071
		roll 0 3 => ok 30
		show => ok 1:10+23 2:8+7
		roll 0 -3 => ok 30
		show => ok 1:10+20 2:5+10
		roll 0 -5 => ok 30
		show => ok 1:10+15 2:0+15
		roll 0 -1 => error 2
		undo => ok 30
		roll 0 9 => ok 30
		show => ok 1:10+29 2:14+1
		roll 0 1 => error 2
		roll 0 0 => ok 30
		show => ok 1:10+29 2:14+1
		undo => ok 30
		undo => ok 30
		show => ok 1:10+20 2:5+10
	`)
	for _, line := range []string{"-1 1", "4 1", "5 0", "2 1", "3 1", "2 0", "3 0", "0 10", "0 -6", "0 11", "0 -20", "1 5", "1 -1", "0 999999999", "0 -999999999", "999999999 1", "-999999999 0"} {
		checkNotDone(t, trimmedTrack, "roll "+line, "error 2")
	}
	checkNotDone(t, nil, "roll 0 0", "error 2")
	checkNotDone(t, trimmedTrack[:1], "roll 0 0", "error 2")
}

func TestBenchRowSlip(t *testing.T) {
	checkScript(t, `
		insert 0 1 10 20 => ok 20
		insert 20 2 5 10 => ok 30
		slip 0 7 => ok 30
		show => ok 1:17+20 2:5+10
		slip 1 -5 => ok 30
		show => ok 1:17+20 2:0+10
		slip 1 -1 => error 2
		slip 0 9999963 => ok 30
		show => ok 1:9999980+20 2:0+10
		slip 0 1 => error 2
		slip 0 -9999980 => ok 30
		show => ok 1:0+20 2:0+10
		slip 0 0 => ok 30
		undo => ok 30
		show => ok 1:0+20 2:0+10
		undo => ok 30
		show => ok 1:9999980+20 2:0+10
	`)
	for _, line := range []string{"-1 1", "5 0", "3 0", "3 1", "0 -11", "1 -6", "2 -1", "4 1", "0 9999971", "0 999999999", "0 -999999999", "999999999 0", "-999999999 0"} {
		checkNotDone(t, trimmedTrack, "slip "+line, "error 2")
	}
	checkNotDone(t, nil, "slip 0 0", "error 2")
}

func TestBenchRowSlide(t *testing.T) {
	checkScript(t, `
		insert 0 1 10 20 => ok 20
		insert 20 2 5 10 => ok 30
		insert 30 3 2 5 => ok 35
		slide 1 4 => ok 35
		show => ok 1:10+24 2:5+10 3:6+1
		slide 1 1 => error 2
		slide 1 -4 => ok 35
		show => ok 1:10+20 2:5+10 3:2+5
		slide 1 -2 => ok 35
		show => ok 1:10+18 2:5+10 3:0+7
		slide 1 -1 => error 2
		slide 0 1 => error 2
		slide 2 1 => error 2
		slide 1 0 => ok 35
		undo => ok 35
		undo => ok 35
		show => ok 1:10+20 2:5+10 3:2+5
		lift 25 3 => ok 35
		show => ok 1:10+20 2:5+5 0:0+3 2:13+2 3:2+5
		slide 2 1 => ok 35
		show => ok 1:10+20 2:5+6 0:0+3 2:14+1 3:2+5
	`)
	for _, line := range []string{"-1 1", "0 1", "0 0", "2 1", "2 0", "3 10", "3 -5", "4 0", "5 0", "6 0", "1 5", "1 -1", "1 -20", "1 999999999", "1 -999999999", "999999999 0", "-999999999 0"} {
		checkNotDone(t, trimmedTrack, "slide "+line, "error 2")
	}
	checkNotDone(t, nil, "slide 0 0", "error 2")
}

func TestBenchRowRipple(t *testing.T) {
	checkScript(t, `
		insert 0 1 10 20 => ok 20
		insert 20 2 5 10 => ok 30
		ripple 0 5 => ok 35
		show => ok 1:10+25 2:5+10
		ripple 0 -24 => ok 11
		show => ok 1:10+1 2:5+10
		ripple 0 -1 => error 2
		ripple 1 -9 => ok 2
		show => ok 1:10+1 2:5+1
		ripple 1 9999994 => ok 9999996
		show => ok 1:10+1 2:5+9999995
		ripple 1 1 => error 2
		ripple 0 4 => ok 10000000
		ripple 0 1 => error 2
		ripple 0 0 => ok 10000000
		undo => ok 10000000
		undo => ok 9999996
		undo => ok 2
	`)
	for _, line := range []string{"-1 1", "5 0", "3 1", "3 -1", "3 0", "0 -20", "0 -21", "1 -10", "4 1", "0 9999971", "0 999999999", "0 -999999999", "999999999 0", "-999999999 0"} {
		checkNotDone(t, trimmedTrack, "ripple "+line, "error 2")
	}
	checkNotDone(t, nil, "ripple 0 1", "error 2")
}

func TestBenchRowUndo(t *testing.T) {
	checkScript(t, `
		undo => error 3
		insert 0 1 5 10 => ok 10
		undo => ok 0
		show => ok
		undo => error 3
		undo => error 3
		insert 0 1 5 10 => ok 10
		lift 2 3 => ok 10
		extract 0 1 => ok 9
		undo => ok 10
		show => ok 1:5+2 0:0+3 1:10+5
		insert 10 7 0 1 => ok 11
		show => ok 1:5+2 0:0+3 1:10+5 7:0+1
		undo => ok 10
		undo => ok 10
		show => ok 1:5+10
		undo => ok 0
		undo => error 3
		show => ok
	`)
	// An edit that said false is none to take back, and neither is a line that asks, or is none.
	checkScript(t, `
		extract 0 1 => error 2
		undo => error 3
		show => ok
		undo => error 3
		at 0 => error 4
		undo => error 3
		undone => error 1
		undo => error 3
		insert 0 1 5 10 => ok 10
		insert 11 1 5 10 => error 2
		show => ok 1:5+10
		sum => ok 49559374
		changes => ok 1 10
		at 3 => ok 1 8
		undo 1 => error 1
		undo => ok 0
		insert 11 1 5 10 => error 2
		undo => error 3
	`)
	// An edit that leaves the track as it was is one to take back.
	checkScript(t, `
		insert 0 0 0 3 => ok 3
		lift 0 3 => ok 3
		over 1 0 0 1 => ok 3
		undo => ok 3
		undo => ok 3
		show => ok 0:0+3
		undo => ok 0
		undo => error 3
	`)
}

func TestBenchRowAt(t *testing.T) {
	checkScript(t, `
		at 0 => error 4
		at -1 => error 4
		at 1 => error 4
		insert 0 1 5 10 => ok 10
		lift 2 3 => ok 10
		at -1 => error 4
		at 0 => ok 1 5
		at 1 => ok 1 6
		at 2 => ok 0 0
		at 4 => ok 0 0
		at 5 => ok 1 10
		at 9 => ok 1 14
		at 10 => error 4
		at 11 => error 4
		at 999999999 => error 4
		at -999999999 => error 4
		extract 0 2 => ok 8
		at 0 => ok 0 0
		at 7 => ok 1 14
		at 8 => error 4
		insert 0 500 9999999 1 => ok 9
		at 0 => ok 500 9999999
		extract 0 9 => ok 0
		at 0 => error 4
		at -1 => error 4
	`)
}

func TestBenchRowsThatTell(t *testing.T) {
	checkScript(t, `
		show => ok
		sum => ok 0
		changes => ok 0 0
		insert 0 0 0 3 => ok 3
		show => ok 0:0+3
		sum => ok 765796899
		changes => ok 1 3
		undo => ok 0
		show => ok
		sum => ok 0
		changes => ok 0 0
		insert 0 1 5 10 => ok 10
		show => ok 1:5+10
		sum => ok 49559374
		changes => ok 1 10
		lift 2 3 => ok 10
		show => ok 1:5+2 0:0+3 1:10+5
		sum => ok 849819380
		changes => ok 3 10
		over 2 1 7 3 => ok 10
		show => ok 1:5+10
		sum => ok 49559374
		changes => ok 1 10
		extract 0 10 => ok 0
		show => ok
		sum => ok 0
		changes => ok 0 0
		undo => ok 10
		changes => ok 1 10
	`)
}

// checkNotDone holds that a line is answered so, and that all behind it is answered as it is without it.
func checkNotDone(t *testing.T, setup []string, line, want string) {
	t.Helper()
	behind := slices.Concat(benchProbe, []string{"insert 0 9 1 1", "show", "undo", "undo"}, benchProbe, []string{"undo"}, benchProbe)
	plain := benchLines(impl.Bench(withEnds(slices.Concat(setup, behind))))
	told := slices.Insert(plain, len(setup), want)
	checkBenchIs(t, withEnds(slices.Concat(setup, []string{line}, behind)), withEnds(told))
	checkBenchIs(t, withEnds(slices.Concat(setup, []string{line, line, line}, behind)), withEnds(slices.Insert(told, len(setup), want, want)))
	checkBenchIs(t, withEnds(setup)+line, withEnds(told[:len(setup)+1]))
}

// benchRows has a line of each row that is done behind trimmedTrack.
var benchRows = []string{"insert 5 7 0 3", "over 5 7 0 3", "extract 5 3", "lift 5 3", "roll 0 2", "slip 0 2", "slide 1 2", "ripple 0 2", "undo", "at 5", "show", "changes", "sum"}

// noNumbers are words that are not read as a number.
var noNumbers = []string{
	"", "-", "+", "--", "+1", "+0", "-+1", "--1", "1-", "1+", "01", "00", "000", "-01", "-00", "-0", "0-", "1000000000", "-1000000000", "9999999999", "1234567890", "0000000001",
	"9223372036854775807", "-9223372036854775808", "9223372036854775808", "18446744073709551616", "18446744073709551617", "100000000000000000000000000000",
	"a", "1a", "a1", "1a1", "x", "0x1", "0X1", "0b1", "0o1", "1_0", "_1", "1_", "1.0", "1.", ".1", "1e1", "1e0", "1,0", "1:0", "Inf", "NaN", "one", "AT", "N",
	"\t", "\t1", "1\t", "1\r", "\r", "1\x00", "\x001", "1\v", "1\f", "1\xa0", "\u00a01", "\u0661", "\uff11", "\u22121", "\xff", "(1)", "'1'", "1;", "/", ":", "0/", "0:",
}

// Numbers with as many digits as there may be are numbers: what is answered is no error 1.
var longNumbers = []string{"999999999", "-999999999", "100000000", "-100000000", "123456789", "-1", "0", "1"}

func TestBenchRowsAreDone(t *testing.T) {
	for _, line := range benchRows {
		told := benchLines(impl.Bench(withEnds(append(slices.Clone(trimmedTrack), line))))
		if answer := told[len(told)-1]; !strings.HasPrefix(answer, "ok ") {
			t.Fatalf("%q: %q", line, answer)
		}
	}
}

func TestBenchWordsThatAreNone(t *testing.T) {
	for _, line := range benchRows {
		word, rest, _ := strings.Cut(line, " ")
		wrong := []string{
			strings.ToUpper(word), strings.ToUpper(word[:1]) + word[1:], word[:len(word)-1] + strings.ToUpper(word[len(word)-1:]),
			word + "s", word + word, "x" + word, word[1:], word[:len(word)-1], word + ":", "-" + word, "\t" + word, word + "\t", word + "\r", "\r" + word, word + "\x00", "\xef\xbb\xbf" + word, word + "\u00a0", "'" + word + "'",
			"ok", "error", "0", "1", "redo", "overwrite", "quit", "help", "trim", "digest", "length", "joined", "#", "?",
		}
		for _, none := range wrong {
			if none == "" || slices.ContainsFunc(benchRows, func(row string) bool { return row == none || strings.HasPrefix(row, none+" ") }) {
				continue
			}
			text := none
			if rest != "" {
				text += " " + rest
			}
			checkNotDone(t, trimmedTrack, text, "error 1")
			checkNotDone(t, nil, text, "error 1")
		}
	}
}

func TestBenchWordsTooFewAndTooMany(t *testing.T) {
	for _, line := range benchRows {
		words := strings.Split(line, " ")
		for n := range 8 {
			if n == len(words) {
				continue
			}
			other := strings.Join(slices.Concat(words, slices.Repeat([]string{"1"}, 8))[:max(n, 1)], " ")
			if n == 0 {
				other = strings.Join(words[1:], " ")
			}
			if other == "" || other == line {
				continue
			}
			checkNotDone(t, trimmedTrack, other, "error 1")
			checkNotDone(t, nil, other, "error 1")
		}
	}
}

func TestBenchBlanks(t *testing.T) {
	for _, line := range benchRows {
		checkNotDone(t, trimmedTrack, " "+line, "error 1")
		checkNotDone(t, trimmedTrack, line+" ", "error 1")
		checkNotDone(t, trimmedTrack, " "+line+" ", "error 1")
		checkNotDone(t, trimmedTrack, "  "+line, "error 1")
		checkNotDone(t, trimmedTrack, line+"  ", "error 1")
		for at, c := range line {
			if c == ' ' {
				checkNotDone(t, trimmedTrack, line[:at]+" "+line[at:], "error 1")
				for _, other := range []string{"", "\t", "\u00a0", "_", ",", "\r", "\v", "  "} {
					checkNotDone(t, trimmedTrack, line[:at]+other+line[at+1:], "error 1")
				}
			}
		}
		// A word too few with a blank in its place is as many words, but one without bytes.
		if cut := strings.LastIndex(line, " "); cut > 0 {
			checkNotDone(t, trimmedTrack, line[:cut+1], "error 1")
		}
	}
	for _, line := range []string{" ", "  ", "   ", "\t", "\r", "\x00", " \t", "\xff"} {
		checkNotDone(t, trimmedTrack, line, "error 1")
		checkNotDone(t, nil, line, "error 1")
	}
}

func TestBenchNumbersThatAreNone(t *testing.T) {
	for _, line := range benchRows {
		words := strings.Split(line, " ")
		for at := 1; at < len(words); at++ {
			for _, none := range noNumbers {
				checkNotDone(t, trimmedTrack, strings.Join(slices.Concat(words[:at], []string{none}, words[at+1:]), " "), "error 1")
			}
			for _, word := range longNumbers {
				text := withEnds(append(slices.Clone(trimmedTrack), strings.Join(slices.Concat(words[:at], []string{word}, words[at+1:]), " ")))
				checkBench(t, benchByChapters, text)
				if strings.Contains(impl.Bench(text), "error 1") {
					t.Fatalf("%s has numbers alone", shortText(text))
				}
			}
		}
	}
}

// Each text that is near to a line: a byte left out, put in, turned, or changed with the next.
func TestBenchNearLines(t *testing.T) {
	signs := []byte("0123456789-+ \taAeElnNosSu\r\x00\xff:.")
	setup := withEnds(trimmedTrack)
	for _, line := range benchRows {
		near := map[string]bool{line: true}
		for at := range len(line) + 1 {
			for _, c := range signs {
				near[line[:at]+string([]byte{c})+line[at:]] = true
				if at < len(line) {
					near[line[:at]+string([]byte{c})+line[at+1:]] = true
				}
			}
			if at < len(line) {
				near[line[:at]+line[at+1:]] = true
				near[line[:at]+"\n"+line[at:]] = true
				near[line[:at]] = true
				near[line[at:]] = true
			}
			if at+1 < len(line) {
				near[line[:at]+line[at+1:at+2]+line[at:at+1]+line[at+2:]] = true
			}
		}
		for other := range near {
			checkBench(t, benchByChapters, setup+other+"\nshow\nundo\nshow")
		}
	}
}

// All lines of up to three of these words, behind two tracks.
func TestBenchAllShortLines(t *testing.T) {
	words := []string{"insert", "over", "extract", "lift", "roll", "slip", "slide", "ripple", "undo", "at", "show", "changes", "sum", "Show", "", "0", "1", "-1", "2", "-0", "01", "+1", "1000000000"}
	for _, setup := range []string{"", "insert 0 1 5 3\ninsert 3 2 5 3\ninsert 6 3 5 3\n"} {
		for _, a := range words {
			checkBench(t, benchByPictures, setup+a+"\nshow\nundo\nshow\n")
			for _, b := range words {
				checkBench(t, benchByPictures, setup+a+" "+b+"\nshow\nundo\nshow\n")
				for _, c := range words {
					checkBench(t, benchByPictures, setup+a+" "+b+" "+c+"\nshow\nundo\nshow\n")
				}
			}
		}
	}
}

// All edits by small numbers of a short track, told by their frames.
func TestBenchAllSmallEdits(t *testing.T) {
	setup := "insert 0 1 2 3\ninsert 3 2 0 2\ninsert 5 0 0 1\ninsert 6 1 5 2\n"
	behind := "\nshow\nsum\nchanges\nat 0\nat 5\nundo\nshow\nsum\nundo\nundo\nundo\nundo\nundo\nshow\n"
	for _, word := range []string{"extract", "lift", "roll", "slip", "slide", "ripple"} {
		for a := -2; a < 11; a++ {
			for b := -6; b < 11; b++ {
				checkBench(t, benchByPictures, fmt.Sprintf("%s%s %d %d%s", setup, word, a, b, behind))
			}
		}
	}
	for _, word := range []string{"insert", "over"} {
		for at := -1; at < 10; at++ {
			for src := -1; src < 3; src++ {
				for in := -1; in < 3; in++ {
					for n := -1; n < 4; n++ {
						checkBench(t, benchByPictures, fmt.Sprintf("%s%s %d %d %d %d%s", setup, word, at, src, in, n, behind))
					}
				}
			}
		}
	}
}

func TestBenchTextsWithoutLines(t *testing.T) {
	for n := range 2 * mostBenchLines {
		checkBenchIs(t, strings.Repeat("\n", n), "")
	}
	for _, n := range []int{mostText - 1, mostText, mostText + 1} {
		checkBenchIs(t, strings.Repeat("\n", n), "")
	}
}

func TestBenchEmptyLines(t *testing.T) {
	want := "ok 10\nok 1:5+10\nerror 1\n"
	for _, text := range []string{
		"insert 0 1 5 10\nshow\nx",
		"insert 0 1 5 10\nshow\nx\n",
		"\ninsert 0 1 5 10\nshow\nx\n",
		"\n\n\ninsert 0 1 5 10\nshow\nx\n",
		"insert 0 1 5 10\n\nshow\nx",
		"insert 0 1 5 10\n\n\n\nshow\n\nx\n\n",
		"\n\ninsert 0 1 5 10\n\nshow\n\n\nx\n\n\n\n",
		"\ninsert 0 1 5 10\n\nshow\n\nx",
	} {
		checkBenchIs(t, text, want)
		checkBench(t, benchByChapters, text)
	}
	// A line of a blank is not one without a byte.
	checkBenchIs(t, "insert 0 1 5 10\n \nshow\n\r\n", "ok 10\nerror 1\nok 1:5+10\nerror 1\n")
}

func TestBenchMostBytes(t *testing.T) {
	begin, end := "insert 0 1 5 10\nlift 2 3\nat 00", "\nshow\nundo\nshow\n"
	told := "ok 10\nok 10\nerror 1\nok 1:5+2 0:0+3 1:10+5\nok 10\nok 1:5+10\n"
	for size := mostText - 3; size <= mostText+3; size++ {
		want := told
		if size > mostText {
			want = ""
		}
		for _, fill := range []string{"x", " ", "0", "-", "\x00", "\xff"} {
			for _, end := range []string{end, strings.TrimSuffix(end, "\n")} {
				text := begin + strings.Repeat(fill, size-len(begin)-len(end)) + end
				if len(text) != size {
					t.Fatal(len(text))
				}
				checkBenchIs(t, text, want)
			}
		}
		// The last line alone is long, or the first.
		want = "ok\nerror 1\n"
		if size > mostText {
			want = ""
		}
		checkBenchIs(t, "show\n"+strings.Repeat("y", size-5), want)
		checkBenchIs(t, "show\n"+strings.Repeat("y", size-6)+"\n", want)
		want = "error 1\nok\n"
		if size > mostText {
			want = ""
		}
		checkBenchIs(t, strings.Repeat("y", size-5)+"\nshow", want)
	}
	for _, size := range []int{mostText + 1, 2 * mostText, 65536, 100000} {
		checkBenchIs(t, strings.Repeat("y", size), "")
		checkBenchIs(t, strings.Repeat("show\n", size/5+1), "")
	}
}

func TestBenchMostLines(t *testing.T) {
	for _, n := range []int{1, 2, mostBenchLines - 1, mostBenchLines, mostBenchLines + 1, mostBenchLines + 2, 255, 256, 257, 456, 3000} {
		answered := n <= mostBenchLines
		want := func(answers string) string {
			if answered {
				return answers
			}
			return ""
		}
		lines := strings.Repeat("show\n", n)
		checkBenchIs(t, lines, want(strings.Repeat("ok\n", n)))
		checkBenchIs(t, strings.TrimSuffix(lines, "\n"), want(strings.Repeat("ok\n", n)))
		// Lines without a byte count: ahead, behind, and between.
		checkBenchIs(t, strings.Repeat("\n", n-1)+"show\n", want("ok\n"))
		checkBenchIs(t, strings.Repeat("\n", n-1)+"show", want("ok\n"))
		checkBenchIs(t, "show\n"+strings.Repeat("\n", n-1), want("ok\n"))
		checkBenchIs(t, "show"+strings.Repeat("\n", n), want("ok\n"))
		if n > 2 {
			checkBenchIs(t, "show\n"+strings.Repeat("\n", n-2)+"sum\n", want("ok\nok 0\n"))
			checkBenchIs(t, "show\n"+strings.Repeat("\n", n-2)+"sum", want("ok\nok 0\n"))
		}
	}
	// Both limits at once.
	long := "show" + strings.Repeat("w", mostText/mostBenchLines-5) + "\n"
	text := strings.Repeat(long, mostBenchLines)
	if len(text) != mostText {
		t.Fatal(len(text))
	}
	checkBenchIs(t, text, strings.Repeat("error 1\n", mostBenchLines))
	checkBenchIs(t, text+"\n", "")
	checkBenchIs(t, text[1:]+"\n", "")
	checkBenchIs(t, "s"+text, "")
}

// The bench comes to as many clips as a track may have, and to one more.
func TestBenchMostClips(t *testing.T) {
	rows, shown := "insert 0 1 0 1000 => ok 1000\n", ""
	for i := range 149 {
		rows += fmt.Sprintf("insert %d 2 5 1 => ok %d\n", 2*i+1, 1001+i)
		shown += fmt.Sprintf(" 1:%d+1 2:5+1", i)
	}
	rows += "changes => ok 299 1149\n"
	rows += "show => ok" + shown + " 1:149+851\n"
	checkScript(t, rows+`
		lift 500 1 => error 2
		insert 1149 3 0 1 => ok 1150
		changes => ok 300 1150
		insert 1150 3 1 1 => ok 1151
		changes => ok 300 1151
		insert 1151 4 0 1 => error 2
		insert 0 4 0 1 => error 2
		over 0 4 0 1 => ok 1151
		over 298 4 0 1 => error 2
		over 298 2 6 1 => ok 1151
		extract 500 1 => error 2
		lift 0 1 => ok 1151
		changes => ok 300 1151
		at 0 => ok 0 0
		at 298 => ok 2 6
		at 299 => ok 1 150
		undo => ok 1151
		at 0 => ok 4 0
		extract 0 1 => ok 1150
		changes => ok 299 1150
	`)
}

func TestBenchMostUndos(t *testing.T) {
	edits := []string{"insert 0 1 0 10", "insert 5 2 0 1", "lift 3 1", "over 0 3 3 2", "extract 1 1"}
	lines := []string{}
	for i := range mostBenchLines / 2 {
		lines = append(lines, edits[i%len(edits)])
	}
	undos := slices.Repeat([]string{"undo"}, mostBenchLines/2)
	text := withEnds(slices.Concat(lines, undos))
	checkBench(t, benchByChapters, text)
	told := benchLines(impl.Bench(text))
	if strings.Contains(impl.Bench(text), "error") || told[len(told)-1] != "ok 0" {
		t.Fatalf("%q", told)
	}
	// The lengths come back one by one.
	for i := range undos {
		want := "ok 0"
		if ahead := len(lines) - 2 - i; ahead >= 0 {
			want = told[ahead]
		}
		if told[len(lines)+i] != want {
			t.Fatalf("undo number %d: %s, want %s", i+1, told[len(lines)+i], want)
		}
	}
	checkBench(t, benchByChapters, withEnds(slices.Concat(lines[1:], undos)))
	checkBench(t, benchByChapters, withEnds(slices.Concat(undos, lines)))
}

func randomBenchWord(r *rand.Rand) string {
	words := []string{"insert", "over", "extract", "lift", "roll", "slip", "slide", "ripple", "undo", "at", "show", "changes", "sum"}
	return words[r.Intn(len(words))]
}

// randomBenchLine is done more often than not where the track is some clips long.
func randomBenchLine(r *rand.Rand) string {
	word := randomBenchWord(r)
	place, clips := strconv.Itoa(r.Intn(16)), strconv.Itoa(r.Intn(5))
	by := strconv.Itoa(r.Intn(9) - 4)
	switch word {
	case "insert", "over":
		c := randomClip(r)
		return fmt.Sprintf("%s %s %d %d %d", word, place, c.Src, c.In, c.Len)
	case "extract", "lift":
		return word + " " + place + " " + strconv.Itoa(1+r.Intn(3))
	case "roll", "slip", "slide", "ripple":
		return word + " " + clips + " " + by
	case "at":
		return word + " " + place
	}
	return word
}

// strangeBenchLine turns a line a little: it is mostly none then.
func strangeBenchLine(r *rand.Rand) string {
	line := randomBenchLine(r)
	words := strings.Split(line, " ")
	switch r.Intn(7) {
	case 0:
		return line + " " + strconv.Itoa(r.Intn(3))
	case 1:
		return strings.Join(words[:len(words)-1], " ")
	case 2:
		words[r.Intn(len(words))] = noNumbers[r.Intn(len(noNumbers))]
	case 3:
		words[r.Intn(len(words))] = longNumbers[r.Intn(len(longNumbers))]
	case 4:
		words[0] = randomBenchWord(r)
	case 5:
		at := r.Intn(len(line) + 1)
		return line[:at] + " " + line[at:]
	default:
		return ""
	}
	return strings.Join(words, " ")
}

func randomBenchLines(r *rand.Rand, most int) []string {
	lines := []string{}
	// With some clips ahead, most edits are done.
	for range r.Intn(6) {
		c := randomClip(r)
		lines = append(lines, fmt.Sprintf("insert 0 %d %d %d", c.Src, c.In, c.Len))
	}
	for range r.Intn(most + 1) {
		if r.Intn(8) == 0 {
			lines = append(lines, strangeBenchLine(r))
		} else {
			lines = append(lines, randomBenchLine(r))
		}
	}
	return lines
}

func TestBenchAtRandom(t *testing.T) {
	r := rand.New(rand.NewSource(171))
	seen := map[string]int{}
	for n := range 6000 {
		most := 20
		if n%50 == 0 {
			most = mostBenchLines + 3
		}
		lines := randomBenchLines(r, most)
		text := withEnds(lines)
		if r.Intn(2) == 0 {
			text = strings.TrimSuffix(text, "\n")
		}
		checkBench(t, benchByPictures, text)
		checkBench(t, benchByChapters, text)
		if n%20 == 0 {
			checkLaterLines(t, text)
			checkTakenBack(t, lines)
		}
		told := benchLines(impl.Bench(text))
		for i, line := range slices.DeleteFunc(lines, func(line string) bool { return line == "" }) {
			if i < len(told) {
				word, _, _ := strings.Cut(line, " ")
				seen[word+" "+strings.Fields(told[i] + " .")[0]]++
				seen[told[i]]++
			}
		}
	}
	for _, row := range benchRows {
		word, _, _ := strings.Cut(row, " ")
		if seen[word+" ok"] < 100 {
			t.Errorf("%s was done %d times", word, seen[word+" ok"])
		}
	}
	for _, answer := range []string{"error 1", "error 2", "error 3", "error 4"} {
		if seen[answer] < 100 {
			t.Errorf("%s was answered %d times", answer, seen[answer])
		}
	}
}

// Edits by numbers of all lengths, held against the chapters.
func TestBenchGreatNumbersAtRandom(t *testing.T) {
	r := rand.New(rand.NewSource(172))
	great := numbers{0, 1, 2, 499, 500, 501, lastFrame - 1, lastFrame, lastFrame + 1, lastFrame / 2, greatestRead, greatestRead - 1, greatestRead + 1, 100000000}
	for range 4000 {
		lines := []string{}
		for range r.Intn(30) {
			line := randomBenchLine(r)
			words := strings.Split(line, " ")
			if len(words) > 1 && r.Intn(2) == 0 {
				n := great[r.Intn(len(great))]
				if r.Intn(3) == 0 {
					n = -n
				}
				words[1+r.Intn(len(words)-1)] = strconv.FormatInt(n, 10)
			}
			lines = append(lines, strings.Join(words, " "))
		}
		checkBench(t, benchByChapters, withEnds(lines))
	}
}

func TestBenchBytesAtRandom(t *testing.T) {
	r := rand.New(rand.NewSource(173))
	signs := []byte("insert over lift at show sum undo \n\n\n 0123456789-+:")
	for n := range 5000 {
		b := make([]byte, r.Intn(300))
		for i := range b {
			b[i] = signs[r.Intn(len(signs))]
			if n%3 == 0 {
				b[i] = byte(r.Intn(256))
			}
		}
		checkBench(t, benchByChapters, string(b))
	}
}

// The answers are the same whoever asks, behind other texts, and where many ask at once.
func TestBenchAtOnce(t *testing.T) {
	r := rand.New(rand.NewSource(174))
	all, wants := []string{}, []string{}
	for range 60 {
		text := withEnds(randomBenchLines(r, 60))
		all, wants = append(all, text), append(wants, benchByPictures.tell(text))
	}
	was := runtime.GOMAXPROCS(0)
	defer runtime.GOMAXPROCS(was)
	for _, hands := range []int{1, 2, 16} {
		runtime.GOMAXPROCS(hands)
		group := sync.WaitGroup{}
		wrong := make([]bool, 32)
		for n := range wrong {
			group.Go(func() {
				for turn := range 100 {
					i := (n*7 + turn*(n%4+1)) % len(all)
					if impl.Bench(all[i]) != wants[i] {
						wrong[n] = true
					}
				}
			})
		}
		group.Wait()
		if slices.Contains(wrong, true) {
			t.Fatalf("a text is answered another way where many ask: %v", wrong)
		}
	}
}

// FuzzBench takes any text.
func FuzzBench(f *testing.F) {
	f.Add("insert 0 1 5 10\n\nlift 2 3\nshow\nat 3\nat 10\nundo\nat 03\nroll 0 1\nchanges\nsum 1\nshow")
	f.Add(withEnds(trimmedTrack) + withEnds(benchRows))
	f.Add("undo\n undo\nundo \n\nover 0 0 0 10000000\nat -0\nat 999999999\nat 1000000000\n")
	f.Fuzz(func(t *testing.T, text string) {
		checkBench(t, benchByChapters, text)
		lines := benchLines(text)
		if len(lines) < 25 {
			checkLaterLines(t, text)
			checkTakenBack(t, lines)
		}
	})
}
