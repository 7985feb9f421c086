package tests

import (
	"fmt"
	"math"
	"math/rand"
	"regexp"
	"slices"
	"strings"
	"testing"

	"loop.example/g00066/impl"
)

// The faces of the chapter, held as they were given.
var (
	_ func(r impl.Rate, track []impl.Clip) string                  = impl.ShowList
	_ func(r impl.Rate, text string) ([]impl.Clip, impl.ListFault) = impl.ReadList
	_ struct{ Code, Line int64 }                                   = impl.ListFault{}
)

const mostText = 20000

var (
	plain = rate(25, 1)
	slow  = drop(30000, 1001)
	quick = rate(120, 1)
)

func listFault(code, line int) impl.ListFault {
	return impl.ListFault{Code: int64(code), Line: int64(line)}
}

// timeByWords takes the minutes away one by one.
func timeByWords(r impl.Rate, frame int64) string {
	if !rightByWords(r) || frame < 0 || frame > lastFrame {
		return ""
	}
	c := clock{r: r, b: (r.Num + r.Den - 1) / r.Den}
	for {
		left := int64(0)
		if r.Drop && c.m%10 != 0 {
			left = r.Num / 15000
		}
		if frame < 60*c.b-left {
			c.s, c.ff = (frame+left)/c.b, (frame+left)%c.b
			return c.text()
		}
		frame -= 60*c.b - left
		if c.m++; c.m == 60 {
			c.m, c.h = 0, c.h+1
		}
	}
}

// goesOnByWords is of two clips that show what one clip could show.
func goesOnByWords(ahead, c impl.Clip) bool {
	return ahead.Src == c.Src && (c.Src == 0 || ahead.In+ahead.Len == c.In)
}

// joinedByWords puts two clips together as long as there are two that go on.
func joinedByWords(list track) track {
	list = slices.Clone(list)
	for {
		at := 1
		for at < len(list) && !goesOnByWords(list[at-1], list[at]) {
			at++
		}
		if at >= len(list) {
			return list
		}
		list[at-1].Len += list[at].Len
		list = slices.Delete(list, at, at+1)
	}
}

// wordsByWords are the words of each line.
func wordsByWords(r impl.Rate, list track) [][]string {
	out := [][]string{}
	at := int64(0)
	for i, c := range joinedByWords(list) {
		source := fmt.Sprint("R", c.Src)
		if c.Src == 0 {
			source = "BL"
		}
		words := []string{fmt.Sprintf("%03d", i+1), source, "C"}
		for _, frame := range []int64{c.In, c.In + c.Len, at, at + c.Len} {
			words = append(words, timeByWords(r, frame))
		}
		out = append(out, words)
		at += c.Len
	}
	return out
}

// textOf writes lines of words, whatever the words are.
func textOf(lines [][]string) string {
	text := ""
	for _, words := range lines {
		text += strings.Join(words, " ") + "\n"
	}
	return text
}

func showByWords(r impl.Rate, list track) string {
	if !rightByWords(r) || !trackByWords(list) {
		return ""
	}
	lines := wordsByWords(r, list)
	for _, words := range lines {
		if slices.Contains(words, "") {
			return ""
		}
	}
	return textOf(lines)
}

var (
	sevenWords = regexp.MustCompile(`^([^ ]+) ([^ ]+) ([^ ]+) ([^ ]+) ([^ ]+) ([^ ]+) ([^ ]+)$`)
	sourceForm = regexp.MustCompile(`^(BL|R[1-9]|R[1-9][0-9]|R[1-4][0-9][0-9]|R500)$`)
)

// lineByWords is the clip of the line behind those of the list, or the first code that applies.
func lineByWords(r impl.Rate, list track, line string) (impl.Clip, int) {
	words := sevenWords.FindStringSubmatch(line)
	if words == nil {
		return impl.Clip{}, impl.LsWords
	}
	words = words[1:]
	if words[0] != fmt.Sprintf("%03d", len(list)+1) {
		return impl.Clip{}, impl.LsNumber
	}
	if !sourceForm.MatchString(words[1]) || words[2] != "C" {
		return impl.Clip{}, impl.LsSource
	}
	frames := []int64{}
	for _, word := range words[3:] {
		frame, ok := readByWords(r, word)
		if !ok {
			return impl.Clip{}, impl.LsTime
		}
		frames = append(frames, frame)
	}
	c := clip(0, frames[0], frames[1]-frames[0])
	fmt.Sscanf(words[1], "R%d", &c.Src)
	if !clipByWords(c) {
		return impl.Clip{}, impl.LsIn
	}
	end := lengthByWords(list)
	if frames[2] != end || frames[3] != end+c.Len {
		return impl.Clip{}, impl.LsPlace
	}
	if longer := append(slices.Clip(list), c); len(joinedByWords(longer)) < len(longer) || !trackByWords(longer) {
		return impl.Clip{}, impl.LsJoin
	}
	return c, 0
}

func readListByWords(r impl.Rate, text string) (track, impl.ListFault) {
	switch {
	case !rightByWords(r):
		return nil, listFault(impl.LsRate, 0)
	case len(text) > mostText:
		return nil, listFault(impl.LsLong, 0)
	case len(text) > 0 && text[len(text)-1] != 10:
		return nil, listFault(impl.LsEnd, 0)
	}
	list := track{}
	lines := strings.Split(text, "\n")
	for i, line := range lines[:len(lines)-1] {
		c, code := lineByWords(r, list, line)
		if code != 0 {
			return nil, listFault(code, i)
		}
		list = append(list, c)
	}
	return list, impl.ListFault{}
}

// checkShow holds ShowList against a text, and watches its argument.
func checkShow(t *testing.T, r impl.Rate, list track, want string) {
	t.Helper()
	given, whole := withRoom(list, cutMark)
	before := slices.Clone(whole)
	got := impl.ShowList(r, given)
	if got != want {
		t.Fatalf("ShowList at %v of %v:\n%s\nwant:\n%s", r, few(list), got, want)
	}
	if !slices.Equal(whole, before) {
		t.Fatalf("ShowList at %v of %v: the track, or its room, was written into", r, few(list))
	}
	spoilAll(whole, cutMark)
	if got != want {
		t.Fatalf("ShowList at %v of %v: the text is of the track's memory", r, few(list))
	}
}

// checkRead reads twice, so that an answer that shares memory with another, or hangs on one, is seen.
func checkRead(t *testing.T, r impl.Rate, text string, want track, wantFault impl.ListFault) {
	t.Helper()
	got, found := impl.ReadList(r, text)
	again, foundAgain := impl.ReadList(r, text)
	if found != wantFault || !slices.Equal(got, want) {
		t.Fatalf("ReadList at %v of\n%.400q:\n%v %v, want %v %v", r, text, few(got), found, few(want), wantFault)
	}
	spoilAll(got, cutMark)
	if foundAgain != wantFault || !slices.Equal(again, want) {
		t.Fatalf("ReadList at %v of\n%.400q: the second answer is another one, or shares memory: %v %v", r, text, few(again), foundAgain)
	}
}

// checkShown holds ShowList against the chapter's words, and promise 7.
func checkShown(t *testing.T, r impl.Rate, list track) {
	t.Helper()
	text := showByWords(r, list)
	checkShow(t, r, list, text)
	if text != "" {
		checkRead(t, r, text, joinedByWords(list), impl.ListFault{})
		if read, _ := impl.ReadList(r, impl.ShowList(r, list)); !slices.Equal(read, impl.Joined(list)) {
			t.Fatalf("%v at %v: what is shown is read as %v", few(list), r, few(read))
		}
	}
}

// checkText holds ReadList against the chapter's words; what is read without a fault is shown as it was.
func checkText(t *testing.T, r impl.Rate, text string) impl.ListFault {
	t.Helper()
	want, found := readListByWords(r, text)
	checkRead(t, r, text, want, found)
	if read, found := impl.ReadList(r, text); found == (impl.ListFault{}) && impl.ShowList(r, read) != text {
		t.Fatalf("%q at %v is read as %v, and shown as %q", text, r, few(read), impl.ShowList(r, read))
	}
	return found
}

// checkFault says the fault beside the chapter's words, so that a slip in these is seen.
func checkFault(t *testing.T, r impl.Rate, text string, code, line int) {
	t.Helper()
	if found := checkText(t, r, text); found != listFault(code, line) {
		t.Fatalf("%.400q at %v: %v, want the code %d at line %d", text, r, found, code, line)
	}
}

func TestListConstants(t *testing.T) {
	codes := []int64{impl.LsRate, impl.LsLong, impl.LsEnd, impl.LsWords, impl.LsNumber, impl.LsSource, impl.LsTime, impl.LsIn, impl.LsPlace, impl.LsJoin}
	for i, code := range codes {
		if code != int64(i+1) {
			t.Errorf("code %d is %d", i+1, code)
		}
	}
	if impl.MaxText != mostText {
		t.Error("MaxText is", impl.MaxText)
	}
}

func TestTimeByWords(t *testing.T) {
	for _, r := range append(rightRates(), wrongRates()...) {
		for _, frame := range append(sampleFrames(), strangeNumbers()...) {
			if got, want := timeByWords(r, frame), impl.TimeText(r, frame); got != want {
				t.Fatalf("%v %d: %q, not %q", r, frame, got, want)
			}
		}
	}
}

func TestShowListOrdinary(t *testing.T) {
	for _, x := range []struct {
		r    impl.Rate
		list track
		want []string
	}{
		{plain, nil, nil},
		{plain, track{}, nil},
		{plain, track{clip(12, 25, 50)}, []string{"001 R12 C 00:00:01:00 00:00:03:00 00:00:00:00 00:00:02:00"}},
		{plain, track{clip(1, 0, 1)}, []string{"001 R1 C 00:00:00:00 00:00:00:01 00:00:00:00 00:00:00:01"}},
		{plain, track{clip(500, 0, 1)}, []string{"001 R500 C 00:00:00:00 00:00:00:01 00:00:00:00 00:00:00:01"}},
		{plain, track{clip(10, 24, 2)}, []string{"001 R10 C 00:00:00:24 00:00:01:01 00:00:00:00 00:00:00:02"}},
		{plain, track{gap(1)}, []string{"001 BL C 00:00:00:00 00:00:00:01 00:00:00:00 00:00:00:01"}},
		{plain, track{clip(12, 25, 50), gap(5)}, []string{
			"001 R12 C 00:00:01:00 00:00:03:00 00:00:00:00 00:00:02:00",
			"002 BL C 00:00:00:00 00:00:00:05 00:00:02:00 00:00:02:05",
		}},
		// Gaps at the beginning, between and at the end.
		{plain, track{gap(30), clip(1, 5, 2), gap(25), clip(2, 0, 3), gap(1)}, []string{
			"001 BL C 00:00:00:00 00:00:01:05 00:00:00:00 00:00:01:05",
			"002 R1 C 00:00:00:05 00:00:00:07 00:00:01:05 00:00:01:07",
			"003 BL C 00:00:00:00 00:00:01:00 00:00:01:07 00:00:02:07",
			"004 R2 C 00:00:00:00 00:00:00:03 00:00:02:07 00:00:02:10",
			"005 BL C 00:00:00:00 00:00:00:01 00:00:02:10 00:00:02:11",
		}},
		// Not Joined.
		{plain, track{clip(1, 5, 2), clip(1, 7, 3), clip(1, 10, 1)}, []string{"001 R1 C 00:00:00:05 00:00:00:11 00:00:00:00 00:00:00:06"}},
		{plain, track{gap(2), gap(3), clip(1, 0, 1), gap(1), gap(1)}, []string{
			"001 BL C 00:00:00:00 00:00:00:05 00:00:00:00 00:00:00:05",
			"002 R1 C 00:00:00:00 00:00:00:01 00:00:00:05 00:00:00:06",
			"003 BL C 00:00:00:00 00:00:00:02 00:00:00:06 00:00:00:08",
		}},
		{plain, track{clip(1, 5, 2), clip(2, 7, 3), clip(2, 7, 3), clip(2, 11, 1), clip(2, 12, 1)}, []string{
			"001 R1 C 00:00:00:05 00:00:00:07 00:00:00:00 00:00:00:02",
			"002 R2 C 00:00:00:07 00:00:00:10 00:00:00:02 00:00:00:05",
			"003 R2 C 00:00:00:07 00:00:00:10 00:00:00:05 00:00:00:08",
			"004 R2 C 00:00:00:11 00:00:00:13 00:00:00:08 00:00:00:10",
		}},
		// More than 999 frames, and drop-frame.
		{plain, track{clip(7, 1000, 1001), gap(100000)}, []string{
			"001 R7 C 00:00:40:00 00:01:20:01 00:00:00:00 00:00:40:01",
			"002 BL C 00:00:00:00 01:06:40:00 00:00:40:01 01:07:20:01",
		}},
		{slow, track{clip(1, 1799, 1), clip(2, 1800, 1800), gap(16182)}, []string{
			"001 R1 C 00:00:59;29 00:01:00;02 00:00:00;00 00:00:00;01",
			"002 R2 C 00:01:00;02 00:02:00;04 00:00:00;01 00:01:00;03",
			"003 BL C 00:00:00;00 00:08:59;28 00:01:00;03 00:10:00;01",
		}},
		{drop(60000, 1001), track{clip(1, 3600, 35964-3600)}, []string{"001 R1 C 00:01:00;04 00:10:00;00 00:00:00;00 00:08:59;56"}},
		{rate(30000, 1001), track{clip(1, 1799, 1)}, []string{"001 R1 C 00:00:59:29 00:01:00:00 00:00:00:00 00:00:00:01"}},
		// The bases.
		{rate(1, 1), track{clip(1, 1, 1)}, []string{"001 R1 C 00:00:01:00 00:00:02:00 00:00:00:00 00:00:01:00"}},
		{rate(1, 1001), track{clip(1, 1, 60)}, []string{"001 R1 C 00:00:01:00 00:01:01:00 00:00:00:00 00:01:00:00"}},
		{rate(100, 1), track{clip(1, 99, 1)}, []string{"001 R1 C 00:00:00:99 00:00:01:00 00:00:00:00 00:00:00:01"}},
		{rate(101, 1), track{clip(1, 99, 1)}, []string{"001 R1 C 00:00:00:099 00:00:00:100 00:00:00:000 00:00:00:001"}},
		{quick, track{clip(1, 119, 1), gap(120)}, []string{
			"001 R1 C 00:00:00:119 00:00:01:000 00:00:00:000 00:00:00:001",
			"002 BL C 00:00:00:000 00:00:01:000 00:00:00:001 00:00:01:001",
		}},
		// The greatest frames.
		{rate(28, 1), track{gap(lastFrame)}, []string{"001 BL C 00:00:00:00 99:12:22:24 00:00:00:00 99:12:22:24"}},
		{slow, track{clip(500, lastFrame-1, 1)}, []string{"001 R500 C 92:41:06;29 92:41:07;00 00:00:00;00 00:00:00;01"}},
		{quick, track{clip(3, 0, lastFrame)}, []string{"001 R3 C 00:00:00:000 23:08:53:040 00:00:00:000 23:08:53:040"}},
		{rate(1, 1), track{clip(3, 359998, 1)}, []string{"001 R3 C 99:59:58:00 99:59:59:00 00:00:00:00 00:00:01:00"}},
		{rate(1, 1), track{gap(359999)}, []string{"001 BL C 00:00:00:00 99:59:59:00 00:00:00:00 99:59:59:00"}},
	} {
		want := ""
		for _, line := range x.want {
			want += line + "\n"
		}
		checkShow(t, x.r, x.list, want)
		checkShown(t, x.r, x.list)
	}
}

// endOfTimes is how many frames have a time.
func endOfTimes(r impl.Rate) int64 {
	return 100 * 3600 * impl.Base(r)
}

// A clip or a track may go up to the last frame that has a time, and not one further.
func TestShowListAtTheEndOfTimes(t *testing.T) {
	for _, r := range rightRates() {
		if r.Drop {
			continue
		}
		last := min(endOfTimes(r)-1, lastFrame)
		for _, list := range []track{
			{clip(1, last-1, 1)}, {clip(1, 0, last)}, {gap(last)}, {clip(1, last-5, 5), gap(3)}, {gap(last - 1), clip(1, 0, 1)},
			{clip(1, 0, last-2), gap(1), clip(2, 7, 1)}, {gap(3), clip(4, last-3, 3)}, {clip(1, 0, last-1), clip(1, last-1, 1)},
		} {
			if impl.ShowList(r, list) == "" {
				t.Fatalf("%v at %v is not shown", list, r)
			}
			checkShown(t, r, list)
		}
		for _, list := range []track{
			{clip(1, last, 1)}, {clip(1, 0, last+1)}, {gap(last + 1)}, {clip(1, last-4, 5), gap(3)}, {gap(last), clip(1, 0, 1)},
			{clip(1, 0, last-2), gap(1), clip(2, 7, 2)}, {gap(3), clip(4, last-2, 3)}, {clip(1, 0, last), clip(1, last, 1)},
			{clip(1, 0, 5), clip(1, last+3, 5), clip(1, 0, 5)}, {gap(last), clip(1, 0, 1), gap(1)},
		} {
			checkShow(t, r, list, "")
			checkShown(t, r, list)
		}
	}
}

func TestShowListOfNoTrack(t *testing.T) {
	least, most := int64(math.MinInt64), int64(math.MaxInt64)
	for _, list := range []track{
		{gap(0)}, {gap(-1)}, {clip(0, 1, 1)}, {clip(0, -1, 1)}, {clip(-1, 0, 1)}, {clip(501, 0, 1)}, {clip(1, -1, 2)}, {clip(1, 0, 0)}, {clip(1, 5, -1)},
		{clip(1, lastFrame, 1)}, {clip(1, 0, lastFrame+1)}, {gap(lastFrame + 1)}, {gap(lastFrame), gap(1)}, {clip(1, 0, lastFrame), clip(1, 0, 1)},
		{clip(1, 0, 5), gap(0)}, {gap(0), clip(1, 0, 5)}, {clip(1, 0, 5), clip(501, 0, 1), clip(1, 0, 5)}, {clip(1, most, 1)}, {clip(1, 1, most)},
		{clip(most, 0, 1)}, {clip(least, 0, 1)}, {clip(1, least, 1)}, {clip(1, 0, least)}, {gap(most), gap(most), gap(12)}, {gap(least)},
		manyClips(301), slices.Repeat(track{gap(1)}, 301), slices.Repeat(track{clip(1, 0, 1)}, 1000),
	} {
		for _, r := range []impl.Rate{plain, slow, quick, rate(1, 1), rate(28, 1), {}} {
			checkShow(t, r, list, "")
		}
	}
}

func TestListsAtWrongRates(t *testing.T) {
	good := showByWords(plain, someShown())
	for _, r := range wrongRates() {
		for _, list := range []track{nil, {}, {gap(1)}, {clip(1, 0, 1)}, someShown(), {gap(0)}} {
			checkShow(t, r, list, "")
		}
		for _, text := range []string{"", "\n", "x", good, good[:len(good)-1], strings.Repeat("x", mostText+1), strings.Repeat("\n", mostText)} {
			checkFault(t, r, text, impl.LsRate, 0)
		}
	}
}

// someShown is Joined, and of no clip that any rate has no time for.
func someShown() track {
	return track{clip(1, 10, 5), gap(4), clip(2, 0, 2), clip(1, 20, 3), clip(500, 300000, 6), gap(2), clip(77, 1, 1900)}
}

func TestListsAtEachRate(t *testing.T) {
	for _, r := range rightRates() {
		for _, list := range []track{nil, {clip(1, 0, 1)}, {gap(1)}, someShown(), someTrack(), manyClips(299), manyClips(300), manyClips(301), {gap(3), gap(4)}} {
			checkShown(t, r, list)
		}
		for base := range int64(4) {
			// Around the edges of seconds, minutes, ten minutes and hours.
			for _, edge := range []int64{1, 60, 600, 3600} {
				at := edge*impl.Base(r) + base - 2
				if at < 1 {
					continue
				}
				checkShown(t, r, track{clip(9, at, 3), gap(at), clip(9, 0, at)})
			}
		}
	}
}

// The text of 300 clips is below MaxText at every rate, so each is read.
func TestListsOfManyClips(t *testing.T) {
	for _, n := range []int{9, 10, 99, 100, 299, 300} {
		list := track{}
		for i := range n {
			list = append(list, clip(500, int64(10*i), 2))
		}
		text := impl.ShowList(quick, list)
		if len(text) != 63*n {
			t.Fatalf("%d clips have %d bytes", n, len(text))
		}
		if last := fmt.Sprintf("\n%03d R500 C ", n); !strings.Contains("\n"+text, last) || strings.Count(text, "\n") != n {
			t.Fatalf("%d clips end with %q", n, text[len(text)-63:])
		}
		checkShown(t, quick, list)
	}
	// As many parts as a track may have, of which few clips are left.
	parts := track{}
	for i := range 300 {
		parts = append(parts, clip(int64(1+i/150), int64(i), 1))
	}
	checkShow(t, plain, parts, "001 R1 C 00:00:00:00 00:00:06:00 00:00:00:00 00:00:06:00\n002 R2 C 00:00:06:00 00:00:12:00 00:00:06:00 00:00:12:00\n")
	checkShown(t, plain, parts)
}

func TestReadListOrdinary(t *testing.T) {
	for _, r := range rightRates() {
		checkRead(t, r, "", nil, impl.ListFault{})
	}
	checkRead(t, plain, "001 R12 C 00:00:01:00 00:00:03:00 00:00:00:00 00:00:02:00\n002 BL C 00:00:00:00 00:00:00:05 00:00:02:00 00:00:02:05\n", track{clip(12, 25, 50), gap(5)}, impl.ListFault{})
	checkRead(t, slow, "001 BL C 00:00:00;00 00:01:00;02 00:00:00;00 00:01:00;02\n", track{gap(1800)}, impl.ListFault{})
	checkRead(t, quick, "001 R500 C 00:00:00:119 00:00:01:000 00:00:00:000 00:00:00:001\n", track{clip(500, 119, 1)}, impl.ListFault{})
	// The same source again, not where the one ahead ends.
	checkRead(t, plain, "001 R1 C 00:00:00:05 00:00:00:06 00:00:00:00 00:00:00:01\n002 R1 C 00:00:00:05 00:00:00:06 00:00:00:01 00:00:00:02\n003 R1 C 00:00:00:07 00:00:00:08 00:00:00:02 00:00:00:03\n", track{clip(1, 5, 1), clip(1, 5, 1), clip(1, 7, 1)}, impl.ListFault{})
	// A clip that ends where the next one, of another source, begins.
	checkRead(t, plain, "001 R1 C 00:00:00:00 00:00:00:06 00:00:00:00 00:00:00:06\n002 R2 C 00:00:00:06 00:00:00:07 00:00:00:06 00:00:00:07\n", track{clip(1, 0, 6), clip(2, 6, 1)}, impl.ListFault{})
}

// lineFault spoils the words of a line, which is of no gap, so that its first code is the one told.
type lineFault struct {
	name  string
	code  int
	spoil func(r impl.Rate, words []string, list track, i int) []string
}

func setWord(place int, to func(r impl.Rate, word string) string) func(impl.Rate, []string, track, int) []string {
	return func(r impl.Rate, words []string, _ track, _ int) []string {
		words = slices.Clone(words)
		words[place] = to(r, words[place])
		return words
	}
}

func always(word string) func(impl.Rate, string) string {
	return func(impl.Rate, string) string { return word }
}

// moved lets a time be by n frames later; where there is no such time, it is none.
func moved(n int64) func(impl.Rate, string) string {
	return func(r impl.Rate, word string) string {
		frame, _ := readByWords(r, word)
		return timeByWords(r, frame+n)
	}
}

// framesFrom puts other frames in the place of the times.
func framesFrom(frames func(c impl.Clip, at int64) [4]int64) func(impl.Rate, []string, track, int) []string {
	return func(r impl.Rate, words []string, list track, i int) []string {
		words = slices.Clone(words)
		for k, frame := range frames(list[i], lengthByWords(list[:i])) {
			words[3+k] = timeByWords(r, frame)
		}
		return words
	}
}

func lineFaults() []lineFault {
	all := []lineFault{
		{"six words", impl.LsWords, func(_ impl.Rate, words []string, _ track, _ int) []string { return words[:6] }},
		{"eight words", impl.LsWords, func(_ impl.Rate, words []string, _ track, _ int) []string { return append(slices.Clip(words), "C") }},
		{"the last six words", impl.LsWords, func(_ impl.Rate, words []string, _ track, _ int) []string { return words[1:] }},
		{"no words", impl.LsWords, func(impl.Rate, []string, track, int) []string { return nil }},
		{"one word", impl.LsWords, func(_ impl.Rate, words []string, _ track, _ int) []string { return words[:1] }},
		{"six blanks", impl.LsWords, func(impl.Rate, []string, track, int) []string { return make([]string, 7) }},
		{"the number ahead", impl.LsNumber, func(_ impl.Rate, words []string, _ track, i int) []string {
			return append([]string{fmt.Sprintf("%03d", i)}, words[1:]...)
		}},
		{"the number behind", impl.LsNumber, func(_ impl.Rate, words []string, _ track, i int) []string {
			return append([]string{fmt.Sprintf("%03d", i+2)}, words[1:]...)
		}},
		{"no frames", impl.LsIn, framesFrom(func(c impl.Clip, at int64) [4]int64 { return [4]int64{c.In, c.In, at, at} })},
		{"no frames, but some in the track", impl.LsIn, framesFrom(func(c impl.Clip, at int64) [4]int64 { return [4]int64{c.In, c.In, at, at + c.Len} })},
		{"ends ahead of its beginning", impl.LsIn, framesFrom(func(c impl.Clip, at int64) [4]int64 { return [4]int64{c.In + c.Len, c.In, at, at + c.Len} })},
		{"begins one later in the track", impl.LsPlace, framesFrom(func(c impl.Clip, at int64) [4]int64 { return [4]int64{c.In, c.In + c.Len, at + 1, at + 1 + c.Len} })},
		{"one less in the track", impl.LsPlace, framesFrom(func(c impl.Clip, at int64) [4]int64 { return [4]int64{c.In, c.In + c.Len, at, at + c.Len - 1} })},
		{"one more in the track", impl.LsPlace, framesFrom(func(c impl.Clip, at int64) [4]int64 { return [4]int64{c.In, c.In + c.Len, at, at + c.Len + 1} })},
		{"none in the track", impl.LsPlace, framesFrom(func(c impl.Clip, at int64) [4]int64 { return [4]int64{c.In, c.In + c.Len, at, at} })},
		{"backward in the track", impl.LsPlace, framesFrom(func(c impl.Clip, at int64) [4]int64 { return [4]int64{c.In, c.In + c.Len, at + c.Len, at} })},
		{"ends right, begins later", impl.LsPlace, framesFrom(func(c impl.Clip, at int64) [4]int64 { return [4]int64{c.In, c.In + c.Len, at + 1, at + c.Len} })},
		{"a frame more in the source", impl.LsPlace, setWord(4, moved(1))},
		{"a gap that begins later", impl.LsIn, func(r impl.Rate, words []string, list track, i int) []string {
			words = framesFrom(func(c impl.Clip, at int64) [4]int64 { return [4]int64{1, 1 + c.Len, at, at + c.Len} })(r, words, list, i)
			words[1] = "BL"
			return words
		}},
	}
	for place := range 7 {
		// A blank at either end of a line, or a second one within it.
		all = append(all, lineFault{"two blanks", impl.LsWords, func(_ impl.Rate, words []string, _ track, _ int) []string {
			return slices.Insert(slices.Clone(words), place, "")
		}})
		all = append(all, lineFault{"no word, and its blanks", impl.LsWords, setWord(place, always(""))})
		for _, other := range []string{"\t", "\v", "\r", "\x00", "\xa0", "\u00a0", "\u2003", "_", ","} {
			all = append(all, lineFault{"another byte for a blank", impl.LsWords, func(_ impl.Rate, words []string, _ track, _ int) []string {
				return slices.Concat(words[:min(place, 5)], []string{words[min(place, 5)] + other + words[min(place, 5)+1]}, words[min(place, 5)+2:])
			}})
		}
	}
	all = append(all, lineFault{"a blank at the end", impl.LsWords, func(_ impl.Rate, words []string, _ track, _ int) []string { return append(slices.Clip(words), "") }})
	for _, change := range []func(string) string{
		func(s string) string { return "+" + s }, func(s string) string { return "-" + s }, func(s string) string { return "+" + s[1:] }, func(s string) string { return s[1:] },
		func(s string) string { return "0" + s }, func(s string) string { return strings.TrimLeft(s, "0") }, func(s string) string { return s + "\t" }, func(s string) string { return s + "." },
		func(string) string { return "000" }, func(string) string { return "0" }, func(string) string { return "x" }, func(string) string { return "BL" }, func(s string) string { return s + "0" },
		func(s string) string { return s[:2] + string([]byte{s[2] + 128}) }, func(s string) string { return "\uff10" + s[1:] }, func(s string) string { return "99999999999999999999" + s }, func(s string) string { return "0x" + s }, func(s string) string { return s + "\x00" },
	} {
		all = append(all, lineFault{"another number", impl.LsNumber, setWord(0, func(_ impl.Rate, word string) string { return change(word) })})
	}
	for _, word := range []string{
		"R", "R0", "R00", "R01", "R001", "R+1", "R-1", "R-0", "R501", "R999", "R1000", "R0500", "R5000", "R500000000", "R1000000001", "R9223372036854775807", "R9223372036854775808", "R18446744073709551617", "R4294967297",
		"r1", "1", "12", "RR1", "R1R", "R1.", "R1.0", "R1e1", "R0x1", "R1_0", "R1\t", "\tR1", "R\u0661", "R\uff11", "R1\x00", "R\xb1", "-R1", "+R1", "BL1", "B", "L", "bl", "Bl", "BLBL", "BL\t", "\xc2\xa0BL", "RBL", "C", "X",
	} {
		all = append(all, lineFault{"the source " + word, impl.LsSource, setWord(1, always(word))})
	}
	for _, word := range []string{"c", "CC", "X", "D", "R1", "BL", "C\t", "\tC", "\xc3", "\u0421", "0", "C\x00", "00:00:00:00"} {
		all = append(all, lineFault{"for C " + word, impl.LsSource, setWord(2, always(word))})
	}
	for place := 3; place < 7; place++ {
		for _, word := range []string{"x", "0", "00:00:00", "00:00:60:00", "00:60:00:00", "00:00:00.00", "00;00;00;00", "-0:00:00:00", "00:00:00:99", "00:00:00;99", "00:00:00:0000", "000:00:00:00", "C", "\uff10", "00:01:00;00", "99:59:59:119"} {
			all = append(all, lineFault{"the time " + word, impl.LsTime, setWord(place, always(word))})
		}
		for _, tail := range []string{"\r", "\t", "\x00", "0", ":", "\xa0", "\u00a0"} {
			all = append(all, lineFault{"a time and more", impl.LsTime, setWord(place, func(_ impl.Rate, word string) string { return word + tail })})
			all = append(all, lineFault{"more and a time", impl.LsTime, setWord(place, func(_ impl.Rate, word string) string { return tail + word })})
		}
		all = append(all, lineFault{"a time of another rate", impl.LsTime, setWord(place, func(r impl.Rate, word string) string {
			frame, _ := readByWords(r, word)
			return timeByWords(map[impl.Rate]impl.Rate{plain: slow, slow: plain, quick: plain}[r], frame)
		})})
	}
	return all
}

// listOfShows has no gap at the first place, between, or at the end, so that every fault fits.
func listOfShows() track {
	return track{clip(3, 40, 5), clip(12, 1795, 9), clip(3, 7, 2), clip(500, 0, 4), clip(77, 100, 1900)}
}

// Each fault at the first line, at later ones and at the last, with the lines behind it right or all wrong.
func TestListFaults(t *testing.T) {
	list := listOfShows()
	for _, r := range []impl.Rate{plain, slow, quick} {
		right := wordsByWords(r, list)
		for _, f := range lineFaults() {
			for i := range list {
				lines := slices.Clone(right)
				lines[i] = f.spoil(r, lines[i], list, i)
				checkNamed(t, r, f.name, textOf(lines), f.code, i)
				checkNamed(t, r, f.name, textOf(lines[:i+1]), f.code, i)
				checkNamed(t, r, f.name, textOf(lines)+"\n"+textOf(lines), f.code, i)
				// Without its last byte, and with too many: those are found ahead of all lines.
				checkNamed(t, r, f.name, strings.TrimSuffix(textOf(lines), "\n")+".", impl.LsEnd, 0)
				checkNamed(t, r, f.name, textOf(lines)+strings.Repeat("\n", mostText), impl.LsLong, 0)
			}
		}
	}
}

func checkNamed(t *testing.T, r impl.Rate, name string, text string, code, line int) {
	t.Helper()
	_, found := readListByWords(r, text)
	if found != listFault(code, line) {
		t.Fatalf("%s: the test itself finds %v in %.400q, want the code %d at line %d", name, found, text, code, line)
	}
	if got, found := impl.ReadList(r, text); found != listFault(code, line) || len(got) != 0 {
		t.Fatalf("%s: %.400q at %v: %v %v, want the code %d at line %d", name, text, r, few(got), found, code, line)
	}
}

// Two faults in a line: the lesser code is told; in two lines: the first line's, whatever its code.
func TestListFaultsInPairs(t *testing.T) {
	list := listOfShows()
	r := slow
	right := wordsByWords(r, list)
	faults := lineFaults()
	rest := rand.New(rand.NewSource(21))
	for _, one := range faults {
		for range 12 {
			other := faults[rest.Intn(len(faults))]
			i, j := rest.Intn(len(list)-1), 0
			j = i + 1 + rest.Intn(len(list)-1-i)
			lines := slices.Clone(right)
			lines[i], lines[j] = one.spoil(r, lines[i], list, i), other.spoil(r, lines[j], list, j)
			checkNamed(t, r, one.name+", "+other.name, textOf(lines), one.code, i)
		}
	}
	set := func(lines [][]string, i int, place int, word string) {
		lines[i] = slices.Clone(lines[i])
		lines[i][place] = word
	}
	// What is wrong by each code, by words that do not stand in one another's way.
	spoils := []struct {
		code  int
		spoil func(lines [][]string, i int)
	}{
		{impl.LsWords, func(lines [][]string, i int) { set(lines, i, 6, lines[i][6]+" ") }},
		{impl.LsNumber, func(lines [][]string, i int) { set(lines, i, 0, "1") }},
		{impl.LsSource, func(lines [][]string, i int) { set(lines, i, 2, "D") }},
		{impl.LsTime, func(lines [][]string, i int) { set(lines, i, 6, "x") }},
		{impl.LsIn, func(lines [][]string, i int) { set(lines, i, 3, lines[i][4]) }},
		{impl.LsPlace, func(lines [][]string, i int) { set(lines, i, 5, "00:20:00;05") }},
	}
	for chosen := 1; chosen < 1<<len(spoils); chosen++ {
		for i := range list {
			lines := slices.Clone(right)
			code := 0
			for k, s := range spoils {
				if chosen>>k&1 == 0 {
					continue
				}
				if code == 0 {
					code = s.code
				}
			}
			// The words last, so that the others find theirs.
			for k := len(spoils) - 1; k >= 0; k-- {
				if chosen>>k&1 == 1 {
					spoils[k].spoil(lines, i)
				}
			}
			checkFault(t, r, textOf(lines), code, i)
		}
	}
}

func TestListText(t *testing.T) {
	good := showByWords(plain, listOfShows())
	for _, x := range []struct {
		text       string
		code, line int
	}{
		{"", 0, 0},
		{"\n", impl.LsWords, 0},
		{"\n\n", impl.LsWords, 0},
		{"x", impl.LsEnd, 0},
		{" ", impl.LsEnd, 0},
		{"\r", impl.LsEnd, 0},
		{"\n ", impl.LsEnd, 0},
		{"\nx", impl.LsEnd, 0},
		{" \n", impl.LsWords, 0},
		{"x\n", impl.LsWords, 0},
		{good + "\n", impl.LsWords, 5},
		{good + "\n\n", impl.LsWords, 5},
		{"\n" + good, impl.LsWords, 0},
		{good + good, impl.LsNumber, 5},
		{good + " ", impl.LsEnd, 0},
		{good + "\x00", impl.LsEnd, 0},
		{good[:len(good)-1], impl.LsEnd, 0},
		{good[:len(good)-1] + "\r", impl.LsEnd, 0},
		{good[:len(good)-1] + "\n\r", impl.LsEnd, 0},
		{"x" + good[:len(good)-1], impl.LsEnd, 0},
		{strings.ReplaceAll(good, "\n", "\r\n"), impl.LsTime, 0},
		{strings.ReplaceAll(good, "\n", "\r"), impl.LsEnd, 0},
		{strings.ReplaceAll(good, "\n", "\v") + "\n", impl.LsWords, 0},
		{strings.ReplaceAll(good, "\n", "\u2028") + "\n", impl.LsWords, 0},
		{strings.ReplaceAll(good, " ", "\t"), impl.LsWords, 0},
		{strings.ReplaceAll(good, " ", "  "), impl.LsWords, 0},
		{strings.ToLower(good), impl.LsSource, 0},
		{strings.ReplaceAll(good, "\n", "\n\n"), impl.LsWords, 1},
		{strings.Replace(good, " ", "\n", 1), impl.LsWords, 0},
		{strings.ReplaceAll(good, " R", "\xff R"), impl.LsNumber, 0},
		{"\ufeff" + good, impl.LsNumber, 0},
		{good[1:], impl.LsNumber, 0},
		{" " + good, impl.LsWords, 0},
	} {
		checkFault(t, plain, x.text, x.code, x.line)
	}
}

// No text of MaxText bytes is without a fault, since 300 clips have less; but its fault is another one than LsLong.
func TestListsOfMaxText(t *testing.T) {
	for _, r := range []impl.Rate{plain, slow, quick} {
		most := showByWords(r, manyClips(300))
		for _, x := range []struct {
			begin      string
			code, line int
		}{
			{most, impl.LsWords, 300},
			{"", impl.LsWords, 0},
			{showByWords(r, listOfShows()), impl.LsWords, 5},
		} {
			for _, fill := range []string{"x", "\n", " ", "x ", "\x00"} {
				text := x.begin + strings.Repeat(fill, mostText+1)
				checkFault(t, r, text[:mostText-1]+"\n", x.code, x.line)
				checkFault(t, r, text[:mostText-2]+"\n", x.code, x.line)
				checkFault(t, r, text[:mostText]+"\n", impl.LsLong, 0)
				checkFault(t, r, text[:mostText+1]+"\n", impl.LsLong, 0)
				checkFault(t, r, text[:mostText-1]+"x", impl.LsEnd, 0)
				checkFault(t, r, text[:mostText]+"x", impl.LsLong, 0)
			}
		}
		checkFault(t, r, strings.Repeat("x", 1<<20), impl.LsLong, 0)
		checkFault(t, r, strings.Repeat(most, 2), impl.LsLong, 0)
	}
}

// The 301st line is one clip too many, where nothing else is wrong with it.
func TestListsOfTooManyClips(t *testing.T) {
	list := manyClips(301)
	for _, r := range []impl.Rate{plain, slow, quick} {
		lines := wordsByWords(r, list)
		text := textOf(lines)
		if len(text) > mostText {
			t.Fatal("too long:", len(text))
		}
		checkRead(t, r, textOf(lines[:299]), list[:299], impl.ListFault{})
		checkRead(t, r, textOf(lines[:300]), list[:300], impl.ListFault{})
		checkFault(t, r, text, impl.LsJoin, 300)
		checkFault(t, r, text+"x\n", impl.LsJoin, 300)
		checkFault(t, r, textOf(append(slices.Clip(lines), lines[300])), impl.LsJoin, 300)
		for _, x := range []struct {
			place, code int
			word        string
		}{
			{0, impl.LsNumber, "300"}, {0, impl.LsNumber, "302"}, {0, impl.LsNumber, "0301"}, {0, impl.LsNumber, "000"}, {0, impl.LsNumber, ""},
			{1, impl.LsSource, "R501"}, {2, impl.LsSource, "X"}, {3, impl.LsTime, "x"}, {6, impl.LsTime, "x"}, {4, impl.LsIn, lines[300][3]}, {5, impl.LsPlace, lines[300][6]}, {6, impl.LsPlace, lines[300][5]},
		} {
			last := slices.Clone(lines[300])
			last[x.place] = x.word
			code := x.code
			if x.word == "" {
				code = impl.LsWords
			}
			checkFault(t, r, textOf(append(slices.Clip(lines[:300]), last)), code, 300)
		}
	}
}

// A clip that goes on, or a second gap, is told at the line that goes on; with all else right in that line.
func TestListsThatAreNotJoined(t *testing.T) {
	for _, x := range []struct {
		list track
		line int
	}{
		{track{clip(1, 0, 5), clip(1, 5, 5)}, 1},
		{track{clip(1, 0, 1), clip(1, 1, 1), clip(1, 2, 1)}, 1},
		{track{gap(1), gap(1)}, 1},
		{track{clip(9, 3, 1), gap(4), gap(2)}, 2},
		{track{gap(1), clip(9, 3, 1), clip(9, 4, 1), gap(1)}, 2},
		{track{clip(1, 0, 5), gap(5), clip(1, 5, 5), clip(1, 10, 1)}, 3},
		{track{clip(1, 0, 5), gap(5), clip(1, 5, 5), gap(1), gap(9), gap(1)}, 4},
		{track{clip(500, 1799, 1), clip(500, 1800, 1)}, 1},
		// These do not go on.
		{track{clip(1, 0, 5), clip(1, 6, 5)}, -1},
		{track{clip(1, 0, 5), clip(1, 4, 5)}, -1},
		{track{clip(1, 0, 5), clip(1, 0, 5)}, -1},
		{track{clip(1, 0, 5), clip(2, 5, 5)}, -1},
		{track{clip(1, 5, 5), clip(1, 0, 5)}, -1},
		{track{clip(1, 0, 5), gap(1), clip(1, 5, 5)}, -1},
		{track{gap(5), clip(1, 5, 1), gap(1), clip(1, 0, 1), gap(1)}, -1},
		{track{gap(5), clip(1, 0, 5), clip(2, 5, 1), clip(1, 5, 1)}, -1},
	} {
		for _, r := range []impl.Rate{plain, slow, quick} {
			text := unjoinedText(r, x.list)
			if x.line < 0 {
				checkRead(t, r, text, x.list, impl.ListFault{})
			} else {
				checkFault(t, r, text, impl.LsJoin, x.line)
			}
		}
	}
}

// unjoinedText has a line for each clip, as if they were Joined.
func unjoinedText(r impl.Rate, list track) string {
	text := ""
	for i, c := range list {
		words := wordsByWords(r, track{c})[0]
		at := lengthByWords(list[:i])
		words[0], words[5], words[6] = fmt.Sprintf("%03d", i+1), timeByWords(r, at), timeByWords(r, at+c.Len)
		text += textOf([][]string{words})
	}
	return text
}

// What is past the last frame is no time at all, so no clip and no track is too long by another code.
func TestListsPastTheLastFrame(t *testing.T) {
	for _, x := range []struct {
		r    impl.Rate
		text string
		code int
		line int
	}{
		{rate(28, 1), "001 R1 C 00:00:00:00 99:12:22:24 00:00:00:00 99:12:22:24\n", 0, 0},
		{rate(28, 1), "001 R1 C 00:00:00:00 99:12:22:25 00:00:00:00 99:12:22:25\n", impl.LsTime, 0},
		{rate(28, 1), "001 R1 C 99:12:22:23 99:12:22:24 00:00:00:00 00:00:00:01\n", 0, 0},
		{rate(28, 1), "001 R1 C 99:12:22:24 99:12:22:24 00:00:00:00 00:00:00:00\n", impl.LsIn, 0},
		{rate(28, 1), "001 R1 C 99:12:22:24 99:12:22:25 00:00:00:00 00:00:00:01\n", impl.LsTime, 0},
		{rate(28, 1), "001 R1 C 00:00:00:00 99:12:22:24 00:00:00:00 99:12:22:24\n002 BL C 00:00:00:00 00:00:00:01 99:12:22:24 99:12:22:25\n", impl.LsTime, 1},
		{rate(28, 1), "001 R1 C 00:00:00:00 99:12:22:24 00:00:00:00 99:12:22:24\n002 BL C 00:00:00:00 00:00:00:01 99:12:22:24 99:12:22:24\n", impl.LsPlace, 1},
		{rate(28, 1), "001 R1 C 00:00:00:00 99:12:22:24 00:00:00:00 99:12:22:24\n002 BL C 00:00:00:00 00:00:00:01 00:00:00:00 00:00:00:01\n", impl.LsPlace, 1},
		{rate(28, 1), "001 R1 C 00:00:00:00 99:12:22:23 00:00:00:00 99:12:22:23\n002 BL C 00:00:00:00 00:00:00:01 99:12:22:23 99:12:22:24\n", 0, 0},
		{rate(1, 1), "001 R1 C 00:00:00:00 99:59:59:00 00:00:00:00 99:59:59:00\n", 0, 0},
		{rate(1, 1), "001 R1 C 00:00:00:00 99:59:59:00 00:00:00:00 99:59:59:00\n002 BL C 00:00:00:00 00:00:01:00 99:59:59:00 100:00:00:00\n", impl.LsTime, 1},
		{slow, "001 BL C 00:00:00;00 92:41:07;00 00:00:00;00 92:41:07;00\n", 0, 0},
		{slow, "001 BL C 00:00:00;00 92:41:07;01 00:00:00;00 92:41:07;01\n", impl.LsTime, 0},
		{quick, "001 R1 C 23:08:53:000 23:08:53:040 00:00:00:000 00:00:00:040\n", 0, 0},
		{quick, "001 R1 C 23:08:53:000 23:08:53:041 00:00:00:000 00:00:00:041\n", impl.LsTime, 0},
	} {
		checkFault(t, x.r, x.text, x.code, x.line)
	}
}

// Every byte of a text as every other, left out, or doubled: each text is read as the chapter says.
func TestListsOfTurnedBytes(t *testing.T) {
	for _, x := range []struct {
		r    impl.Rate
		list track
	}{
		{plain, track{clip(1, 0, 2), gap(1), clip(50, 9, 1)}},
		{slow, track{gap(1799), clip(10, 1800, 1)}},
		{quick, track{clip(500, 119, 1)}},
	} {
		text := showByWords(x.r, x.list)
		for i := range len(text) {
			for v := range 256 {
				checkText(t, x.r, text[:i]+string([]byte{byte(v)})+text[i+1:])
			}
			for _, other := range []string{text[:i] + text[i+1:], text[:i] + text[i:i+1] + text[i:], text[:i], text[i:], text[:i] + "\n" + text[i:], text[:i] + " " + text[i:], text[:i] + "\n", text[:i] + "0" + text[i:]} {
				checkText(t, x.r, other)
			}
		}
	}
}

func TestShownAtRandom(t *testing.T) {
	r := rand.New(rand.NewSource(22))
	rates := rightRates()
	read := 0
	for range 20000 {
		list, at := randomTrack(r), rates[r.Intn(len(rates))]
		checkShown(t, at, list)
		if impl.ShowList(at, list) != "" {
			read++
		}
		checkText(t, at, unjoinedText(at, list))
	}
	if read < 8000 {
		t.Error("too few are shown:", read)
	}
}

// randomLines are lines that are mostly right, each word now and then another one.
func randomLines(r *rand.Rand, at impl.Rate) string {
	lines := wordsByWords(at, randomTrack(r))
	for _, words := range lines {
		for range r.Intn(3) {
			i := r.Intn(7)
			switch r.Intn(6) {
			case 0:
				words[i] = words[r.Intn(7)]
			case 1:
				words[i] = lines[r.Intn(len(lines))][i]
			case 2:
				words[1] = []string{"BL", "R1", "R2", "R500", "R501", "R0"}[r.Intn(6)]
			case 3:
				frame := int64(r.Intn(9))
				words[3+r.Intn(4)] = timeByWords(at, frame)
			case 4:
				words[i] += []string{"", " ", "\t", "0", "\n", "\r"}[r.Intn(6)]
			}
		}
	}
	text := textOf(lines)
	if len(text) > 0 && r.Intn(20) == 0 {
		text = text[:r.Intn(len(text))]
	}
	return text
}

func TestListTextsAtRandom(t *testing.T) {
	r := rand.New(rand.NewSource(23))
	rates := []impl.Rate{plain, slow, quick, rate(1, 1), rate(30, 1), drop(60000, 1001)}
	seen := map[int64]int{}
	for range 40000 {
		at := rates[r.Intn(len(rates))]
		seen[checkText(t, at, randomLines(r, at)).Code]++
	}
	for _, code := range []int64{0, impl.LsEnd, impl.LsWords, impl.LsNumber, impl.LsSource, impl.LsTime, impl.LsIn, impl.LsPlace, impl.LsJoin} {
		if seen[code] < 20 {
			t.Errorf("the code %d came %d times", code, seen[code])
		}
	}
}

// What is read is a track of its own: edits of it, and more readings, leave it as it was.
func TestListAnswersStandAlone(t *testing.T) {
	text := showByWords(plain, someShown())
	one, _ := impl.ReadList(plain, text)
	other, _ := impl.ReadList(plain, text)
	held := slices.Clone(one)
	spoilAll(other, cutMark)
	if !slices.Equal(one, held) {
		t.Error("two answers share memory")
	}
	again := impl.ShowList(plain, one)
	spoilAll(one, cutMark)
	if again != text {
		t.Error("the text changed with the track")
	}
}

// FuzzReadList takes a text, three bytes for each clip of a track, and a rate's place.
func FuzzReadList(f *testing.F) {
	for i, r := range rightRates() {
		f.Add(i, showByWords(r, someShown()), []byte{1, 10, 20, 0, 0, 3, 2, 0, 10})
	}
	f.Add(0, "001 R1 C 00:00:00:00 00:00:00:01 00:00:00:00 00:00:00:01\n", []byte{0, 0, 2, 0, 0, 1})
	f.Fuzz(func(t *testing.T, i int, text string, told []byte) {
		rates := rightRates()
		r := rates[uint(i)%uint(len(rates))]
		checkText(t, r, text)
		checkShown(t, r, tracksFromBytes(told))
	})
}
