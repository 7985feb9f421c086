package tests

import (
	"fmt"
	"math"
	"math/rand"
	"regexp"
	"slices"
	"strconv"
	"strings"
	"testing"
	"unsafe"

	"loop.example/g00066/impl"
)

// The faces of the chapter, held as they were given.
var (
	_ func(list []impl.Title) bool                           = impl.TitlesOk
	_ func(list []impl.Title, s impl.Style) []impl.Worry     = impl.Unread
	_ func(list []impl.Title) string                         = impl.ShowTitles
	_ func(text string) ([]impl.Title, impl.TitleFault)      = impl.ReadTitles
	_ func(list []impl.Title, by int64) ([]impl.Title, bool) = impl.Delay
	_ struct{ Least, Gap, Rate, Rows, Wide int64 }           = impl.Style{}
	_ struct{ At, Why int64 }                                = impl.Worry{}
	_ struct{ Code, Title int64 }                            = impl.TitleFault{}
	_ struct {
		From int64
		To   int64
		Text string
	} = impl.Title{}
)

const (
	lastMilli  = 359999999
	mostLetter = 200
	mostTitles = 200
	mostWhole  = 40000
)

type (
	titles  = []impl.Title
	worries = []impl.Worry
)

var (
	titleMark = title(-91, -92, "\x00mark")
	worryMark = worry(-93, -94)
	styleMark = impl.Style{Least: -95, Gap: -96, Rate: -97, Rows: -98, Wide: -99}
	easy      = style(1, 0, lastMilli, lastMilli, lastMilli)
)

func title(from, to int64, text string) impl.Title {
	return impl.Title{From: from, To: to, Text: text}
}

func worry(at, why int64) impl.Worry { return impl.Worry{At: at, Why: why} }

func style(least, gap, rate, rows, wide int64) impl.Style {
	return impl.Style{Least: least, Gap: gap, Rate: rate, Rows: rows, Wide: wide}
}

func titleFault(code, at int) impl.TitleFault {
	return impl.TitleFault{Code: int64(code), Title: int64(at)}
}

// titleTextByWords looks at each byte and at the one ahead of it.
func titleTextByWords(text string) bool {
	ahead := byte(10)
	for _, c := range []byte(text) {
		if c == 127 || c < 32 && c != 10 || c == 10 && ahead == 10 {
			return false
		}
		ahead = c
	}
	return ahead != 10 && len(text) >= 1 && len(text) <= mostLetter
}

func titlesByWords(list titles) bool {
	for i, t := range list {
		if !(0 <= t.From && t.From < t.To && t.To <= lastMilli) || !titleTextByWords(t.Text) {
			return false
		}
		if i > 0 && t.From < list[i-1].To {
			return false
		}
	}
	return len(list) <= mostTitles
}

func styleByWords(s impl.Style) bool {
	for i, n := range []int64{s.Gap, s.Least, s.Rate, s.Rows, s.Wide} {
		if n < 0 || n > lastMilli || n == 0 && i > 0 {
			return false
		}
	}
	return true
}

// signsByWords are the signs of each line.
func signsByWords(text string) []int64 {
	lines := []int64{0}
	for _, c := range []byte(text) {
		switch {
		case c == 10:
			lines = append(lines, 0)
		case c>>6 != 2: // 128 to 191 are those that begin with the bits 10
			lines[len(lines)-1]++
		}
	}
	return lines
}

func unreadByWords(list titles, s impl.Style) worries {
	out := worries{}
	if !titlesByWords(list) || !styleByWords(s) {
		return out
	}
	for i, t := range list {
		lines := signsByWords(t.Text)
		all := int64(0)
		for _, n := range lines {
			all += n
		}
		shown := t.To - t.From
		if shown < s.Least {
			out = append(out, worry(int64(i), impl.WyShort))
		}
		if i > 0 && t.From < list[i-1].To+s.Gap {
			out = append(out, worry(int64(i), impl.WyGap))
		}
		if all*1000 > s.Rate*shown {
			out = append(out, worry(int64(i), impl.WyFast))
		}
		if int64(len(lines)) > s.Rows {
			out = append(out, worry(int64(i), impl.WyRows))
		}
		if slices.Max(lines) > s.Wide {
			out = append(out, worry(int64(i), impl.WyWide))
		}
	}
	return out
}

func milliByWords(n int64) string {
	return fmt.Sprintf("%02d:%02d:%02d,%03d", n/3600000, n/60000%60, n/1000%60, n%1000)
}

// titleByWords writes whatever it is given.
func titleByWords(number int, t impl.Title) string {
	return fmt.Sprintf("%d\n%s --> %s\n%s\n\n", number, milliByWords(t.From), milliByWords(t.To), t.Text)
}

func allTitlesByWords(list titles) string {
	text := ""
	for i, t := range list {
		text += titleByWords(i+1, t)
	}
	return text
}

func showTitlesByWords(list titles) string {
	if !titlesByWords(list) {
		return ""
	}
	return allTitlesByWords(list)
}

var timesForm = regexp.MustCompile(`^([0-9][0-9]):([0-5][0-9]):([0-5][0-9]),([0-9][0-9][0-9]) --> ([0-9][0-9]):([0-5][0-9]):([0-5][0-9]),([0-9][0-9][0-9])$`)

// twoTimesByWords are the times of a line.
func twoTimesByWords(line string) (from, to int64, ok bool) {
	parts := timesForm.FindStringSubmatch(line)
	if parts == nil {
		return 0, 0, false
	}
	n := [9]int64{}
	for i, part := range parts[1:] {
		n[i+1], _ = strconv.ParseInt(part, 10, 64)
	}
	return 3600000*n[1] + 60000*n[2] + 1000*n[3] + n[4], 3600000*n[5] + 60000*n[6] + 1000*n[7] + n[8], true
}

// readTitlesByWords takes the lines of the whole text apart, and goes from one empty line to the next.
func readTitlesByWords(text string) (titles, impl.TitleFault) {
	if len(text) > mostWhole {
		return nil, titleFault(impl.TtLong, 0)
	}
	list := titles{}
	lines := strings.Split(text, "\n")
	rest := lines[len(lines)-1] // not ended by a newline: no line
	lines = lines[:len(lines)-1]
	for len(lines) > 0 || rest != "" {
		i := len(list)
		if len(lines) < 1 || lines[0] != fmt.Sprint(i+1) {
			return nil, titleFault(impl.TtNumber, i)
		}
		if len(lines) < 2 {
			return nil, titleFault(impl.TtTime, i)
		}
		from, to, ok := twoTimesByWords(lines[1])
		if !ok {
			return nil, titleFault(impl.TtTime, i)
		}
		if from >= to || i > 0 && from < list[i-1].To {
			return nil, titleFault(impl.TtOrder, i)
		}
		empty := slices.Index(lines[2:], "")
		if empty < 0 || !titleTextByWords(strings.Join(lines[2:2+empty], "\n")) {
			return nil, titleFault(impl.TtText, i)
		}
		if i == mostTitles {
			return nil, titleFault(impl.TtMany, i)
		}
		list = append(list, title(from, to, strings.Join(lines[2:2+empty], "\n")))
		lines = lines[3+empty:]
	}
	return list, impl.TitleFault{}
}

func delayByWords(list titles, by int64) (titles, bool) {
	if !titlesByWords(list) || by < -lastMilli || by > lastMilli {
		return nil, false
	}
	out := titles{}
	for _, t := range list {
		out = append(out, title(t.From+by, t.To+by, t.Text))
	}
	if !titlesByWords(out) {
		return nil, false
	}
	return out, true
}

func shortText(text string) string {
	if len(text) > 600 {
		return fmt.Sprintf("%d bytes: %q .. %q", len(text), text[:300], text[len(text)-300:])
	}
	return fmt.Sprintf("%q", text)
}

// shareBytes tells whether two texts lie in the same memory.
func shareBytes(a, b string) bool {
	if a == "" || b == "" {
		return false
	}
	beginA, beginB := uintptr(unsafe.Pointer(unsafe.StringData(a))), uintptr(unsafe.Pointer(unsafe.StringData(b)))
	return beginA < beginB+uintptr(len(b)) && beginB < beginA+uintptr(len(a))
}

func checkTitlesIs(t *testing.T, list titles, want bool) {
	t.Helper()
	watchList(t, "TitlesOk", list, titleMark, nil, impl.TitlesOk, want)
}

func checkUnreadIs(t *testing.T, list titles, s impl.Style, want worries) {
	t.Helper()
	ask := func(list titles, s []impl.Style) (worries, bool) { return impl.Unread(list, s[0]), true }
	checkTwice(t, "Unread", ask, list, titleMark, []impl.Style{s}, styleMark, want, worryMark, true)
}

func checkShownIs(t *testing.T, list titles, want string) {
	t.Helper()
	given, whole := withRoom(list, titleMark)
	before := slices.Clone(whole)
	got, again := impl.ShowTitles(given), impl.ShowTitles(given)
	if !slices.Equal(whole, before) {
		t.Fatalf("ShowTitles of %v: the list, or its room, was written into", few(list))
	}
	spoilAll(whole, titleMark)
	if got != want || again != want {
		t.Fatalf("ShowTitles of %v:\n%s\nthen\n%s\nwant\n%s", few(list), shortText(got), shortText(again), shortText(want))
	}
	for _, one := range list {
		if shareBytes(got, one.Text) {
			t.Fatalf("ShowTitles of %v: the text is a title's own", few(list))
		}
	}
}

// checkReadIs reads a text that nothing else has, and spoils the first answer: the second one must not feel it.
func checkReadIs(t *testing.T, text string, want titles, wantFault impl.TitleFault) {
	t.Helper()
	given := strings.Clone(text)
	got, fault := impl.ReadTitles(given)
	again, faultAgain := impl.ReadTitles(given)
	if fault != wantFault || !slices.Equal(got, want) {
		t.Fatalf("ReadTitles of %s: %v %v, want %v %v", shortText(text), few(got), fault, few(want), wantFault)
	}
	for _, one := range got {
		if shareBytes(given, one.Text) {
			t.Fatalf("ReadTitles of %s: a title's text lies in what was read", shortText(text))
		}
	}
	spoilAll(got, titleMark)
	if faultAgain != wantFault || !slices.Equal(again, want) || given != text {
		t.Fatalf("ReadTitles of %s, once more: %v %v, want %v %v", shortText(text), few(again), faultAgain, few(want), wantFault)
	}
}

func checkDelayIs(t *testing.T, list titles, by int64, want titles, wantOk bool) {
	t.Helper()
	ask := func(list titles, by []int64) (titles, bool) { return impl.Delay(list, by[0]) }
	checkTwice(t, "Delay", ask, list, titleMark, []int64{by}, -97, want, titleMark, wantOk)
	got, _ := impl.Delay(list, by)
	for i := range got {
		if shareBytes(got[i].Text, list[i].Text) {
			t.Fatalf("Delay of %v by %d: a text lies in the memory of the one that came", few(list), by)
		}
	}
}

// checkTitles asks of a list all that can be asked.
func checkTitles(t *testing.T, list titles, s impl.Style, by int64) {
	t.Helper()
	checkTitlesIs(t, list, titlesByWords(list))
	checkUnreadIs(t, list, s, unreadByWords(list, s))
	checkShownIs(t, list, showTitlesByWords(list))
	want, ok := delayByWords(list, by)
	checkDelayIs(t, list, by, want, ok)
	if titlesByWords(list) {
		checkTitlesPromise(t, list)
		checkDelayedBack(t, list, by)
	}
}

// checkTitlesPromise is promise 13: of a text that is not too long the titles are read again.
func checkTitlesPromise(t *testing.T, list titles) {
	t.Helper()
	text := impl.ShowTitles(list)
	if len(text) > mostWhole {
		checkReadIs(t, text, nil, titleFault(impl.TtLong, 0))
		return
	}
	checkReadIs(t, text, list, impl.TitleFault{})
}

func checkDelayedBack(t *testing.T, list titles, by int64) {
	t.Helper()
	later, ok := impl.Delay(list, by)
	if !ok {
		return
	}
	if !impl.TitlesOk(later) {
		t.Fatalf("Delay of %v by %d: %v are no titles", few(list), by, few(later))
	}
	checkDelayIs(t, later, -by, list, true)
}

func checkReadTitles(t *testing.T, text string) {
	t.Helper()
	want, fault := readTitlesByWords(text)
	checkReadIs(t, text, want, fault)
	list, fault := impl.ReadTitles(text)
	if fault == (impl.TitleFault{}) {
		if !impl.TitlesOk(list) {
			t.Fatalf("ReadTitles of %s: %v are no titles", shortText(text), few(list))
		}
		checkShownIs(t, list, text)
	}
}

// manyTitles touch each other.
func manyTitles(n int, text string) titles {
	list := titles{}
	for i := range int64(n) {
		list = append(list, title(10*i, 10*i+10, text))
	}
	return list
}

func TestTitleConstants(t *testing.T) {
	got := [...]int64{impl.MaxMilli, impl.MaxTitle, impl.MaxTitles, impl.WyShort, impl.WyGap, impl.WyFast, impl.WyRows, impl.WyWide, impl.TtLong, impl.TtNumber, impl.TtTime, impl.TtOrder, impl.TtText, impl.TtMany}
	if want := [...]int64{359999999, 200, 200, 1, 2, 3, 4, 5, 1, 2, 3, 4, 5, 6}; got != want {
		t.Fatal(got)
	}
}

func TestTitlesOkCases(t *testing.T) {
	for _, c := range []struct {
		list titles
		want bool
	}{
		{nil, true},
		{titles{}, true},
		{titles{title(0, 1, "a")}, true},
		{titles{title(1500, 2000, "Guten\nTag")}, true},
		{titles{title(-1, 1, "a")}, false},
		{titles{title(0, 0, "a")}, false},
		{titles{title(5, 5, "a")}, false},
		{titles{title(5, 6, "a")}, true},
		{titles{title(5, 4, "a")}, false},
		{titles{title(0, lastMilli, "a")}, true},
		{titles{title(lastMilli-1, lastMilli, "a")}, true},
		{titles{title(0, lastMilli+1, "a")}, false},
		{titles{title(lastMilli, lastMilli, "a")}, false},
		{titles{title(lastMilli, lastMilli+1, "a")}, false},
		{titles{title(math.MinInt64, 1, "a")}, false},
		{titles{title(math.MinInt64, math.MaxInt64, "a")}, false},
		{titles{title(0, math.MaxInt64, "a")}, false},
		{titles{title(math.MaxInt64, math.MinInt64, "a")}, false},
		{titles{title(0, math.MinInt64, "a")}, false},
		{titles{title(0, 10, "a"), title(10, 20, "b")}, true},
		{titles{title(0, 10, "a"), title(11, 20, "b")}, true},
		{titles{title(0, 10, "a"), title(9, 20, "b")}, false},
		{titles{title(0, 10, "a"), title(0, 10, "a")}, false},
		{titles{title(10, 20, "a"), title(0, 10, "b")}, false},
		{titles{title(0, 10, "a"), title(10, 20, "b"), title(19, 30, "c")}, false},
		{titles{title(0, 10, "a"), title(10, 20, "b"), title(20, 30, "c")}, true},
		{titles{title(0, 10, "a"), title(20, 30, "b"), title(10, 20, "c")}, false},
		{titles{title(0, 10, ""), title(10, 20, "b")}, false},
		{titles{title(0, 10, "a"), title(10, 20, "")}, false},
		{titles{{}}, false},
	} {
		checkTitlesIs(t, c.list, c.want)
		if titlesByWords(c.list) != c.want {
			t.Fatal("the words say another thing of ", c.list)
		}
	}
}

func TestTitlesOkCounts(t *testing.T) {
	checkTitlesIs(t, manyTitles(mostTitles-1, "a"), true)
	checkTitlesIs(t, manyTitles(mostTitles, "a"), true)
	checkTitlesIs(t, manyTitles(mostTitles+1, "a"), false)
	checkTitlesIs(t, manyTitles(3*mostTitles, "a"), false)
	last := manyTitles(mostTitles, "a")
	last[mostTitles-1].From--
	checkTitlesIs(t, last, false)
}

func textOk(text string) bool { return impl.TitlesOk(titles{title(0, 1, text)}) }

func TestTitleTexts(t *testing.T) {
	for n, want := range map[int]bool{0: false, 1: true, 2: true, 199: true, 200: true, 201: false, 400: false, 100000: false} {
		for _, part := range []string{"a", "\xbf", " ", "ä"} {
			text := strings.Repeat(part, n)[:n]
			if textOk(text) != want {
				t.Errorf("a text of %d bytes %q: %v", n, part, !want)
			}
		}
	}
	for c := range 256 {
		sign := string([]byte{byte(c)})
		inner := c == 10 || c >= 32 && c != 127
		outer := inner && c != 10
		for text, want := range map[string]bool{"a" + sign + "b": inner, sign: outer, sign + "b": outer, "a" + sign: outer, sign + sign: outer, "a" + sign + sign + "b": outer, "a" + sign + "b" + sign + "c": inner} {
			if textOk(text) != want {
				t.Errorf("a text %q: %v", text, !want)
			}
		}
	}
	for text, want := range map[string]bool{
		"\n": false, "\na": false, "a\n": false, "a\nb": true, "a\n\nb": false, "a\n\n\nb": false, "a\nb\nc": true, "\n\n": false, "\na\n": false, "a\n \nb": true, " ": true, "a\r\nb": false,
		strings.Repeat("a\n", 99) + "ab": true, strings.Repeat("a\n", 100): false, strings.Repeat("a\n", 100) + "a": false, "a\n" + strings.Repeat("b", 198): true, "a\n" + strings.Repeat("b", 199): false,
	} {
		if textOk(text) != want {
			t.Errorf("a text %q: %v", text, !want)
		}
	}
}

// TestTitleTextsSmall goes through all texts of a few bytes.
func TestTitleTextsSmall(t *testing.T) {
	signs := []byte{10, 31, 32, 126, 127, 128}
	var all func(text []byte)
	all = func(text []byte) {
		if got := textOk(string(text)); got != titleTextByWords(string(text)) {
			t.Fatalf("a text %q: %v", text, got)
		}
		if len(text) == 5 {
			return
		}
		for _, c := range signs {
			all(append(slices.Clip(text), c))
		}
	}
	all(nil)
}

func TestUnreadCases(t *testing.T) {
	two := titles{title(1500, 2000, "Guten\nTag"), title(2050, 9000, "x")}
	all := worries{worry(0, 1), worry(0, 3), worry(0, 4), worry(0, 5), worry(1, 1), worry(1, 2), worry(1, 3), worry(1, 4), worry(1, 5)}
	for _, c := range []struct {
		list titles
		s    impl.Style
		want worries
	}{
		{two, style(1000, 80, 15, 1, 5), worries{worry(0, impl.WyShort), worry(0, impl.WyFast), worry(0, impl.WyRows), worry(1, impl.WyGap)}},
		{two, easy, nil},
		{nil, easy, nil},
		{nil, style(lastMilli, lastMilli, 1, 1, 1), nil},
		// Shown for 500: WyShort alone.
		{two, style(500, 0, 100, 9, 9), nil},
		{two, style(501, 0, 100, 9, 9), worries{worry(0, impl.WyShort)}},
		{two, style(6950, 0, 100, 9, 9), worries{worry(0, impl.WyShort)}},
		{two, style(6951, 0, 100, 9, 9), worries{worry(0, impl.WyShort), worry(1, impl.WyShort)}},
		// A gap of 50 between them: WyGap alone, and not of the first, though it begins at 1500.
		{two, style(1, 49, 100, 9, 9), nil},
		{two, style(1, 50, 100, 9, 9), nil},
		{two, style(1, 51, 100, 9, 9), worries{worry(1, impl.WyGap)}},
		{two, style(1, lastMilli, 100, 9, 9), worries{worry(1, impl.WyGap)}},
		// 8 signs in half a second: 16 in a second.
		{two, style(1, 0, 17, 9, 9), nil},
		{two, style(1, 0, 16, 9, 9), nil},
		{two, style(1, 0, 15, 9, 9), worries{worry(0, impl.WyFast)}},
		// Two lines, and 5 signs in the first of them.
		{two, style(1, 0, 100, 2, 9), nil},
		{two, style(1, 0, 100, 1, 9), worries{worry(0, impl.WyRows)}},
		{two, style(1, 0, 100, 9, 5), nil},
		{two, style(1, 0, 100, 9, 4), worries{worry(0, impl.WyWide)}},
		{two, style(1, 0, 100, 9, 1), worries{worry(0, impl.WyWide)}},
		{titles{title(0, 10, "ab\ncd"), title(10, 20, "ef\ngh")}, style(11, 1, 1, 1, 1), all},
		{titles{title(0, 10, "ab\ncd"), title(10, 20, "ef\ngh")}, style(11, 1, 400, 1, 1), worries{worry(0, 1), worry(0, 4), worry(0, 5), worry(1, 1), worry(1, 2), worry(1, 4), worry(1, 5)}},
		// The widest line may be any.
		{titles{title(0, 1000, "a\nbcd\nef")}, style(1, 0, 100, 9, 2), worries{worry(0, impl.WyWide)}},
		{titles{title(0, 1000, "a\nb\ncde")}, style(1, 0, 100, 9, 2), worries{worry(0, impl.WyWide)}},
		{titles{title(0, 1000, "abc\nb\nc")}, style(1, 0, 100, 9, 2), worries{worry(0, impl.WyWide)}},
		{titles{title(0, 1000, "ab\nb\nc")}, style(1, 0, 100, 9, 2), nil},
		// Touching titles, and a Gap of 0.
		{titles{title(0, 10, "a"), title(10, 20, "b")}, style(1, 0, 100, 9, 9), nil},
		{titles{title(0, 10, "a"), title(10, 20, "b")}, style(1, 1, 100, 9, 9), worries{worry(1, impl.WyGap)}},
		// What are no titles, and what is no Style.
		{titles{title(0, 10, "abc"), title(9, 20, "b")}, style(99, 9, 1, 1, 1), nil},
		{titles{title(0, 10, "abc"), title(10, 20, "")}, style(99, 9, 1, 1, 1), nil},
		{titles{title(-1, 10, "abc")}, style(99, 9, 1, 1, 1), nil},
		{two, impl.Style{}, nil},
	} {
		checkUnreadIs(t, c.list, c.s, c.want)
		if got := unreadByWords(c.list, c.s); !slices.Equal(got, c.want) {
			t.Fatal("the words say another thing of ", c.list, c.s, got)
		}
	}
}

// TestUnreadFast holds the signs against the time at both sides of the limit, at the ends of what both can be.
func TestUnreadFast(t *testing.T) {
	for _, c := range []struct {
		signs int
		shown int64
		rate  int64
		fast  bool
	}{
		{1, 1000, 1, false}, {1, 999, 1, true}, {1, 1001, 1, false}, {2, 1000, 1, true}, {2, 1000, 2, false},
		{1, 1, 1000, false}, {1, 1, 999, true}, {1, 1, 1, true}, {200, 1, 200000, false}, {200, 1, 199999, true},
		{200, 200000, 1, false}, {200, 199999, 1, true}, {7, 500, 14, false}, {7, 499, 14, true}, {7, 500, 13, true},
		{1, lastMilli, lastMilli, false}, {200, lastMilli, lastMilli, false}, {200, lastMilli, 1, false}, {200, 1, lastMilli, false},
	} {
		want := worries{}
		if c.fast {
			want = append(want, worry(0, impl.WyFast))
		}
		checkUnreadIs(t, titles{title(0, c.shown, strings.Repeat("z", c.signs))}, style(1, 0, c.rate, lastMilli, lastMilli), want)
		if c.signs > 1 {
			// A newline is no sign: the same holds with one between them.
			text := "z\n" + strings.Repeat("z", c.signs-1)
			if len(text) <= mostLetter {
				checkUnreadIs(t, titles{title(0, c.shown, text)}, style(1, 0, c.rate, lastMilli, lastMilli), want)
			}
		}
	}
}

// TestUnreadSigns puts each byte that can stand in a text into one, and counts by both what is fast and what is wide.
func TestUnreadSigns(t *testing.T) {
	for c := 32; c < 256; c++ {
		if c == 127 {
			continue
		}
		signs := int64(3)
		if 128 <= c && c <= 191 {
			signs = 2
		}
		list := titles{title(0, 1000, "a"+string([]byte{byte(c)})+"b")}
		checkUnreadIs(t, list, style(1, 0, signs, 1, signs), nil)
		if signs > 1 {
			checkUnreadIs(t, list, style(1, 0, signs-1, 1, signs), worries{worry(0, impl.WyFast)})
			checkUnreadIs(t, list, style(1, 0, signs, 1, signs-1), worries{worry(0, impl.WyWide)})
		}
	}
	for text, signs := range map[string]int64{"\x80": 0, "\x80\x81\xbf": 0, "\xbf\n\x80": 0, "äöü": 3, "€": 1, "\xff\xc0": 2, "~ ": 2, "a\nb\nc": 3} {
		list := titles{title(0, 1000, text)}
		if signs == 0 {
			checkUnreadIs(t, list, style(1, 0, 1, 3, 1), nil)
			continue
		}
		checkUnreadIs(t, list, style(1, 0, signs, 3, signs), nil)
		if signs > 1 {
			checkUnreadIs(t, list, style(1, 0, signs-1, 3, signs), worries{worry(0, impl.WyFast)})
		}
	}
}

func TestUnreadRows(t *testing.T) {
	for _, rows := range []int{1, 2, 3, 50, 100} {
		text := strings.TrimSuffix(strings.Repeat("a\n", rows), "\n")
		list := titles{title(0, lastMilli, text)}
		checkUnreadIs(t, list, style(1, 0, 1, int64(rows), 1), nil)
		checkUnreadIs(t, list, style(1, 0, 1, int64(rows)+1, 1), nil)
		if rows > 1 {
			checkUnreadIs(t, list, style(1, 0, 1, int64(rows)-1, 1), worries{worry(0, impl.WyRows)})
		}
	}
	for _, wide := range []int64{1, 2, 199, 200} {
		list := titles{title(0, lastMilli, strings.Repeat("a", int(wide)))}
		checkUnreadIs(t, list, style(1, 0, 1, 1, wide), nil)
		checkUnreadIs(t, list, style(1, 0, 1, 1, wide+1), nil)
		if wide > 1 {
			checkUnreadIs(t, list, style(1, 0, 1, 1, wide-1), worries{worry(0, impl.WyWide)})
		}
	}
}

// TestUnreadStyles turns each number of a Style in its turn; the list has every worry by the Style that it starts from.
func TestUnreadStyles(t *testing.T) {
	list := titles{title(0, 5, "ab\nc"), title(5, 9, "abc\nd")}
	numbers := append(strangeNumbers(), 0, 1, 2, lastMilli-1, lastMilli, lastMilli+1, lastMilli+2, -lastMilli)
	for _, n := range numbers {
		for place := range 5 {
			five := [5]int64{9, 9, 1, 1, 1}
			five[place] = n
			s := style(five[0], five[1], five[2], five[3], five[4])
			right := n >= 1 && n <= lastMilli || n == 0 && place == 1
			if got := impl.Unread(list, s); !right && len(got) > 0 || right && len(got) == 0 {
				t.Errorf("Unread by %v: %v", s, got)
			}
			checkUnreadIs(t, list, s, unreadByWords(list, s))
			checkUnreadIs(t, nil, s, nil)
		}
	}
}

func TestUnreadMany(t *testing.T) {
	list := manyTitles(mostTitles, "ab\ncd")
	got := impl.Unread(list, style(11, 1, 1, 1, 1))
	if len(got) != 5*mostTitles-1 {
		t.Fatal(len(got), " worries")
	}
	for i := range got[1:] {
		if got[i].At > got[i+1].At || got[i].At == got[i+1].At && got[i].Why >= got[i+1].Why {
			t.Fatal("not in order: ", got[i], got[i+1])
		}
	}
	checkUnreadIs(t, list, style(11, 1, 1, 1, 1), unreadByWords(list, style(11, 1, 1, 1, 1)))
	checkUnreadIs(t, manyTitles(mostTitles+1, "ab\ncd"), style(11, 1, 1, 1, 1), nil)
}

func TestShowTitlesCases(t *testing.T) {
	for _, c := range []struct {
		list titles
		want string
	}{
		{nil, ""},
		{titles{title(0, 1, "a")}, "1\n00:00:00,000 --> 00:00:00,001\na\n\n"},
		{titles{title(1500, 2000, "Guten\nTag"), title(2050, 9000, "x")}, "1\n00:00:01,500 --> 00:00:02,000\nGuten\nTag\n\n2\n00:00:02,050 --> 00:00:09,000\nx\n\n"},
		{titles{title(999, 1000, "1")}, "1\n00:00:00,999 --> 00:00:01,000\n1\n\n"},
		{titles{title(59999, 60000, "a\nb\nc")}, "1\n00:00:59,999 --> 00:01:00,000\na\nb\nc\n\n"},
		{titles{title(3599999, 3600000, "a")}, "1\n00:59:59,999 --> 01:00:00,000\na\n\n"},
		{titles{title(35999999, 36000000, "a")}, "1\n09:59:59,999 --> 10:00:00,000\na\n\n"},
		{titles{title(0, lastMilli, "a")}, "1\n00:00:00,000 --> 99:59:59,999\na\n\n"},
		{titles{title(12*3600000+34*60000+56*1000+789, lastMilli, " --> ")}, "1\n12:34:56,789 --> 99:59:59,999\n --> \n\n"},
		{titles{title(0, 10, "a"), title(9, 20, "b")}, ""},
		{titles{title(0, lastMilli+1, "a")}, ""},
		{titles{title(-1, 1, "a")}, ""},
		{titles{title(0, 1, "a\n")}, ""},
		{manyTitles(mostTitles+1, "a"), ""},
	} {
		checkShownIs(t, c.list, c.want)
	}
}

func TestShowTitlesNumbers(t *testing.T) {
	list := manyTitles(mostTitles, "x\ny")
	text := impl.ShowTitles(list)
	parts := strings.Split(strings.TrimSuffix(text, "\n\n"), "\n\n")
	if len(parts) != mostTitles || !strings.HasSuffix(text, "x\ny\n\n") {
		t.Fatal(len(parts), shortText(text))
	}
	for at, number := range map[int]string{0: "1", 8: "9", 9: "10", 98: "99", 99: "100", 199: "200"} {
		if !strings.HasPrefix(parts[at], number+"\n") {
			t.Errorf("title %d: %q", at, parts[at])
		}
	}
	checkShownIs(t, list, showTitlesByWords(list))
}

// TestTitleTimes reads and writes times around each turn of a field, and at many others.
func TestTitleTimes(t *testing.T) {
	times := []int64{}
	for _, unit := range []int64{1, 10, 100, 1000, 10000, 60000, 600000, 3600000, 36000000} {
		for _, n := range []int64{1, 2, 9} {
			times = append(times, n*unit-1, n*unit, n*unit+1)
		}
	}
	for n := int64(0); n < lastMilli; n += 1234567 {
		times = append(times, n)
	}
	times = append(times, lastMilli-2, lastMilli-1)
	for _, from := range times {
		if from+1 > lastMilli {
			continue
		}
		list := titles{title(from, from+1, "a")}
		checkShownIs(t, list, allTitlesByWords(list))
		checkReadIs(t, allTitlesByWords(list), list, impl.TitleFault{})
		list = titles{title(from, lastMilli, "a")}
		checkShownIs(t, list, allTitlesByWords(list))
		checkReadIs(t, allTitlesByWords(list), list, impl.TitleFault{})
	}
}

const (
	firstTitle  = "1\n00:00:01,500 --> 00:00:02,000\nGuten\nTag\n\n"
	secondTitle = "2\n00:00:02,000 --> 00:00:09,000\nx\n\n"
)

func TestReadTitlesCases(t *testing.T) {
	one := title(1500, 2000, "Guten\nTag")
	for _, c := range []struct {
		text string
		want titles
		code int
		at   int
	}{
		{"", nil, 0, 0},
		{firstTitle, titles{one}, 0, 0},
		{firstTitle + secondTitle, titles{one, title(2000, 9000, "x")}, 0, 0},
		// The number.
		{"\n", nil, impl.TtNumber, 0},
		{"x", nil, impl.TtNumber, 0},
		{"1", nil, impl.TtNumber, 0},
		{"0" + firstTitle, nil, impl.TtNumber, 0},
		{"+" + firstTitle, nil, impl.TtNumber, 0},
		{"-" + firstTitle, nil, impl.TtNumber, 0},
		{" " + firstTitle, nil, impl.TtNumber, 0},
		{"\n" + firstTitle, nil, impl.TtNumber, 0},
		{"\ufeff" + firstTitle, nil, impl.TtNumber, 0},
		{"1 " + firstTitle[1:], nil, impl.TtNumber, 0},
		{"1\r" + firstTitle[1:], nil, impl.TtNumber, 0},
		{"2" + firstTitle[1:], nil, impl.TtNumber, 0},
		{"0" + firstTitle[1:], nil, impl.TtNumber, 0},
		{"1.0" + firstTitle[1:], nil, impl.TtNumber, 0},
		{firstTitle[1:], nil, impl.TtNumber, 0},
		{firstTitle[2:], nil, impl.TtNumber, 0},
		{secondTitle, nil, impl.TtNumber, 0},
		{firstTitle + firstTitle, nil, impl.TtNumber, 1},
		{firstTitle + "02" + secondTitle[1:], nil, impl.TtNumber, 1},
		{firstTitle + "3" + secondTitle[1:], nil, impl.TtNumber, 1},
		{firstTitle + "2", nil, impl.TtNumber, 1},
		{firstTitle + "\n", nil, impl.TtNumber, 1},
		{firstTitle + "\n" + secondTitle, nil, impl.TtNumber, 1},
		{firstTitle + secondTitle + "\n", nil, impl.TtNumber, 2},
		{firstTitle + secondTitle + " ", nil, impl.TtNumber, 2},
		// The times.
		{"1\n", nil, impl.TtTime, 0},
		{"1\n\n", nil, impl.TtTime, 0},
		{"1\n00:00:01,500 --> 00:00:02,000", nil, impl.TtTime, 0},
		{"1\n00:00:01,500 --> 00:00:02,00\nx\n\n", nil, impl.TtTime, 0},
		{"1\n00:00:01,500 --> 00:00:02,0000\nx\n\n", nil, impl.TtTime, 0},
		{"1\n0:00:01,500 --> 00:00:02,000\nx\n\n", nil, impl.TtTime, 0},
		{"1\n000:00:01,500 --> 00:00:02,000\nx\n\n", nil, impl.TtTime, 0},
		{"1\n00:00:01.500 --> 00:00:02,000\nx\n\n", nil, impl.TtTime, 0},
		{"1\n00:00:01,500 --> 00:00:02:000\nx\n\n", nil, impl.TtTime, 0},
		{"1\n00:00:01,500-->00:00:02,000\nx\n\n", nil, impl.TtTime, 0},
		{"1\n00:00:01,500 -->00:00:02,000\nx\n\n", nil, impl.TtTime, 0},
		{"1\n00:00:01,500--> 00:00:02,000\nx\n\n", nil, impl.TtTime, 0},
		{"1\n00:00:01,500  --> 00:00:02,000\nx\n\n", nil, impl.TtTime, 0},
		{"1\n00:00:01,500 -->  00:00:02,000\nx\n\n", nil, impl.TtTime, 0},
		{"1\n00:00:01,500 -> 00:00:02,000\nx\n\n", nil, impl.TtTime, 0},
		{"1\n00:00:01,500 ---> 00:00:02,000\nx\n\n", nil, impl.TtTime, 0},
		{"1\n 00:00:01,500 --> 00:00:02,000\nx\n\n", nil, impl.TtTime, 0},
		{"1\n00:00:01,500 --> 00:00:02,000 \nx\n\n", nil, impl.TtTime, 0},
		{"1\n00:00:01,500 --> 00:00:02,000\r\nx\n\n", nil, impl.TtTime, 0},
		{"1\n00:00:01,500\nx\n\n", nil, impl.TtTime, 0},
		{"1\n00:00:01,500 --> \nx\n\n", nil, impl.TtTime, 0},
		{"1\n --> 00:00:02,000\nx\n\n", nil, impl.TtTime, 0},
		{"1\n --> \nx\n\n", nil, impl.TtTime, 0},
		{"1\n00:00:01,500 --> 00:00:02,000 --> 00:00:03,000\nx\n\n", nil, impl.TtTime, 0},
		{"1\n-0:00:01,500 --> 00:00:02,000\nx\n\n", nil, impl.TtTime, 0},
		{"1\n00:00:+1,500 --> 00:00:02,000\nx\n\n", nil, impl.TtTime, 0},
		{"1\n00:59:59,500 --> 99:59:59,000\nx\n\n", titles{title(3599500, 359999000, "x")}, 0, 0},
		{"1\n00:60:59,500 --> 99:59:59,000\nx\n\n", nil, impl.TtTime, 0},
		{"1\n00:59:60,500 --> 99:59:59,000\nx\n\n", nil, impl.TtTime, 0},
		{"1\n00:59:59,500 --> 99:60:59,000\nx\n\n", nil, impl.TtTime, 0},
		{"1\n00:59:59,500 --> 99:59:60,000\nx\n\n", nil, impl.TtTime, 0},
		{"1\n00:99:99,500 --> 99:59:59,000\nx\n\n", nil, impl.TtTime, 0},
		{"1\n00:00:00,000 --> 99:59:59,999\nx\n\n", titles{title(0, lastMilli, "x")}, 0, 0},
		{"1\n00:00:00,000 --> 100:00:00,000\nx\n\n", nil, impl.TtTime, 0},
		// The order.
		{"1\n00:00:01,500 --> 00:00:01,500\nx\n\n", nil, impl.TtOrder, 0},
		{"1\n00:00:01,500 --> 00:00:01,501\nx\n\n", titles{title(1500, 1501, "x")}, 0, 0},
		{"1\n00:00:01,500 --> 00:00:01,499\nx\n\n", nil, impl.TtOrder, 0},
		{"1\n00:00:00,000 --> 00:00:00,000\nx\n\n", nil, impl.TtOrder, 0},
		{"1\n00:00:01,500 --> 00:00:01,500\n", nil, impl.TtOrder, 0},
		{firstTitle + "2\n00:00:01,999 --> 00:00:03,000\nx\n\n", nil, impl.TtOrder, 1},
		{firstTitle + "2\n00:00:00,000 --> 00:00:01,000\nx\n\n", nil, impl.TtOrder, 1},
		{firstTitle + "2\n00:00:02,000 --> 00:00:02,000\nx\n\n", nil, impl.TtOrder, 1},
		{firstTitle + "2\n00:00:02,000 --> 00:00:02,001\nx\n\n", titles{one, title(2000, 2001, "x")}, 0, 0},
		{firstTitle + secondTitle + "3\n00:00:08,999 --> 00:00:10,000\nx\n\n", nil, impl.TtOrder, 2},
		// The text.
		{"1\n00:00:01,500 --> 00:00:02,000\n", nil, impl.TtText, 0},
		{"1\n00:00:01,500 --> 00:00:02,000\n\n", nil, impl.TtText, 0},
		{"1\n00:00:01,500 --> 00:00:02,000\n\n\n", nil, impl.TtText, 0},
		{"1\n00:00:01,500 --> 00:00:02,000\nx", nil, impl.TtText, 0},
		{"1\n00:00:01,500 --> 00:00:02,000\nx\n", nil, impl.TtText, 0},
		{"1\n00:00:01,500 --> 00:00:02,000\nx\ny", nil, impl.TtText, 0},
		{"1\n00:00:01,500 --> 00:00:02,000\nx\n\n", titles{title(1500, 2000, "x")}, 0, 0},
		{"1\n00:00:01,500 --> 00:00:02,000\n\nx\n\n", nil, impl.TtText, 0},
		{"1\n00:00:01,500 --> 00:00:02,000\nx\r\n\n", nil, impl.TtText, 0},
		{"1\n00:00:01,500 --> 00:00:02,000\nx\r\n\r\n", nil, impl.TtText, 0},
		{"1\n00:00:01,500 --> 00:00:02,000\nx\ty\n\n", nil, impl.TtText, 0},
		{"1\n00:00:01,500 --> 00:00:02,000\nx\x1f\n\n", nil, impl.TtText, 0},
		{"1\n00:00:01,500 --> 00:00:02,000\nx\x7f\n\n", nil, impl.TtText, 0},
		{"1\n00:00:01,500 --> 00:00:02,000\nx\ny\x00\n\n", nil, impl.TtText, 0},
		{"1\n00:00:01,500 --> 00:00:02,000\n \n\n", titles{title(1500, 2000, " ")}, 0, 0},
		{"1\n00:00:01,500 --> 00:00:02,000\n2\n00:00:02,000 --> 00:00:09,000\nx\n\n", titles{title(1500, 2000, "2\n00:00:02,000 --> 00:00:09,000\nx")}, 0, 0},
		{firstTitle + secondTitle[:len(secondTitle)-1], nil, impl.TtText, 1},
		{firstTitle + secondTitle[:len(secondTitle)-2], nil, impl.TtText, 1},
		{firstTitle[:len(firstTitle)-1] + secondTitle + "3\n", nil, impl.TtNumber, 1},
		// Two faults in one title, and in two.
		{"2\n0\n", nil, impl.TtNumber, 0},
		{"1\n00:00:01,500 -> 00:00:01,000\n", nil, impl.TtTime, 0},
		{"1\n00:00:02,500 --> 00:00:02,000\nx", nil, impl.TtOrder, 0},
		{"1\n00:00:02,500 --> 00:00:02,000\nx\n\n3\n", nil, impl.TtOrder, 0},
		{"1\n00:00:01,500 --> 00:00:02,000\n\x00\n\n3\n", nil, impl.TtText, 0},
		{firstTitle + "2\n\n\n4", nil, impl.TtTime, 1},
	} {
		fault := titleFault(c.code, c.at)
		checkReadIs(t, c.text, c.want, fault)
		if want, wantFault := readTitlesByWords(c.text); wantFault != fault || !slices.Equal(want, c.want) {
			t.Fatalf("the words say another thing of %q: %v %v", c.text, want, wantFault)
		}
	}
}

// TestReadTitlesTurned puts every byte into every place of a text, takes each byte away, and doubles it.
func TestReadTitlesTurned(t *testing.T) {
	text := firstTitle + secondTitle
	for at := range text {
		for c := range 256 {
			checkReadTitles(t, text[:at]+string([]byte{byte(c)})+text[at+1:])
		}
		for _, c := range []byte{0, 10, 31, ' ', '0', '5', '6', ':', ',', '-', '>', 'a', 127, 128, 255} {
			checkReadTitles(t, text[:at]+string([]byte{c})+text[at:])
		}
		checkReadTitles(t, text[:at]+text[at+1:])
		checkReadTitles(t, text[:at])
		checkReadTitles(t, text[at:])
	}
}

// TestReadTitlesTimesTurned turns each byte of the times: what is read must be what is written then.
func TestReadTitlesTimesTurned(t *testing.T) {
	line := "00:59:59,999 --> 59:59:59,999"
	for at := range line {
		for c := range 256 {
			turned := line[:at] + string([]byte{byte(c)}) + line[at+1:]
			text := "1\n" + turned + "\nx\n\n"
			digit := c >= '0' && c <= '9'
			mark := line[at] < '0' || line[at] > '9'
			tens := at == 3 || at == 6 || at == 20 || at == 23
			right := digit && !mark && (!tens || c <= '5') || byte(c) == line[at]
			_, fault := impl.ReadTitles(text)
			if right && fault.Code != 0 && fault.Code != impl.TtOrder || !right && fault != titleFault(impl.TtTime, 0) {
				t.Errorf("ReadTitles of %q: %v", text, fault)
			}
			checkReadTitles(t, text)
		}
	}
}

func TestReadTitlesTexts(t *testing.T) {
	head := "1\n00:00:01,500 --> 00:00:02,000\n"
	for n, code := range map[int]int{1: 0, 199: 0, 200: 0, 201: impl.TtText, 300: impl.TtText, 30000: impl.TtText} {
		text := strings.Repeat("y", n)
		want := titles{title(1500, 2000, text)}
		if code != 0 {
			want = nil
		}
		checkReadIs(t, head+text+"\n\n", want, titleFault(code, 0))
	}
	// The newlines within count, the one at the end does not.
	checkReadIs(t, head+strings.Repeat("y", 99)+"\n"+strings.Repeat("z", 100)+"\n\n", titles{title(1500, 2000, strings.Repeat("y", 99)+"\n"+strings.Repeat("z", 100))}, impl.TitleFault{})
	checkReadIs(t, head+strings.Repeat("y", 100)+"\n"+strings.Repeat("z", 100)+"\n\n", nil, titleFault(impl.TtText, 0))
	checkReadIs(t, head+strings.Repeat("y\n", 100)+"\n", titles{title(1500, 2000, strings.Repeat("y\n", 99)+"y")}, impl.TitleFault{})
	checkReadIs(t, head+strings.Repeat("y\n", 101)+"\n", nil, titleFault(impl.TtText, 0))
	for c := range 256 {
		code := 0
		if c < 32 && c != 10 || c == 127 {
			code = impl.TtText
		}
		text := "a" + string([]byte{byte(c)}) + "b"
		want := titles{title(1500, 2000, text)}
		if code != 0 {
			want = nil
		}
		checkReadIs(t, head+text+"\n\n", want, titleFault(code, 0))
	}
}

// wholeOf is titles whose text has that many bytes.
func wholeOf(t *testing.T, size int) titles {
	list := manyTitles(mostTitles, "y")
	for i := range list {
		missing := size - len(allTitlesByWords(list))
		list[i].Text = strings.Repeat("y", min(1+missing, mostLetter))
	}
	if len(allTitlesByWords(list)) != size {
		t.Fatal("no titles of ", size, " bytes")
	}
	return list
}

func TestReadTitlesWhole(t *testing.T) {
	for _, size := range []int{mostWhole - 1, mostWhole} {
		list := wholeOf(t, size)
		checkShownIs(t, list, allTitlesByWords(list))
		checkReadIs(t, allTitlesByWords(list), list, impl.TitleFault{})
	}
	for _, size := range []int{mostWhole + 1, 47000} {
		list := wholeOf(t, size)
		checkShownIs(t, list, allTitlesByWords(list))
		checkReadIs(t, allTitlesByWords(list), nil, titleFault(impl.TtLong, 0))
	}
	for _, c := range []string{"x", "\n", "1", "\x00"} {
		checkReadIs(t, strings.Repeat(c, mostWhole), nil, titleFault(impl.TtNumber, 0))
		checkReadIs(t, strings.Repeat(c, mostWhole+1), nil, titleFault(impl.TtLong, 0))
		checkReadIs(t, firstTitle+strings.Repeat(c, mostWhole), nil, titleFault(impl.TtLong, 0))
		checkReadIs(t, firstTitle+strings.Repeat(c, mostWhole-len(firstTitle)), nil, titleFault(impl.TtNumber, 1))
	}
}

func TestReadTitlesMany(t *testing.T) {
	list := manyTitles(mostTitles, "a")
	text := allTitlesByWords(list)
	checkReadIs(t, text, list, impl.TitleFault{})
	for more, code := range map[string]int{
		"201\n00:00:02,000 --> 00:00:02,010\na\n\n":                                          impl.TtMany,
		"201\n00:00:02,000 --> 00:00:02,010\na\n\n202\n00:00:02,010 --> 00:00:02,020\na\n\n": impl.TtMany,
		"201\n00:00:02,000 --> 00:00:02,010\na\n\nx":                                         impl.TtMany,
		"200\n00:00:02,000 --> 00:00:02,010\na\n\n":                                          impl.TtNumber,
		"201":   impl.TtNumber,
		"201\n": impl.TtTime,
		"201\n00:00:02,000 --> 00:00:02.010\na\n\n":   impl.TtTime,
		"201\n00:00:01,999 --> 00:00:02,010\na\n\n":   impl.TtOrder,
		"201\n00:00:02,000 --> 00:00:02,000\na\n\n":   impl.TtOrder,
		"201\n00:00:02,000 --> 00:00:02,010\na\n":     impl.TtText,
		"201\n00:00:02,000 --> 00:00:02,010\na\a\n\n": impl.TtText,
	} {
		checkReadIs(t, text+more, nil, titleFault(code, mostTitles))
		checkReadTitles(t, text+more)
	}
}

// titleFaults spoil a title, whatever it is, in one way each.
func titleFaults() map[int]func(number int, one impl.Title, end int64) string {
	return map[int]func(number int, one impl.Title, end int64) string{
		impl.TtNumber: func(number int, one impl.Title, _ int64) string { return titleByWords(number+1, one) },
		impl.TtTime: func(number int, one impl.Title, _ int64) string {
			return strings.Replace(titleByWords(number, one), " --> ", " ->> ", 1)
		},
		impl.TtOrder: func(number int, one impl.Title, end int64) string {
			return titleByWords(number, title(max(0, end-1), max(0, end-1), one.Text))
		},
		impl.TtText: func(number int, one impl.Title, _ int64) string {
			return titleByWords(number, title(one.From, one.To, one.Text+"\x01"))
		},
	}
}

// TestReadTitlesFaults puts each fault into each title, and another one into a later title.
func TestReadTitlesFaults(t *testing.T) {
	list := manyTitles(5, "a\nb")
	for code, spoiled := range titleFaults() {
		for at := range list {
			for other := range titleFaults() {
				for later := at; later < len(list); later++ {
					text := ""
					for i, one := range list {
						end := int64(10 * i)
						switch {
						case i == at:
							text += spoiled(i+1, one, end)
						case i == later:
							text += titleFaults()[other](i+1, one, end)
						default:
							text += titleByWords(i+1, one)
						}
					}
					checkReadIs(t, text, nil, titleFault(code, at))
				}
			}
		}
	}
}

func TestDelayCases(t *testing.T) {
	two := titles{title(1500, 2000, "Guten\nTag"), title(2050, 9000, "x")}
	full := titles{title(0, lastMilli, "a")}
	for _, c := range []struct {
		list titles
		by   int64
		want titles
		ok   bool
	}{
		{two, 0, two, true},
		{two, 1, titles{title(1501, 2001, "Guten\nTag"), title(2051, 9001, "x")}, true},
		{two, -1, titles{title(1499, 1999, "Guten\nTag"), title(2049, 8999, "x")}, true},
		{two, -1500, titles{title(0, 500, "Guten\nTag"), title(550, 7500, "x")}, true},
		{two, -1501, nil, false},
		{two, lastMilli - 9000, titles{title(359992499, 359992999, "Guten\nTag"), title(359993049, lastMilli, "x")}, true},
		{two, lastMilli - 8999, nil, false},
		{two, lastMilli, nil, false},
		{two, -lastMilli, nil, false},
		{two, lastMilli + 1, nil, false},
		{two, -lastMilli - 1, nil, false},
		{two, math.MaxInt64, nil, false},
		{two, math.MinInt64, nil, false},
		{full, 0, full, true},
		{full, 1, nil, false},
		{full, -1, nil, false},
		{titles{title(0, 1, "a")}, lastMilli - 1, titles{title(lastMilli-1, lastMilli, "a")}, true},
		{titles{title(0, 1, "a")}, lastMilli, nil, false},
		{titles{title(lastMilli-1, lastMilli, "a")}, 1 - lastMilli, titles{title(0, 1, "a")}, true},
		{titles{title(lastMilli-1, lastMilli, "a")}, -lastMilli, nil, false},
		{nil, 0, nil, true},
		{nil, lastMilli, nil, true},
		{nil, -lastMilli, nil, true},
		{nil, lastMilli + 1, nil, false},
		{nil, -lastMilli - 1, nil, false},
		{nil, math.MinInt64, nil, false},
		{nil, math.MaxInt64, nil, false},
		// What are no titles are none when moved either.
		{titles{title(-1, 1, "a")}, 1, nil, false},
		{titles{title(5, lastMilli+1, "a")}, -1, nil, false},
		{titles{title(0, 10, "a"), title(9, 20, "b")}, 0, nil, false},
		{titles{title(0, 10, "")}, 0, nil, false},
		{titles{title(math.MinInt64, math.MaxInt64, "a")}, 1, nil, false},
		{titles{title(math.MaxInt64-1, math.MaxInt64, "a")}, lastMilli, nil, false},
		{titles{title(math.MinInt64, math.MinInt64+1, "a")}, -lastMilli, nil, false},
		{manyTitles(mostTitles+1, "a"), 0, nil, false},
	} {
		checkDelayIs(t, c.list, c.by, c.want, c.ok)
		if want, ok := delayByWords(c.list, c.by); ok != c.ok || !slices.Equal(want, c.want) {
			t.Fatal("the words say another thing of ", c.list, c.by, want, ok)
		}
		if c.ok {
			checkDelayedBack(t, c.list, c.by)
		}
	}
	checkDelayIs(t, manyTitles(mostTitles, "a"), 5, func() titles {
		list := manyTitles(mostTitles, "a")
		for i := range list {
			list[i].From += 5
			list[i].To += 5
		}
		return list
	}(), true)
}

func TestDelayStrange(t *testing.T) {
	for _, by := range append(strangeNumbers(), 0, 1, lastMilli-1, lastMilli, lastMilli+1, -lastMilli+1, -lastMilli, -lastMilli-1) {
		for _, list := range []titles{nil, {title(0, 1, "a")}, {title(7, 9, "a"), title(20, lastMilli-3, "b")}, {title(lastMilli-1, lastMilli, "a")}} {
			checkTitles(t, list, easy, by)
		}
		for _, n := range strangeNumbers() {
			checkTitles(t, titles{title(n, by, "a")}, easy, by)
			checkTitles(t, titles{title(0, 1, "a"), title(by, n, "a")}, easy, n)
		}
	}
}

func randomTitleText(r *rand.Rand) string {
	signs := []string{"a", "b", " ", "~", "ä", "€", "\x80", "\xbf", "\xc0", "\xff", "1", ":", " --> "}
	size := 1 + r.Intn(1+r.Intn(40))
	if r.Intn(20) == 0 {
		size = mostLetter
	}
	text := ""
	for len(text) < size {
		text += signs[r.Intn(len(signs))]
		if r.Intn(4) == 0 {
			text += "\n"
		}
	}
	for text = text[:size]; text[len(text)-1] == '\n'; {
		text = text[:len(text)-1]
	}
	return text
}

func randomTitles(r *rand.Rand) titles {
	list := titles{}
	at := r.Int63n(2000)
	for range r.Intn(1 + r.Intn(15)) {
		from := at + r.Int63n(1+r.Int63n(300))
		at = from + 1 + r.Int63n(1+r.Int63n(5000))
		list = append(list, title(from, at, randomTitleText(r)))
	}
	if r.Intn(5) == 0 && len(list) > 0 {
		move := lastMilli - list[len(list)-1].To
		for i := range list {
			list[i].From += move
			list[i].To += move
		}
	}
	return list
}

func randomStyle(r *rand.Rand) impl.Style {
	return style(1+r.Int63n(3000), r.Int63n(300), 1+r.Int63n(60), 1+r.Int63n(4), 1+r.Int63n(20))
}

// spoilTitles turns one thing of one title.
func spoilTitles(r *rand.Rand, list titles) titles {
	list = slices.Clone(list)
	if len(list) == 0 {
		return list
	}
	one := &list[r.Intn(len(list))]
	switch r.Intn(4) {
	case 0:
		one.From += r.Int63n(601) - 300
	case 1:
		one.To += r.Int63n(601) - 300
	case 2:
		one.From, one.To = one.To, one.From
	default:
		at := r.Intn(len(one.Text) + 1)
		one.Text = one.Text[:at] + string([]byte{[]byte{0, 10, 31, 127, 128}[r.Intn(5)]}) + one.Text[at:]
	}
	return list
}

func TestTitlesRandom(t *testing.T) {
	r := rand.New(rand.NewSource(12))
	for range 3000 {
		list := randomTitles(r)
		if !titlesByWords(list) {
			t.Fatal("no titles: ", list)
		}
		by := r.Int63n(4001) - 2000
		checkTitles(t, list, randomStyle(r), by)
		checkTitles(t, spoilTitles(r, list), randomStyle(r), by)
	}
}

// TestReadTitlesRandom turns a few bytes, lines or blocks of a text that can be read.
func TestReadTitlesRandom(t *testing.T) {
	r := rand.New(rand.NewSource(13))
	signs := []byte("\n\n\n0123456789:,-> ax\x00\x1f\x7f\x80\xff")
	for range 6000 {
		text := []byte(allTitlesByWords(spoilTitles(r, randomTitles(r))))
		for range r.Intn(3) {
			if len(text) == 0 {
				break
			}
			at := r.Intn(len(text))
			c := signs[r.Intn(len(signs))]
			switch r.Intn(3) {
			case 0:
				text[at] = c
			case 1:
				text = slices.Insert(text, at, c)
			default:
				text = slices.Delete(text, at, at+1)
			}
		}
		checkReadTitles(t, string(text))
	}
	for range 3000 {
		lines := strings.SplitAfter(allTitlesByWords(randomTitles(r)), "\n")
		i, j := r.Intn(len(lines)), r.Intn(len(lines))
		switch r.Intn(3) {
		case 0:
			lines[i], lines[j] = lines[j], lines[i]
		case 1:
			lines = slices.Delete(lines, i, i+1)
		default:
			lines = slices.Insert(lines, i, lines[j])
		}
		checkReadTitles(t, strings.Join(lines, ""))
	}
}

// TestTitlesPromise: what is shown is read, and every worry that is told holds by its own definition, as no other does.
func TestTitlesPromise(t *testing.T) {
	r := rand.New(rand.NewSource(14))
	for range 500 {
		list := randomTitles(r)
		checkTitlesPromise(t, list)
		s := randomStyle(r)
		for _, w := range impl.Unread(list, s) {
			one := list[w.At]
			eased := s
			switch w.Why {
			case impl.WyShort:
				eased.Least = one.To - one.From
			case impl.WyGap:
				eased.Gap = one.From - list[w.At-1].To
			case impl.WyFast:
				eased.Rate = 1000 * mostLetter
			case impl.WyRows:
				eased.Rows = int64(strings.Count(one.Text, "\n") + 1)
			case impl.WyWide:
				eased.Wide = mostLetter
			default:
				t.Fatal("no worry: ", w)
			}
			if slices.Contains(impl.Unread(list, eased), w) {
				t.Fatalf("Unread of %v by %v still has %v", list, eased, w)
			}
		}
	}
	for _, n := range []int{0, 1, 9, 10, 99, 100, 199, 200} {
		checkTitlesPromise(t, manyTitles(n, "a\nb"))
		checkTitlesPromise(t, manyTitles(n, strings.Repeat("a", mostLetter)))
	}
}

func titlesFromBytes(b []byte) titles {
	list := titles{}
	at := int64(0)
	for len(b) > 3 {
		from := at + int64(b[0]) - 2
		at = from + int64(b[1]) - 1
		size := min(int(b[2]), len(b)-3)
		list = append(list, title(from, at, string(b[3:3+size])))
		b = b[3+size:]
	}
	return list
}

func FuzzTitles(f *testing.F) {
	f.Add(firstTitle+secondTitle, []byte{2, 9, 1, 'a', 2, 9, 3, 'b', 10, 'c'}, int64(1), int64(0), int64(15), int64(1), int64(2), int64(5))
	f.Add("1\n00:00:00,000 --> 99:59:59,999\nx\n\n2\n", []byte{200, 255, 4, 0xe2, 0x82, 0xac, '1'}, int64(1000), int64(80), int64(1), int64(2), int64(1), int64(-198))
	f.Add("", []byte{0, 1, 0, 1}, int64(0), int64(-1), int64(lastMilli+1), int64(math.MinInt64), int64(math.MaxInt64), int64(lastMilli))
	f.Fuzz(func(t *testing.T, text string, b []byte, least, gap, rate, rows, wide, by int64) {
		checkReadTitles(t, text)
		list := titlesFromBytes(b)
		checkTitles(t, list, style(least, gap, rate, rows, wide), by)
		checkTitles(t, list, style(1+least&2047, gap&255, 1+rate&63, 1+rows&3, 1+wide&31), by&1023-512)
		checkReadTitles(t, allTitlesByWords(list))
	})
}
