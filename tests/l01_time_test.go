package tests

import (
	"fmt"
	"math"
	"math/big"
	"strings"
	"testing"

	"loop.example/g00066/impl"
)

// The faces of the chapter, held as they were given.
var (
	_ func(impl.Rate) bool                    = impl.RateOk
	_ func(impl.Rate) int64                   = impl.Base
	_ func(impl.Rate, int64) string           = impl.TimeText
	_ func(impl.Rate, string) (int64, bool)   = impl.TimeRead
	_ func(impl.Rate, int64, int64) int64     = impl.Instant
	_ func(impl.Rate, impl.Rate, int64) int64 = impl.FrameIn
)

func rate(num, den int64) impl.Rate { return impl.Rate{Num: num, Den: den} }

func drop(num, den int64) impl.Rate { return impl.Rate{Num: num, Den: den, Drop: true} }

func rightRates() []impl.Rate {
	return []impl.Rate{
		rate(24, 1), rate(25, 1), rate(27, 1), rate(28, 1), rate(30, 1), rate(48, 1), rate(50, 1), rate(60, 1),
		rate(99, 1), rate(100, 1), rate(101, 1), rate(119, 1), rate(120, 1), rate(1, 1), rate(2, 1),
		rate(24000, 1001), rate(30000, 1001), rate(60000, 1001), rate(100100-1, 1001), rate(100100+1, 1001), rate(120000, 1001),
		drop(30000, 1001), drop(60000, 1001),
		rate(1, 1001), rate(1, 2), rate(3, 2), rate(25, 2), rate(15, 4), rate(1000, 1001), rate(120*1001-1, 1001),
	}
}

func wrongRates() []impl.Rate {
	least, most := int64(math.MinInt64), int64(math.MaxInt64)
	return []impl.Rate{
		{}, {Drop: true},
		rate(0, 1), rate(1, 0), rate(-24, 1), rate(24, -1), rate(-24, -1), rate(-30000, -1001),
		rate(121, 1), rate(241, 2), rate(120*1001+1, 1001), rate(120120, 1001),
		rate(48, 2), rate(1001, 1001), rate(2, 2), rate(30000, 1000), rate(7, 1001), rate(11, 1001), rate(13, 1001), rate(60, 12),
		rate(240000, 1), rate(240001, 1), rate(240000, 1001), rate(240001, 1001), rate(240000, 2000), rate(240001, 2001),
		rate(1, 1002), rate(24, 1002), rate(25, 1003), rate(30000, 1003),
		drop(24, 1), drop(25, 1), drop(30, 1), drop(60, 1), drop(24000, 1001), drop(120000, 1001), drop(30000, 1), drop(60000, 1),
		drop(30000, 1003), drop(29999, 1001), drop(30001, 1001), drop(59999, 1001), drop(60001, 1001), drop(-30000, -1001),
		rate(least, 1), rate(most, 1), rate(1, least), rate(1, most), rate(least, least), rate(most, most), drop(least, least), drop(most, most),
		rate(24+1<<32, 1), rate(24, 1+1<<32), rate(math.MinInt64+24, 1),
	}
}

func strangeNumbers() []int64 {
	return []int64{math.MinInt64, math.MinInt64 + 1, -impl.MaxFrame, -2, -1, impl.MaxFrame + 1, impl.MaxFrame + 2, 1 << 32, 1<<32 + 5, math.MaxInt64 - 1, math.MaxInt64}
}

// rightByWords says the chapter's sentence over again, without a shorter way.
func rightByWords(r impl.Rate) bool {
	if r.Num < 1 || r.Num > 240000 || r.Den < 1 || r.Den > 1001 {
		return false
	}
	for d := int64(2); d <= r.Den; d++ {
		if r.Num%d == 0 && r.Den%d == 0 {
			return false
		}
	}
	if new(big.Rat).SetFrac64(r.Num, r.Den).Cmp(big.NewRat(120, 1)) > 0 {
		return false
	}
	return r == rate(r.Num, r.Den) || r == drop(30000, 1001) || r == drop(60000, 1001)
}

// clock goes on frame by frame, as the chapter tells it.
type clock struct {
	r              impl.Rate
	b, h, m, s, ff int64
}

func (c *clock) next() {
	c.ff++
	if c.ff == c.b {
		c.ff, c.s = 0, c.s+1
	}
	if c.s == 60 {
		c.s, c.m = 0, c.m+1
	}
	if c.m == 60 {
		c.m, c.h = 0, c.h+1
	}
	if c.r.Drop && c.ff == 0 && c.s == 0 && c.m%10 != 0 {
		c.ff = c.r.Num / 15000
	}
}

func (c *clock) text() string {
	if c.h > 99 {
		return ""
	}
	mark := ":"
	if c.r.Drop {
		mark = ";"
	}
	digits := 2
	if c.b > 100 {
		digits = 3
	}
	return fmt.Sprintf("%02d:%02d:%02d%s%0*d", c.h, c.m, c.s, mark, digits, c.ff)
}

// telling says whether a frame lies where something may go wrong: beside a minute's edge; others are taken by turns.
func (c *clock) telling(frame int64) bool {
	return frame < 3000 || frame > impl.MaxFrame-50 || frame%9973 == 0 || c.s == 0 && c.ff < 6 || c.s == 59 && c.ff >= c.b-2
}

func TestRateOkOrdinary(t *testing.T) {
	for _, r := range rightRates() {
		if !impl.RateOk(r) {
			t.Errorf("%v is right", r)
		}
	}
	for _, r := range wrongRates() {
		if impl.RateOk(r) {
			t.Errorf("%v is not right", r)
		}
	}
}

func TestRateOkByWords(t *testing.T) {
	var nums []int64
	for n := int64(-3); n <= 300; n++ {
		nums = append(nums, n)
	}
	for _, n := range []int64{15000, 24000, 30000, 48000, 60000, 119119, 120000, 120119, 120120, 120121, 239999, 240000, 240001} {
		nums = append(nums, n)
	}
	for den := int64(-2); den <= 1004; den++ {
		for _, num := range append([]int64{120*den - 1, 120 * den, 120*den + 1}, nums...) {
			for _, r := range []impl.Rate{rate(num, den), drop(num, den)} {
				if impl.RateOk(r) != rightByWords(r) {
					t.Fatalf("%v: %v", r, impl.RateOk(r))
				}
			}
		}
	}
}

func TestBase(t *testing.T) {
	for _, x := range []struct {
		r impl.Rate
		b int64
	}{
		{rate(24, 1), 24}, {rate(24000, 1001), 24}, {rate(30000, 1001), 30}, {drop(30000, 1001), 30}, {drop(60000, 1001), 60},
		{rate(25, 2), 13}, {rate(3, 2), 2}, {rate(1, 2), 1}, {rate(1, 1001), 1}, {rate(1000, 1001), 1}, {rate(100, 1), 100},
		{rate(100099, 1001), 100}, {rate(100101, 1001), 101}, {rate(101, 1), 101}, {rate(120, 1), 120}, {rate(120119, 1001), 120},
	} {
		if b := impl.Base(x.r); b != x.b {
			t.Errorf("%v: %d, not %d", x.r, b, x.b)
		}
	}
	for _, r := range wrongRates() {
		if b := impl.Base(r); b != 0 {
			t.Errorf("%v: %d", r, b)
		}
	}
}

func TestTimeTextOrdinary(t *testing.T) {
	for _, x := range []struct {
		r impl.Rate
		f int64
		s string
	}{
		{rate(24, 1), 0, "00:00:00:00"}, {rate(24, 1), 23, "00:00:00:23"}, {rate(24, 1), 24, "00:00:01:00"},
		{rate(25, 1), 25*3600 - 1, "00:59:59:24"}, {rate(25, 1), 25 * 3600, "01:00:00:00"},
		{rate(24000, 1001), 24 * 60, "00:01:00:00"}, {rate(30000, 1001), 1800, "00:01:00:00"},
		{rate(100, 1), 99, "00:00:00:99"}, {rate(100, 1), 100, "00:00:01:00"},
		{rate(101, 1), 0, "00:00:00:000"}, {rate(101, 1), 100, "00:00:00:100"}, {rate(101, 1), 101, "00:00:01:000"},
		{rate(120, 1), 119, "00:00:00:119"}, {rate(120, 1), impl.MaxFrame, "23:08:53:040"},
		{rate(100101, 1001), 100, "00:00:00:100"}, {rate(100099, 1001), 100, "00:00:01:00"},
		{rate(1, 1), 59, "00:00:59:00"}, {rate(1, 1001), 60, "00:01:00:00"},
		{rate(1, 1), 359999, "99:59:59:00"}, {rate(1, 1), 360000, ""}, {rate(1, 1), impl.MaxFrame, ""},
		{rate(27, 1), 27*360000 - 1, "99:59:59:26"}, {rate(27, 1), 27 * 360000, ""}, {rate(27, 1), impl.MaxFrame, ""},
		{rate(28, 1), impl.MaxFrame, "99:12:22:24"}, {rate(25, 1), impl.MaxFrame, ""},
		{drop(30000, 1001), 1799, "00:00:59;29"}, {drop(30000, 1001), 1800, "00:01:00;02"}, {drop(30000, 1001), 3597, "00:01:59;29"},
		{drop(30000, 1001), 3598, "00:02:00;02"}, {drop(30000, 1001), 17981, "00:09:59;29"}, {drop(30000, 1001), 17982, "00:10:00;00"},
		{drop(30000, 1001), 17983, "00:10:00;01"}, {drop(30000, 1001), 19782, "00:11:00;02"}, {drop(30000, 1001), 107892, "01:00:00;00"},
		{drop(30000, 1001), impl.MaxFrame, "92:41:07;00"},
		{drop(60000, 1001), 0, "00:00:00;00"}, {drop(60000, 1001), 3599, "00:00:59;59"}, {drop(60000, 1001), 3600, "00:01:00;04"},
		{drop(60000, 1001), 35963, "00:09:59;59"}, {drop(60000, 1001), 35964, "00:10:00;00"}, {drop(60000, 1001), 215784, "01:00:00;00"},
	} {
		if s := impl.TimeText(x.r, x.f); s != x.s {
			t.Errorf("%v %d: %q, not %q", x.r, x.f, s, x.s)
		}
	}
}

func TestTimeTextOfNoFrame(t *testing.T) {
	for _, r := range rightRates() {
		for _, f := range strangeNumbers() {
			if s := impl.TimeText(r, f); s != "" {
				t.Errorf("%v %d: %q", r, f, s)
			}
		}
	}
	for _, r := range wrongRates() {
		for _, f := range append([]int64{0, 1, 1800, impl.MaxFrame}, strangeNumbers()...) {
			if s := impl.TimeText(r, f); s != "" {
				t.Errorf("%v %d: %q", r, f, s)
			}
		}
	}
}

// Promise 1, its first two parts, along the whole clock of each rate.
func TestTimesAlongTheClock(t *testing.T) {
	for _, r := range rightRates() {
		c := clock{r: r, b: impl.Base(r)}
		last := ""
		for frame := int64(0); frame <= impl.MaxFrame; frame++ {
			if c.telling(frame) {
				last = checkTime(t, r, frame, c.text(), last)
			}
			if c.h > 100 {
				break
			}
			c.next()
		}
	}
}

func checkTime(t *testing.T, r impl.Rate, frame int64, want string, last string) string {
	text := impl.TimeText(r, frame)
	if text != want {
		t.Fatalf("%v %d: %q, not %q", r, frame, text, want)
	}
	back, ok := impl.TimeRead(r, text)
	if text == "" {
		if ok || back != 0 {
			t.Fatalf("%v: an empty text is frame %d", r, back)
		}
		return last
	}
	if !ok || back != frame {
		t.Fatalf("%v %q: %d %v, not %d", r, text, back, ok, frame)
	}
	if last != "" && (text <= last || len(text) != len(last)) {
		t.Fatalf("%v: %q behind %q", r, text, last)
	}
	return text
}

func TestTimeReadWrong(t *testing.T) {
	d, n, h := drop(30000, 1001), rate(25, 1), rate(120, 1)
	for _, x := range []struct {
		r impl.Rate
		s string
	}{
		{n, ""}, {n, "0"}, {n, "00:00:00"}, {n, "00:00:00:0"}, {n, "00:00:00:000"}, {n, "0:00:00:00"}, {n, "000:00:00:00"}, {n, "00:00:00:00 "},
		{n, " 00:00:00:00"}, {n, "00:00:00:00\n"}, {n, "00:00:00:00\x00"}, {n, "00000000000"}, {n, ":::::::::::"}, {n, "000:0:00:00"},
		{n, "00:00:00;00"}, {n, "00;00:00:00"}, {n, "00:00;00:00"}, {n, "00.00.00.00"}, {n, "00-00-00-00"}, {n, "00:00:00/00"},
		{n, "00:00:00:25"}, {n, "00:00:00:99"}, {n, "00:00:60:00"}, {n, "00:60:00:00"}, {n, "00:99:99:24"}, {n, "99:60:00:00"},
		{n, "-1:00:00:00"}, {n, "+1:00:00:00"}, {n, "00:00:00:-1"}, {n, "00:00:00:+1"}, {n, "00:00:00: 1"}, {n, "0x:00:00:00"}, {n, "00:00:00:0a"},
		{n, "00:00:0\u0660:0"}, {n, "00:00:00:\u0661"}, {n, "\xff0:00:00:00"}, {n, "00:00:00:0\x80"}, {n, "00:00:00:0\xb0"}, {n, "00\xba00:00:00"},
		{n, "\uff10:00:00:0"}, {n, "00:00:00:00\u0660"}, {n, "0\u066000000000"}, {n, "\u0660\u0660:\u0660\u0660:\u0660\u0660:\u0660\u0660"},
		{n, "00\uff1a00:00:00"}, {n, "00\uff1a00:0:0"}, {n, "\U0001d7ce:00:00"},
		{d, "00:00:00:00"}, {d, "00;00;00;00"}, {d, "00;00:00:00"}, {d, "00:00;00:00"}, {d, "00:00;00;00"}, {d, "00:00:00;30"}, {d, "00:00:00;000"},
		{d, "00:01:00;00"}, {d, "00:01:00;01"}, {d, "00:09:00;00"}, {d, "00:11:00;01"}, {d, "01:59:00;01"}, {d, "92:39:00;00"},
		{d, "92:41:07;01"}, {d, "99:59:59;29"},
		{drop(60000, 1001), "00:01:00;00"}, {drop(60000, 1001), "00:01:00;01"}, {drop(60000, 1001), "00:01:00;02"}, {drop(60000, 1001), "00:01:00;03"},
		{h, "00:00:00:00"}, {h, "00:00:00:120"}, {h, "00:00:00:0000"}, {h, "00:00:00:999"}, {h, "23:08:53:041"}, {h, "24:00:00:000"}, {h, "000000000000"}, {h, "999999999999"},
		{rate(28, 1), "99:12:22:25"}, {rate(28, 1), "99:59:59:27"}, {rate(1, 1), "100:00:00:00"}, {rate(1, 1), "00:00:00:01"},
		{rate(100, 1), "00:00:00:100"}, {rate(101, 1), "00:00:00:00"}, {rate(101, 1), "00:00:00:101"},
		{n, strings.Repeat("0", 100000)}, {n, strings.Repeat("00:", 100000)},
	} {
		if f, ok := impl.TimeRead(x.r, x.s); ok || f != 0 {
			t.Errorf("%v %q: %d %v", x.r, x.s, f, ok)
		}
	}
	for _, r := range wrongRates() {
		for _, s := range []string{"", "00:00:00:00", "00:00:00;00", "00:00:00:000", "00:00:01:00"} {
			if f, ok := impl.TimeRead(r, s); ok || f != 0 {
				t.Errorf("%v %q: %d %v", r, s, f, ok)
			}
		}
	}
}

func TestTimeReadOfEdges(t *testing.T) {
	for _, x := range []struct {
		r impl.Rate
		s string
		f int64
	}{
		{rate(25, 1), "00:00:00:00", 0}, {rate(25, 1), "00:00:00:24", 24}, {rate(25, 1), "23:59:59:24", 25*86400 - 1}, {rate(1, 1), "99:59:59:00", 359999},
		{rate(28, 1), "99:12:22:24", impl.MaxFrame}, {rate(120, 1), "23:08:53:040", impl.MaxFrame}, {rate(101, 1), "00:00:01:000", 101},
		{drop(30000, 1001), "00:00:00;00", 0}, {drop(30000, 1001), "00:00:00;01", 1}, {drop(30000, 1001), "00:10:00;00", 17982},
		{drop(30000, 1001), "00:10:00;01", 17983}, {drop(30000, 1001), "00:01:00;02", 1800}, {drop(30000, 1001), "00:01:01;00", 1828},
		{drop(30000, 1001), "01:00:00;00", 107892}, {drop(30000, 1001), "92:41:07;00", impl.MaxFrame},
		{drop(60000, 1001), "00:01:00;04", 3600}, {drop(60000, 1001), "00:20:00;00", 71928}, {drop(60000, 1001), "00:20:00;03", 71931},
	} {
		if f, ok := impl.TimeRead(x.r, x.s); !ok || f != x.f {
			t.Errorf("%v %q: %d %v, not %d", x.r, x.s, f, ok, x.f)
		}
	}
}

// readByWords reads a time whose signs stand at fixed places, and counts what was left out ahead of it minute by minute.
func readByWords(r impl.Rate, text string) (int64, bool) {
	b := impl.Base(r)
	like := (&clock{r: r, b: b}).text()
	if len(text) != len(like) {
		return 0, false
	}
	var part [4]int64
	field := 0
	for i := 0; i < len(like); i++ {
		switch {
		case like[i] != '0' && text[i] == like[i]:
			field++
		case like[i] == '0' && text[i] >= '0' && text[i] <= '9':
			part[field] = part[field]*10 + int64(text[i]-'0')
		default:
			return 0, false
		}
	}
	left := int64(0)
	if r.Drop {
		left = r.Num / 15000
	}
	if part[1] > 59 || part[2] > 59 || part[3] >= b || part[1]%10 != 0 && part[2] == 0 && part[3] < left {
		return 0, false
	}
	frame := ((part[0]*60+part[1])*60+part[2])*b + part[3]
	for minute := int64(1); minute <= part[0]*60+part[1]; minute++ {
		if minute%10 != 0 {
			frame -= left
		}
	}
	return frame, frame <= impl.MaxFrame
}

func TestTimeReadOfTurnedBytes(t *testing.T) {
	for _, r := range rightRates() {
		for _, frame := range []int64{0, 1, 1799, 1800, 17981, 17982, 107892, 215783, 345678, impl.MaxFrame} {
			text := impl.TimeText(r, frame)
			for i := range len(text) {
				for v := range 256 {
					other := text[:i] + string([]byte{byte(v)}) + text[i+1:]
					f, ok := impl.TimeRead(r, other)
					if g, is := readByWords(r, other); ok != is || is && f != g || !is && f != 0 {
						t.Fatalf("%v %q: %d %v", r, other, f, ok)
					}
				}
				for _, other := range []string{text[:i] + text[i+1:], text[:i] + "0" + text[i:], text[:i]} {
					if f, ok := impl.TimeRead(r, other); ok || f != 0 {
						t.Fatalf("%v %q: %d %v", r, other, f, ok)
					}
				}
			}
		}
	}
}

// down is the quotient, rounded down, of products of any size.
func down(over []int64, under []int64) *big.Int {
	a, b := big.NewInt(1), big.NewInt(1)
	for _, x := range over {
		a.Mul(a, big.NewInt(x))
	}
	for _, x := range under {
		b.Mul(b, big.NewInt(x))
	}
	return a.Div(a, b)
}

func sampleFrames() []int64 {
	out := []int64{0, 1, 2, 23, 24, 47, 100, 1799, 1800, 17982, 107892, 9999998, 9999999, impl.MaxFrame}
	for f := int64(5); f < impl.MaxFrame; f = f*3 + 7 {
		out = append(out, f)
	}
	return out
}

func TestInstant(t *testing.T) {
	for _, x := range []struct {
		r          impl.Rate
		f, u, want int64
	}{
		{rate(24, 1), 0, 1000, 0}, {rate(24, 1), 1, 1000, 41}, {rate(24, 1), 24, 1000, 1000}, {rate(24, 1), 47, 1, 1}, {rate(24, 1), 48, 1, 2},
		{rate(30000, 1001), 30, 1000, 1001}, {drop(30000, 1001), 30, 1000000, 1001000}, {rate(1, 1001), impl.MaxFrame, impl.MaxUnit, 10010000000000000},
		{rate(120, 1), 119, 1, 0}, {rate(120, 1), impl.MaxFrame, 1, 83333}, {rate(25, 1), 1, 1, 0},
	} {
		if n := impl.Instant(x.r, x.f, x.u); n != x.want {
			t.Errorf("%v %d %d: %d, not %d", x.r, x.f, x.u, n, x.want)
		}
	}
	for _, r := range rightRates() {
		for _, f := range sampleFrames() {
			for _, u := range []int64{1, 2, 1000, 48000, 90000, impl.MaxUnit - 1, impl.MaxUnit} {
				want := down([]int64{f, r.Den, u}, []int64{r.Num})
				if n := impl.Instant(r, f, u); big.NewInt(n).Cmp(want) != 0 {
					t.Fatalf("%v %d %d: %d, not %v", r, f, u, n, want)
				}
			}
		}
	}
}

func TestInstantWrong(t *testing.T) {
	for _, r := range rightRates() {
		for _, x := range strangeNumbers() {
			if n := impl.Instant(r, x, 1000); n != -1 {
				t.Errorf("%v frame %d: %d", r, x, n)
			}
		}
		for _, u := range append([]int64{0, impl.MaxUnit + 1}, strangeNumbers()...) {
			if n := impl.Instant(r, 0, u); n != -1 {
				t.Errorf("%v unit %d: %d", r, u, n)
			}
		}
	}
	for _, r := range wrongRates() {
		for _, f := range append([]int64{0, 1, impl.MaxFrame}, strangeNumbers()...) {
			for _, u := range append([]int64{0, 1, 1000, impl.MaxUnit}, strangeNumbers()...) {
				if n := impl.Instant(r, f, u); n != -1 {
					t.Errorf("%v %d %d: %d", r, f, u, n)
				}
			}
		}
	}
}

func TestFrameInOrdinary(t *testing.T) {
	for _, x := range []struct {
		r, s    impl.Rate
		f, want int64
	}{
		{rate(24, 1), rate(25, 1), 47, 48}, {rate(24, 1), rate(25, 1), 48, 50}, {rate(25, 1), rate(24, 1), 48, 46}, {rate(25, 1), rate(24, 1), 50, 48},
		{rate(24, 1), rate(24, 1), impl.MaxFrame, impl.MaxFrame}, {drop(30000, 1001), rate(30000, 1001), 1800, 1800},
		{rate(24000, 1001), drop(30000, 1001), 4, 5}, {rate(24000, 1001), drop(30000, 1001), 3, 3}, {rate(30000, 1001), rate(30, 1), 1000, 1001},
		{rate(24, 1), rate(48, 1), 5000000, impl.MaxFrame}, {rate(24, 1), rate(48, 1), 5000001, -1}, {rate(48, 1), rate(24, 1), impl.MaxFrame, 5000000},
		{rate(24, 1), rate(25, 1), 9600000, impl.MaxFrame}, {rate(24, 1), rate(25, 1), 9600001, -1},
		{rate(30, 1), rate(50, 1), 6000000, impl.MaxFrame}, {rate(30, 1), rate(50, 1), 6000001, -1}, {rate(30, 1), rate(31, 1), 9677420, impl.MaxFrame}, {rate(30, 1), rate(31, 1), 9677421, -1}, {rate(30, 1), rate(31, 1), 9677419, 9999999},
		{rate(1, 1001), rate(120, 1), 83, 9969960}, {rate(1, 1001), rate(120, 1), 84, -1}, {rate(1, 1001), rate(120119, 1001), impl.MaxFrame, -1}, {rate(120, 1), rate(1, 1001), impl.MaxFrame, 83},
	} {
		if n := impl.FrameIn(x.r, x.s, x.f); n != x.want {
			t.Errorf("%v %v %d: %d, not %d", x.r, x.s, x.f, n, x.want)
		}
	}
}

// Promise 1, its last part; and the sum itself.
func TestFrameInThereAndBack(t *testing.T) {
	for _, r := range rightRates() {
		for _, s := range rightRates() {
			for _, f := range sampleFrames() {
				want := down([]int64{f, r.Den, s.Num}, []int64{r.Num, s.Den})
				if want.Cmp(big.NewInt(impl.MaxFrame)) > 0 {
					want.SetInt64(-1)
				}
				there := impl.FrameIn(r, s, f)
				if big.NewInt(there).Cmp(want) != 0 {
					t.Fatalf("%v %v %d: %d, not %v", r, s, f, there, want)
				}
				if back := impl.FrameIn(s, r, there); there >= 0 && (back < 0 || back > f) {
					t.Fatalf("%v %v %d: back at %d", r, s, f, back)
				}
			}
		}
	}
}

func TestFrameInWrong(t *testing.T) {
	right := rate(24, 1)
	for _, f := range strangeNumbers() {
		for _, r := range rightRates() {
			if n := impl.FrameIn(r, right, f); n != -1 {
				t.Errorf("%v %d: %d", r, f, n)
			}
		}
	}
	for _, r := range wrongRates() {
		for _, f := range append([]int64{0, 1, impl.MaxFrame}, strangeNumbers()...) {
			for _, pair := range [][2]impl.Rate{{r, right}, {right, r}, {r, r}} {
				if n := impl.FrameIn(pair[0], pair[1], f); n != -1 {
					t.Errorf("%v %d: %d", pair, f, n)
				}
			}
		}
	}
}

func TestTimeLimits(t *testing.T) {
	if impl.MaxRate != 240000 || impl.MaxDen != 1001 || impl.MaxFrame != 10000000 || impl.MaxUnit != 1000000 {
		t.Fatal("a limit is not the document's")
	}
}

func FuzzTimeRead(f *testing.F) {
	for i, s := range []string{"00:00:00:00", "00:00:59;29", "00:01:00;02", "99:59:59:00", "00:00:00:119", "", "00:00:00:0\x80"} {
		f.Add(i, s)
	}
	f.Fuzz(func(t *testing.T, i int, text string) {
		rates := rightRates()
		r := rates[uint(i)%uint(len(rates))]
		got, ok := impl.TimeRead(r, text)
		want, is := readByWords(r, text)
		if ok != is || is && got != want || !is && got != 0 {
			t.Fatalf("%v %q: %d %v", r, text, got, ok)
		}
	})
}
