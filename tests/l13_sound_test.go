package tests

import (
	"math"
	"math/big"
	"math/rand"
	"os"
	"os/exec"
	"path/filepath"
	"regexp"
	"runtime"
	"slices"
	"strings"
	"sync"
	"testing"
	"time"

	"loop.example/g00066/impl"
)

// The faces of the chapter, held as they were given.
var (
	_ func(a, b []float64, ga, gb float64) []float64          = impl.Mix
	_ func(list []float64, at float64) []float64              = impl.Pan
	_ func(a, h []float64) []float64                          = impl.Convolve
	_ func(list []float64, n int64) []float64                 = impl.Squares
	_ func(squares []float64, low float64, s float64) float64 = impl.Loud
	_ func(list []float64, from, to int64) []float64          = impl.Fader
	_ [impl.MaxSound - 4096]struct{}                          = [0]struct{}{}
)

const mostSound = 4096

type sound = []float64

const soundMark = -77.125

var (
	leastFloat = math.SmallestNonzeroFloat64
	mostFloat  = math.MaxFloat64
	// The square of this one is cut off: fused with a sum it would not be.
	longFloat   = 1 + 0x1p-30
	shortSquare = 1 + 0x1p-29
)

func nextUp(x float64) float64   { return math.Nextafter(x, endless) }
func nextDown(x float64) float64 { return math.Nextafter(x, -endless) }

// over is for a y that is whole and above 0.
func (w width) over(x, y float64) float64 {
	if math.IsNaN(x) || isEndless(x) {
		return x
	}
	return w.near(new(big.Rat).Quo(exactly(x), exactly(y)), math.Signbit(x))
}

func mixByWords(a, b sound, ga, gb float64) sound {
	if len(a) > mostSound || len(b) > mostSound {
		return nil
	}
	out := sound{}
	for i := 0; i < len(a) || i < len(b); i++ {
		switch {
		case i >= len(b):
			out = append(out, wide.times(a[i], ga))
		case i >= len(a):
			out = append(out, wide.times(b[i], gb))
		default:
			out = append(out, wide.plus(wide.times(a[i], ga), wide.times(b[i], gb)))
		}
	}
	return out
}

func panByWords(list sound, at float64) sound {
	if len(list) > 2048 {
		return nil
	}
	out := sound{}
	for _, x := range list {
		out = append(out, wide.times(x, wide.less(1, at)), wide.times(x, at))
	}
	return out
}

// convolveByWords tries each k for each n.
func convolveByWords(a, h sound) sound {
	if len(a) == 0 || len(h) == 0 || len(a)+len(h)-1 > mostSound {
		return nil
	}
	out := sound{}
	for n := range len(a) + len(h) - 1 {
		sum := 0.0
		for k := range h {
			if at := n - k; at >= 0 && at < len(a) {
				sum = wide.plus(sum, wide.times(h[k], a[at]))
			}
		}
		out = append(out, sum)
	}
	return out
}

func meanByWords(list sound) float64 {
	sum := 0.0
	for _, x := range list {
		sum = wide.plus(sum, x)
	}
	return wide.over(sum, float64(len(list)))
}

func squaresByWords(list sound, n int64) sound {
	if len(list) > mostSound || n < 1 || n > mostSound {
		return nil
	}
	out, block := sound{}, sound{}
	for _, x := range list {
		block = append(block, wide.times(x, x))
		if int64(len(block)) == n {
			out = append(out, meanByWords(block))
			block = sound{}
		}
	}
	return out
}

func loudByWords(list sound, low, share float64) float64 {
	if len(list) > mostSound {
		return 0
	}
	first, second := sound{}, sound{}
	for _, x := range list {
		if x > low {
			first = append(first, x)
		}
	}
	if len(first) == 0 {
		return 0
	}
	limit := wide.times(share, meanByWords(first))
	for _, x := range first {
		if x > limit {
			second = append(second, x)
		}
	}
	if len(second) == 0 {
		return 0
	}
	return meanByWords(second)
}

func faderByWords(list sound, from, to int64) sound {
	if len(list) > mostSound || !(0 <= from && from < to && to <= int64(len(list))) {
		return nil
	}
	out := sound{}
	for i, x := range list {
		switch at := int64(i); {
		case at < from:
			out = append(out, 0)
		case at < to:
			out = append(out, wide.times(x, wide.over(float64(at-from), float64(to-from))))
		default:
			out = append(out, x)
		}
	}
	return out
}

func soundBits(list sound) []uint64 {
	out := []uint64{}
	for _, x := range list {
		out = append(out, math.Float64bits(x))
	}
	return out
}

// watchSounds asks twice, and watches the lists, the room behind them and the memory of the answers, bit by bit.
func watchSounds(t *testing.T, name string, a, b sound, with any, ask func(a, b sound) sound, want sound) {
	t.Helper()
	givenA, wholeA := withRoom(a, soundMark)
	givenB, wholeB := withRoom(b, soundMark)
	beforeA, beforeB := soundBits(wholeA), soundBits(wholeB)
	got, again := ask(givenA, givenB), ask(givenA, givenB)
	if !sameFloats(got, want) {
		t.Fatalf("%s of %v and %v with %v: %v, want %v", name, few(a), few(b), with, few(got), few(want))
	}
	spoilAll(got, soundMark)
	if !slices.Equal(soundBits(wholeA), beforeA) || !slices.Equal(soundBits(wholeB), beforeB) {
		t.Fatalf("%s of %v and %v with %v: an argument, or its room, was written into, or shares memory with the answer", name, few(a), few(b), with)
	}
	spoilAll(wholeA, soundMark)
	spoilAll(wholeB, soundMark)
	if !sameFloats(again, want) {
		t.Fatalf("%s of %v and %v with %v: the second answer shares memory, or is another one: %v", name, few(a), few(b), with, few(again))
	}
}

func checkMixIs(t *testing.T, a, b sound, ga, gb float64, want sound) {
	t.Helper()
	ask := func(a, b sound) sound { return impl.Mix(a, b, ga, gb) }
	watchSounds(t, "Mix", a, b, []float64{ga, gb}, ask, want)
}

func checkMix(t *testing.T, a, b sound, ga, gb float64) {
	t.Helper()
	checkMixIs(t, a, b, ga, gb, mixByWords(a, b, ga, gb))
}

func checkPanIs(t *testing.T, list sound, at float64, want sound) {
	t.Helper()
	watchSounds(t, "Pan", list, nil, at, func(a, _ sound) sound { return impl.Pan(a, at) }, want)
}

func checkPan(t *testing.T, list sound, at float64) {
	t.Helper()
	checkPanIs(t, list, at, panByWords(list, at))
}

func checkConvolveIs(t *testing.T, a, h, want sound) {
	t.Helper()
	watchSounds(t, "Convolve", a, h, nil, impl.Convolve, want)
}

func checkConvolve(t *testing.T, a, h sound) {
	t.Helper()
	checkConvolveIs(t, a, h, convolveByWords(a, h))
}

func checkSquaresIs(t *testing.T, list sound, n int64, want sound) {
	t.Helper()
	watchSounds(t, "Squares", list, nil, n, func(a, _ sound) sound { return impl.Squares(a, n) }, want)
}

func checkSquares(t *testing.T, list sound, n int64) {
	t.Helper()
	checkSquaresIs(t, list, n, squaresByWords(list, n))
}

func checkLoudIs(t *testing.T, list sound, low, share, want float64) {
	t.Helper()
	ask := func(a, _ sound) sound { return sound{impl.Loud(a, low, share)} }
	watchSounds(t, "Loud", list, nil, []float64{low, share}, ask, sound{want})
}

func checkLoud(t *testing.T, list sound, low, share float64) {
	t.Helper()
	checkLoudIs(t, list, low, share, loudByWords(list, low, share))
}

func checkFaderIs(t *testing.T, list sound, from, to int64, want sound) {
	t.Helper()
	ask := func(a, _ sound) sound { return impl.Fader(a, from, to) }
	watchSounds(t, "Fader", list, nil, []int64{from, to}, ask, want)
}

func checkFader(t *testing.T, list sound, from, to int64) {
	t.Helper()
	checkFaderIs(t, list, from, to, faderByWords(list, from, to))
}

// checkSoundPromise asks for promise 14.
func checkSoundPromise(t *testing.T, a, b sound, ga, gb float64) {
	t.Helper()
	for _, none := range []sound{nil, {}} {
		checkMixIs(t, a, none, 1, gb, a)
		checkMixIs(t, none, a, ga, 1, a)
	}
	one, other := impl.Mix(a, b, ga, gb), impl.Mix(b, a, gb, ga)
	if !sameFloats(one, other) || len(one) != max(len(a), len(b)) {
		t.Fatalf("Mix of %v and %v by %v and %v: %v, the other way %v", few(a), few(b), ga, gb, few(one), few(other))
	}
	plain := slices.Clone(a)
	for i, x := range plain {
		if x == 0 {
			plain[i] = 0
		}
	}
	checkConvolveIs(t, a, sound{1}, plain)
	checkConvolveIs(t, sound{1}, a, plain)
}

// checkSounds asks the whole chapter.
func checkSounds(t *testing.T, a, b sound, x, y float64, n, m int64) {
	t.Helper()
	checkMix(t, a, b, x, y)
	checkMix(t, b, a, x, y)
	checkConvolve(t, a, b)
	checkConvolve(t, b, a)
	checkPan(t, a, x)
	checkSquares(t, a, n)
	checkLoud(t, a, x, y)
	checkFader(t, a, n, m)
	checkFader(t, a, m, n)
	checkSoundPromise(t, a, b, x, y)
}

// wavedSound has whole numbers, so that every sum of them is exact.
func wavedSound(n int) sound {
	out := make(sound, n)
	for i := range out {
		out[i] = float64(i*i%19 - 9)
	}
	return out
}

func tooLongCounts() []int {
	return []int{mostSound + 1, mostSound + 2, 2 * mostSound, 2*mostSound + 1, 65536, 65536 + 5}
}

// loudFloats are the strange ones among which three are chosen.
func loudFloats() []float64 {
	return []float64{0, noughtBelow, 1, -1, 0.1, 2, nextUp(1), nextDown(1), 1e200, -1e200, leastFloat, -leastFloat, mostFloat, -mostFloat, endless, -endless, noNumber}
}

func TestMixCases(t *testing.T) {
	for _, row := range []struct {
		a, b   sound
		ga, gb float64
		want   sound
	}{
		{nil, nil, 1, 1, nil},
		{sound{}, sound{}, 2, 3, sound{}},
		{nil, nil, noNumber, endless, nil},
		{sound{1, 2}, sound{4}, 2, 0.5, sound{4, 4}},
		{sound{4}, sound{1, 2}, 0.5, 2, sound{4, 4}},
		{sound{1, 2, 3}, sound{10, 20, 30}, 1, 1, sound{11, 22, 33}},
		{sound{1, 2, 3}, sound{10, 20, 30}, 1, -1, sound{-9, -18, -27}},
		{sound{1, 2, 3}, sound{10, 20, 30}, -1, 1, sound{9, 18, 27}},
		{sound{1, 2, 3}, sound{10, 20, 30}, 0, 1, sound{10, 20, 30}},
		{sound{1, 2, 3}, sound{10, 20, 30}, 1, 0, sound{1, 2, 3}},
		{sound{1, -2, 3}, sound{10, 20, -30}, 0, 0, sound{0, 0, 0}},
		{sound{1, 2, 3, 4}, sound{10}, 3, 7, sound{73, 6, 9, 12}},
		{sound{10}, sound{1, 2, 3, 4}, 7, 3, sound{73, 6, 9, 12}},
		{sound{1, 2}, nil, 3, 7, sound{3, 6}},
		{nil, sound{1, 2}, 3, 7, sound{7, 14}},
		{sound{1, 2}, nil, 3, noNumber, sound{3, 6}},
		{nil, sound{1, 2}, endless, 7, sound{7, 14}},
		// Alone a number is not added to a nought: its minus stays.
		{sound{noughtBelow, 0, -3, 3}, nil, 1, 1, sound{noughtBelow, 0, -3, 3}},
		{nil, sound{noughtBelow, 0, -3, 3}, 1, 1, sound{noughtBelow, 0, -3, 3}},
		{sound{noughtBelow, 0, -3, 3}, nil, -1, 1, sound{0, noughtBelow, 3, -3}},
		{sound{noughtBelow, 0, -3, 3}, nil, 0, 1, sound{noughtBelow, 0, noughtBelow, 0}},
		{nil, sound{noughtBelow, 0, -3, 3}, 1, noughtBelow, sound{0, noughtBelow, 0, noughtBelow}},
		// With another: only two noughts with a minus give one.
		{sound{noughtBelow, noughtBelow, 0, 1}, sound{noughtBelow, 0, noughtBelow, -1}, 1, 1, sound{noughtBelow, 0, 0, 0}},
		{sound{noughtBelow, noughtBelow, 0, 1}, sound{noughtBelow, 0, noughtBelow, 1}, -1, 1, sound{0, 0, noughtBelow, 0}},
		{sound{-5, 5}, sound{-7, -7}, 0, 0, sound{noughtBelow, 0}},
		{sound{endless, -endless, endless, 1}, sound{1, 1, -endless, endless}, 1, 1, sound{endless, -endless, noNumber, endless}},
		{sound{endless, -endless, endless}, sound{1, 1, endless}, 1, -1, sound{endless, -endless, noNumber}},
		{sound{endless, 1}, sound{2, 2}, 0, 1, sound{noNumber, 2}},
		{sound{0, 1, -1}, sound{2, 2}, endless, 1, sound{noNumber, endless, -endless}},
		{sound{noNumber, 1}, sound{1, noNumber, 1, noNumber}, 1, 1, sound{noNumber, noNumber, 1, noNumber}},
		{sound{1, 2}, sound{3}, noNumber, 1, sound{noNumber, noNumber}},
		{sound{1, 2}, sound{3}, 1, noNumber, sound{noNumber, 2}},
		// Each product and the sum are rounded by themselves: rounded together these would not be noughts.
		{sound{longFloat}, sound{longFloat}, longFloat, -longFloat, sound{0}},
		{sound{longFloat}, sound{-shortSquare}, longFloat, 1, sound{0}},
		{sound{-shortSquare}, sound{longFloat}, 1, longFloat, sound{0}},
		{sound{0.1}, sound{0.3}, 0.1, 0.3, sound{0.1}},
		{sound{0.1}, nil, 3, 1, sound{0.30000000000000004}},
		{sound{0.1}, sound{0.2}, 1, 1, sound{0.30000000000000004}},
		// Past the greatest float by the product, or by the sum alone.
		{sound{1e200, 1e200}, sound{-1e200, 1}, 1e200, 1e200, sound{noNumber, endless}},
		{sound{mostFloat, mostFloat}, sound{mostFloat, -mostFloat}, 1, 1, sound{endless, 0}},
		{sound{leastFloat, leastFloat}, sound{leastFloat, 0}, 0.5, 0.5, sound{0, 0}},
		{sound{-leastFloat, leastFloat}, sound{-leastFloat}, 0.5, 0.5, sound{noughtBelow, 0}},
	} {
		checkMixIs(t, row.a, row.b, row.ga, row.gb, row.want)
		checkMix(t, row.a, row.b, row.ga, row.gb)
		checkSoundPromise(t, row.a, row.b, row.ga, row.gb)
	}
}

func TestMixLimits(t *testing.T) {
	most := wavedSound(mostSound)
	for _, n := range []int{0, 1, 2, 2048, mostSound - 1, mostSound} {
		other := wavedSound(n)
		want := sound{}
		for i, x := range most {
			v := 3 * x
			if i < n {
				v -= 2 * other[i]
			}
			// A nought alone times 3 is one without a minus, and so is a sum of unlike noughts.
			want = append(want, v)
		}
		checkMixIs(t, most, other, 3, -2, want)
		checkMixIs(t, other, most, -2, 3, want)
	}
	for _, n := range tooLongCounts() {
		long := wavedSound(n)
		for _, other := range []sound{nil, {}, {1}, most, long} {
			checkMixIs(t, long, other, 1, 1, nil)
			checkMixIs(t, other, long, 1, 1, nil)
		}
	}
}

func TestMixStrange(t *testing.T) {
	r := rand.New(rand.NewSource(131))
	some := strangeFloats()
	for _, gain := range some {
		other := some[r.Intn(len(some))]
		checkMix(t, some, nil, gain, other)
		checkMix(t, nil, some, other, gain)
		turned := slices.Clone(some)
		r.Shuffle(len(turned), func(i, j int) { turned[i], turned[j] = turned[j], turned[i] })
		checkMix(t, some, turned, gain, other)
		checkMix(t, turned, some, other, gain)
		checkSoundPromise(t, some, turned, gain, other)
	}
	for _, x := range some {
		for _, y := range some {
			checkMix(t, sound{x}, sound{y}, 1, 1)
			checkMix(t, sound{x, 1}, sound{1, x}, y, -1)
		}
	}
}

func TestPanCases(t *testing.T) {
	for _, row := range []struct {
		list sound
		at   float64
		want sound
	}{
		{nil, 0.5, nil},
		{sound{}, noNumber, sound{}},
		{sound{8}, 0.25, sound{6, 2}},
		{sound{1, 2, 3}, 0, sound{1, 0, 2, 0, 3, 0}},
		{sound{1, 2, 3}, 1, sound{0, 1, 0, 2, 0, 3}},
		{sound{1, 2, 3}, 0.5, sound{0.5, 0.5, 1, 1, 1.5, 1.5}},
		{sound{-1, noughtBelow, 0}, 0, sound{-1, noughtBelow, noughtBelow, noughtBelow, 0, 0}},
		{sound{-1, noughtBelow, 0}, 1, sound{noughtBelow, -1, noughtBelow, noughtBelow, 0, 0}},
		{sound{-1, noughtBelow, 0}, 0.5, sound{-0.5, -0.5, noughtBelow, noughtBelow, 0, 0}},
		{sound{5, -5}, noughtBelow, sound{5, noughtBelow, -5, 0}},
		{sound{5, -5}, 2, sound{-5, 10, 5, -10}},
		{sound{5, -5}, -1, sound{10, -5, -10, 5}},
		{sound{endless, -endless, 1}, 0, sound{endless, noNumber, -endless, noNumber, 1, 0}},
		{sound{endless, -endless, 1}, 1, sound{noNumber, endless, noNumber, -endless, 0, 1}},
		{sound{endless, -endless, 1}, 0.5, sound{endless, endless, -endless, -endless, 0.5, 0.5}},
		{sound{noNumber, 1}, 0.5, sound{noNumber, noNumber, 0.5, 0.5}},
		{sound{1, -1, 0}, noNumber, sound{noNumber, noNumber, noNumber, noNumber, noNumber, noNumber}},
		{sound{1, -1, 0}, endless, sound{-endless, endless, endless, -endless, noNumber, noNumber}},
		{sound{1, -1, 0}, -endless, sound{endless, -endless, -endless, endless, noNumber, noNumber}},
		// It is 1 less at that each is multiplied by: not each less its product with at.
		{sound{0.1, 0.2, 0.7}, 0.1, sound{0.09000000000000001, 0.010000000000000002, 0.18000000000000002, 0.020000000000000004, 0.63, 0.06999999999999999}},
		{sound{1, 1e16}, 0x1p-54, sound{1, 0x1p-54, 1e16, 1e16 * 0x1p-54}},
		{sound{mostFloat}, -1, sound{endless, -mostFloat}},
		{sound{leastFloat, -leastFloat}, 0.5, sound{0, 0, noughtBelow, noughtBelow}},
	} {
		checkPanIs(t, row.list, row.at, row.want)
		checkPan(t, row.list, row.at)
	}
}

func TestPanLimits(t *testing.T) {
	for _, n := range []int{mostSound/2 - 1, mostSound / 2} {
		list, want := wavedSound(n), sound{}
		for _, x := range list {
			want = append(want, 0.75*x, 0.25*x)
		}
		checkPanIs(t, list, 0.25, want)
		if len(want) != 2*n {
			t.Fatal(len(want))
		}
	}
	for _, n := range append([]int{mostSound/2 + 1, mostSound/2 + 2, mostSound - 1, mostSound}, tooLongCounts()...) {
		for _, at := range []float64{0, 0.25, 1, noNumber} {
			checkPanIs(t, wavedSound(n), at, nil)
		}
	}
}

func TestPanStrange(t *testing.T) {
	some := strangeFloats()
	for _, at := range append(some, 0.5, 0.3, 0.7, nextDown(1), nextUp(1), 0x1p-53, 0x1p-54) {
		checkPan(t, some, at)
	}
}

func TestConvolveCases(t *testing.T) {
	for _, row := range []struct{ a, h, want sound }{
		{nil, nil, nil},
		{sound{1}, nil, nil},
		{nil, sound{1}, nil},
		{sound{}, sound{1, 2, 3}, nil},
		{sound{1, 2, 3}, sound{}, nil},
		{sound{3}, sound{5}, sound{15}},
		{sound{1, 2, 3}, sound{1, 1}, sound{1, 3, 5, 3}},
		{sound{1, 1}, sound{1, 2, 3}, sound{1, 3, 5, 3}},
		{sound{1, 2, 3}, sound{10, 100}, sound{10, 120, 230, 300}},
		{sound{10, 100}, sound{1, 2, 3}, sound{10, 120, 230, 300}},
		{sound{1, 2, 3}, sound{1, 10, 100}, sound{1, 12, 123, 230, 300}},
		{sound{1, 2, 3}, sound{0, 1}, sound{0, 1, 2, 3}},
		{sound{1, 2, 3}, sound{0, 0, 0, 2}, sound{0, 0, 0, 2, 4, 6}},
		{sound{5}, sound{1, 2, 3, 4}, sound{5, 10, 15, 20}},
		{sound{1, 2, 3, 4}, sound{5}, sound{5, 10, 15, 20}},
		// The sums begin at the nought without a minus.
		{sound{noughtBelow}, sound{1}, sound{0}},
		{sound{1}, sound{noughtBelow}, sound{0}},
		{sound{noughtBelow, 1, noughtBelow}, sound{1}, sound{0, 1, 0}},
		{sound{1}, sound{noughtBelow, 1, noughtBelow}, sound{0, 1, 0}},
		{sound{noughtBelow, noughtBelow}, sound{1, 1}, sound{0, 0, 0}},
		{sound{1, -1}, sound{0, 0}, sound{0, 0, 0}},
		{sound{-leastFloat}, sound{0.5}, sound{0}},
		// In the order of k: a 1 is lost in what is greater, but for the last 1 of h, which comes when that is gone.
		{sound{1, 1, 1, 1}, sound{1e16, 1, -1e16, 1}, sound{1e16, 1e16, 0, 1, -1e16, -1e16, 1}},
		{sound{1, 1, 1, 1}, sound{1, -1e16, 1, 1e16}, sound{1, -1e16, -1e16, 0, 0, 1e16, 1e16}},
		{sound{1e16, 1, -1e16, 1}, sound{1, 1, 1, 1}, sound{1e16, 1e16, 0, 0, -1e16, -1e16, 1}},
		{sound{1, -1e16, 1, 1e16}, sound{1, 1, 1, 1}, sound{1, -1e16, -1e16, 1, 0, 1e16, 1e16}},
		// Each product and each sum are rounded by themselves: rounded together number 1 would not be nought.
		{sound{longFloat, -shortSquare}, sound{1, longFloat}, sound{longFloat, 0, -(1 + 3*0x1p-30)}},
		{sound{1, longFloat}, sound{longFloat, -shortSquare}, sound{longFloat, 0, -(1 + 3*0x1p-30)}},
		{sound{0.3, 0.1}, sound{0.1, 0.3}, sound{0.03, 0.1, 0.03}},
		{sound{endless, 1}, sound{1, 1}, sound{endless, endless, 1}},
		{sound{endless, 1}, sound{1, -endless}, sound{endless, -endless, -endless}},
		{sound{endless, -endless}, sound{1, 1}, sound{endless, noNumber, -endless}},
		{sound{endless, 1}, sound{0, 1}, sound{noNumber, endless, 1}},
		{sound{1, 2}, sound{endless, 0}, sound{endless, endless, 0}},
		{sound{1, 0}, sound{endless, 3}, sound{endless, noNumber, 0}},
		// Where one has no other it is not asked.
		{sound{noNumber, 1, 2}, sound{1, 1}, sound{noNumber, noNumber, 3, 2}},
		{sound{1, 2, noNumber}, sound{1, 1}, sound{1, 3, noNumber, noNumber}},
		{sound{1, 2}, sound{1, noNumber}, sound{1, noNumber, noNumber}},
		{sound{1, 2}, sound{noNumber, 1}, sound{noNumber, noNumber, 2}},
		{sound{1e200, 1e200}, sound{1e200, -1e200}, sound{endless, noNumber, -endless}},
		{sound{mostFloat, mostFloat}, sound{1, 1}, sound{mostFloat, endless, mostFloat}},
	} {
		checkConvolveIs(t, row.a, row.h, row.want)
		checkConvolve(t, row.a, row.h)
		checkConvolve(t, row.h, row.a)
	}
}

// convolvedWhole sends each product of whole numbers to where it goes.
func convolvedWhole(a, h sound) sound {
	sums := make([]int64, len(a)+len(h)-1)
	for i, x := range a {
		for k, y := range h {
			sums[i+k] += int64(x) * int64(y)
		}
	}
	out := sound{}
	for _, sum := range sums {
		out = append(out, float64(sum))
	}
	return out
}

func TestConvolveLimits(t *testing.T) {
	for _, n := range []int{1, 2, 3, 1000, 2047, 2048, 2049, 3000, mostSound - 1, mostSound} {
		a := wavedSound(n)
		a[0], a[n-1] = 11, 13
		for _, m := range []int{mostSound - n, mostSound + 1 - n} {
			if m == 0 {
				checkConvolveIs(t, a, nil, nil)
				continue
			}
			h := wavedSound(m)
			slices.Reverse(h)
			h[0], h[m-1] = 17, 19
			checkConvolveIs(t, a, h, convolvedWhole(a, h))
		}
		for _, m := range []int{mostSound + 2 - n, mostSound + 3 - n, mostSound, mostSound + 1, 65536 + 1} {
			if n+m-1 > mostSound {
				checkConvolveIs(t, a, wavedSound(m), nil)
				checkConvolveIs(t, wavedSound(m), a, nil)
			}
		}
	}
	for _, n := range tooLongCounts() {
		for _, m := range []int{0, 1, 2, n} {
			checkConvolveIs(t, wavedSound(n), wavedSound(m), nil)
			checkConvolveIs(t, wavedSound(m), wavedSound(n), nil)
		}
	}
}

// All sizes of two short ones, of numbers that are rounded.
func TestConvolveSizes(t *testing.T) {
	r := rand.New(rand.NewSource(132))
	for n := range 9 {
		for m := range 9 {
			for range 10 {
				checkConvolve(t, randomSound(r, n), randomSound(r, m))
			}
		}
	}
}

func TestConvolveStrange(t *testing.T) {
	some := strangeFloats()
	for _, x := range some {
		checkConvolve(t, some, sound{x})
		checkConvolve(t, sound{x}, some)
		checkConvolve(t, sound{x, 1, -2}, sound{-1, x})
		checkConvolve(t, sound{noughtBelow, x}, sound{x, noughtBelow, 0})
		for _, y := range some {
			checkConvolve(t, sound{x, y}, sound{1, -1})
			checkConvolve(t, sound{x, 1}, sound{y, x})
		}
	}
}

func TestSquaresCases(t *testing.T) {
	for _, row := range []struct {
		list sound
		n    int64
		want sound
	}{
		{nil, 1, nil},
		{sound{}, mostSound, nil},
		{sound{3}, 1, sound{9}},
		{sound{3}, 2, nil},
		{sound{1, 2, 3, 4}, 1, sound{1, 4, 9, 16}},
		{sound{1, -2, 3, -4}, 2, sound{2.5, 12.5}},
		{sound{1, 2, 3, 4}, 3, sound{14.0 / 3}},
		{sound{1, 2, 3, 4}, 4, sound{7.5}},
		{sound{1, 2, 3, 4}, 5, nil},
		{sound{1, 2, 3, 4}, 0, nil},
		{sound{1, 2, 3, 4}, -1, nil},
		{sound{1, 2, 3, 4}, -4, nil},
		{sound{1, 2, 3, 4}, mostSound, nil},
		{sound{1, 2, 3, 4}, mostSound + 1, nil},
		{sound{1, 2, 3, 4}, math.MaxInt64, nil},
		{sound{1, 2, 3, 4}, math.MinInt64, nil},
		{sound{1, 2, 3, 4}, 1<<32 + 2, nil},
		{sound{1, 2, 3, 4}, -1<<32 + 2, nil},
		// What is left over at the end does not count.
		{sound{1, 2, 3, 4, 5}, 2, sound{2.5, 12.5}},
		{sound{1, 2, noNumber}, 2, sound{2.5}},
		{sound{1, 2, 3, endless, noNumber}, 3, sound{14.0 / 3}},
		// A nought with a minus times itself has none.
		{sound{noughtBelow, 0}, 1, sound{0, 0}},
		{sound{noughtBelow, noughtBelow}, 2, sound{0}},
		{sound{1e-200, -leastFloat}, 1, sound{0, 0}},
		// Nothing is divided ahead of the end, and what is past the greatest float stays so.
		{sound{1e154, 1.2e154, 1}, 2, sound{endless}},
		{sound{1e200, 1, -1e200, 2}, 2, sound{endless, endless}},
		{sound{endless, -endless, 1, noNumber, noNumber, endless}, 2, sound{endless, noNumber, noNumber}},
		// From the front: each 1 alone is lost in what is there, both together are not.
		{sound{1e8, 1, 1}, 3, sound{1e16 / 3}},
		{sound{1, 1, 1e8}, 3, sound{(1e16 + 2) / 3}},
		// Each square and each sum are rounded by themselves.
		{sound{0.1, 0.3}, 2, sound{0.05}},
		{sound{0.3, 0.1, 0.2, 0.6}, 2, sound{0.05, 0.2}},
		{sound{0.9, 1.8}, 2, sound{4.050000000000001 / 2}},
		// Divided, not multiplied by a part of 1.
		{sound{1, 2, 0}, 3, sound{5.0 / 3}},
		{sound{1, 1, 1, 0, 0, 0, 0, 0, 0, 0}, 10, sound{0.3}},
	} {
		checkSquaresIs(t, row.list, row.n, row.want)
		checkSquares(t, row.list, row.n)
	}
	third, tenth := 1.0/3, 0.1
	five, three := 5.0, 3.0
	if five*third == five/3 || three*tenth == three/10 {
		t.Fatal("these do not tell a quotient from a product with a part of 1")
	}
}

// Each n up to one above the length, with and without numbers left over.
func TestSquaresSizes(t *testing.T) {
	r := rand.New(rand.NewSource(133))
	for length := range 26 {
		list := randomSound(r, length)
		for n := int64(-1); n <= int64(length)+1; n++ {
			checkSquares(t, list, n)
			if got := impl.Squares(list, n); n >= 1 && len(got) != length/int(n) {
				t.Fatalf("Squares of %d numbers by %d: %d", length, n, len(got))
			}
		}
		for _, n := range append(strangeNumbers(), 0, mostSound-1, mostSound, mostSound+1) {
			checkSquares(t, list, n)
		}
	}
}

func TestSquaresLimits(t *testing.T) {
	for _, length := range []int{mostSound - 1, mostSound} {
		list := wavedSound(length)
		for _, n := range []int64{1, 2, 3, 7, 64, 1000, 1365, 2047, 2048, 2049, mostSound - 2, mostSound - 1, mostSound} {
			want := sound{}
			for from := int64(0); from+n <= int64(length); from += n {
				sum := int64(0)
				for _, x := range list[from : from+n] {
					sum += int64(x) * int64(x)
				}
				want = append(want, float64(sum)/float64(n))
			}
			checkSquaresIs(t, list, n, want)
		}
		for _, n := range append(strangeNumbers(), 0, mostSound+1, mostSound+2) {
			checkSquaresIs(t, list, n, nil)
		}
	}
	for _, length := range tooLongCounts() {
		for _, n := range []int64{-1, 0, 1, 2, mostSound, mostSound + 1, int64(length), math.MaxInt64, math.MinInt64} {
			checkSquaresIs(t, wavedSound(length), n, nil)
		}
	}
}

func TestSquaresStrange(t *testing.T) {
	some := strangeFloats()
	for n := int64(1); n <= int64(len(some))+1; n++ {
		checkSquares(t, some, n)
	}
	for _, x := range some {
		for _, y := range some {
			checkSquares(t, sound{x, y, 1}, 2)
		}
	}
}

func TestLoudCases(t *testing.T) {
	for _, row := range []struct {
		list       sound
		low, share float64
		want       float64
	}{
		{nil, 0, 0, 0},
		{sound{}, -endless, -endless, 0},
		{sound{1, 4, 100}, 2, 0.5, 100},
		{sound{1, 4, 100}, 2, 0.07, 52},
		{sound{1, 4, 100}, 0, 0.1, 52},
		{sound{1, 4, 100}, 0, 0, 35},
		{sound{100, 4, 1}, 0, 0, 35},
		// At low, just above it and just below it.
		{sound{2}, 2, 0, 0},
		{sound{nextUp(2)}, 2, 0, nextUp(2)},
		{sound{nextDown(2)}, 2, 0, 0},
		{sound{2, 3}, 2, 0, 3},
		{sound{nextUp(2), 3}, 2, 0, 2.5},
		{sound{0, noughtBelow, leastFloat}, 0, 0, leastFloat},
		{sound{0, noughtBelow}, noughtBelow, 0, 0},
		{sound{1, 2, 3}, -1, 0, 2},
		// None is kept by the first step.
		{sound{1, 2, 3}, 3, 0, 0},
		{sound{1, 2, 3}, 4, -1, 0},
		{sound{1, 2, 3}, endless, -1, 0},
		// None by the second: at share times the mean, or below it.
		{sound{2}, 0, 1, 0},
		{sound{2, 2}, 0, 1, 0},
		{sound{2}, 0, 2, 0},
		{sound{1, 2, 3}, 0, 2, 0},
		{sound{1, 2, 3}, 0, 1.5, 0},
		{sound{1, 2, 3}, 0, nextDown(1.5), 3},
		{sound{1, 2, 3}, 0, 1, 3},
		{sound{1, 2, 3}, 0, nextDown(1), 2.5},
		{sound{1, 2, 3}, 0, 0.5, 2.5},
		{sound{1, 2, 3}, 0, nextDown(0.5), 2},
		{sound{1, 2, 3}, 0, -1, 2},
		// What the first step leaves out does not weigh on the mean, nor does it come back.
		{sound{0.5, 0.5, 0.5, 4, 8}, 1, 1, 8},
		{sound{4, 0.5, 8, 0.5}, 1, 0.5, 6},
		{sound{5, 1, 5}, 2, -9, 5},
		// Sums begin at the nought without a minus, and go from the front.
		{sound{noughtBelow, -1}, -2, 0.5, 0},
		{sound{noughtBelow}, -1, 1, 0},
		{sound{noughtBelow, noughtBelow}, -1, -1, 0},
		{sound{1e16, 1, -1e16, 1}, -endless, -1e17, 0.25},
		// Here the mean is 0, and -1e16 is left out by it.
		{sound{1, -1e16, 1, 1e16}, -endless, -1e17, (1e16 + 2) / 3},
		{sound{1e16, 1, 1}, 0, 0, 1e16 / 3},
		{sound{1, 1, 1e16}, 0, 0, (1e16 + 2) / 3},
		// Below nought: by a share above 0 those above the mean's part.
		{sound{-3, -1, -2}, -4, 1, -1},
		{sound{-3, -1, -2}, -4, 2, -2},
		// Half of the least float below nought is rounded to nought, and keeps its minus.
		{sound{-leastFloat, 0, -1}, -2, 1, noughtBelow},
		// The mean is divided, at the end.
		{sound{0.1, 0.2, 0.4}, 0, 0, 0.23333333333333336},
		{sound{1, 2, 2}, 0, 0, 5.0 / 3},
		{sound{mostFloat, mostFloat}, 0, 0.5, 0},
		{sound{mostFloat, mostFloat}, 0, -1, endless},
		{sound{mostFloat, mostFloat}, 0, 0, 0},
		// NaN is kept by no step, and as a limit keeps none.
		{sound{noNumber}, 0, 0, 0},
		{sound{noNumber}, -endless, -1, 0},
		{sound{noNumber, 4, noNumber, 6}, 0, 0.7, 5},
		{sound{1, 2, 3}, noNumber, 0, 0},
		{sound{1, 2, 3}, 0, noNumber, 0},
		// Infinities.
		{sound{endless}, 0, 1, 0},
		{sound{endless}, 0, 0, 0},
		{sound{endless}, 0, -1, endless},
		{sound{endless, 5}, 0, -1, endless},
		{sound{endless, 5}, 0, 0.5, 0},
		{sound{endless, 5}, endless, -1, 0},
		{sound{-endless, 5}, -endless, 0.5, 5},
		{sound{-endless, 5}, -endless, 2, 0},
		{sound{-endless, 5, 7}, -endless, 0.5, 6},
		{sound{endless, -endless, 5}, -endless, -1, endless},
		{sound{1, 2, 3}, -endless, 0.5, 2.5},
		{sound{1, 2, 3}, 0, endless, 0},
		{sound{1, 2, 3}, 0, -endless, 2},
		{sound{-1, 1}, -2, endless, 0},
		{sound{-1, -2}, -3, endless, -1.5},
	} {
		checkLoudIs(t, row.list, row.low, row.share, row.want)
		checkLoud(t, row.list, row.low, row.share)
	}
}

func TestLoudLimits(t *testing.T) {
	for _, n := range []int{1, 2, mostSound - 1, mostSound} {
		ones := slices.Repeat(sound{1}, n)
		checkLoudIs(t, ones, 0, 0.5, 1)
		checkLoudIs(t, ones, 1, 0.5, 0)
		checkLoudIs(t, ones, 0, 1, 0)
		// One in the last place is kept alone: low, and then the mean, leaves the others out.
		ones[n-1] = 8192
		checkLoudIs(t, ones, 1, 0.5, 8192)
		checkLoudIs(t, ones, 0, 0.9, 8192)
		checkLoud(t, ones, 0, -1)
	}
	most := wavedSound(mostSound)
	checkLoud(t, most, 0, 0.5)
	checkLoud(t, most, -20, -3)
	for _, n := range tooLongCounts() {
		checkLoudIs(t, slices.Repeat(sound{1}, n), 0, 0.5, 0)
		checkLoudIs(t, wavedSound(n), -endless, -endless, 0)
	}
}

func TestLoudStrange(t *testing.T) {
	some := loudFloats()
	for _, low := range some {
		for _, share := range some {
			checkLoud(t, some, low, share)
			for _, x := range some {
				checkLoud(t, sound{x}, low, share)
				checkLoud(t, sound{1, x, 3}, low, share)
				checkLoud(t, sound{x, -x, 2}, low, share)
			}
		}
	}
}

// Squares of a sound, and how loud it is by them: quiet blocks do not weigh.
func TestLoudOfSquares(t *testing.T) {
	list := sound{0, 0, 0, 0, 2, -2, 2, -2, 1, 1, -1, -1, 0.5, 0.5, 0.5, 0.5, 100}
	squares := impl.Squares(list, 4)
	if !sameFloats(squares, sound{0, 4, 1, 0.25}) {
		t.Fatal(squares)
	}
	checkLoudIs(t, squares, 0, 0, 1.75)
	checkLoudIs(t, squares, 0, 0.5, 2.5)
	checkLoudIs(t, squares, 0.25, 0.5, 4)
}

func TestFaderCases(t *testing.T) {
	eights := sound{8, 8, 8, 8}
	for _, row := range []struct {
		list     sound
		from, to int64
		want     sound
	}{
		{nil, 0, 0, nil},
		{nil, 0, 1, nil},
		{eights, 1, 3, sound{0, 0, 4, 8}},
		{eights, 0, 4, sound{0, 2, 4, 6}},
		{eights, 0, 2, sound{0, 4, 8, 8}},
		{eights, 0, 1, sound{0, 8, 8, 8}},
		{eights, 2, 3, sound{0, 0, 0, 8}},
		{eights, 3, 4, sound{0, 0, 0, 0}},
		{eights, 2, 4, sound{0, 0, 0, 4}},
		{eights, -1, 3, nil},
		{eights, -1, 0, nil},
		{eights, 0, 0, nil},
		{eights, 3, 3, nil},
		{eights, 4, 4, nil},
		{eights, 3, 2, nil},
		{eights, 4, 5, nil},
		{eights, 0, 5, nil},
		{eights, 3, 5, nil},
		{eights, 0, -1, nil},
		{eights, math.MinInt64, 3, nil},
		{eights, math.MinInt64, math.MaxInt64, nil},
		{eights, math.MinInt64, math.MinInt64, nil},
		{eights, 0, math.MaxInt64, nil},
		{eights, 0, math.MinInt64, nil},
		{eights, math.MaxInt64, 3, nil},
		{eights, math.MaxInt64, math.MinInt64, nil},
		{eights, math.MaxInt64 - 1, math.MaxInt64, nil},
		{eights, 1 << 32, 1<<32 + 3, nil},
		{eights, 1, 1<<32 + 3, nil},
		{sound{5}, 0, 1, sound{0}},
		{sound{-5}, 0, 1, sound{noughtBelow}},
		{sound{endless}, 0, 1, sound{noNumber}},
		{sound{noNumber}, 0, 1, sound{noNumber}},
		{sound{5}, 0, 2, nil},
		{sound{5}, 1, 2, nil},
		{sound{5}, 1, 1, nil},
		// Ahead there is 0 without a minus, whatever stood there.
		{sound{-1, noughtBelow, endless, -endless, noNumber, 6, 6}, 5, 7, sound{0, 0, 0, 0, 0, 0, 3}},
		{sound{-1, noughtBelow, endless, -endless, noNumber, -6, -6}, 5, 7, sound{0, 0, 0, 0, 0, noughtBelow, -3}},
		// Behind all stay.
		{sound{6, 6, -1, noughtBelow, 0, endless, -endless, noNumber, leastFloat, 0.1}, 0, 2, sound{0, 3, -1, noughtBelow, 0, endless, -endless, noNumber, leastFloat, 0.1}},
		// Between: times nought at the first, which is one with a minus or a NaN of some.
		{sound{-7, noughtBelow, 0, endless, -endless, noNumber}, 0, 6, sound{noughtBelow, noughtBelow, 0, endless, -endless, noNumber}},
		{sound{noughtBelow, noughtBelow}, 0, 2, sound{noughtBelow, noughtBelow}},
		{sound{-endless, -endless}, 0, 2, sound{noNumber, -endless}},
		{sound{-1, leastFloat, -leastFloat}, 0, 3, sound{noughtBelow, 0, -leastFloat}},
		// The quotient is rounded by itself, and then the product.
		{sound{5, 5, 5}, 0, 3, sound{0, 1.6666666666666665, 3.333333333333333}},
		{sound{9, 5, 5, 5, 5}, 1, 4, sound{0, 0, 1.6666666666666665, 3.333333333333333, 5}},
		{sound{1, 1, 1, 1, 1, 1, 1, 1, 1, 1}, 0, 10, sound{0, 0.1, 0.2, 0.3, 0.4, 0.5, 0.6, 0.7, 0.8, 0.9}},
		{sound{mostFloat, mostFloat, mostFloat}, 0, 2, sound{0, mostFloat / 2, mostFloat}},
	} {
		checkFaderIs(t, row.list, row.from, row.to, row.want)
		checkFader(t, row.list, row.from, row.to)
	}
}

// All places around short lists.
func TestFaderPlaces(t *testing.T) {
	r := rand.New(rand.NewSource(134))
	for length := range 9 {
		list, odd := randomSound(r, length), sound{}
		for range length {
			odd = append(odd, randomFloat(r))
		}
		for from := int64(-2); from <= int64(length)+2; from++ {
			for to := int64(-2); to <= int64(length)+2; to++ {
				checkFader(t, list, from, to)
				checkFader(t, odd, from, to)
			}
		}
		for _, far := range strangeNumbers() {
			for _, other := range append(strangeNumbers(), 0, 1, int64(length)) {
				checkFaderIs(t, list, far, other, nil)
				checkFaderIs(t, list, other, far, nil)
			}
		}
	}
}

func TestFaderLimits(t *testing.T) {
	for _, length := range []int64{mostSound - 1, mostSound} {
		list := wavedSound(int(length))
		for _, place := range [][2]int64{{0, length}, {0, 1}, {length - 1, length}, {1, length}, {0, length - 1}, {length / 2, length/2 + 3}, {100, 4000}} {
			checkFader(t, list, place[0], place[1])
			if got := impl.Fader(list, place[0], place[1]); int64(len(got)) != length {
				t.Fatal(length, place, len(got))
			}
		}
		for _, place := range [][2]int64{{0, length + 1}, {length, length + 1}, {length, length}, {-1, length}, {length, 0}} {
			checkFaderIs(t, list, place[0], place[1], nil)
		}
	}
	for _, n := range tooLongCounts() {
		list := wavedSound(n)
		for _, to := range []int64{1, mostSound - 1, mostSound, mostSound + 1, int64(n)} {
			checkFaderIs(t, list, 0, to, nil)
			checkFaderIs(t, list, to-1, to, nil)
		}
	}
}

func TestFaderStrange(t *testing.T) {
	some := strangeFloats()
	length := int64(len(some))
	for from := range length {
		for _, to := range []int64{from + 1, from + 2, (from + length + 1) / 2, length - 1, length} {
			checkFader(t, some, from, to)
		}
	}
}

// Promise 14 for long sounds, for each strange float, and for a sound as its own other.
func TestSoundPromise(t *testing.T) {
	r := rand.New(rand.NewSource(135))
	some := strangeFloats()
	for _, x := range some {
		for _, y := range some {
			checkSoundPromise(t, sound{x, y, x}, sound{y, x}, y, x)
		}
		checkSoundPromise(t, some, sound{x}, x, 1)
	}
	for _, n := range []int{1, 2, 100, mostSound - 1, mostSound} {
		a := randomSound(r, n)
		for range 5 {
			a[r.Intn(n)] = some[r.Intn(len(some))]
		}
		for _, m := range []int{0, 1, n - 1, n, mostSound} {
			checkSoundPromise(t, a, randomSound(r, m), r.NormFloat64(), randomFloat(r))
		}
		checkSoundPromise(t, a, a, 1, -1)
	}
}

func randomFloats(r *rand.Rand, n int) sound {
	out := sound{}
	for range n {
		out = append(out, randomFloat(r))
	}
	return out
}

func TestSoundsRandom(t *testing.T) {
	r := rand.New(rand.NewSource(136))
	for round := range 1500 {
		a, b := randomSound(r, r.Intn(14)), randomSound(r, r.Intn(14))
		x, y := r.NormFloat64(), r.NormFloat64()
		if round%3 == 0 {
			a, x = randomFloats(r, r.Intn(10)), randomFloat(r)
		}
		if round%5 == 0 {
			b, y = randomFloats(r, r.Intn(10)), randomFloat(r)
		}
		checkSounds(t, a, b, x, y, int64(r.Intn(8)), int64(r.Intn(16)-1))
	}
}

// Many ask at once, each gets its own answer, and no one who sends blocks is left behind.
func TestSoundsAtOnce(t *testing.T) {
	before := runtime.NumGoroutine()
	list := wavedSound(mostSound)
	wants := map[int64]sound{}
	for n := int64(1); n <= 64; n++ {
		wants[n] = impl.Squares(list, n)
	}
	all := sync.WaitGroup{}
	wrong := make([]bool, 65)
	for n := int64(1); n <= 64; n++ {
		all.Go(func() {
			for range 3 {
				wrong[n] = wrong[n] || !sameFloats(impl.Squares(list, n), wants[n])
			}
		})
	}
	all.Wait()
	if n := slices.Index(wrong, true); n >= 0 {
		t.Fatalf("Squares by %d is another one where many ask", n)
	}
	for range 200 {
		impl.Squares(list[:10], 3)
		impl.Squares(nil, 1)
		impl.Squares(list[:10], 11)
	}
	for range 1000 {
		if runtime.NumGoroutine() <= before {
			return
		}
		time.Sleep(5 * time.Millisecond)
	}
	t.Fatalf("%d goroutines, %d ahead of the calls", runtime.NumGoroutine(), before)
}

var joinedOperation = regexp.MustCompile(`\((.*)\)\s+FN?M(ADD|SUB)[SD]\s`)

// joinedLines builds a package for a machine that can join a product and a sum into one rounding, and tells where the compiler did so.
func joinedLines(t *testing.T, dir string) []string {
	t.Helper()
	build := exec.Command("go", "build", "-gcflags=-S", ".")
	build.Dir = dir
	build.Env = append(os.Environ(), "GOOS=linux", "GOARCH=arm64", "CGO_ENABLED=0", "GOFLAGS=", "GOWORK=off")
	told, err := build.CombinedOutput()
	if err != nil {
		t.Fatalf("%v: %s", err, told)
	}
	out := []string{}
	for _, line := range strings.Split(string(told), "\n") {
		if found := joinedOperation.FindStringSubmatch(line); found != nil {
			out = append(out, found[1])
		}
	}
	return out
}

// No two operations of the chapter are joined into one rounding, whatever machine it is built for.
func TestSoundsAreNotJoined(t *testing.T) {
	probe := t.TempDir()
	for name, text := range map[string]string{
		"go.mod":   "module probe\n\ngo 1.27\n",
		"probe.go": "package probe\n\nfunc Joined(x, y, z float64) float64 { return x*y + z }\n",
	} {
		if err := os.WriteFile(filepath.Join(probe, name), []byte(text), 0o600); err != nil {
			t.Fatal(err)
		}
	}
	if len(joinedLines(t, probe)) == 0 {
		t.Fatal("a product and a sum that are joined are not seen")
	}
	for _, line := range joinedLines(t, "../impl") {
		if strings.Contains(line, "l13_sound.go:") {
			t.Errorf("two operations are joined at %s", line)
		}
	}
}

// soundFromBytes takes two bytes for each number.
func soundFromBytes(b []byte) sound {
	some := strangeFloats()
	out := sound{}
	for ; len(b) >= 2; b = b[2:] {
		if b[0] >= 192 {
			out = append(out, some[int(b[1])%len(some)])
			continue
		}
		out = append(out, float64(int(b[0])*256+int(b[1])-24576)/1000)
	}
	return out
}

// FuzzSounds takes two bytes for each number of two sounds.
func FuzzSounds(f *testing.F) {
	f.Add([]byte{96, 1, 97, 2, 98, 3}, []byte{1, 2}, 2.0, 0.5, int64(1), int64(3))
	f.Add([]byte{200, 1, 201, 200, 202, 30}, []byte{255, 56, 255, 28}, noughtBelow, endless, int64(0), int64(2))
	f.Add([]byte{}, []byte{96, 0, 96, 0}, noNumber, -1.0, int64(math.MinInt64), int64(math.MaxInt64))
	f.Fuzz(func(t *testing.T, one, other []byte, x, y float64, n, m int64) {
		// Every product of two numbers is reckoned exactly here: long sounds would take too long.
		a, b := soundFromBytes(one[:min(len(one), 120)]), soundFromBytes(other[:min(len(other), 120)])
		checkSounds(t, a, b, x, y, n, m)
		checkSounds(t, a, b, 1, x, n%8, m%32)
	})
}
