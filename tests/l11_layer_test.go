package tests

import (
	"math"
	"math/rand"
	"slices"
	"sync"
	"testing"

	"loop.example/g00066/impl"
)

// The faces of the chapter, held as they were given.
var (
	_ func(p impl.Px) bool                                     = impl.PxOk
	_ func(a, b impl.Px) impl.Px                               = impl.Over
	_ func(a, by impl.Px) impl.Px                              = impl.Inside
	_ func(a, by impl.Px) impl.Px                              = impl.Outside
	_ func(a, b impl.Px) impl.Px                               = impl.Added
	_ func(p impl.Px) impl.Px                                  = impl.Plain
	_ func(p impl.Px) impl.Px                                  = impl.Premul
	_ func(list []impl.Deep) impl.Px                           = impl.Flat
	_ func(a, b []impl.Deep) []impl.Deep                       = impl.Merge
	_ func(w, h int64, list []impl.Px, dx, dy int64) []impl.Px = impl.Moved
	_ struct{ R, G, B, A int64 }                               = impl.Px{}
	_ struct {
		At int64
		Px impl.Px
	} = impl.Deep{}
	_ [impl.MaxDeep - 200]struct{} = [0]struct{}{}
)

const (
	fullPixel = 255
	mostDeep  = 200
	mostSide  = 64
)

type (
	pixels  = []impl.Px
	samples = []impl.Deep
)

var (
	pixelMark  = px(-91, -92, -93, -94)
	sampleMark = deep(-95, pixelMark)
)

func px(r, g, b, a int64) impl.Px { return impl.Px{R: r, G: g, B: b, A: a} }

func deep(at int64, p impl.Px) impl.Deep { return impl.Deep{At: at, Px: p} }

func fourOf(p impl.Px) [4]int64 { return [4]int64{p.R, p.G, p.B, p.A} }

func ofFour(n [4]int64) impl.Px { return px(n[0], n[1], n[2], n[3]) }

func fourByWords(p impl.Px) bool {
	for _, n := range fourOf(p) {
		if n < 0 || n > fullPixel {
			return false
		}
	}
	return true
}

func pixelByWords(p impl.Px) bool {
	return fourByWords(p) && max(p.R, p.G, p.B) <= p.A
}

// partsByWords has the part of any two numbers, reckoned by fractions.
var partsByWords = sync.OnceValue(func() *[fullPixel + 1][fullPixel + 1]int64 {
	all := new([fullPixel + 1][fullPixel + 1]int64)
	for a := range int64(fullPixel + 1) {
		for b := range int64(fullPixel + 1) {
			all[a][b] = nearest(fullPixel, [2]int64{a, b})
		}
	}
	return all
})

func eachNumber(a, b impl.Px, do func(x, y int64) int64) impl.Px {
	x, y := fourOf(a), fourOf(b)
	out := [4]int64{}
	for i := range out {
		out[i] = do(x[i], y[i])
	}
	return ofFour(out)
}

// twoByWords is for what takes two pixels and answers one.
func twoByWords(a, b impl.Px, do func(x, y int64) int64) impl.Px {
	if !pixelByWords(a) || !pixelByWords(b) {
		return impl.Px{}
	}
	return eachNumber(a, b, do)
}

func overByWords(a, b impl.Px) impl.Px {
	return twoByWords(a, b, func(x, y int64) int64 { return x + partsByWords()[y][fullPixel-a.A] })
}

func insideByWords(a, by impl.Px) impl.Px {
	return twoByWords(a, by, func(x, _ int64) int64 { return partsByWords()[x][by.A] })
}

func outsideByWords(a, by impl.Px) impl.Px {
	return twoByWords(a, by, func(x, _ int64) int64 { return partsByWords()[x][fullPixel-by.A] })
}

func addedByWords(a, b impl.Px) impl.Px {
	return twoByWords(a, b, func(x, y int64) int64 {
		if x+y > fullPixel {
			return fullPixel
		}
		return x + y
	})
}

func plainPxByWords(p impl.Px) impl.Px {
	if !pixelByWords(p) {
		return impl.Px{}
	}
	out := eachNumber(p, p, func(x, _ int64) int64 {
		if p.A == 0 {
			return 0
		}
		return nearest(p.A, [2]int64{fullPixel, x})
	})
	out.A = p.A
	return out
}

func premulByWords(p impl.Px) impl.Px {
	if !fourByWords(p) {
		return impl.Px{}
	}
	return px(partsByWords()[p.R][p.A], partsByWords()[p.G][p.A], partsByWords()[p.B][p.A], p.A)
}

func samplesByWords(list samples) bool {
	for _, s := range list {
		if s.At < 0 || s.At > lastFrame || !pixelByWords(s.Px) {
			return false
		}
	}
	return len(list) <= mostDeep
}

// flatByWords takes the sample in front away, and lays it over what is left, told likewise.
func flatByWords(list samples) impl.Px {
	if !samplesByWords(list) || len(list) == 0 {
		return impl.Px{}
	}
	front := 0
	for i, s := range list {
		if s.At < list[front].At {
			front = i
		}
	}
	return overByWords(list[front].Px, flatByWords(slices.Delete(slices.Clone(list), front, front+1)))
}

// mergeByWords counts for each sample how many are ahead of it.
func mergeByWords(a, b samples) samples {
	if !samplesByWords(a) || !samplesByWords(b) || len(a)+len(b) > mostDeep {
		return nil
	}
	all := append(slices.Clone(a), b...)
	out := make(samples, len(all))
	for i, s := range all {
		place := 0
		for k, other := range all {
			if other.At < s.At || other.At == s.At && k < i {
				place++
			}
		}
		out[place] = s
	}
	return out
}

func sideByWords(n int64) bool { return n >= 1 && n <= mostSide }

func moveByWords(n int64) bool { return n >= -lastFrame && n <= lastFrame }

func pictureByWords(w, h int64, list pixels) bool {
	if !sideByWords(w) || !sideByWords(h) || len(list) != int(w)*int(h) {
		return false
	}
	for _, p := range list {
		if !pixelByWords(p) {
			return false
		}
	}
	return true
}

// movedByWords sends each pixel to where it goes.
func movedByWords(w, h int64, list pixels, dx, dy int64) pixels {
	if !pictureByWords(w, h, list) || !moveByWords(dx) || !moveByWords(dy) {
		return nil
	}
	out := make(pixels, len(list))
	for i, p := range list {
		x, y := int64(i)%w+dx, int64(i)/w+dy
		if x >= 0 && x < w && y >= 0 && y < h {
			out[y*w+x] = p
		}
	}
	return out
}

func checkPx(t *testing.T, p impl.Px, want bool) {
	t.Helper()
	if got := impl.PxOk(p); got != want {
		t.Fatalf("PxOk of %v: %v, want %v", p, got, want)
	}
}

type pixelPair struct {
	name    string
	do      func(a, b impl.Px) impl.Px
	byWords func(a, b impl.Px) impl.Px
}

func pixelPairs() []pixelPair {
	return []pixelPair{
		{"Over", impl.Over, overByWords},
		{"Inside", impl.Inside, insideByWords},
		{"Outside", impl.Outside, outsideByWords},
		{"Added", impl.Added, addedByWords},
	}
}

// checkPair asks all that take two pixels, both ways round.
func checkPair(t *testing.T, a, b impl.Px) {
	t.Helper()
	for _, pair := range pixelPairs() {
		for range 2 {
			if got, want := pair.do(a, b), pair.byWords(a, b); got != want {
				t.Fatalf("%s of %v and %v: %v, want %v", pair.name, a, b, got, want)
			}
			a, b = b, a
		}
	}
}

func checkOne(t *testing.T, p impl.Px) {
	t.Helper()
	checkPx(t, p, pixelByWords(p))
	if got, want := impl.Plain(p), plainPxByWords(p); got != want {
		t.Fatalf("Plain of %v: %v, want %v", p, got, want)
	}
	if got, want := impl.Premul(p), premulByWords(p); got != want {
		t.Fatalf("Premul of %v: %v, want %v", p, got, want)
	}
}

func checkFlatIs(t *testing.T, list samples, want impl.Px) {
	t.Helper()
	watchList(t, "Flat", list, sampleMark, nil, impl.Flat, want)
}

func checkFlat(t *testing.T, list samples) {
	t.Helper()
	checkFlatIs(t, list, flatByWords(list))
}

func checkMergedIs(t *testing.T, a, b, want samples) {
	t.Helper()
	ask := func(a, b samples) (samples, bool) { return impl.Merge(a, b), true }
	checkTwice(t, "Merge", ask, a, sampleMark, b, sampleMark, want, sampleMark, true)
}

func checkMerge(t *testing.T, a, b samples) {
	t.Helper()
	checkMergedIs(t, a, b, mergeByWords(a, b))
}

func checkMovedIs(t *testing.T, w, h int64, list pixels, dx, dy int64, want pixels) {
	t.Helper()
	ask := func(list pixels, by []int64) (pixels, bool) {
		return impl.Moved(by[0], by[1], list, by[2], by[3]), true
	}
	checkTwice(t, "Moved", ask, list, pixelMark, []int64{w, h, dx, dy}, levelMark, want, pixelMark, true)
}

func checkMoved(t *testing.T, w, h int64, list pixels, dx, dy int64) {
	t.Helper()
	checkMovedIs(t, w, h, list, dx, dy, movedByWords(w, h, list, dx, dy))
}

// checkLaid holds promise 12 for two pixels.
func checkLaid(t *testing.T, a, b impl.Px) {
	t.Helper()
	laid, none := impl.Over(a, b), impl.Px{}
	if !impl.PxOk(laid) {
		t.Fatalf("%v over %v is no pixel: %v", a, b, laid)
	}
	if a.A == fullPixel && laid != a {
		t.Fatalf("%v over %v does not hide it: %v", a, b, laid)
	}
	if impl.Over(none, b) != b || impl.Over(a, none) != a {
		t.Fatalf("nothing over %v: %v; %v over nothing: %v", b, impl.Over(none, b), a, impl.Over(a, none))
	}
	in, out := impl.Inside(a, b), impl.Outside(a, b)
	if !impl.PxOk(in) || !impl.PxOk(out) || !impl.PxOk(impl.Added(a, b)) {
		t.Fatalf("%v and %v: inside %v, outside %v, added %v: one is no pixel", a, b, in, out, impl.Added(a, b))
	}
	whole, i, o := fourOf(a), fourOf(in), fourOf(out)
	for k := range whole {
		if d := i[k] + o[k] - whole[k]; d < -1 || d > 1 {
			t.Fatalf("%v and %v: inside %v and outside %v are not the whole", a, b, in, out)
		}
	}
}

// checkMergedAll holds promise 12 for two lists of samples.
func checkMergedAll(t *testing.T, a, b samples) {
	t.Helper()
	all := impl.Merge(a, b)
	count := map[impl.Deep]int{}
	for _, s := range append(slices.Clone(a), b...) {
		count[s]++
	}
	for i, s := range all {
		count[s]--
		if i > 0 && all[i-1].At > s.At {
			t.Fatalf("Merge of %v and %v: %v is behind %v", few(a), few(b), s, all[i-1])
		}
	}
	for s, n := range count {
		if n != 0 {
			t.Fatalf("Merge of %v and %v: %v is there %d times too few", few(a), few(b), s, n)
		}
	}
	if len(all) == mostDeep {
		return
	}
	front := deep(0, px(7, 0, fullPixel, fullPixel))
	if got := impl.Flat(impl.Merge(samples{front}, all)); got != front.Px {
		t.Fatalf("what is full ahead of %v does not hide them: %v", few(all), got)
	}
}

func edgePixelNumbers() []int64 {
	return []int64{math.MinInt64, math.MinInt64 + 1, -1 << 32, -256, -255, -1, 0, 1, 2, 127, 128, 254, 255, 256, 257, 510, 1 << 8, 1<<32 + 1, math.MaxInt64 - 1, math.MaxInt64}
}

// noPixels are wrong in each place by each way.
func noPixels() pixels {
	out := pixels{}
	for _, n := range append([]int64{-1, 256, 257, 511, -255}, strangeNumbers()...) {
		for place := range 4 {
			four := [4]int64{20, 30, 40, 50}
			four[place] = n
			out = append(out, ofFour(four))
		}
	}
	return append(out, px(51, 0, 0, 50), px(0, 51, 0, 50), px(0, 0, 51, 50), px(1, 0, 0, 0), px(0, 1, 0, 0), px(0, 0, 1, 0), px(255, 255, 255, 254), px(256, 256, 256, 256), px(-1, -1, -1, -1), px(0, 0, 0, math.MaxInt64), pixelMark)
}

func TestPxOk(t *testing.T) {
	for _, row := range []struct {
		p    impl.Px
		want bool
	}{
		{px(0, 0, 0, 0), true}, {px(255, 255, 255, 255), true}, {px(0, 0, 0, 255), true}, {px(0, 0, 0, 1), true},
		{px(-1, 0, 0, 255), false}, {px(0, -1, 0, 255), false}, {px(0, 0, -1, 255), false}, {px(0, 0, 0, -1), false},
		{px(256, 0, 0, 255), false}, {px(0, 256, 0, 255), false}, {px(0, 0, 256, 255), false}, {px(0, 0, 0, 256), false},
		{px(255, 0, 0, 255), true}, {px(0, 255, 0, 255), true}, {px(0, 0, 255, 255), true},
		{px(100, 100, 100, 100), true}, {px(99, 100, 99, 100), true}, {px(99, 99, 99, 100), true},
		{px(101, 100, 100, 100), false}, {px(100, 101, 100, 100), false}, {px(100, 100, 101, 100), false},
		{px(1, 0, 0, 0), false}, {px(0, 1, 0, 0), false}, {px(0, 0, 1, 0), false},
		{px(-1, -1, -1, -1), false}, {px(256, 256, 256, 256), false}, {px(0, 0, 0, 256), false},
		{px(math.MinInt64, 0, 0, 255), false}, {px(0, math.MinInt64, 0, 255), false}, {px(0, 0, math.MinInt64, 255), false}, {px(0, 0, 0, math.MinInt64), false},
		{px(math.MaxInt64, 0, 0, 255), false}, {px(0, math.MaxInt64, 0, 255), false}, {px(0, 0, math.MaxInt64, 255), false}, {px(0, 0, 0, math.MaxInt64), false},
	} {
		checkPx(t, row.p, row.want)
	}
	for _, p := range noPixels() {
		checkPx(t, p, false)
	}
	for _, r := range edgePixelNumbers() {
		for _, g := range edgePixelNumbers() {
			for _, b := range edgePixelNumbers() {
				for _, a := range edgePixelNumbers() {
					p := px(r, g, b, a)
					checkPx(t, p, pixelByWords(p))
				}
			}
		}
	}
	for a := range int64(fullPixel + 2) {
		for _, n := range []int64{a - 1, a, a + 1} {
			checkPx(t, px(n, 0, 0, a), n >= 0 && n <= a && a <= fullPixel)
			checkPx(t, px(0, n, 0, a), n >= 0 && n <= a && a <= fullPixel)
			checkPx(t, px(0, 0, n, a), n >= 0 && n <= a && a <= fullPixel)
		}
	}
}

type pairCase struct{ a, b, want impl.Px }

func checkPairs(t *testing.T, name string, do func(a, b impl.Px) impl.Px, rows []pairCase) {
	t.Helper()
	for _, row := range rows {
		if got := do(row.a, row.b); got != row.want {
			t.Fatalf("%s of %v and %v: %v, want %v", name, row.a, row.b, got, row.want)
		}
		checkPair(t, row.a, row.b)
	}
}

func TestOver(t *testing.T) {
	checkPairs(t, "Over", impl.Over, []pairCase{
		// Half of it shows: 200 times 127 of 255 is 99.6.
		{px(100, 0, 0, 128), px(0, 200, 0, 255), px(100, 100, 0, 255)},
		// 42.2, 50.6, 59.02 and 67.5 less a bit come to it.
		{px(10, 20, 30, 40), px(50, 60, 70, 80), px(52, 71, 89, 107)},
		// The part of 127 and 1 is just below a half, that of 128 and 1 just above it.
		{px(0, 0, 0, 254), px(127, 128, 255, 255), px(0, 1, 1, 255)},
		{px(254, 253, 0, 254), px(127, 128, 129, 129), px(254, 254, 1, 255)},
		{px(1, 1, 0, 1), px(255, 255, 255, 255), px(255, 255, 254, 255)},
		{px(1, 0, 1, 1), px(127, 128, 0, 128), px(128, 127, 1, 128)},
		{px(0, 0, 0, 0), px(1, 2, 3, 4), px(1, 2, 3, 4)},
		{px(1, 2, 3, 4), px(0, 0, 0, 0), px(1, 2, 3, 4)},
		{px(0, 0, 0, 0), px(0, 0, 0, 0), px(0, 0, 0, 0)},
		{px(9, 8, 7, 255), px(255, 255, 255, 255), px(9, 8, 7, 255)},
		{px(0, 0, 0, 255), px(255, 1, 255, 255), px(0, 0, 0, 255)},
		{px(0, 0, 0, 1), px(0, 0, 0, 1), px(0, 0, 0, 2)},
		{px(255, 255, 255, 255), px(0, 0, 0, 0), px(255, 255, 255, 255)},
	})
}

func TestInside(t *testing.T) {
	checkPairs(t, "Inside", impl.Inside, []pairCase{
		{px(50, 60, 70, 80), px(0, 0, 0, 215), px(42, 51, 59, 67)},
		// What by has beside A does not matter.
		{px(50, 60, 70, 80), px(215, 1, 99, 215), px(42, 51, 59, 67)},
		{px(127, 128, 200, 255), px(0, 0, 0, 1), px(0, 1, 1, 1)},
		{px(127, 128, 1, 255), px(0, 0, 0, 254), px(127, 127, 1, 254)},
		{px(1, 2, 3, 255), px(255, 0, 255, 255), px(1, 2, 3, 255)},
		{px(1, 2, 3, 255), px(0, 0, 0, 0), px(0, 0, 0, 0)},
		{px(0, 0, 0, 0), px(0, 0, 0, 255), px(0, 0, 0, 0)},
		{px(1, 0, 1, 1), px(0, 0, 0, 127), px(0, 0, 0, 0)},
		{px(1, 0, 1, 1), px(0, 0, 0, 128), px(1, 0, 1, 1)},
	})
}

func TestOutside(t *testing.T) {
	checkPairs(t, "Outside", impl.Outside, []pairCase{
		{px(50, 60, 70, 80), px(0, 0, 0, 40), px(42, 51, 59, 67)},
		{px(50, 60, 70, 80), px(40, 1, 9, 40), px(42, 51, 59, 67)},
		{px(127, 128, 200, 255), px(0, 0, 0, 254), px(0, 1, 1, 1)},
		{px(127, 128, 1, 255), px(0, 0, 0, 1), px(127, 127, 1, 254)},
		{px(1, 2, 3, 255), px(0, 0, 0, 0), px(1, 2, 3, 255)},
		{px(1, 2, 3, 255), px(255, 0, 0, 255), px(0, 0, 0, 0)},
		{px(0, 0, 0, 0), px(0, 0, 0, 1), px(0, 0, 0, 0)},
		{px(1, 0, 1, 1), px(0, 0, 0, 128), px(0, 0, 0, 0)},
		{px(1, 0, 1, 1), px(0, 0, 0, 127), px(1, 0, 1, 1)},
	})
}

func TestAdded(t *testing.T) {
	checkPairs(t, "Added", impl.Added, []pairCase{
		{px(100, 20, 5, 155), px(55, 0, 10, 99), px(155, 20, 15, 254)},
		{px(100, 20, 5, 155), px(55, 0, 10, 100), px(155, 20, 15, 255)},
		{px(100, 20, 5, 155), px(55, 0, 10, 101), px(155, 20, 15, 255)},
		{px(200, 200, 200, 200), px(54, 55, 56, 56), px(254, 255, 255, 255)},
		{px(255, 255, 255, 255), px(255, 255, 255, 255), px(255, 255, 255, 255)},
		{px(0, 0, 0, 0), px(1, 2, 3, 4), px(1, 2, 3, 4)},
		{px(1, 2, 3, 4), px(0, 0, 0, 0), px(1, 2, 3, 4)},
		{px(1, 0, 0, 1), px(0, 255, 0, 255), px(1, 255, 0, 255)},
		{px(0, 0, 0, 254), px(0, 0, 1, 1), px(0, 0, 1, 255)},
		{px(0, 0, 0, 0), px(0, 0, 0, 0), px(0, 0, 0, 0)},
	})
}

// The zero Px when one is none, or both are.
func TestPairsOfNone(t *testing.T) {
	some := pixels{{}, px(0, 0, 0, 255), px(20, 30, 40, 50), px(255, 255, 255, 255)}
	for _, none := range noPixels() {
		for _, pair := range pixelPairs() {
			for _, p := range some {
				if got := pair.do(none, p); got != (impl.Px{}) {
					t.Fatalf("%s of %v and %v: %v", pair.name, none, p, got)
				}
				if got := pair.do(p, none); got != (impl.Px{}) {
					t.Fatalf("%s of %v and %v: %v", pair.name, p, none, got)
				}
			}
			for _, other := range noPixels() {
				if got := pair.do(none, other); got != (impl.Px{}) {
					t.Fatalf("%s of %v and %v: %v", pair.name, none, other, got)
				}
			}
		}
	}
}

// The part of any two numbers, in each place of a pixel and by each function that takes parts.
func TestAllParts(t *testing.T) {
	parts := partsByWords()
	if parts[1][127] != 0 || parts[1][128] != 1 || parts[255][255] != 255 || parts[200][127] != 100 || parts[254][254] != 253 {
		t.Fatal("the parts that are held against are wrong")
	}
	for a := range int64(fullPixel + 1) {
		for b := range int64(fullPixel + 1) {
			part := parts[a][b]
			for place := range 4 {
				four, want := [4]int64{3: fullPixel}, [4]int64{3: b}
				four[place], want[place] = a, part
				p := ofFour(four)
				if got := impl.Inside(p, px(0, 0, 0, b)); got != ofFour(want) {
					t.Fatalf("Inside of %v and %d: %v", p, b, got)
				}
				if got := impl.Outside(p, px(0, 0, 0, fullPixel-b)); got != ofFour(want) {
					t.Fatalf("Outside of %v and %d: %v", p, fullPixel-b, got)
				}
				want[3] += fullPixel - b
				if got := impl.Over(px(0, 0, 0, fullPixel-b), p); got != ofFour(want) {
					t.Fatalf("Over of %d and %v: %v", fullPixel-b, p, got)
				}
				if place == 3 {
					continue
				}
				four[3], want[3] = b, b
				if got := impl.Premul(ofFour(four)); got != ofFour(want) {
					t.Fatalf("Premul of %v: %v", four, got)
				}
			}
		}
	}
}

func TestPlain(t *testing.T) {
	for _, row := range []struct{ p, want impl.Px }{
		{px(0, 0, 0, 0), px(0, 0, 0, 0)},
		{px(100, 0, 0, 128), px(199, 0, 0, 128)},
		{px(0, 0, 0, 1), px(0, 0, 0, 1)},
		{px(1, 0, 1, 1), px(255, 0, 255, 1)},
		{px(0, 1, 0, 1), px(0, 255, 0, 1)},
		{px(1, 0, 2, 2), px(128, 0, 255, 2)},             // 127.5
		{px(1, 2, 3, 4), px(64, 128, 191, 4)},            // 63.75, 127.5, 191.25
		{px(1, 3, 5, 6), px(43, 128, 213, 6)},            // 42.5, 127.5, 212.5
		{px(1, 9, 3, 10), px(26, 230, 77, 10)},           // 25.5, 229.5, 76.5
		{px(85, 1, 169, 170), px(128, 2, 254, 170)},      // 127.5, 1.5, 253.5
		{px(1, 2, 253, 254), px(1, 2, 254, 254)},         // 1.004, 2.008, 253.996
		{px(127, 126, 254, 254), px(128, 126, 255, 254)}, // 127.5, 126.496, 255
		{px(1, 2, 255, 255), px(1, 2, 255, 255)},
		{px(0, 0, 0, 255), px(0, 0, 0, 255)},
		{px(255, 254, 0, 255), px(255, 254, 0, 255)},
	} {
		if got := impl.Plain(row.p); got != row.want {
			t.Fatalf("Plain of %v: %v, want %v", row.p, got, row.want)
		}
		checkOne(t, row.p)
	}
	for _, p := range noPixels() {
		if got := impl.Plain(p); got != (impl.Px{}) {
			t.Fatalf("Plain of %v: %v", p, got)
		}
	}
}

// Each number of a pixel at each A, and back again.
func TestPlainOfAll(t *testing.T) {
	for a := range int64(fullPixel + 1) {
		for n := range a + 1 {
			p := px(n, a-n, a, a)
			got := impl.Plain(p)
			if got != plainPxByWords(p) {
				t.Fatalf("Plain of %v: %v, want %v", p, got, plainPxByWords(p))
			}
			if back := impl.Premul(got); back != p {
				t.Fatalf("Premul of Plain of %v: %v", p, back)
			}
		}
	}
}

func TestPremul(t *testing.T) {
	for _, row := range []struct{ p, want impl.Px }{
		{px(0, 0, 0, 0), px(0, 0, 0, 0)},
		{px(255, 255, 255, 255), px(255, 255, 255, 255)},
		{px(255, 255, 255, 0), px(0, 0, 0, 0)},
		{px(0, 0, 0, 255), px(0, 0, 0, 255)},
		{px(255, 0, 0, 0), px(0, 0, 0, 0)},
		{px(255, 0, 128, 128), px(128, 0, 64, 128)},
		{px(200, 10, 0, 100), px(78, 4, 0, 100)}, // 78.4, 3.9
		{px(0, 200, 10, 100), px(0, 78, 4, 100)},
		{px(10, 0, 200, 100), px(4, 0, 78, 100)},
		{px(127, 128, 255, 1), px(0, 1, 1, 1)},
		{px(1, 2, 3, 255), px(1, 2, 3, 255)},
	} {
		if got := impl.Premul(row.p); got != row.want {
			t.Fatalf("Premul of %v: %v, want %v", row.p, got, row.want)
		}
		checkOne(t, row.p)
	}
	for _, n := range append([]int64{-1, 256}, strangeNumbers()...) {
		for place := range 4 {
			for _, four := range [][4]int64{{}, {255, 255, 255, 255}, {10, 20, 30, 40}, {200, 200, 200, 100}} {
				four[place] = n
				if got := impl.Premul(ofFour(four)); got != (impl.Px{}) {
					t.Fatalf("Premul of %v: %v", four, got)
				}
			}
		}
	}
	for _, p := range noPixels() {
		checkOne(t, p)
	}
}

func edgePixels() pixels {
	out := pixels{}
	for _, a := range []int64{0, 1, 2, 127, 128, 254, 255} {
		for _, n := range []int64{0, 1, 126, 127, 128, 253, 254, 255} {
			if n <= a {
				out = append(out, px(n, a-n, a, a), px(a, n, n/2, a))
			}
		}
	}
	return out
}

func TestPairsOfEdges(t *testing.T) {
	for _, a := range edgePixels() {
		checkOne(t, a)
		for _, b := range edgePixels() {
			checkPair(t, a, b)
			checkLaid(t, a, b)
		}
	}
}

func randomPixel(r *rand.Rand) impl.Px {
	a := r.Int63n(fullPixel + 1)
	if r.Intn(4) == 0 {
		a = []int64{0, 1, 254, 255}[r.Intn(4)]
	}
	return px(r.Int63n(a+1), r.Int63n(a+1), r.Int63n(a+1), a)
}

func TestRandomPixels(t *testing.T) {
	r := rand.New(rand.NewSource(111))
	wrong := noPixels()
	for range 20000 {
		a, b := randomPixel(r), randomPixel(r)
		checkLaid(t, a, b)
		checkOne(t, a)
		checkOne(t, px(r.Int63n(258)-1, r.Int63n(258)-1, r.Int63n(258)-1, r.Int63n(258)-1))
		if r.Intn(10) == 0 {
			b = wrong[r.Intn(len(wrong))]
		}
		checkPair(t, a, b)
	}
}

// Three samples whose parts come out otherwise when those in front are laid over each other first.
var (
	nearPixel  = px(10, 20, 30, 40)
	midPixel   = px(50, 60, 70, 80)
	farPixel   = px(90, 100, 110, 120)
	threeFlat  = px(104, 129, 152, 177)
	fullSample = px(7, 8, 9, 255)
)

func TestFlat(t *testing.T) {
	for _, row := range []struct {
		list samples
		want impl.Px
	}{
		{nil, impl.Px{}},
		{samples{}, impl.Px{}},
		{samples{deep(5, midPixel)}, midPixel},
		{samples{deep(0, fullSample)}, fullSample},
		{samples{deep(5, impl.Px{})}, impl.Px{}},
		{samples{deep(1, nearPixel), deep(2, midPixel)}, px(52, 71, 89, 107)},
		{samples{deep(2, midPixel), deep(1, nearPixel)}, px(52, 71, 89, 107)},
		{samples{deep(1, nearPixel), deep(2, midPixel), deep(3, farPixel)}, threeFlat},
		{samples{deep(3, farPixel), deep(2, midPixel), deep(1, nearPixel)}, threeFlat},
		{samples{deep(2, midPixel), deep(3, farPixel), deep(1, nearPixel)}, threeFlat},
		{samples{deep(lastFrame, farPixel), deep(0, nearPixel), deep(1, midPixel)}, threeFlat},
		// Of alike ones the one that stands ahead is in front.
		{samples{deep(4, nearPixel), deep(4, midPixel), deep(4, farPixel)}, threeFlat},
		{samples{deep(4, midPixel), deep(4, farPixel), deep(3, nearPixel)}, threeFlat},
		{samples{deep(5, farPixel), deep(4, nearPixel), deep(4, midPixel)}, threeFlat},
		{samples{deep(4, midPixel), deep(4, nearPixel)}, impl.Over(midPixel, nearPixel)},
		// What is full hides what is behind it, and nothing in front of it.
		{samples{deep(1, fullSample), deep(2, midPixel), deep(3, farPixel)}, fullSample},
		{samples{deep(3, farPixel), deep(2, midPixel), deep(1, fullSample)}, fullSample},
		{samples{deep(1, fullSample), deep(1, px(1, 2, 3, 255))}, fullSample},
		{samples{deep(1, px(100, 0, 0, 128)), deep(2, px(0, 200, 0, 255)), deep(3, midPixel)}, px(100, 100, 0, 255)},
		{samples{deep(1, px(100, 0, 0, 128)), deep(2, impl.Px{}), deep(3, px(0, 200, 0, 255))}, px(100, 100, 0, 255)},
		{samples{deep(0, impl.Px{}), deep(1, impl.Px{}), deep(2, nearPixel)}, nearPixel},
	} {
		checkFlatIs(t, row.list, row.want)
		checkFlat(t, row.list)
	}
	// The order in which they are laid matters: it is not the same from the front.
	if got := impl.Over(impl.Over(nearPixel, midPixel), farPixel); got == threeFlat {
		t.Fatal("these three do not tell the one way from the other")
	}
}

func manySamples(n int) samples {
	out := samples{}
	for i := range n {
		v := int64(i*37) % 90
		out = append(out, deep(int64(i*7919)%50, px(v, v/2, v/3, v+2)))
	}
	return out
}

func TestFlatLimits(t *testing.T) {
	for _, at := range []int64{0, 1, lastFrame - 1, lastFrame} {
		checkFlatIs(t, samples{deep(at, midPixel)}, midPixel)
		checkMergedIs(t, samples{deep(at, midPixel)}, nil, samples{deep(at, midPixel)})
		checkMergedIs(t, nil, samples{deep(at, midPixel)}, samples{deep(at, midPixel)})
	}
	for _, at := range strangeNumbers() {
		checkFlatIs(t, samples{deep(at, midPixel)}, impl.Px{})
		checkFlatIs(t, samples{deep(0, fullSample), deep(at, midPixel)}, impl.Px{})
		checkFlatIs(t, samples{deep(at, midPixel), deep(0, fullSample)}, impl.Px{})
	}
	for _, n := range []int{mostDeep - 1, mostDeep} {
		list := manySamples(n)
		checkFlat(t, list)
		if impl.Flat(list) == (impl.Px{}) {
			t.Fatalf("Flat of %d samples is nothing", n)
		}
		checkFlatIs(t, append(slices.Clone(list[:n-1]), deep(0, fullSample)), flatByWords(append(slices.Clone(list[:n-1]), deep(0, fullSample))))
	}
	for _, n := range []int{mostDeep + 1, mostDeep + 2, 2 * mostDeep, 256, 257, 456, 65536 + 5} {
		checkFlatIs(t, manySamples(n), impl.Px{})
	}
}

func TestFlatOfNone(t *testing.T) {
	for _, none := range noPixels() {
		checkFlatIs(t, samples{deep(1, none)}, impl.Px{})
		for _, list := range []samples{
			{deep(1, none), deep(2, midPixel), deep(0, nearPixel)},
			{deep(2, midPixel), deep(1, none), deep(0, nearPixel)},
			{deep(2, midPixel), deep(0, nearPixel), deep(1, none)},
			// Wrong, though a full one hides it.
			{deep(0, fullSample), deep(1, none)},
			{deep(1, none), deep(0, fullSample)},
		} {
			checkFlatIs(t, list, impl.Px{})
			checkMergedIs(t, list, nil, nil)
			checkMergedIs(t, nil, list, nil)
			checkMergedIs(t, samples{deep(1, midPixel)}, list, nil)
			checkMergedIs(t, list, samples{deep(1, midPixel)}, nil)
		}
	}
}

func TestMerge(t *testing.T) {
	a, b, c, d := px(1, 0, 0, 10), px(2, 0, 0, 10), px(3, 0, 0, 10), px(4, 0, 0, 10)
	for _, row := range []struct{ a, b, want samples }{
		{nil, nil, nil},
		{samples{}, samples{}, samples{}},
		{samples{deep(3, a)}, nil, samples{deep(3, a)}},
		{nil, samples{deep(3, a)}, samples{deep(3, a)}},
		{samples{deep(1, a), deep(3, b)}, samples{deep(2, c), deep(4, d)}, samples{deep(1, a), deep(2, c), deep(3, b), deep(4, d)}},
		{samples{deep(2, a)}, samples{deep(1, b)}, samples{deep(1, b), deep(2, a)}},
		// Lists that are not in order themselves.
		{samples{deep(9, a), deep(1, b)}, samples{deep(5, c), deep(0, d)}, samples{deep(0, d), deep(1, b), deep(5, c), deep(9, a)}},
		{samples{deep(9, a), deep(1, b), deep(5, c)}, nil, samples{deep(1, b), deep(5, c), deep(9, a)}},
		{nil, samples{deep(9, a), deep(1, b), deep(5, c)}, samples{deep(1, b), deep(5, c), deep(9, a)}},
		// Alike in both: those of a are ahead.
		{samples{deep(1, a)}, samples{deep(1, b)}, samples{deep(1, a), deep(1, b)}},
		{samples{deep(1, b)}, samples{deep(1, a)}, samples{deep(1, b), deep(1, a)}},
		{samples{deep(2, c), deep(1, a)}, samples{deep(1, b), deep(2, d)}, samples{deep(1, a), deep(1, b), deep(2, c), deep(2, d)}},
		// Alike in one: as they stand.
		{samples{deep(1, d), deep(1, a), deep(1, c)}, samples{deep(1, b), deep(0, a)}, samples{deep(0, a), deep(1, d), deep(1, a), deep(1, c), deep(1, b)}},
		{samples{deep(1, a)}, samples{deep(1, d), deep(1, b), deep(1, c)}, samples{deep(1, a), deep(1, d), deep(1, b), deep(1, c)}},
		// The same sample twice is there twice.
		{samples{deep(1, a), deep(1, a)}, samples{deep(1, a)}, samples{deep(1, a), deep(1, a), deep(1, a)}},
		{samples{deep(lastFrame, impl.Px{})}, samples{deep(0, fullSample)}, samples{deep(0, fullSample), deep(lastFrame, impl.Px{})}},
	} {
		checkMergedIs(t, row.a, row.b, row.want)
		checkMerge(t, row.a, row.b)
		checkMergedAll(t, row.a, row.b)
	}
}

func TestMergeLimits(t *testing.T) {
	many := manySamples(2 * mostDeep)
	for _, n := range []int{0, 1, 2, 73, 100, 199, 200} {
		a, b := many[:n], many[n:mostDeep]
		checkMerge(t, a, b)
		checkMergedAll(t, a, b)
		if got := impl.Merge(a, b); len(got) != mostDeep {
			t.Fatalf("Merge of %d and %d samples has %d", len(a), len(b), len(got))
		}
		// One more, in one list or the other.
		checkMergedIs(t, many[:n], many[n:mostDeep+1], nil)
		checkMergedIs(t, many[:n+1], many[n:mostDeep], nil)
	}
	for _, n := range []int{mostDeep + 1, 256, 257, 2 * mostDeep} {
		list := manySamples(n)
		checkMergedIs(t, list, nil, nil)
		checkMergedIs(t, nil, list, nil)
		checkMergedIs(t, list, list, nil)
		checkMergedIs(t, list, many[:1], nil)
		checkMergedIs(t, many[:1], list, nil)
	}
	for _, at := range strangeNumbers() {
		for _, place := range []int{0, 50, 99} {
			wrong := slices.Clone(many[:100])
			wrong[place].At = at
			checkMergedIs(t, wrong, many[:100], nil)
			checkMergedIs(t, many[:100], wrong, nil)
			checkMergedIs(t, wrong, nil, nil)
			checkMergedIs(t, nil, wrong, nil)
		}
	}
}

func smallSamples() samples {
	out := samples{}
	for _, at := range []int64{0, 1, lastFrame} {
		out = append(out, deep(at, nearPixel), deep(at, midPixel), deep(at, fullSample))
	}
	return append(out, deep(-1, midPixel), deep(lastFrame+1, midPixel), deep(1, px(1, 0, 0, 0)))
}

// All lists of at most two small samples, and all pairs of them; all lists of three.
func TestAllSmallSamples(t *testing.T) {
	some := smallSamples()
	lists := []samples{{}}
	for _, x := range some {
		lists = append(lists, samples{x})
		for _, y := range some {
			lists = append(lists, samples{x, y})
			for _, z := range some {
				checkFlat(t, samples{x, y, z})
			}
		}
	}
	for _, a := range lists {
		checkFlat(t, a)
		for _, b := range lists {
			checkMerge(t, a, b)
		}
	}
}

func randomSamples(r *rand.Rand, n int) samples {
	far := []int64{1, 2, 5, 100, lastFrame + 1}[r.Intn(5)]
	out := samples{}
	for range n {
		out = append(out, deep(r.Int63n(far), randomPixel(r)))
	}
	return out
}

func TestRandomSamples(t *testing.T) {
	r := rand.New(rand.NewSource(112))
	wrong := noPixels()
	for range 1500 {
		most := []int{3, 8, 40, 130}[r.Intn(4)]
		a, b := randomSamples(r, r.Intn(most)), randomSamples(r, r.Intn(most))
		checkMerge(t, a, b)
		checkFlat(t, a)
		if len(a)+len(b) > mostDeep {
			continue
		}
		checkMergedAll(t, a, b)
		// What is merged is flat as both are when one stands behind the other.
		if got, want := impl.Flat(impl.Merge(a, b)), impl.Flat(append(slices.Clone(a), b...)); got != want {
			t.Fatalf("Flat of Merge of %v and %v: %v, want %v", few(a), few(b), got, want)
		}
		if len(a) > 0 {
			a[r.Intn(len(a))].Px = wrong[r.Intn(len(wrong))]
			checkMerge(t, a, b)
			checkMerge(t, b, a)
			checkFlat(t, a)
		}
	}
}

// numbered is a picture whose pixels are all unlike.
func numbered(w, h int64) pixels {
	out := pixels{}
	for i := range w * h {
		out = append(out, px(i%200+1, i/200, 1, 201))
	}
	return out
}

func TestMoved(t *testing.T) {
	a, b, c, d, e, f, o := px(1, 0, 0, 9), px(2, 0, 0, 9), px(3, 0, 0, 9), px(4, 0, 0, 9), px(5, 0, 0, 9), px(6, 0, 0, 9), impl.Px{}
	list := pixels{a, b, c, d, e, f}
	for _, row := range []struct {
		w, h, dx, dy int64
		want         pixels
	}{
		{3, 2, 0, 0, pixels{a, b, c, d, e, f}},
		{3, 2, 1, 0, pixels{o, a, b, o, d, e}},
		{3, 2, -1, 0, pixels{b, c, o, e, f, o}},
		{3, 2, 0, 1, pixels{o, o, o, a, b, c}},
		{3, 2, 0, -1, pixels{d, e, f, o, o, o}},
		{3, 2, 1, 1, pixels{o, o, o, o, a, b}},
		{3, 2, -1, 1, pixels{o, o, o, b, c, o}},
		{3, 2, 1, -1, pixels{o, d, e, o, o, o}},
		{3, 2, -2, -1, pixels{f, o, o, o, o, o}},
		{3, 2, 2, 1, pixels{o, o, o, o, o, a}},
		{3, 2, 3, 0, pixels{o, o, o, o, o, o}},
		{3, 2, -3, 0, pixels{o, o, o, o, o, o}},
		{3, 2, 0, 2, pixels{o, o, o, o, o, o}},
		{3, 2, 0, -2, pixels{o, o, o, o, o, o}},
		{2, 3, 1, 0, pixels{o, a, o, c, o, e}},
		{2, 3, 0, 1, pixels{o, o, a, b, c, d}},
		{2, 3, 0, -2, pixels{e, f, o, o, o, o}},
		{6, 1, 2, 0, pixels{o, o, a, b, c, d}},
		{6, 1, 0, 1, pixels{o, o, o, o, o, o}},
		{1, 6, 0, -4, pixels{e, f, o, o, o, o}},
		{1, 6, 1, 0, pixels{o, o, o, o, o, o}},
		{3, 2, lastFrame, 0, pixels{o, o, o, o, o, o}},
		{3, 2, 0, -lastFrame, pixels{o, o, o, o, o, o}},
		{3, 2, lastFrame + 1, 0, nil},
		{3, 2, 0, -lastFrame - 1, nil},
	} {
		checkMovedIs(t, row.w, row.h, list, row.dx, row.dy, row.want)
		checkMoved(t, row.w, row.h, list, row.dx, row.dy)
	}
	checkMovedIs(t, 1, 1, pixels{a}, 0, 0, pixels{a})
	checkMovedIs(t, 1, 1, pixels{a}, 1, 0, pixels{o})
	checkMovedIs(t, 1, 1, pixels{a}, -lastFrame, lastFrame, pixels{o})
}

func TestMovedSizes(t *testing.T) {
	for _, w := range []int64{1, 2, 63, 64} {
		for _, h := range []int64{1, 2, 63, 64} {
			list := numbered(w, h)
			for _, dx := range []int64{0, 1, -1, w - 1, 1 - w, w, -w, w + 1, lastFrame, -lastFrame} {
				for _, dy := range []int64{0, 1, -1, h - 1, 1 - h, h, -h, -h - 1, lastFrame, -lastFrame} {
					checkMoved(t, w, h, list, dx, dy)
				}
			}
			checkMovedIs(t, w, h, list, 0, 0, list)
			checkMovedIs(t, w, h, list[1:], 0, 0, nil)
			checkMovedIs(t, w, h, append(slices.Clone(list), px(0, 0, 0, 0)), 0, 0, nil)
			checkMovedIs(t, w, h, nil, 0, 0, nil)
			if w != h {
				checkMovedIs(t, h, h, list, 0, 0, nil)
			}
		}
	}
	for _, n := range append([]int64{0, 65, 66, 128, -64, 256 + 1, 1<<16 + 1}, strangeNumbers()...) {
		for _, other := range []int64{1, 2, 64, 0, -1, 65, n, -n} {
			for _, length := range []int64{0, 1, 2, 4, 64, 65, 66, 128, n * other} {
				if length < 0 || length > 70000 {
					continue
				}
				list := make(pixels, length)
				checkMovedIs(t, n, other, list, 0, 0, nil)
				checkMovedIs(t, other, n, list, 0, 0, nil)
			}
		}
	}
	// Sides whose product, cut to 64 bits or to 32, is as long as the list.
	for _, sides := range [][2]int64{{1 << 32, 1 << 32}, {1 << 63 >> 1, 4}, {math.MinInt64, 2}, {1<<32 + 1, 1}, {math.MinInt64 + 1, math.MinInt64 + 1}, {-1, -1}, {-2, -2}, {math.MaxInt64, math.MaxInt64}} {
		for length := range int64(5) {
			checkMovedIs(t, sides[0], sides[1], make(pixels, length), 0, 0, nil)
			checkMovedIs(t, sides[1], sides[0], make(pixels, length), 0, 0, nil)
		}
	}
}

func TestMovedOfNone(t *testing.T) {
	list := numbered(3, 2)
	for _, none := range noPixels() {
		for i := range list {
			wrong := slices.Clone(list)
			wrong[i] = none
			// Wrong as well where it is moved outside.
			for _, by := range []int64{0, 1, -1, 3, lastFrame} {
				checkMovedIs(t, 3, 2, wrong, by, 0, nil)
				checkMovedIs(t, 3, 2, wrong, 0, by, nil)
			}
		}
	}
	whole := numbered(64, 64)
	whole[4095] = px(256, 0, 0, 255)
	checkMovedIs(t, 64, 64, whole, 0, 0, nil)
	for _, by := range strangeNumbers() {
		if by >= -lastFrame && by <= lastFrame {
			continue
		}
		checkMovedIs(t, 3, 2, list, by, 0, nil)
		checkMovedIs(t, 3, 2, list, 0, by, nil)
		checkMovedIs(t, 3, 2, list, by, by, nil)
	}
	for _, by := range []int64{lastFrame, -lastFrame} {
		checkMovedIs(t, 3, 2, list, by, 0, make(pixels, 6))
		checkMovedIs(t, 3, 2, list, 0, by, make(pixels, 6))
		checkMovedIs(t, 3, 2, list, by, -by, make(pixels, 6))
	}
}

// checkMovedBack holds that a picture that is moved and moved back is itself where it stayed inside, and nothing elsewhere.
func checkMovedBack(t *testing.T, w, h int64, list pixels, dx, dy int64) {
	t.Helper()
	back := impl.Moved(w, h, impl.Moved(w, h, list, dx, dy), -dx, -dy)
	if len(back) != len(list) {
		t.Fatalf("%d by %d, moved by %d %d and back: %d pixels", w, h, dx, dy, len(back))
	}
	for i, p := range back {
		x, y := int64(i)%w+dx, int64(i)/w+dy
		want := impl.Px{}
		if 0 <= x && x < w && 0 <= y && y < h {
			want = list[i]
		}
		if p != want {
			t.Fatalf("%d by %d, moved by %d %d and back: %v at %d, want %v", w, h, dx, dy, p, i, want)
		}
	}
}

func TestMovedBack(t *testing.T) {
	for w := int64(1); w <= 5; w++ {
		for h := int64(1); h <= 5; h++ {
			list := numbered(w, h)
			for dx := -w - 1; dx <= w+1; dx++ {
				for dy := -h - 1; dy <= h+1; dy++ {
					checkMoved(t, w, h, list, dx, dy)
					checkMovedBack(t, w, h, list, dx, dy)
				}
			}
		}
	}
	r := rand.New(rand.NewSource(113))
	for range 300 {
		w, h := r.Int63n(mostSide)+1, r.Int63n(mostSide)+1
		list := pixels{}
		for range w * h {
			list = append(list, randomPixel(r))
		}
		dx, dy := r.Int63n(2*w+1)-w, r.Int63n(2*h+1)-h
		checkMoved(t, w, h, list, dx, dy)
		checkMovedBack(t, w, h, list, dx, dy)
	}
	checkMovedBack(t, 2, 2, numbered(2, 2), lastFrame, -lastFrame)
}

// samplesFromBytes takes six bytes for each sample: most of what it gives is near one.
func samplesFromBytes(b []byte) samples {
	out := samples{}
	for ; len(b) >= 6; b = b[6:] {
		at := int64(b[0])
		if b[1] > 250 {
			at = strangeNumbers()[int(b[0])%len(strangeNumbers())]
		}
		a := int64(b[5]) + int64(b[1]/200)*int64(b[0]%2)
		under := func(n byte) int64 { return int64(n) * (a + int64(b[1]/252)) / fullPixel }
		out = append(out, deep(at, px(under(b[2]), under(b[3]), under(b[4]), a)))
	}
	return out
}

// FuzzLayers takes six bytes for each sample of two lists, whose pixels are a picture too.
func FuzzLayers(f *testing.F) {
	f.Add([]byte{1, 0, 255, 0, 0, 128, 2, 0, 0, 200, 0, 255}, []byte{1, 0, 127, 128, 129, 254}, int64(2), int64(1), int64(1), int64(0))
	f.Add([]byte{0, 255, 255, 255, 255, 255, 1, 252, 255, 0, 0, 9}, []byte{}, int64(1), int64(2), int64(-1), int64(lastFrame))
	f.Add([]byte{}, []byte{5, 0, 1, 1, 1, 1}, int64(0), int64(65), int64(lastFrame+1), int64(math.MinInt64))
	f.Fuzz(func(t *testing.T, one, other []byte, w, h, dx, dy int64) {
		a, b := samplesFromBytes(one), samplesFromBytes(other)
		checkFlat(t, a)
		checkMerge(t, a, b)
		if samplesByWords(a) && samplesByWords(b) && len(a)+len(b) <= mostDeep {
			checkMergedAll(t, a, b)
		}
		list := pixels{}
		for i, s := range a {
			list = append(list, s.Px)
			checkOne(t, s.Px)
			checkPair(t, s.Px, a[len(a)-1-i].Px)
		}
		checkMoved(t, w, h, list, dx, dy)
		checkMoved(t, int64(len(list)), 1, list, dx, dy)
		checkMoved(t, 1, int64(len(list)), list, dx%70, dy%70)
		p := px(w, h, dx, dy)
		checkOne(t, p)
		for _, s := range b {
			checkPair(t, p, s.Px)
		}
	})
}
