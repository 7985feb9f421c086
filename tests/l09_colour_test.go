package tests

import (
	"math"
	"math/big"
	"math/rand"
	"slices"
	"sync"
	"testing"

	"loop.example/g00066/impl"
)

// The faces of the chapter, held as they were given.
var (
	_ func(m []int64, c impl.Rgb) impl.Rgb                   = impl.Matrix
	_ func(table []int64, v int64) int64                     = impl.Curve
	_ func(n int64, table []impl.Rgb, c impl.Rgb) impl.Rgb   = impl.Cube
	_ func(n int64) []impl.Rgb                               = impl.PlainCube
	_ func([]impl.Rgb) []int64                               = impl.Scope
	_ func(c impl.Rgb, like impl.Rgb, near, far int64) int64 = impl.KeyMask
	_ struct{ R, G, B int64 }                                = impl.Rgb{}
	_ [impl.Full - 65535]struct{}                            = [0]struct{}{}
	_ [impl.MaxFactor - 65536]struct{}                       = [0]struct{}{}
	_ [impl.MaxPixels - 4096]struct{}                        = [0]struct{}{}
)

const (
	full       = 65535
	mostFactor = 65536
	mostPixels = 4096
	levelMark  = -91
)

type colours = []impl.Rgb

func rgb(r, g, b int64) impl.Rgb { return impl.Rgb{R: r, G: g, B: b} }

func grey(v int64) impl.Rgb { return rgb(v, v, v) }

func levels(c impl.Rgb) [3]int64 { return [3]int64{c.R, c.G, c.B} }

func coloured(v [3]int64) impl.Rgb { return rgb(v[0], v[1], v[2]) }

var colourMark = rgb(-91, -92, -93)

func levelByWords(v int64) bool { return v >= 0 && v <= full }

func colourByWords(c impl.Rgb) bool {
	return levelByWords(c.R) && levelByWords(c.G) && levelByWords(c.B)
}

func allColoursByWords(list colours) bool {
	return !slices.ContainsFunc(list, func(c impl.Rgb) bool { return !colourByWords(c) })
}

func noLevels() []int64 {
	return []int64{-1, -2, full + 1, full + 2, -full, -full - 1, 2 * full, 1 << 32, 1<<32 + 5, -1 << 32, math.MaxInt64, math.MaxInt64 - 1, math.MinInt64, math.MinInt64 + 1}
}

// noColours have one number that is none, or all.
func noColours() colours {
	out := colours{}
	for _, v := range noLevels() {
		out = append(out, rgb(v, 5, 6), rgb(4, v, 6), rgb(4, 5, v), grey(v))
	}
	return out
}

// nearest is the sum of some products, divided: the nearest whole number, of two the greater.
func nearest(under int64, products ...[2]int64) int64 {
	sum := new(big.Int)
	for _, p := range products {
		sum.Add(sum, new(big.Int).Mul(big.NewInt(p[0]), big.NewInt(p[1])))
	}
	exact := new(big.Rat).SetFrac(sum, big.NewInt(under))
	below := new(big.Int).Div(sum, big.NewInt(under))
	toBelow := new(big.Rat).Sub(exact, new(big.Rat).SetInt(below))
	toAbove := new(big.Rat).Sub(big.NewRat(1, 1), toBelow)
	if toAbove.Cmp(toBelow) <= 0 {
		return below.Int64() + 1
	}
	return below.Int64()
}

func matrixByWords(m []int64, c impl.Rgb) impl.Rgb {
	if len(m) != 9 || !colourByWords(c) {
		return impl.Rgb{}
	}
	for _, x := range m {
		if x < -mostFactor || x > mostFactor {
			return impl.Rgb{}
		}
	}
	row := func(m []int64) int64 {
		v := nearest(4096, [2]int64{m[0], c.R}, [2]int64{m[1], c.G}, [2]int64{m[2], c.B})
		if v < 0 {
			return 0
		}
		if v > full {
			return full
		}
		return v
	}
	return rgb(row(m[0:3]), row(m[3:6]), row(m[6:9]))
}

// partByWords counts how often Full is in v times n, but for the last time where nothing is left.
func partByWords(v, n int64) (i, rest int64) {
	rest = v * n
	for rest >= full && i < n-1 {
		i, rest = i+1, rest-full
	}
	return i, rest
}

func tableByWords(table []int64) bool {
	return len(table) >= 2 && len(table) <= 257 && !slices.ContainsFunc(table, func(v int64) bool { return !levelByWords(v) })
}

func curveByWords(table []int64, v int64) int64 {
	if !tableByWords(table) || !levelByWords(v) {
		return -1
	}
	i, rest := partByWords(v, int64(len(table))-1)
	return table[i] + nearest(full, [2]int64{table[i+1] - table[i], rest})
}

func cubeOk(n int64, table colours) bool {
	return n >= 2 && n <= 9 && int64(len(table)) == n*n*n && allColoursByWords(table)
}

// corner is a node of a cube, and what it weighs.
type corner struct {
	at     [3]int64
	weight int64
}

// wayByWords goes the chapter's way by its six orders, one by one.
func wayByWords(n int64, c impl.Rgb) [4]corner {
	r, x := partByWords(c.R, n-1)
	g, y := partByWords(c.G, n-1)
	b, z := partByWords(c.B, n-1)
	rests := [3]int64{x, y, z}
	order := [3]int{}
	switch {
	case x >= y && y >= z:
		order = [3]int{0, 1, 2}
	case x >= z && z >= y:
		order = [3]int{0, 2, 1}
	case y >= x && x >= z:
		order = [3]int{1, 0, 2}
	case y >= z && z >= x:
		order = [3]int{1, 2, 0}
	case z >= x && x >= y:
		order = [3]int{2, 0, 1}
	default:
		order = [3]int{2, 1, 0}
	}
	first, second, third := rests[order[0]], rests[order[1]], rests[order[2]]
	at := [3]int64{r, g, b}
	way := [4]corner{{at, full - first}}
	for i, weight := range []int64{first - second, second - third, third} {
		at[order[i]]++
		way[i+1] = corner{at, weight}
	}
	return way
}

// weightOf is what a corner weighs without any order: what all directions to it have, less what one that does not lead to it has.
func weightOf(rests [3]int64, gone [3]bool) int64 {
	least, most := int64(full), int64(0)
	for i, rest := range rests {
		if gone[i] {
			least = min(least, rest)
		} else {
			most = max(most, rest)
		}
	}
	return max(0, least-most)
}

func nodePlace(n int64, at [3]int64) int64 { return at[0]*n*n + at[1]*n + at[2] }

func cubeByWords(n int64, table colours, c impl.Rgb) impl.Rgb {
	if !cubeOk(n, table) || !colourByWords(c) {
		return impl.Rgb{}
	}
	out := [3]int64{}
	for i := range out {
		products := [][2]int64{}
		for _, k := range wayByWords(n, c) {
			products = append(products, [2]int64{levels(table[nodePlace(n, k.at)])[i], k.weight})
		}
		out[i] = nearest(full, products...)
	}
	return coloured(out)
}

// cubeByWeights asks all eight corners around, in no order.
func cubeByWeights(n int64, table colours, c impl.Rgb) impl.Rgb {
	near, rests := [3]int64{}, [3]int64{}
	for i, v := range levels(c) {
		near[i], rests[i] = partByWords(v, n-1)
	}
	out := [3]int64{}
	for i := range out {
		products := [][2]int64{}
		for k := range 8 {
			at, gone := near, [3]bool{}
			for d := range 3 {
				if k>>d&1 == 1 {
					at[d], gone[d] = at[d]+1, true
				}
			}
			products = append(products, [2]int64{levels(table[nodePlace(n, at)])[i], weightOf(rests, gone)})
		}
		out[i] = nearest(full, products...)
	}
	return coloured(out)
}

func plainByWords(n int64) colours {
	out := colours{}
	if n < 2 || n > 9 {
		return out
	}
	for place := range n * n * n {
		at := [3]int64{place / (n * n), place / n % n, place % n}
		for i, v := range at {
			at[i] = nearest(n-1, [2]int64{v, full})
		}
		out = append(out, coloured(at))
	}
	return out
}

func scopeByWords(list colours) []int64 {
	if len(list) > mostPixels || !allColoursByWords(list) {
		return nil
	}
	out := make([]int64, 16)
	for _, c := range list {
		light := down([]int64{c.R + c.G + c.G + c.B}, []int64{4}).Int64()
		for part := range int64(16) {
			if light >= 4096*part && light <= 4096*part+4095 {
				out[part]++
			}
		}
	}
	return out
}

func maskByWords(c, like impl.Rgb, near, far int64) int64 {
	if !colourByWords(c) || !colourByWords(like) || !(0 <= near && near < far && far <= full) {
		return 0
	}
	d := int64(0)
	for i := range 3 {
		x, y := levels(c)[i], levels(like)[i]
		if x < y {
			x, y = y, x
		}
		if x-y > d {
			d = x - y
		}
	}
	if d <= near {
		return full
	}
	if d >= far {
		return 0
	}
	return nearest(far-near, [2]int64{full, far - d})
}

// watchList asks twice, and watches the list and the room behind it.
func watchList[A, T comparable](t *testing.T, name string, list []A, mark A, with any, ask func([]A) T, want T) {
	t.Helper()
	given, whole := withRoom(list, mark)
	before := slices.Clone(whole)
	got, again := ask(given), ask(given)
	if got != want || again != want {
		t.Fatalf("%s of %v with %v: %v, then %v, want %v", name, few(list), with, got, again, want)
	}
	if !slices.Equal(whole, before) {
		t.Fatalf("%s of %v with %v: the list, or its room, was written into", name, few(list), with)
	}
}

func checkMatrixed(t *testing.T, m []int64, c, want impl.Rgb) {
	t.Helper()
	watchList(t, "Matrix", m, levelMark, c, func(m []int64) impl.Rgb { return impl.Matrix(m, c) }, want)
}

func checkMatrix(t *testing.T, m []int64, c impl.Rgb) {
	t.Helper()
	checkMatrixed(t, m, c, matrixByWords(m, c))
}

func checkCurved(t *testing.T, table []int64, v, want int64) {
	t.Helper()
	watchList(t, "Curve", table, levelMark, v, func(table []int64) int64 { return impl.Curve(table, v) }, want)
}

// checkCurve holds Curve against the chapter's words; what it gives lies between the two numbers around.
func checkCurve(t *testing.T, table []int64, v int64) {
	t.Helper()
	want := curveByWords(table, v)
	checkCurved(t, table, v, want)
	if want == -1 {
		return
	}
	i, rest := partByWords(v, int64(len(table))-1)
	one, other := table[i], table[i+1]
	got := impl.Curve(table, v)
	if got < min(one, other) || got > max(one, other) || rest == 0 && got != one || rest == full && got != other {
		t.Fatalf("Curve of %v at %d: %d, between %d and %d", few(table), v, got, one, other)
	}
}

func checkCubed(t *testing.T, n int64, table colours, c, want impl.Rgb) {
	t.Helper()
	watchList(t, "Cube", table, colourMark, []any{n, c}, func(table colours) impl.Rgb { return impl.Cube(n, table, c) }, want)
}

// checkCube holds Cube against the chapter's words both ways; what it gives lies between the nodes' least and greatest number.
func checkCube(t *testing.T, n int64, table colours, c impl.Rgb) {
	t.Helper()
	checkCubed(t, n, table, c, cubeByWords(n, table, c))
	if !cubeOk(n, table) || !colourByWords(c) {
		return
	}
	got := impl.Cube(n, table, c)
	if other := cubeByWeights(n, table, c); got != other {
		t.Fatalf("Cube of %d, %v at %v: %v, by weights %v", n, few(table), c, got, other)
	}
	way := wayByWords(n, c)
	for i, v := range levels(got) {
		least, greatest := int64(full), int64(0)
		for _, k := range way {
			if k.weight > 0 {
				node := levels(table[nodePlace(n, k.at)])[i]
				least, greatest = min(least, node), max(greatest, node)
			}
		}
		if v < least || v > greatest {
			t.Fatalf("Cube of %d, %v at %v: %v is not from %d to %d", n, few(table), c, got, least, greatest)
		}
	}
}

func checkPlain(t *testing.T, n int64, want colours) {
	t.Helper()
	do := func([]int64, []int64) (colours, bool) { return impl.PlainCube(n), true }
	checkTwice(t, "PlainCube", do, []int64{n}, levelMark, nil, levelMark, want, colourMark, true)
}

func checkScoped(t *testing.T, list colours, want []int64) {
	t.Helper()
	do := func(list colours, _ []int64) ([]int64, bool) { return impl.Scope(list), true }
	checkTwice(t, "Scope", do, list, colourMark, nil, levelMark, want, levelMark, true)
}

// checkScope holds Scope against the chapter's words; each colour is counted once.
func checkScope(t *testing.T, list colours) {
	t.Helper()
	want := scopeByWords(list)
	checkScoped(t, list, want)
	if want == nil {
		return
	}
	sum := int64(0)
	for _, count := range impl.Scope(list) {
		sum += count
	}
	if sum != int64(len(list)) {
		t.Fatalf("Scope of %d colours counts %d", len(list), sum)
	}
}

func checkMasked(t *testing.T, c, like impl.Rgb, near, far, want int64) {
	t.Helper()
	if got := impl.KeyMask(c, like, near, far); got != want {
		t.Fatalf("KeyMask of %v like %v, %d to %d: %d, want %d", c, like, near, far, got, want)
	}
}

// checkMask holds KeyMask against the chapter's words; it goes both ways, and at the colour itself is full.
func checkMask(t *testing.T, c, like impl.Rgb, near, far int64) {
	t.Helper()
	want := maskByWords(c, like, near, far)
	checkMasked(t, c, like, near, far, want)
	checkMasked(t, like, c, near, far, want)
	if colourByWords(c) && 0 <= near && near < far && far <= full {
		checkMasked(t, c, c, near, far, full)
	}
}

func diagonal(v int64) []int64 { return []int64{v, 0, 0, 0, v, 0, 0, 0, v} }

// edgeLevels are the ends, what is beside them, and the thirds, halves and quarters.
func edgeLevels() []int64 {
	return []int64{0, 1, 2, 13107, 16383, 16384, 21844, 21845, 21846, 32767, 32768, 43690, 49151, 49152, 65534, 65535}
}

func TestMatrixOrdinary(t *testing.T) {
	some := rgb(100, 201, 7)
	for _, x := range []struct {
		m       []int64
		c, want impl.Rgb
	}{
		{[]int64{2048, 2048, 0, 0, 8192, 0, 0, 0, -4096}, some, rgb(151, 402, 0)},
		{diagonal(4096), some, some},
		{diagonal(4096), impl.Rgb{}, impl.Rgb{}},
		{diagonal(4096), grey(full), grey(full)},
		{diagonal(0), grey(full), impl.Rgb{}},
		// Row by row: each number of the colour goes by its own column.
		{[]int64{0, 4096, 0, 0, 0, 4096, 4096, 0, 0}, some, rgb(201, 7, 100)},
		{[]int64{0, 0, 4096, 4096, 0, 0, 0, 4096, 0}, some, rgb(7, 100, 201)},
		{[]int64{4096, 0, 0, 4096, 0, 0, 4096, 0, 0}, some, grey(100)},
		{[]int64{0, 0, 4096, 0, 0, 4096, 0, 0, 4096}, some, grey(7)},
		{[]int64{4096, 8192, 12288, 0, 0, 0, -4096, 4096, 0}, some, rgb(523, 0, 101)},
		// Sums below 0, at 0, at Full, above it.
		{[]int64{-4096, 0, 0, 4096, -4096, 0, 4096, -4096, 4096}, rgb(10, 20, 10), rgb(0, 0, 0)},
		{[]int64{4096, 0, 0, 4096, 4096, 0, 4096, 4096, 4096}, rgb(65534, 1, 1), rgb(65534, 65535, 65535)},
		{[]int64{8192, 0, 0, 8192, 0, 0, 8192, -4096, 0}, rgb(32768, 1, 0), rgb(65535, 65535, 65535)},
		{[]int64{8192, 0, 0, 8192, -4096, 0, 8192, 0, -4096}, rgb(32768, 1, 2), rgb(65535, 65535, 65534)},
		{diagonal(mostFactor), rgb(4095, 4096, 1), rgb(65520, 65535, 16)},
		{diagonal(-mostFactor), grey(full), impl.Rgb{}},
		// Rounded down, at just a half, rounded up.
		{[]int64{1, 0, 0, 0, 1, 0, 0, 0, 1}, rgb(2047, 2048, 2049), rgb(0, 1, 1)},
		{[]int64{1, 0, 0, 0, 1, 0, 0, 0, 1}, rgb(6143, 6144, 6145), rgb(1, 2, 2)},
		// A half above a number that comes of something below 0.
		{[]int64{4096, -1, 0, 4096, 0, -1, 4096, 0, 0}, rgb(9, 2048, 2049), rgb(9, 8, 9)},
		{[]int64{4096, -1, 0, 4096, -2, 0, 4096, -3, 0}, rgb(9, 2048, 0), rgb(9, 8, 8)},
		// At just a half below 0, and beside it, nothing is left but 0.
		{[]int64{-1, 0, 0, 0, -1, 0, 0, 0, -1}, rgb(2047, 2048, 2049), rgb(0, 0, 0)},
		{[]int64{-1, 4096, 0, -1, 4096, 0, -3, 4096, 0}, rgb(2048, 1, 0), rgb(1, 1, 0)},
		// At just a half below Full, and above it.
		{[]int64{4096, -1, 0, 4096, 0, -1, 4096, 1, 0}, rgb(full, 2048, 2049), rgb(65535, 65534, 65535)},
	} {
		checkMatrixed(t, x.m, x.c, x.want)
		checkMatrix(t, x.m, x.c)
	}
}

func TestMatrixLimits(t *testing.T) {
	some := rgb(100, 201, 7)
	for n := range 20 {
		m := slices.Repeat([]int64{4096}, n)
		want := impl.Rgb{}
		if n == 9 {
			want = grey(308)
		}
		checkMatrixed(t, m, some, want)
	}
	checkMatrixed(t, nil, some, impl.Rgb{})
	checkMatrixed(t, diagonal(4096)[:8], some, impl.Rgb{})
	checkMatrixed(t, append(diagonal(4096), 0), some, impl.Rgb{})
	for place := range 9 {
		for _, x := range []int64{-mostFactor, 1 - mostFactor, mostFactor - 1, mostFactor} {
			m := diagonal(4096)
			m[place] = x
			checkMatrix(t, m, some)
			checkMatrix(t, m, rgb(1, 2, 3))
			if impl.Matrix(m, some) == (impl.Rgb{}) {
				t.Errorf("%d at %d is refused", x, place)
			}
		}
		for _, x := range []int64{-mostFactor - 1, mostFactor + 1, -mostFactor - 2, mostFactor + 2, 1 << 32, -1 << 32, math.MaxInt64, math.MinInt64, math.MinInt64 + 1} {
			m := diagonal(4096)
			m[place] = x
			checkMatrixed(t, m, some, impl.Rgb{})
		}
	}
	// The greatest sums there are.
	for _, x := range []int64{-mostFactor, mostFactor} {
		m := slices.Repeat([]int64{x}, 9)
		for _, c := range []impl.Rgb{grey(full), grey(0), grey(1), grey(1365), rgb(full, 0, 0), rgb(0, full, 1)} {
			checkMatrix(t, m, c)
		}
	}
	for _, c := range noColours() {
		checkMatrixed(t, diagonal(4096), c, impl.Rgb{})
		checkMatrixed(t, nil, c, impl.Rgb{})
	}
	for i := range 3 {
		for _, v := range []int64{0, 1, full - 1, full} {
			c := levels(some)
			c[i] = v
			checkMatrixed(t, diagonal(4096), coloured(c), coloured(c))
		}
	}
}

// Promise 10: 4096 on the diagonal gives each colour back.
func TestPlainMatrix(t *testing.T) {
	m := diagonal(4096)
	for v := range int64(full + 1) {
		for _, c := range []impl.Rgb{grey(v), rgb(v, 9, full-v), rgb(full, v, 0), rgb(full-v, 0, v)} {
			if got := impl.Matrix(m, c); got != c {
				t.Fatalf("%v comes back as %v", c, got)
			}
		}
	}
	for _, x := range edgeLevels() {
		for _, y := range edgeLevels() {
			for _, z := range edgeLevels() {
				checkMatrixed(t, m, rgb(x, y, z), rgb(x, y, z))
			}
		}
	}
}

// Every sum around each half and each whole number, at both ends.
func TestMatrixRounds(t *testing.T) {
	for sum := int64(-9000); sum <= 9000; sum++ {
		for _, base := range []int64{0, 7, full - 1, full} {
			// base times 4096, and the sum by a factor of 1 or -1.
			by := int64(1)
			if sum < 0 {
				by = -1
			}
			m := []int64{4096, by, 0, by, 4096, 0, 4096, 0, 0}
			c := rgb(base, by*sum, 0)
			got := impl.Matrix(m, c)
			want := base
			for 2*(sum-4096*(want-base)) >= 4096 {
				want++
			}
			for 2*(sum-4096*(want-base)) < -4096 {
				want--
			}
			if want = min(max(want, 0), full); got.R != want {
				t.Fatalf("%d and %d / 4096: %d, want %d", base, sum, got.R, want)
			}
			checkMatrix(t, m, c)
		}
	}
}

func TestCurveOrdinary(t *testing.T) {
	ends, turned := []int64{0, full}, []int64{full, 0}
	up, fall := []int64{0, 1}, []int64{1, 0}
	peak := []int64{0, 1000, 0}
	thirds := []int64{10, 40, 20, 20}
	for _, x := range []struct {
		table   []int64
		v, want int64
	}{
		{peak, 16384, 500},
		{peak, 0, 0},
		{peak, full, 0},
		{peak, 32767, 1000},
		{peak, 32768, 1000},
		{peak, 49151, 500},
		{ends, 0, 0},
		{ends, 777, 777},
		{ends, full, full},
		{turned, 0, full},
		{turned, 777, 64758},
		{turned, full, 0},
		// By its own values: a table of four has them at 0, 21845, 43690 and Full.
		{thirds, 0, 10},
		{thirds, 21845, 40},
		{thirds, 43690, 20},
		{thirds, full, 20},
		{thirds, 21844, 40},
		{thirds, 21846, 40},
		{thirds, 10922, 25},
		{thirds, 10923, 25},
		{thirds, 32767, 30},
		{thirds, 32768, 30},
		{thirds, 50000, 20},
		// Full is odd, so no number is at just a half: below it down, above it up, where the table rises and where it falls.
		{up, 0, 0},
		{up, 32767, 0},
		{up, 32768, 1},
		{up, full, 1},
		{fall, 0, 1},
		{fall, 32767, 1},
		{fall, 32768, 0},
		{fall, full, 0},
		{[]int64{5, 8}, 10922, 5},
		{[]int64{5, 8}, 10923, 6},
		{[]int64{5, 8}, 32767, 6},
		{[]int64{5, 8}, 32768, 7},
		{[]int64{8, 5}, 10922, 8},
		{[]int64{8, 5}, 10923, 7},
		{[]int64{8, 5}, 32767, 7},
		{[]int64{8, 5}, 32768, 6},
		{[]int64{9, 9}, 12345, 9},
		{[]int64{0, 0, 0}, 12345, 0},
		{[]int64{full, full, full}, 12345, full},
	} {
		checkCurved(t, x.table, x.v, x.want)
		checkCurve(t, x.table, x.v)
	}
}

// waved is a table that goes up and down.
func waved(n int) []int64 {
	table := []int64{}
	for i := range int64(n) {
		table = append(table, i*i*977%(full+1))
	}
	return table
}

func TestCurveLimits(t *testing.T) {
	for _, n := range []int{0, 1, 2, 3, 4, 16, 17, 255, 256, 257, 258, 259, 1000} {
		ok := n >= 2 && n <= 257
		for _, v := range edgeLevels() {
			for _, table := range [][]int64{waved(n), slices.Repeat([]int64{full}, n), slices.Repeat([]int64{0}, n)} {
				checkCurve(t, table, v)
				if got := impl.Curve(table, v); (got == -1) == ok {
					t.Fatalf("a table of %d at %d: %d", n, v, got)
				}
			}
		}
		for _, v := range noLevels() {
			checkCurved(t, waved(n), v, -1)
		}
	}
	checkCurved(t, nil, 0, -1)
	checkCurved(t, []int64{}, 0, -1)
	checkCurved(t, []int64{7}, 0, -1)
	checkCurved(t, []int64{7, 7}, -1, -1)
	checkCurved(t, []int64{7, 7}, full+1, -1)
	// One number at the ends, or none, anywhere; also where v does not come to it.
	for _, n := range []int{2, 3, 257} {
		for place := range n {
			for _, x := range []int64{0, 1, full - 1, full} {
				table := slices.Repeat([]int64{7}, n)
				table[place] = x
				checkCurve(t, table, 300)
				checkCurve(t, table, full)
				// It is the value at place / n of Full, so nowhere is more of it.
				checkCurve(t, table, int64(place)*full/int64(n-1))
			}
			for _, x := range noLevels() {
				table := slices.Repeat([]int64{7}, n)
				table[place] = x
				for _, v := range []int64{0, 300, full} {
					checkCurved(t, table, v, -1)
				}
			}
		}
	}
}

// The two ends give each number back, whatever is between them on the same line.
func TestPlainCurve(t *testing.T) {
	for v := range int64(full + 1) {
		if got := impl.Curve([]int64{0, full}, v); got != v {
			t.Fatalf("%d comes back as %d", v, got)
		}
		if got := impl.Curve([]int64{full, 0}, v); got != full-v {
			t.Fatalf("%d turned is %d", v, got)
		}
		if got := impl.Curve([]int64{0, 21845, 43690, full}, v); got != v {
			t.Fatalf("%d by thirds comes back as %d", v, got)
		}
	}
	line := []int64{}
	for i := range int64(256) {
		line = append(line, 257*i)
	}
	for v := range int64(full + 1) {
		if got := impl.Curve(line, v); got != v {
			t.Fatalf("%d by a line of 256 comes back as %d", v, got)
		}
	}
}

// At each of the table's own values it gives that number, and beside it what lies on the line.
func TestCurveAtItsValues(t *testing.T) {
	for n := 2; n <= 257; n++ {
		table := waved(n)
		for i, want := range table {
			at := int64(i) * full
			v := at / int64(n-1)
			if at%int64(n-1) == 0 {
				checkCurved(t, table, v, want)
			}
			for _, v := range []int64{v - 1, v, v + 1} {
				checkCurve(t, table, v)
			}
		}
	}
}

// What rises stays in order, and so does what falls.
func TestCurveKeepsOrder(t *testing.T) {
	for _, n := range []int{2, 3, 4, 9, 100, 256, 257} {
		rises := waved(n)
		slices.Sort(rises)
		falls := slices.Clone(rises)
		slices.Reverse(falls)
		for v := range int64(full) {
			if impl.Curve(rises, v) > impl.Curve(rises, v+1) || impl.Curve(falls, v) < impl.Curve(falls, v+1) {
				t.Fatalf("a table of %d is out of order at %d", n, v)
			}
		}
	}
}

// wavedCube is a cube whose nodes are all others.
func wavedCube(n int64) colours {
	out := colours{}
	for i := range max(0, n*n*n) {
		out = append(out, rgb((i*i*977+5)%(full+1), (i*4099+77)%(full+1), (full-i*90)%(full+1)))
	}
	return out
}

// cornersOfTwo are told by how many directions lead to them.
func cornersOfTwo() colours {
	return colours{rgb(1000, 0, 0), rgb(0, 2000, 0), rgb(0, 0, 3000), rgb(4000, 400, 40), rgb(5000, 50, 500), rgb(60, 6000, 600), rgb(7, 70, 7000), rgb(8000, 8000, 8000)}
}

func TestCubeOrdinary(t *testing.T) {
	table := cornersOfTwo()
	third, two := int64(21845), int64(43690) // a third of Full, and two
	for _, x := range []struct{ c, want impl.Rgb }{
		// The nodes.
		{rgb(0, 0, 0), table[0]},
		{rgb(0, 0, full), table[1]},
		{rgb(0, full, 0), table[2]},
		{rgb(0, full, full), table[3]},
		{rgb(full, 0, 0), table[4]},
		{rgb(full, 0, full), table[5]},
		{rgb(full, full, 0), table[6]},
		{rgb(full, full, full), table[7]},
		// Edges: two thirds of one node, a third of the other.
		{rgb(third, 0, 0), rgb(2333, 17, 167)},
		{rgb(0, third, 0), rgb(667, 0, 1000)},
		{rgb(0, 0, third), rgb(667, 667, 0)},
		{rgb(full, full, third), rgb(2671, 2713, 7333)},
		// Faces: the way is by the greater rest first.
		{rgb(two, third, 0), rgb(2002, 40, 2500)},
		{rgb(third, two, 0), rgb(336, 23, 3333)},
		{rgb(two, 0, third), rgb(2020, 2017, 367)},
		{rgb(0, third, two), rgb(1667, 800, 13)},
		// On the diagonal of a face: the third node has no weight.
		{rgb(third, third, 0), rgb(669, 23, 2333)},
		{rgb(0, two, two), rgb(3000, 267, 27)},
		{rgb(two, 0, two), rgb(373, 4000, 400)},
		// All three alike: the ends of the diagonal alone.
		{grey(third), rgb(3333, 2667, 2667)},
		{grey(two), rgb(5667, 5333, 5333)},
	} {
		checkCubed(t, 2, table, x.c, x.want)
		checkCube(t, 2, table, x.c)
	}
	// Inside, in each of the six orders: quarters of a kind, by rests of 3, 2 and 1 of 5 parts.
	a, b, c := int64(39321), int64(26214), int64(13107)
	for _, x := range []struct {
		c     impl.Rgb
		nodes [4]int
	}{
		{rgb(a, b, c), [4]int{0, 4, 6, 7}},
		{rgb(a, c, b), [4]int{0, 4, 5, 7}},
		{rgb(b, a, c), [4]int{0, 2, 6, 7}},
		{rgb(c, a, b), [4]int{0, 2, 3, 7}},
		{rgb(b, c, a), [4]int{0, 1, 5, 7}},
		{rgb(c, b, a), [4]int{0, 1, 3, 7}},
	} {
		want := [3]int64{}
		for i := range want {
			first, second, third, last := levels(table[x.nodes[0]])[i], levels(table[x.nodes[1]])[i], levels(table[x.nodes[2]])[i], levels(table[x.nodes[3]])[i]
			want[i] = nearest(5, [2]int64{first, 2}, [2]int64{second, 1}, [2]int64{third, 1}, [2]int64{last, 1})
		}
		checkCubed(t, 2, table, x.c, coloured(want))
		checkCube(t, 2, table, x.c)
	}
}

func TestCubeRounds(t *testing.T) {
	// From 0 to 1 along one direction: below a half down, above it up; Full is odd, so nothing is at just a half.
	for _, x := range []struct{ low, high, v, want int64 }{
		{0, 1, 32767, 0},
		{0, 1, 32768, 1},
		{1, 0, 32767, 1},
		{1, 0, 32768, 0},
		{full - 1, full, 32767, full - 1},
		{full - 1, full, 32768, full},
		{full, full - 1, 32767, full},
		{full, full - 1, 32768, full - 1},
		{5, 8, 10922, 5},
		{5, 8, 10923, 6},
	} {
		for d := range 3 {
			table := colours{}
			for place := range 8 {
				v := x.low
				if place>>(2-d)&1 == 1 {
					v = x.high
				}
				table = append(table, grey(v))
			}
			for _, other := range []int64{0, 9, 32767, 40000, full} {
				c := [3]int64{other, other, other}
				c[d] = x.v
				checkCubed(t, 2, table, coloured(c), grey(x.want))
			}
		}
	}
}

func TestCubeLimits(t *testing.T) {
	some := rgb(9, 60000, 300)
	for n := int64(-3); n <= 13; n++ {
		ok := n >= 2 && n <= 9
		table := wavedCube(n)
		for _, c := range []impl.Rgb{some, grey(0), grey(full), rgb(full, 0, 0), rgb(0, full, 0), rgb(0, 0, full), rgb(full, 7, 40000)} {
			checkCube(t, n, table, c)
			if (impl.Cube(n, table, c) == impl.Rgb{}) == ok {
				t.Fatalf("a cube of %d at %v", n, c)
			}
			// A table of one too few, one too many, none, or of another cube.
			if len(table) > 0 {
				checkCubed(t, n, table[1:], c, impl.Rgb{})
				checkCubed(t, n, table[:len(table)-1], c, impl.Rgb{})
			}
			checkCubed(t, n, append(slices.Clone(table), some), c, impl.Rgb{})
			checkCubed(t, n, nil, c, impl.Rgb{})
			checkCubed(t, n, wavedCube(n+1), c, impl.Rgb{})
			checkCubed(t, n, wavedCube(n-1), c, impl.Rgb{})
		}
		for _, c := range noColours() {
			checkCubed(t, n, table, c, impl.Rgb{})
		}
	}
	// Sizes whose third power goes round to that of a table.
	for _, n := range []int64{1 << 32, 1<<32 + 2, -1 << 32, 1 << 22, 1<<61 + 2, 1<<63 - 1, -1 << 63, -1<<63 + 2, 8, -2, 0, 1} {
		for _, table := range []colours{nil, cornersOfTwo(), {some}, slices.Repeat(colours{some}, 8)} {
			checkCubed(t, n, table, some, impl.Rgb{})
		}
	}
	// One colour that is none, anywhere, also where c does not come to it.
	for place := range 8 {
		for _, none := range noColours() {
			table := cornersOfTwo()
			table[place] = none
			checkCubed(t, 2, table, some, impl.Rgb{})
			checkCubed(t, 2, table, grey(0), impl.Rgb{})
		}
		for i := range 3 {
			for _, v := range []int64{0, 1, full - 1, full} {
				table := cornersOfTwo()
				one := levels(table[place])
				one[i] = v
				table[place] = coloured(one)
				checkCube(t, 2, table, some)
				checkCube(t, 2, table, grey(40000))
				if impl.Cube(2, table, grey(40000)) == (impl.Rgb{}) {
					t.Fatalf("%d in node %d is refused", v, place)
				}
			}
		}
	}
	for place := range 729 {
		table := wavedCube(9)
		table[place].G = full + 1
		checkCubed(t, 9, table, some, impl.Rgb{})
		table[place].G = -1
		checkCubed(t, 9, table, some, impl.Rgb{})
	}
}

// At a node is that node, and no other one is seen there.
func TestCubeAtItsNodes(t *testing.T) {
	for n := int64(2); n <= 9; n++ {
		table := wavedCube(n)
		for place := range n * n * n {
			at := [3]int64{place / (n * n), place / n % n, place % n}
			c, exact := [3]int64{}, true
			for i, v := range at {
				c[i] = v * full / (n - 1)
				exact = exact && v*full%(n-1) == 0
			}
			checkCube(t, n, table, coloured(c))
			if exact {
				checkCubed(t, n, table, coloured(c), table[place])
			}
			// One to each side in each direction.
			for i := range c {
				for _, by := range []int64{-1, 1} {
					beside := c
					beside[i] += by
					checkCube(t, n, table, coloured(beside))
				}
			}
		}
	}
}

// Every three of these levels, in each size: nodes, edges, faces, insides, in each order, two or all alike.
func TestCubeOfAllShapes(t *testing.T) {
	for n := int64(2); n <= 9; n++ {
		table := wavedCube(n)
		for _, x := range edgeLevels() {
			for _, y := range edgeLevels() {
				for _, z := range edgeLevels() {
					if n == 2 || (x+y+z)%3 == 0 || x == y || y == z {
						checkCube(t, n, table, rgb(x, y, z))
					}
				}
			}
		}
	}
}

func TestPlainCubeOrdinary(t *testing.T) {
	checkPlain(t, 2, colours{{}, rgb(0, 0, full), rgb(0, full, 0), rgb(0, full, full), rgb(full, 0, 0), rgb(full, 0, full), rgb(full, full, 0), grey(full)})
	three := []int64{0, 32768, 65535} // a half of Full is rounded up
	want := colours{}
	for _, r := range three {
		for _, g := range three {
			for _, b := range three {
				want = append(want, rgb(r, g, b))
			}
		}
	}
	checkPlain(t, 3, want)
	for n, levels := range map[int64][]int64{
		4: {0, 21845, 43690, 65535},
		5: {0, 16384, 32768, 49151, 65535},
		6: {0, 13107, 26214, 39321, 52428, 65535},
		7: {0, 10923, 21845, 32768, 43690, 54613, 65535},
		8: {0, 9362, 18724, 28086, 37449, 46811, 56173, 65535},
		9: {0, 8192, 16384, 24576, 32768, 40959, 49151, 57343, 65535},
	} {
		cube := impl.PlainCube(n)
		if int64(len(cube)) != n*n*n {
			t.Fatalf("%d nodes on a side: %d colours", n, len(cube))
		}
		for i, v := range levels {
			i := int64(i)
			if cube[i].B != v || cube[i*n].G != v || cube[i*n*n].R != v || cube[(i*n+i)*n+i] != grey(v) {
				t.Fatalf("%d nodes on a side: the one at %d is not at %d", n, i, v)
			}
		}
	}
	for n := int64(2); n <= 9; n++ {
		checkPlain(t, n, plainByWords(n))
	}
	for _, n := range append([]int64{1, 0, 10, 11, 12, 100, -5, -9, -10}, strangeNumbers()...) {
		checkPlain(t, n, nil)
		checkPlain(t, n, plainByWords(n))
	}
}

// Promise 10: the plain cube gives each colour back by one at most in each number.
func TestPlainCubeGivesBack(t *testing.T) {
	near := func(n int64, cube colours, c impl.Rgb) {
		got := levels(impl.Cube(n, cube, c))
		for i, v := range levels(c) {
			if got[i] < v-1 || got[i] > v+1 {
				t.Fatalf("the plain cube of %d gives %v for %v", n, got, c)
			}
		}
	}
	r := rand.New(rand.NewSource(90))
	for n := int64(2); n <= 9; n++ {
		cube := impl.PlainCube(n)
		for v := range int64(full + 1) {
			// What comes of one number hangs on that number alone; the others are anything.
			near(n, cube, rgb(v, full-v, v*7919%(full+1)))
			if n <= 3 {
				near(n, cube, rgb(r.Int63n(full+1), v, r.Int63n(full+1)))
				near(n, cube, grey(v))
			}
		}
		for _, x := range edgeLevels() {
			for _, y := range edgeLevels() {
				for _, z := range edgeLevels() {
					near(n, cube, rgb(x, y, z))
				}
			}
		}
		// Where the nodes are whole, by none.
		if n == 2 || n == 4 || n == 6 {
			for range 5000 {
				c := rgb(r.Int63n(full+1), r.Int63n(full+1), r.Int63n(full+1))
				checkCubed(t, n, cube, c, c)
			}
		}
	}
}

// What is written over in an answer is not seen in the next one, of the sizes that are cubes and of those beside them.
func TestPlainCubesAskedAgain(t *testing.T) {
	for n := int64(0); n <= 11; n++ {
		want := plainByWords(n)
		if is := n >= 2 && n <= 9; is != (len(want) > 0) {
			t.Fatalf("%d nodes on a side: %d colours by the words", n, len(want))
		}
		for range 3 {
			got := impl.PlainCube(n)
			if !slices.Equal(got, want) {
				t.Fatalf("the plain cube of %d: %v, want %v", n, few(got), few(want))
			}
			spoilAll(got, colourMark)
		}
	}
}

// A cube that is asked for again is another one in memory, whoever asks, and at the same time.
func TestPlainCubesStandAlone(t *testing.T) {
	for n := int64(2); n <= 9; n++ {
		one, other := impl.PlainCube(n), impl.PlainCube(n)
		spoilAll(one, colourMark)
		if !slices.Equal(other, plainByWords(n)) || !slices.Equal(impl.PlainCube(n), other) {
			t.Fatalf("the plain cubes of %d share memory", n)
		}
		impl.Cube(n, other, grey(777))
		if !slices.Equal(other, plainByWords(n)) {
			t.Fatalf("the plain cube of %d was written into", n)
		}
		_ = append(other, grey(1))
		if !slices.Equal(impl.PlainCube(n), plainByWords(n)) {
			t.Fatalf("the plain cube of %d has room that is shared", n)
		}
	}
	asked := [64]colours{}
	var all sync.WaitGroup
	for i := range asked {
		all.Go(func() {
			n := int64(2 + i%8)
			first := impl.PlainCube(n)
			spoilAll(first, colourMark)
			asked[i] = impl.PlainCube(n)
		})
	}
	all.Wait()
	for i, got := range asked {
		if !slices.Equal(got, plainByWords(int64(2+i%8))) {
			t.Fatalf("asked by many at once: %v", few(got))
		}
	}
}

func TestScopeOrdinary(t *testing.T) {
	part := func(places ...int) []int64 {
		out := make([]int64, 16)
		for _, p := range places {
			out[p]++
		}
		return out
	}
	checkScoped(t, nil, part())
	checkScoped(t, colours{}, part())
	for _, x := range []struct {
		list colours
		want []int64
	}{
		{colours{{}}, part(0)},
		{colours{grey(full)}, part(15)},
		{colours{{}, grey(full)}, part(0, 15)},
		{colours{grey(9), grey(9), grey(5000)}, part(0, 0, 1)},
		// G counts twice, R and B once.
		{colours{rgb(full, 0, 0)}, part(3)},
		{colours{rgb(0, full, 0)}, part(7)},
		{colours{rgb(0, 0, full)}, part(3)},
		{colours{rgb(full, 0, full)}, part(7)},
		{colours{rgb(full, full, 0)}, part(11)},
		{colours{rgb(0, full, full)}, part(11)},
		// A sum of 16383 is rounded down to 4095, one of 16384 is 4096.
		{colours{rgb(16383, 0, 0), rgb(16384, 0, 0)}, part(0, 1)},
		{colours{rgb(0, 0, 16383), rgb(0, 0, 16384)}, part(0, 1)},
		{colours{rgb(1, 8191, 0), rgb(0, 8192, 0), rgb(1, 8191, 1)}, part(0, 1, 1)},
		{colours{rgb(4095, 4095, 4098), rgb(4095, 4096, 4096), rgb(4098, 4095, 4096)}, part(0, 0, 1)},
	} {
		checkScoped(t, x.list, x.want)
		checkScope(t, x.list)
	}
	// The ends of each part, by greys and by sums.
	for p := range 16 {
		low, high := int64(4096*p), int64(4096*p+4095)
		checkScoped(t, colours{grey(low)}, part(p))
		checkScoped(t, colours{grey(high)}, part(p))
		checkScoped(t, colours{grey(low), grey(high), grey(low + 2000)}, part(p, p, p))
		for _, sum := range []int64{4 * low, 4*low + 1, 4*high + 2, 4*high + 3} {
			// As much as may be in R, then in B, then in G.
			if r, g := min(sum, full), min((max(sum-full, 0)+1)/2, full); sum-r-2*g >= 0 && sum-r-2*g <= full {
				checkScoped(t, colours{rgb(r, g, sum-r-2*g)}, part(p))
			}
			if g := min(sum/2, full); sum-2*g <= full {
				checkScoped(t, colours{rgb(0, g, sum-2*g)}, part(p))
				checkScoped(t, colours{rgb(sum-2*g, g, 0)}, part(p))
			}
		}
	}
	for v := range int64(full + 1) {
		if got := impl.Scope(colours{grey(v)}); got[v/4096] != 1 {
			t.Fatalf("grey of %d: %v", v, got)
		}
	}
}

func TestScopeLimits(t *testing.T) {
	for _, n := range []int{1, 2, 100, 4094, 4095, 4096, 4097, 4098, 8192, 10000} {
		list := slices.Repeat(colours{grey(40000)}, n)
		want := make([]int64, 16)
		want[9] = int64(n)
		if n > mostPixels {
			want = nil
		}
		checkScoped(t, list, want)
		checkScope(t, list)
		many := colours{}
		for i := range int64(n) {
			many = append(many, rgb(i*16%(full+1), i*977%(full+1), i*i%(full+1)))
		}
		checkScope(t, many)
		// One that is none, anywhere.
		for _, place := range []int{0, n / 2, n - 1} {
			for _, none := range noColours() {
				many[place] = none
				checkScoped(t, many, nil)
			}
			many[place] = grey(full)
		}
	}
	for _, none := range noColours() {
		checkScoped(t, colours{none}, nil)
		checkScoped(t, colours{{}, none}, nil)
		checkScoped(t, colours{none, {}}, nil)
	}
}

func TestMaskOrdinary(t *testing.T) {
	like := rgb(30000, 30000, 30000)
	for _, x := range []struct{ d, near, far, want int64 }{
		{0, 50, 150, full},
		{49, 50, 150, full},
		{50, 50, 150, full},
		{51, 50, 150, 64880},  // 64879.65
		{52, 50, 150, 64224},  // 64224.3
		{100, 50, 150, 32768}, // at just a half
		{110, 50, 150, 26214},
		{149, 50, 150, 655}, // 655.35
		{150, 50, 150, 0},
		{151, 50, 150, 0},
		{30000, 50, 150, 0},
		{0, 0, 1, full},
		{1, 0, 1, 0},
		{0, 0, 2, full},
		{1, 0, 2, 32768},
		{2, 0, 2, 0},
		{1, 0, 4, 49151}, // 49151.25
		{2, 0, 4, 32768}, // at just a half
		{3, 0, 4, 16384}, // 16383.75
		{1, 0, 3, 43690},
		{2, 0, 3, 21845},
		{7, 7, 9, full},
		{8, 7, 9, 32768},
		{9, 7, 9, 0},
		{0, 0, full, full},
		{1, 0, full, full - 1},
		{30000, 0, full, 35535},
		{30000, 29999, full, 65533}, // 65533.156
		{30000, 30000, full, full},
		{30000, 0, 30001, 2}, // 2.18
	} {
		// The greatest of the three differences, whichever it is, and of either sign.
		for _, sign := range []int64{1, -1} {
			d, less := sign*x.d, -sign*min(x.d, 3)/2
			for _, by := range [][3]int64{{d, 0, 0}, {0, d, 0}, {0, 0, d}, {d, less, 0}, {less, d, -less}, {less, 0, d}, {d, d, 0}, {0, -d, d}, {d, d, -d}, {-d, less, d}} {
				c := rgb(like.R+by[0], like.G+by[1], like.B+by[2])
				checkMasked(t, c, like, x.near, x.far, x.want)
				checkMask(t, c, like, x.near, x.far)
			}
		}
	}
	// The ends of all colours.
	for i := range 3 {
		for _, near := range []int64{0, 1, full - 1} {
			one := [3]int64{}
			one[i] = full
			checkMasked(t, coloured(one), impl.Rgb{}, near, full, 0)
			checkMasked(t, impl.Rgb{}, coloured(one), near, full, 0)
			one[i] = full - 1
			checkMask(t, coloured(one), impl.Rgb{}, near, full)
		}
	}
	checkMasked(t, rgb(full-1, 0, 0), impl.Rgb{}, 0, full, 1)
	checkMasked(t, rgb(full-1, 0, 0), impl.Rgb{}, full-2, full, 32768)
	checkMasked(t, rgb(0, full-1, 9), impl.Rgb{}, full-1, full, full)
}

func TestMaskLimits(t *testing.T) {
	c, like := rgb(100, 200, 300), rgb(110, 190, 300)
	for _, x := range []struct {
		near, far int64
		ok        bool
	}{
		{0, 1, true},
		{0, full, true},
		{full - 1, full, true},
		{-1, full, false},
		{-1, 1, false},
		{-1, 0, false},
		{-5, -1, false},
		{0, full + 1, false},
		{full, full + 1, false},
		{-1, full + 1, false},
		{0, 0, false},
		{50, 50, false},
		{full, full, false},
		{51, 50, false},
		{full, full - 1, false},
		{full, 0, false},
		{1, 0, false},
		{0, -1, false},
		{full + 1, full + 2, false},
		{math.MinInt64, math.MaxInt64, false},
		{math.MaxInt64, math.MinInt64, false},
		{0, math.MaxInt64, false},
		{math.MinInt64, 5, false},
		{math.MinInt64, math.MinInt64, false},
	} {
		want := int64(0)
		if x.ok {
			want = full
		}
		checkMasked(t, c, c, x.near, x.far, want)
		checkMask(t, c, like, x.near, x.far)
		if x.ok && x.far == full {
			if got := impl.KeyMask(c, like, x.near, x.far); got == 0 {
				t.Errorf("%d to %d is refused", x.near, x.far)
			}
		}
		for _, none := range noColours() {
			checkMasked(t, none, c, x.near, x.far, 0)
			checkMasked(t, c, none, x.near, x.far, 0)
			checkMasked(t, none, none, x.near, x.far, 0)
		}
	}
	for i := range 3 {
		for _, v := range []int64{0, 1, full - 1, full} {
			edge := levels(c)
			edge[i] = v
			checkMasked(t, coloured(edge), coloured(edge), 0, 1, full)
			checkMask(t, coloured(edge), c, 10, full)
		}
	}
}

// A mask is full at the colour itself, and no greater farther away.
func TestMaskFallsOff(t *testing.T) {
	for _, x := range [][2]int64{{0, 1}, {0, 2}, {0, 7}, {3, 10}, {50, 150}, {0, full}, {1, full}, {1000, 60001}, {full - 1, full}, {full - 7, full}, {65000, 65001}} {
		near, far := x[0], x[1]
		last := int64(full)
		for d := range int64(full + 1) {
			got := impl.KeyMask(rgb(9, d, 0), rgb(9, 0, 0), near, far)
			if got > last || d == 0 && got != full || d <= near && got != full || d >= far && got != 0 || d > near && d < far && got == full && far-near < full/2 {
				t.Fatalf("from %d to %d, %d away: %d behind %d", near, far, d, got, last)
			}
			if d%97 == 0 || d < 200 || d > full-20 {
				checkMask(t, rgb(9, d, 0), rgb(9, 0, 0), near, far)
			}
			last = got
		}
	}
}

func randomLevel(r *rand.Rand) int64 {
	if r.Intn(3) == 0 {
		return edgeLevels()[r.Intn(len(edgeLevels()))]
	}
	return r.Int63n(full + 1)
}

func randomColour(r *rand.Rand) impl.Rgb {
	if r.Intn(5) == 0 {
		return grey(randomLevel(r))
	}
	return rgb(randomLevel(r), randomLevel(r), randomLevel(r))
}

// oddColour is now and then none.
func oddColour(r *rand.Rand) impl.Rgb {
	if r.Intn(60) == 0 {
		return noColours()[r.Intn(len(noColours()))]
	}
	return randomColour(r)
}

func randomCube(r *rand.Rand, n int64) colours {
	table := colours{}
	for range n * n * n {
		table = append(table, randomColour(r))
	}
	return table
}

func TestColourAtRandom(t *testing.T) {
	r := rand.New(rand.NewSource(91))
	for range 20000 {
		m := []int64{}
		for range 9 {
			m = append(m, r.Int63n(20000)-8000)
			if r.Intn(20) == 0 {
				m[len(m)-1] = r.Int63n(2*mostFactor+4) - mostFactor - 2
			}
		}
		checkMatrix(t, m, oddColour(r))
		table := []int64{}
		for range 1 + r.Intn(8) {
			table = append(table, randomLevel(r))
		}
		checkCurve(t, table, randomLevel(r))
		near := randomLevel(r)
		checkMask(t, oddColour(r), oddColour(r), near, near+r.Int63n(full))
	}
	for range 300 {
		n := 2 + r.Int63n(8)
		table := randomCube(r, n)
		for range 60 {
			checkCube(t, n, table, oddColour(r))
		}
		list := colours{}
		for range r.Intn(200) {
			list = append(list, randomColour(r))
		}
		checkScope(t, list)
		checkScope(t, append(list, oddColour(r)))
	}
}

// A cube of one colour is that colour everywhere, and the order of the directions is nothing to one that is turned with its colours.
func TestCubeTurned(t *testing.T) {
	r := rand.New(rand.NewSource(92))
	for range 400 {
		n := 2 + r.Int63n(8)
		one := randomColour(r)
		still := slices.Repeat(colours{one}, int(n*n*n))
		table := randomCube(r, n)
		turned := make(colours, len(table))
		for place, c := range table {
			at := [3]int64{int64(place) / (n * n), int64(place) / n % n, int64(place) % n}
			turned[nodePlace(n, [3]int64{at[2], at[0], at[1]})] = rgb(c.B, c.R, c.G)
		}
		for range 20 {
			c := randomColour(r)
			checkCubed(t, n, still, c, one)
			got := impl.Cube(n, table, c)
			checkCubed(t, n, turned, rgb(c.B, c.R, c.G), rgb(got.B, got.R, got.G))
		}
	}
}

// No answer of the chapter shares memory with another one that was made of it.
func TestColourAnswersStandAlone(t *testing.T) {
	r := rand.New(rand.NewSource(93))
	for range 500 {
		cube := impl.PlainCube(2 + r.Int63n(8))
		counts, again := impl.Scope(cube), impl.Scope(cube)
		held := slices.Clone(again)
		spoilAll(counts, levelMark)
		spoilAll(cube, colourMark)
		if !slices.Equal(again, held) {
			t.Fatal("what is counted shares memory")
		}
	}
}

// FuzzColour takes a byte for each factor, each number of a table and each node; all of them may be none.
func FuzzColour(f *testing.F) {
	f.Add([]byte{16, 0, 0, 0, 16, 0, 0, 0, 16}, int64(100), int64(201), int64(7), int64(2), int64(50), int64(150))
	f.Add([]byte{255, 0, 255, 128, 127, 3}, int64(full), int64(0), int64(32768), int64(9), int64(0), int64(full))
	f.Add([]byte{}, int64(-1), int64(full+1), int64(math.MinInt64), int64(-1), int64(-1), int64(math.MaxInt64))
	f.Fuzz(func(t *testing.T, told []byte, red, green, blue, n, near, far int64) {
		c := rgb(red, green, blue)
		m, table, cube := []int64{}, []int64{}, colours{}
		for i, b := range told {
			m = append(m, (int64(b)-100)*256)
			v := int64(b)*257 + int64(i%2)
			table = append(table, v)
			cube = append(cube, rgb(v, int64(b), full-v))
		}
		checkMatrix(t, m, c)
		checkMatrix(t, m[:min(9, len(m))], c)
		checkCurve(t, table, red)
		checkScope(t, cube)
		checkMask(t, c, rgb(green, blue, red), near, far)
		if n < 2 || n > 9 {
			checkPlain(t, n, nil)
			checkCube(t, n, cube, c)
			return
		}
		whole := impl.PlainCube(n)
		copy(whole, cube)
		checkCube(t, n, whole, c)
		checkCube(t, n, cube, c)
	})
}
