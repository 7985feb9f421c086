package tests

import (
	"fmt"
	"math"
	"math/rand"
	"slices"
	"testing"

	"loop.example/g00066/impl"
)

// The faces of the chapter, held as they were given.
var (
	_ func(p impl.Picture) bool                                      = impl.PictureOk
	_ func(block []int64) []int64                                    = impl.Turn
	_ func(old, p impl.Picture, block int64) (int64, int64)          = impl.Motion
	_ func(old, p impl.Picture, q int64) ([]byte, bool)              = impl.Encode
	_ func(old impl.Picture, b []byte, q int64) (impl.Picture, bool) = impl.Decode
	_ func(sizes []int64, rate, room int64) []int64                  = impl.Buffer
	_ struct {
		W, H int64
		Px   []int64
	} = impl.Picture{}
	_ [impl.MaxTicks - 1000]struct{} = [0]struct{}{}
)

const (
	mostTicks  = 1000
	coarsest   = 64
	stillPoint = 18 // 8 times 2 and 2: a block that has not moved
	codeMark   = 0xee
)

type numbers = []int64

func pictureOf(w, h int64, px numbers) impl.Picture { return impl.Picture{W: w, H: h, Px: px} }

// filled has the same number everywhere.
func filled(w, h, v int64) impl.Picture { return pictureOf(w, h, slices.Repeat(numbers{v}, int(w*h))) }

// unlike has no two pixels that are alike.
func unlike(w, h int64) impl.Picture {
	px := numbers{}
	for i := range w * h {
		px = append(px, (i*101+7)%256)
	}
	return pictureOf(w, h, px)
}

func noisy(r *rand.Rand, w, h, most int64) impl.Picture {
	px := numbers{}
	for range w * h {
		px = append(px, r.Int63n(most+1))
	}
	return pictureOf(w, h, px)
}

func codedSides() numbers { return numbers{4, 8, 12, 16} }

func besideSides() numbers {
	return append(strangeNumbers(), 0, -4, -8, -16, 1, 2, 3, 5, 6, 7, 9, 10, 11, 13, 14, 15, 17, 18, 20, 24, 32, 256, 1<<32+4, -1<<32+4, 1<<33, 1<<62)
}

// wrongPixels stand just outside, and far from it.
func wrongPixels() numbers {
	return append(strangeNumbers(), -1, 256, 257, 511, -255, -256, 1<<8+1, 1<<32+1)
}

// wrongPictures are near to pictures of 8 by 4, and others.
func wrongPictures() []impl.Picture {
	right := unlike(8, 4)
	out := []impl.Picture{
		{}, {W: 4, H: 4}, {Px: right.Px}, {W: 8, Px: right.Px}, {H: 4, Px: right.Px},
		pictureOf(8, 4, right.Px[1:]), pictureOf(8, 4, append(slices.Clone(right.Px), 0)),
		pictureOf(4, 4, right.Px), pictureOf(8, 8, right.Px), pictureOf(-8, -4, right.Px), pictureOf(16, 2, right.Px), pictureOf(2, 16, right.Px), pictureOf(32, 1, right.Px), pictureOf(1, 32, right.Px),
		filled(20, 4, 1), filled(4, 20, 1), filled(5, 4, 1), filled(4, 3, 1),
		pictureOf(1<<32, 1<<32, nil), pictureOf(math.MinInt64, 2, nil), pictureOf(math.MinInt64, math.MinInt64, nil), pictureOf(math.MaxInt64, math.MaxInt64, numbers{1}),
	}
	for _, n := range wrongPixels() {
		for _, place := range []int{0, 13, 31} {
			px := slices.Clone(right.Px)
			px[place] = n
			out = append(out, pictureOf(8, 4, px))
		}
	}
	return out
}

func codedByWords(p impl.Picture) bool {
	if !slices.Contains(codedSides(), p.W) || !slices.Contains(codedSides(), p.H) || len(p.Px) != int(p.W)*int(p.H) {
		return false
	}
	return slices.Min(p.Px) >= 0 && slices.Max(p.Px) <= 255
}

// turnSigns has the signs of a, b, c and d in each of the four sums.
func turnSigns() [4][4]int64 {
	return [4][4]int64{{1, 1, 1, 1}, {1, 1, -1, -1}, {1, -1, -1, 1}, {1, -1, 1, -1}}
}

// turnByWords works out each number from all sixteen.
func turnByWords(block numbers) numbers {
	if len(block) != 16 || slices.Min(block) < -lastFrame || slices.Max(block) > lastFrame {
		return nil
	}
	signs, out := turnSigns(), make(numbers, 16)
	for at := range out {
		for i, v := range block {
			out[at] += signs[at/4][i/4] * signs[at%4][i%4] * v
		}
	}
	return out
}

// pointedByWords walks from outside to the nearest pixel inside.
func pointedByWords(p impl.Picture, block, dx, dy int64) numbers {
	out := numbers{}
	for i := range int64(16) {
		x, y := block%(p.W/4)*4+i%4+dx, block/(p.W/4)*4+i/4+dy
		for x < 0 {
			x++
		}
		for x >= p.W {
			x--
		}
		for y < 0 {
			y++
		}
		for y >= p.H {
			y--
		}
		out = append(out, p.Px[y*p.W+x])
	}
	return out
}

func sameSizeByWords(old, p impl.Picture) bool {
	return codedByWords(old) && codedByWords(p) && old.W == p.W && old.H == p.H
}

// motionByWords puts all motions in order: by the sum, dx dx + dy dy, dy and dx.
func motionByWords(old, p impl.Picture, block int64) (int64, int64) {
	if !sameSizeByWords(old, p) || block < 0 || block >= int64(len(p.Px)/16) {
		return 0, 0
	}
	all := [][4]int64{}
	pixels := pointedByWords(p, block, 0, 0)
	for _, by := range allMotions() {
		sum := int64(0)
		for i, v := range pointedByWords(old, block, by[0], by[1]) {
			if v < pixels[i] {
				sum += pixels[i] - v
			} else {
				sum += v - pixels[i]
			}
		}
		all = append(all, [4]int64{sum, by[0]*by[0] + by[1]*by[1], by[1], by[0]})
	}
	first := slices.MinFunc(all, func(a, b [4]int64) int { return slices.Compare(a[:], b[:]) })
	return first[3], first[2]
}

// allMotions are told by the greatest first, so that none is chosen for its place.
func allMotions() [][2]int64 {
	out := [][2]int64{}
	for dx := int64(2); dx >= -2; dx-- {
		for dy := int64(2); dy >= -2; dy-- {
			out = append(out, [2]int64{dx, dy})
		}
	}
	return out
}

func pointerByWords(dx, dy int64) byte { return byte(8*(dy+2) + dx + 2) }

// levelBytes has the bytes of some levels, with their number ahead.
func levelBytes(levels ...int64) []byte {
	out := []byte{byte(len(levels))}
	for _, v := range levels {
		u := 2 * v
		if v < 0 {
			u = -2*v - 1
		}
		if u < 255 {
			out = append(out, byte(u))
		} else {
			out = append(out, 255, byte(u/256), byte(u%256))
		}
	}
	return out
}

func encodeByWords(old, p impl.Picture, q int64) ([]byte, bool) {
	if !sameSizeByWords(old, p) || q < 1 || q > coarsest {
		return nil, false
	}
	out := []byte{}
	for block := range int64(len(p.Px) / 16) {
		dx, dy := motionByWords(old, p, block)
		away, pointed := pointedByWords(p, block, 0, 0), pointedByWords(old, block, dx, dy)
		for i := range away {
			away[i] -= pointed[i]
		}
		levels, stay := turnByWords(away), 0
		for i, v := range levels {
			levels[i] = nearest(16*q, [2]int64{v, 1})
			if levels[i] != 0 {
				stay = i + 1
			}
		}
		out = append(append(out, pointerByWords(dx, dy)), levelBytes(levels[:stay]...)...)
	}
	return out, true
}

// decodeByWords reads noughts behind the end, and asks at the end alone whether it is there.
func decodeByWords(old impl.Picture, b []byte, q int64) (impl.Picture, bool) {
	if !codedByWords(old) || q < 1 || q > coarsest {
		return impl.Picture{}, false
	}
	at := 0
	take := func() int64 {
		at++
		if at > len(b) {
			return 0
		}
		return int64(b[at-1])
	}
	out := filled(old.W, old.H, -1)
	for block := range int64(len(old.Px) / 16) {
		point, stay, levels := take(), int64(0), make(numbers, 16)
		if stay = take(); point/8 > 4 || point%8 > 4 || stay > 16 {
			return impl.Picture{}, false
		}
		for i := range stay {
			u := take()
			if u == 255 {
				u = 256 * take()
				u += take()
			}
			levels[i] = u / 2
			if u%2 != 0 {
				levels[i] = -u/2 - 1
			}
		}
		turned := turnByWords(levels)
		for i, v := range pointedByWords(old, block, point%8-2, point/8-2) {
			x, y := block%(old.W/4)*4+int64(i%4), block/(old.W/4)*4+int64(i/4)
			out.Px[y*old.W+x] = max(0, min(255, v+q*turned[i]))
		}
	}
	if at != len(b) {
		return impl.Picture{}, false
	}
	return out, true
}

func bufferByWords(sizes numbers, rate, room int64) numbers {
	for _, n := range append(numbers{rate, room}, sizes...) {
		if n < 0 || n > lastFrame {
			return nil
		}
	}
	if rate == 0 || room == 0 || len(sizes) > mostTicks {
		return nil
	}
	out, there := numbers{}, room
	for _, size := range sizes {
		fits := size <= there
		if fits {
			there -= size
		}
		if there += rate; there > room {
			there = room
		}
		if fits {
			out = append(out, there)
		} else {
			out = append(out, -1)
		}
	}
	return out
}

func checkPicture(t *testing.T, p impl.Picture, want bool) {
	t.Helper()
	ask := func(px numbers) bool { return impl.PictureOk(pictureOf(p.W, p.H, px)) }
	watchList(t, "PictureOk", p.Px, levelMark, numbers{p.W, p.H}, ask, want)
}

func checkTurnIs(t *testing.T, block, want numbers) {
	t.Helper()
	ask := func(block, _ numbers) (numbers, bool) { return impl.Turn(block), true }
	checkTwice(t, "Turn", ask, block, levelMark, numbers{}, levelMark, want, levelMark, true)
}

func checkTurn(t *testing.T, block numbers) {
	t.Helper()
	checkTurnIs(t, block, turnByWords(block))
}

// checkTurnedTwice holds promise 15 for a block that can be turned twice.
func checkTurnedTwice(t *testing.T, block numbers) {
	t.Helper()
	want := numbers{}
	for _, v := range block {
		want = append(want, 16*v)
	}
	if got := impl.Turn(impl.Turn(block)); !slices.Equal(got, want) {
		t.Fatalf("Turn of Turn of %v: %v", block, got)
	}
}

func checkMotionIs(t *testing.T, old, p impl.Picture, block, dx, dy int64) {
	t.Helper()
	ask := func(oldPx, px numbers) (numbers, bool) {
		x, y := impl.Motion(pictureOf(old.W, old.H, oldPx), pictureOf(p.W, p.H, px), block)
		return numbers{x, y}, true
	}
	name := fmt.Sprintf("Motion (%d by %d, %d by %d, block %d)", old.W, old.H, p.W, p.H, block)
	checkTwice(t, name, ask, old.Px, levelMark, p.Px, levelMark, numbers{dx, dy}, levelMark, true)
}

func checkMotion(t *testing.T, old, p impl.Picture, block int64) {
	t.Helper()
	dx, dy := motionByWords(old, p, block)
	checkMotionIs(t, old, p, block, dx, dy)
}

// checkMotions asks for each block, and for one more on both sides.
func checkMotions(t *testing.T, old, p impl.Picture) {
	t.Helper()
	for block := int64(-1); block <= int64(len(p.Px)/16); block++ {
		checkMotion(t, old, p, block)
	}
}

func checkEncodeIs(t *testing.T, old, p impl.Picture, q int64, want []byte, ok bool) {
	t.Helper()
	ask := func(oldPx, px numbers) ([]byte, bool) {
		return impl.Encode(pictureOf(old.W, old.H, oldPx), pictureOf(p.W, p.H, px), q)
	}
	name := fmt.Sprintf("Encode (%d by %d, %d by %d, q %d)", old.W, old.H, p.W, p.H, q)
	checkTwice(t, name, ask, old.Px, levelMark, p.Px, levelMark, want, codeMark, ok)
}

func checkNotEncoded(t *testing.T, old, p impl.Picture, q int64) {
	t.Helper()
	checkEncodeIs(t, old, p, q, nil, false)
}

func checkDecodeIs(t *testing.T, old impl.Picture, b []byte, q int64, want impl.Picture, ok bool) {
	t.Helper()
	ask := func(px numbers, b []byte) (numbers, bool) {
		got, ok := impl.Decode(pictureOf(old.W, old.H, px), b, q)
		if got.W != want.W || got.H != want.H {
			t.Fatalf("Decode of %v by %d: %d by %d, want %d by %d", few(b), q, got.W, got.H, want.W, want.H)
		}
		return got.Px, ok
	}
	name := fmt.Sprintf("Decode (%d by %d, q %d)", old.W, old.H, q)
	checkTwice(t, name, ask, old.Px, levelMark, b, codeMark, want.Px, levelMark, ok)
}

func checkDecode(t *testing.T, old impl.Picture, b []byte, q int64) {
	t.Helper()
	want, ok := decodeByWords(old, b, q)
	checkDecodeIs(t, old, b, q, want, ok)
}

func checkNotDecoded(t *testing.T, old impl.Picture, b []byte, q int64) {
	t.Helper()
	checkDecodeIs(t, old, b, q, impl.Picture{}, false)
}

// checkCodedIs codes a picture and decodes it, and holds promise 15 for it.
func checkCodedIs(t *testing.T, old, p impl.Picture, q int64, want []byte) impl.Picture {
	t.Helper()
	checkEncodeIs(t, old, p, q, want, true)
	checkDecode(t, old, want, q)
	seen, ok := impl.Decode(old, want, q)
	if !ok || seen.W != p.W || seen.H != p.H || !codedByWords(seen) {
		t.Fatalf("Decode of Encode by %d of %v: %v %v", q, p, seen, ok)
	}
	for i, v := range seen.Px {
		if d := v - p.Px[i]; d >= 8*q+1 || -d >= 8*q+1 {
			t.Fatalf("Decode of Encode by %d of %v: %v at %d", q, p, v, i)
		}
	}
	return seen
}

func checkCoded(t *testing.T, old, p impl.Picture, q int64) impl.Picture {
	t.Helper()
	want, _ := encodeByWords(old, p, q)
	return checkCodedIs(t, old, p, q, want)
}

func checkBufferIs(t *testing.T, sizes numbers, rate, room int64, want numbers) {
	t.Helper()
	ask := func(sizes, flow numbers) (numbers, bool) { return impl.Buffer(sizes, flow[0], flow[1]), true }
	checkTwice(t, "Buffer", ask, sizes, levelMark, numbers{rate, room}, levelMark, want, levelMark, true)
}

// checkBuffer holds promise 15 as well: what is told lies between -1 and room, and -1 stands just where a picture was too great.
func checkBuffer(t *testing.T, sizes numbers, rate, room int64) {
	t.Helper()
	checkBufferIs(t, sizes, rate, room, bufferByWords(sizes, rate, room))
	there := room
	for i, full := range impl.Buffer(sizes, rate, room) {
		if full < -1 || full > room || (full == -1) != (sizes[i] > there) {
			t.Fatalf("Buffer of %v with %d and %d: %d for %d, where %d was there", few(sizes), rate, room, full, i, there)
		}
		if there = min(there+rate, room); full >= 0 {
			there = full
		}
	}
}

func TestPictureSides(t *testing.T) {
	for _, w := range codedSides() {
		for _, h := range codedSides() {
			p := filled(w, h, 7)
			checkPicture(t, p, true)
			checkPicture(t, unlike(w, h), true)
			checkPicture(t, pictureOf(w, h, p.Px[1:]), false)
			checkPicture(t, pictureOf(w, h, append(slices.Clone(p.Px), 7)), false)
			checkPicture(t, pictureOf(w, h, slices.Repeat(p.Px, 2)), false)
			checkPicture(t, pictureOf(w, h, nil), false)
			checkPicture(t, pictureOf(w, h, numbers{}), false)
		}
		for _, n := range besideSides() {
			for _, length := range []int64{0, 1, 4, 12, 16, 64, w * w, w * n, n * n, w * (n - 1), w * (n + 1)} {
				if length < 0 || length > 5000 {
					continue
				}
				px := slices.Repeat(numbers{7}, int(length))
				checkPicture(t, pictureOf(w, n, px), false)
				checkPicture(t, pictureOf(n, w, px), false)
				checkPicture(t, pictureOf(n, n, px), false)
			}
		}
	}
	for _, w := range append(besideSides(), codedSides()...) {
		for _, h := range append(besideSides(), codedSides()...) {
			for _, px := range []numbers{nil, make(numbers, 1), make(numbers, 16), make(numbers, 256)} {
				p := pictureOf(w, h, px)
				checkPicture(t, p, codedByWords(p))
			}
		}
	}
	for _, p := range wrongPictures() {
		checkPicture(t, p, false)
	}
}

func TestPicturePixels(t *testing.T) {
	for _, size := range [][2]int64{{4, 4}, {8, 4}, {4, 16}, {16, 16}} {
		for place := range size[0] * size[1] {
			p := filled(size[0], size[1], 128)
			for _, n := range []int64{0, 1, 254, 255} {
				p.Px[place] = n
				checkPicture(t, p, true)
			}
			for _, n := range wrongPixels() {
				p.Px[place] = n
				checkPicture(t, p, false)
			}
		}
	}
	for v := int64(-300); v <= 600; v++ {
		checkPicture(t, filled(4, 4, v), v >= 0 && v <= 255)
	}
}

func TestTurnCases(t *testing.T) {
	for _, row := range []struct{ block, want numbers }{
		{make(numbers, 16), make(numbers, 16)},
		{numbers{1, 15: 0}, slices.Repeat(numbers{1}, 16)},
		{slices.Repeat(numbers{1}, 16), numbers{16, 15: 0}},
		// A row alone, then a column alone: told apart by where the sums stand.
		{numbers{1, 2, 4, 8, 15: 0}, slices.Repeat(numbers{15, -9, 3, -5}, 4)},
		{numbers{1, 0, 0, 0, 2, 0, 0, 0, 4, 0, 0, 0, 8, 0, 0, 0}, numbers{15, 15, 15, 15, -9, -9, -9, -9, 3, 3, 3, 3, -5, -5, -5, -5}},
		{numbers{1, 1, 1, 1, 2, 2, 2, 2, 4, 4, 4, 4, 8, 8, 8, 8}, numbers{60, 0, 0, 0, -36, 0, 0, 0, 12, 0, 0, 0, -20, 0, 0, 0}},
		{slices.Repeat(numbers{1, 2, 4, 8}, 4), numbers{60, -36, 12, -20, 15: 0}},
		// In the last place each sum has the sign of its d.
		{numbers{15: 1}, numbers{1, -1, 1, -1, -1, 1, -1, 1, 1, -1, 1, -1, -1, 1, -1, 1}},
		{numbers{1: 1, 15: 0}, slices.Repeat(numbers{1, 1, -1, -1}, 4)},
		{numbers{4: 1, 15: 0}, numbers{1, 1, 1, 1, 1, 1, 1, 1, -1, -1, -1, -1, -1, -1, -1, -1}},
		{numbers{1, 2, 3, 4, 5, 6, 7, 8, 9, 10, 11, 12, 13, 14, 15, 16}, numbers{136, -16, 0, -8, -64, 0, 0, 0, 0, 0, 0, 0, -32, 0, 0, 0}},
		{nil, nil},
		{numbers{}, nil},
		{make(numbers, 1), nil},
		{make(numbers, 15), nil},
		{make(numbers, 17), nil},
		{make(numbers, 4), nil},
		{make(numbers, 32), nil},
		{make(numbers, 256), nil},
	} {
		checkTurnIs(t, row.block, row.want)
		checkTurn(t, row.block)
	}
	for n := range 70 {
		if n != 16 {
			checkTurnIs(t, make(numbers, n), nil)
		}
	}
}

func TestTurnLimits(t *testing.T) {
	for place := range 16 {
		for _, n := range []int64{lastFrame - 1, lastFrame, 1 - lastFrame, -lastFrame, 0, 1, -1} {
			block := make(numbers, 16)
			block[place] = n
			checkTurn(t, block)
			checkTurnedTwice(t, block)
			if got := impl.Turn(block); got[0] != n {
				t.Fatal(block, got)
			}
		}
		for _, n := range append(strangeNumbers(), lastFrame+1, -lastFrame-1, lastFrame+2, -lastFrame-2, 1<<32, -1<<32) {
			if n >= -lastFrame && n <= lastFrame {
				continue
			}
			block := make(numbers, 16)
			block[place] = n
			checkTurnIs(t, block, nil)
			block[15-place] = -n
			checkTurnIs(t, block, nil)
		}
	}
	for _, n := range []int64{lastFrame, -lastFrame} {
		checkTurnIs(t, slices.Repeat(numbers{n}, 16), numbers{16 * n, 15: 0})
		checkTurnIs(t, slices.Repeat(numbers{n, -n}, 8), numbers{0, 0, 0, 16 * n, 15: 0})
		checkTurnIs(t, slices.Repeat(numbers{n + n/lastFrame}, 16), nil)
	}
	// Where the first Turn gives just MaxFrame, there is a second one.
	checkTurnedTwice(t, slices.Repeat(numbers{lastFrame / 16}, 16))
	checkTurnedTwice(t, slices.Repeat(numbers{-lastFrame / 16}, 16))
	checkTurnIs(t, impl.Turn(slices.Repeat(numbers{lastFrame/16 + 1}, 16)), nil)
}

func TestTurnTwice(t *testing.T) {
	r := rand.New(rand.NewSource(141))
	for place := range 16 {
		block := make(numbers, 16)
		block[place] = 1
		checkTurnedTwice(t, block)
	}
	for range 2000 {
		block := numbers{}
		most := []int64{1, 3, 255, lastFrame / 16}[r.Intn(4)]
		for range 16 {
			block = append(block, r.Int63n(2*most+1)-most)
		}
		checkTurn(t, block)
		checkTurnedTwice(t, block)
	}
}

// shifted is old as it is seen when each block points by (dx, dy).
func shifted(old impl.Picture, dx, dy int64) impl.Picture {
	px := numbers{}
	for y := range old.H {
		for x := range old.W {
			px = append(px, old.Px[max(0, min(old.H-1, y+dy))*old.W+max(0, min(old.W-1, x+dx))])
		}
	}
	return pictureOf(old.W, old.H, px)
}

// Every motion is found in every block of every size, and is two bytes then.
func TestMotionMoved(t *testing.T) {
	for _, w := range codedSides() {
		for _, h := range codedSides() {
			old := unlike(w, h)
			for _, by := range allMotions() {
				p, code := shifted(old, by[0], by[1]), []byte{}
				for block := range w * h / 16 {
					checkMotionIs(t, old, p, block, by[0], by[1])
					checkMotion(t, old, p, block)
					code = append(code, byte(8*(by[1]+2)+by[0]+2), 0)
				}
				for _, q := range []int64{1, 64} {
					if seen := checkCodedIs(t, old, p, q, code); !slices.Equal(seen.Px, p.Px) {
						t.Fatalf("moved by %v and coded: %v, want %v", by, seen, p)
					}
				}
			}
		}
	}
}

func TestMotionCases(t *testing.T) {
	row := func(px ...int64) impl.Picture { return pictureOf(16, 4, slices.Repeat(px, 4)) }
	column := func(px ...int64) impl.Picture {
		out := numbers{}
		for _, v := range px {
			out = append(out, v, v, v, v)
		}
		return pictureOf(4, 16, out)
	}
	board := func(first int64) impl.Picture {
		px := numbers{}
		for i := range int64(144) {
			px = append(px, (first+i/12+i%12)%2*200)
		}
		return pictureOf(12, 12, px)
	}
	for _, c := range []struct {
		old, p        impl.Picture
		block, dx, dy int64
	}{
		{filled(16, 16, 9), filled(16, 16, 9), 5, 0, 0},
		{filled(16, 16, 9), filled(16, 16, 200), 15, 0, 0},
		{filled(4, 4, 0), unlike(4, 4), 0, 0, 0},
		{unlike(12, 8), unlike(12, 8), 5, 0, 0},
		// The farthest one is the best, though it is not just the block.
		{row(0, 0, 0, 0, 0, 0, 0, 9, 9, 9, 9, 9, 0, 0, 0, 0), row(0, 0, 0, 0, 9, 9, 9, 9, 0, 0, 0, 0, 0, 0, 0, 0), 1, 2, 0},
		// Each two apart: earlier and later are alike, and the least dx is chosen.
		{row(0, 9, 0, 9, 0, 9, 0, 9, 0, 9, 0, 9, 0, 9, 0, 9), row(9, 0, 9, 0, 9, 0, 9, 0, 9, 0, 9, 0, 9, 0, 9, 0), 1, -1, 0},
		{column(0, 9, 0, 9, 0, 9, 0, 9, 0, 9, 0, 9, 0, 9, 0, 9), column(9, 0, 9, 0, 9, 0, 9, 0, 9, 0, 9, 0, 9, 0, 9, 0), 2, 0, -1},
		// By dx and by dy alike: the least dy is chosen, though not the least dx.
		{board(0), board(1), 4, 0, -1},
		{board(0), board(0), 4, 0, 0},
		// At the edges the last pixels go on: here both sides of an edge are alike.
		{row(1, 5, 6, 7, 8, 9, 9, 9, 9, 9, 9, 9, 9, 2, 3, 4), row(1, 1, 1, 5, 9, 9, 9, 9, 9, 9, 9, 9, 4, 4, 4, 4), 0, -2, 0},
		{row(1, 5, 6, 7, 8, 9, 9, 9, 9, 9, 9, 9, 9, 2, 3, 4), row(1, 1, 1, 5, 9, 9, 9, 9, 9, 9, 9, 9, 3, 4, 4, 4), 3, 2, 0},
		{column(1, 5, 6, 7, 8, 9, 9, 9, 9, 9, 9, 9, 9, 2, 3, 4), column(1, 1, 1, 5, 9, 9, 9, 9, 9, 9, 9, 9, 4, 4, 4, 4), 0, 0, -2},
		{column(1, 5, 6, 7, 8, 9, 9, 9, 9, 9, 9, 9, 9, 2, 3, 4), column(1, 1, 1, 5, 9, 9, 9, 9, 9, 9, 9, 9, 3, 4, 4, 4), 3, 0, 2},
		// A block that is flat where old has its corner's number alone by going outside.
		{pictureOf(4, 4, numbers{9, 0, 0, 0, 15: 0}), filled(4, 4, 9), 0, -2, -2},
		{pictureOf(4, 4, numbers{15: 9}), filled(4, 4, 9), 0, 2, 2},
		{pictureOf(4, 4, numbers{3: 9, 15: 0}), filled(4, 4, 9), 0, 2, -2},
		{pictureOf(4, 4, numbers{12: 9, 15: 0}), filled(4, 4, 9), 0, -2, 2},
	} {
		checkMotionIs(t, c.old, c.p, c.block, c.dx, c.dy)
		checkMotions(t, c.old, c.p)
		checkMotions(t, c.p, c.old)
	}
}

// Old repeats itself along a line: all motions on a line are alike then, and all others are worse.
func TestMotionAlike(t *testing.T) {
	for _, one := range allMotions() {
		for _, other := range allMotions() {
			along, up := other[0]-one[0], other[1]-one[1]
			if along == 0 && up == 0 {
				continue
			}
			across := func(x, y int64) int64 { return up*x - along*y }
			old, p := filled(16, 16, 0), filled(16, 16, 0)
			for i := range int64(256) {
				// No two of these are alike but where they lie on one line.
				old.Px[i] = ((across(i%16, i/16)*77)%256 + 256) % 256
				p.Px[i] = ((across(i%16+one[0], i/16+one[1])*77)%256 + 256) % 256
			}
			alike := [][2]int64{}
			for _, by := range allMotions() {
				if across(by[0]-one[0], by[1]-one[1]) == 0 {
					alike = append(alike, by)
				}
			}
			best := slices.MinFunc(alike, func(a, b [2]int64) int {
				return slices.Compare(numbers{a[0]*a[0] + a[1]*a[1], a[1], a[0]}, numbers{b[0]*b[0] + b[1]*b[1], b[1], b[0]})
			})
			checkMotionIs(t, old, p, 5, best[0], best[1])
			checkMotions(t, old, p)
		}
	}
}

func TestMotionBlocks(t *testing.T) {
	for _, w := range codedSides() {
		for _, h := range codedSides() {
			old := unlike(w, h)
			p := shifted(old, 1, 2)
			count := w * h / 16
			for _, block := range []int64{0, count - 1, count / 2} {
				checkMotionIs(t, old, p, block, 1, 2)
			}
			for _, block := range append(strangeNumbers(), -1, -2, -count, count, count+1, 16, 17, w*h, 1<<32, 1<<32+count-1, -1<<32) {
				if block < 0 || block >= count {
					checkMotionIs(t, old, p, block, 0, 0)
				}
			}
		}
	}
}

// pictureSizes has all pairs of sides.
func pictureSizes() [][2]int64 {
	out := [][2]int64{}
	for _, w := range codedSides() {
		for _, h := range codedSides() {
			out = append(out, [2]int64{w, h})
		}
	}
	return out
}

func TestPicturesOfUnlikeSizes(t *testing.T) {
	for _, a := range pictureSizes() {
		for _, b := range pictureSizes() {
			if a == b {
				continue
			}
			old := unlike(a[0], a[1])
			p := shifted(unlike(b[0], b[1]), 2, 1)
			for _, block := range []int64{-1, 0, 1, 15} {
				checkMotionIs(t, old, p, block, 0, 0)
			}
			checkNotEncoded(t, old, p, 1)
			checkNotEncoded(t, filled(a[0], a[1], 5), filled(b[0], b[1], 5), 64)
			// Bytes for as many blocks are decoded whatever the sides were.
			code, _ := impl.Encode(p, p, 1)
			_, ok := decodeByWords(old, code, 1)
			checkDecode(t, old, code, 1)
			if ok != (len(old.Px) == len(p.Px)) {
				t.Fatal(a, b, ok)
			}
		}
	}
}

func TestCoderOfNoPicture(t *testing.T) {
	right := unlike(8, 4)
	code, ok := impl.Encode(right, shifted(right, 1, 0), 1)
	if !ok || len(code) != 4 {
		t.Fatal(code, ok)
	}
	for _, none := range wrongPictures() {
		for _, block := range []int64{-1, 0, 1, 2} {
			checkMotionIs(t, right, none, block, 0, 0)
			checkMotionIs(t, none, right, block, 0, 0)
			checkMotionIs(t, none, none, block, 0, 0)
			checkMotionIs(t, none, shifted(right, 1, 0), block, 0, 0)
		}
		for _, q := range []int64{0, 1, 64, 65} {
			checkNotEncoded(t, right, none, q)
			checkNotEncoded(t, none, right, q)
			checkNotEncoded(t, none, none, q)
			for _, b := range [][]byte{nil, {}, {stillPoint, 0}, {stillPoint, 0, stillPoint, 0}, code} {
				checkNotDecoded(t, none, b, q)
			}
		}
	}
}

func TestCoarseness(t *testing.T) {
	old := unlike(8, 8)
	p := shifted(old, -1, 2)
	code := []byte{33, 0, 33, 0, 33, 0, 33, 0}
	for q := int64(1); q <= 64; q++ {
		checkEncodeIs(t, old, p, q, code, true)
		checkDecodeIs(t, old, code, q, p, true)
	}
	for _, q := range append(strangeNumbers(), 0, -1, -2, -64, 65, 66, 128, 256+1, 1<<32+1) {
		checkNotEncoded(t, old, p, q)
		checkNotEncoded(t, old, old, q)
		checkNotDecoded(t, old, code, q)
		checkNotDecoded(t, old, nil, q)
	}
}

// The same picture twice is two bytes a block, for each q.
func TestEncodeStill(t *testing.T) {
	for _, size := range pictureSizes() {
		for _, p := range []impl.Picture{unlike(size[0], size[1]), filled(size[0], size[1], 0), filled(size[0], size[1], 255)} {
			code := slices.Repeat([]byte{stillPoint, 0}, len(p.Px)/16)
			for q := int64(1); q <= 64; q++ {
				if seen := checkCodedIs(t, p, p, q, code); !slices.Equal(seen.Px, p.Px) {
					t.Fatal(p, seen)
				}
			}
		}
	}
}

// Of flat pictures there is one level a block, and it is written in one byte up to 254.
func TestEncodeFlat(t *testing.T) {
	for _, row := range []struct {
		old, v, q int64
		code      []byte
	}{
		{0, 0, 1, []byte{18, 0}},
		{0, 1, 1, []byte{18, 1, 2}},
		{1, 0, 1, []byte{18, 1, 1}},
		{0, 100, 1, []byte{18, 1, 200}},
		{100, 0, 1, []byte{18, 1, 199}},
		{0, 126, 1, []byte{18, 1, 252}},
		{127, 0, 1, []byte{18, 1, 253}},
		{0, 127, 1, []byte{18, 1, 254}},
		{128, 0, 1, []byte{18, 1, 255, 0, 255}},
		{0, 128, 1, []byte{18, 1, 255, 1, 0}},
		{129, 0, 1, []byte{18, 1, 255, 1, 1}},
		{0, 129, 1, []byte{18, 1, 255, 1, 2}},
		{0, 255, 1, []byte{18, 1, 255, 1, 254}},
		{255, 0, 1, []byte{18, 1, 255, 1, 253}},
		{0, 254, 2, []byte{18, 1, 254}},
		{0, 255, 2, []byte{18, 1, 255, 1, 0}},
		{255, 0, 2, []byte{18, 1, 253}},
		{0, 255, 64, []byte{18, 1, 8}},
		{255, 0, 64, []byte{18, 1, 7}},
		// At just a half on either side of nought: the greater one.
		{0, 1, 2, []byte{18, 1, 2}},
		{1, 0, 2, []byte{18, 0}},
		{0, 3, 2, []byte{18, 1, 4}},
		{3, 0, 2, []byte{18, 1, 1}},
		{0, 32, 64, []byte{18, 1, 2}},
		{32, 0, 64, []byte{18, 0}},
		{33, 0, 64, []byte{18, 1, 1}},
		{0, 31, 64, []byte{18, 0}},
		{0, 96, 64, []byte{18, 1, 4}},
		{96, 0, 64, []byte{18, 1, 1}},
		{97, 0, 64, []byte{18, 1, 3}},
		{0, 95, 64, []byte{18, 1, 2}},
	} {
		for _, size := range [][2]int64{{4, 4}, {8, 12}} {
			code := slices.Repeat(row.code, int(size[0]*size[1]/16))
			checkCodedIs(t, filled(size[0], size[1], row.old), filled(size[0], size[1], row.v), row.q, code)
		}
	}
	for from := range int64(256) {
		for _, to := range []int64{0, from, 255, 255 - from, 128} {
			for _, q := range []int64{1, 2, 3, 17, 64} {
				checkCoded(t, filled(4, 4, from), filled(4, 4, to), q)
			}
		}
	}
}

// withLevels is a block of 4 by 4 that has just these levels by q when it comes from a flat one of 128.
func withLevels(levels numbers, q int64) impl.Picture {
	px := turnByWords(levels)
	for i, v := range px {
		px[i] = 128 + q*v
	}
	return pictureOf(4, 4, px)
}

// Noughts are left out at the end alone.
func TestEncodeLevels(t *testing.T) {
	for _, row := range []struct {
		levels numbers
		q      int64
		code   []byte
	}{
		{numbers{15: 0}, 1, []byte{18, 0}},
		{numbers{3, 15: 0}, 1, []byte{18, 1, 6}},
		{numbers{-3, 15: 0}, 2, []byte{18, 1, 5}},
		{numbers{0, 1, 15: 0}, 3, []byte{18, 2, 0, 2}},
		{numbers{0, 0, 0, -1, 15: 0}, 3, []byte{18, 4, 0, 0, 0, 1}},
		{numbers{1, 0, 0, 2, 0, 0, -2, 15: 0}, 1, []byte{18, 7, 2, 0, 0, 4, 0, 0, 3}},
		{numbers{0, 0, 0, 0, 5, 15: 0}, 1, []byte{18, 5, 0, 0, 0, 0, 10}},
		{numbers{7, 0, 0, 0, 0, 0, 0, 0, 0, 0, 0, 0, 0, 0, 9, 0}, 1, []byte{18, 15, 14, 0, 0, 0, 0, 0, 0, 0, 0, 0, 0, 0, 0, 0, 18}},
		{numbers{15: 1}, 1, []byte{18, 16, 0, 0, 0, 0, 0, 0, 0, 0, 0, 0, 0, 0, 0, 0, 0, 2}},
		{numbers{15: -1}, 64, []byte{18, 16, 0, 0, 0, 0, 0, 0, 0, 0, 0, 0, 0, 0, 0, 0, 0, 1}},
		{numbers{1, -1, 2, -2, 3, -3, 4, -4, 5, -5, 6, -6, 7, -7, 8, -8}, 1, []byte{18, 16, 2, 1, 4, 3, 6, 5, 8, 7, 10, 9, 12, 11, 14, 13, 16, 15}},
		{slices.Repeat(numbers{1}, 16), 7, append([]byte{18, 16}, slices.Repeat([]byte{2}, 16)...)},
		{slices.Repeat(numbers{-1}, 16), 8, append([]byte{18, 16}, slices.Repeat([]byte{1}, 16)...)},
		{numbers{0, 127, 15: 0}, 1, []byte{18, 2, 0, 254}},
		{numbers{0, 0, -127, 0, 15: 0}, 1, []byte{18, 3, 0, 0, 253}},
	} {
		p := withLevels(row.levels, row.q)
		if !codedByWords(p) {
			t.Fatal("no picture has these levels: ", row.levels, row.q)
		}
		if seen := checkCodedIs(t, filled(4, 4, 128), p, row.q, row.code); !slices.Equal(seen.Px, p.Px) {
			t.Fatalf("levels %v by %d: %v, want %v", row.levels, row.q, seen.Px, p.Px)
		}
	}
	for place := range 16 {
		for _, v := range []int64{1, -1, 2, -2} {
			levels := make(numbers, 16)
			levels[place] = v
			want := append([]byte{18}, levelBytes(levels[:place+1]...)...)
			checkCodedIs(t, filled(4, 4, 128), withLevels(levels, 31), 31, want)
		}
	}
}

// A pixel alone is in all sixteen sums, with the one sign or the other.
func TestEncodeHalves(t *testing.T) {
	for place := range 16 {
		signs := turnSigns()
		for q := int64(1); q <= 15; q++ {
			for _, row := range []struct{ away, above, below int64 }{
				{8 * q, 1, 0},
				{8*q - 1, 0, 0},
				{8*q + 1, 1, -1},
				{16 * q, 1, -1},
				{24 * q, 2, -1},
				{24*q - 1, 1, -1},
				{24*q + 1, 2, -2},
			} {
				if row.away > 127 {
					continue
				}
				for _, turn := range []int64{1, -1} {
					p := filled(4, 4, 128)
					p.Px[place] += turn * row.away
					levels := numbers{}
					for at := range 16 {
						if signs[at/4][place/4]*signs[at%4][place%4] == turn {
							levels = append(levels, row.above)
						} else {
							levels = append(levels, row.below)
						}
					}
					for len(levels) > 0 && levels[len(levels)-1] == 0 {
						levels = levels[:len(levels)-1]
					}
					checkCodedIs(t, filled(4, 4, 128), p, q, append([]byte{stillPoint}, levelBytes(levels...)...))
				}
			}
		}
	}
	// All sixteen are rounded up by a half: no picture can be further from what was coded.
	for q := int64(1); q <= 15; q++ {
		p := pictureOf(4, 4, numbers{8 * q, 15: 0})
		if seen := checkCoded(t, filled(4, 4, 0), p, q); seen.Px[0] != 16*q || slices.Max(seen.Px[1:]) != 0 {
			t.Fatal(q, seen)
		}
	}
}

func TestDecodeCases(t *testing.T) {
	hundred, low, high := filled(4, 4, 100), filled(4, 4, 3), filled(4, 4, 250)
	flat := func(v int64) impl.Picture { return filled(4, 4, v) }
	for _, row := range []struct {
		old  impl.Picture
		code []byte
		q    int64
		want impl.Picture
	}{
		{hundred, []byte{18, 0}, 1, hundred},
		{hundred, []byte{0, 0}, 64, hundred},
		{hundred, []byte{18, 1, 2}, 1, flat(101)},
		{hundred, []byte{18, 1, 1}, 1, flat(99)},
		{hundred, []byte{18, 1, 4}, 64, flat(228)},
		{hundred, []byte{18, 1, 1}, 64, flat(36)},
		{hundred, []byte{18, 1, 0}, 64, hundred},
		// A u below 255 may stand in three bytes, and a nought at the end.
		{hundred, []byte{18, 1, 255, 0, 2}, 1, flat(101)},
		{hundred, []byte{18, 1, 255, 0, 0}, 1, hundred},
		{hundred, []byte{18, 1, 254}, 1, flat(227)},
		{hundred, []byte{18, 1, 255, 0, 254}, 1, flat(227)},
		{flat(128), []byte{18, 1, 255, 0, 255}, 1, flat(0)},
		{hundred, []byte{18, 1, 255, 1, 0}, 1, flat(228)},
		{hundred, []byte{18, 2, 2, 0}, 1, flat(101)},
		{hundred, append([]byte{18, 16, 2}, make([]byte, 15)...), 1, flat(101)},
		{hundred, append([]byte{18, 16}, slices.Repeat([]byte{2}, 16)...), 1, pictureOf(4, 4, append(numbers{116}, slices.Repeat(numbers{100}, 15)...))},
		// Kept within 0 to 255, at just these and one past them.
		{low, []byte{18, 1, 5}, 1, flat(0)},
		{low, []byte{18, 1, 7}, 1, flat(0)},
		{low, []byte{18, 1, 3}, 1, flat(1)},
		{low, []byte{18, 1, 253}, 64, flat(0)},
		{high, []byte{18, 1, 10}, 1, flat(255)},
		{high, []byte{18, 1, 12}, 1, flat(255)},
		{high, []byte{18, 1, 8}, 1, flat(254)},
		{high, []byte{18, 1, 254}, 64, flat(255)},
		// The greatest u of either sign.
		{hundred, []byte{18, 1, 255, 255, 255}, 64, flat(0)},
		{hundred, []byte{18, 1, 255, 255, 254}, 64, flat(255)},
		{flat(0), []byte{18, 1, 255, 255, 254}, 1, flat(255)},
		{flat(255), []byte{18, 1, 255, 255, 255}, 1, flat(0)},
		{flat(255), append([]byte{18, 16}, slices.Repeat([]byte{255, 255, 255}, 16)...), 64, pictureOf(4, 4, append(numbers{0}, slices.Repeat(numbers{255}, 15)...))},
		{flat(0), append([]byte{18, 16}, slices.Repeat([]byte{255, 255, 254}, 16)...), 64, pictureOf(4, 4, append(numbers{255}, make(numbers, 15)...))},
		// One number below 0 and another above 255 in one block.
		{hundred, []byte{18, 2, 0, 254}, 2, pictureOf(4, 4, slices.Repeat(numbers{255, 255, 0, 0}, 4))},
		{hundred, []byte{18, 5, 0, 0, 0, 0, 253}, 2, pictureOf(4, 4, append(make(numbers, 8), slices.Repeat(numbers{255}, 8)...))},
		// Where it points, with a level.
		{pictureOf(4, 4, numbers{9, 15: 0}), []byte{0, 1, 2}, 1, pictureOf(4, 4, numbers{10, 10, 10, 1, 10, 10, 10, 1, 10, 10, 10, 1, 1, 1, 1, 1})},
		{pictureOf(4, 4, numbers{15: 9}), []byte{36, 1, 4}, 1, pictureOf(4, 4, numbers{2, 2, 2, 2, 2, 11, 11, 11, 2, 11, 11, 11, 2, 11, 11, 11})},
	} {
		checkDecodeIs(t, row.old, row.code, row.q, row.want, true)
		checkDecode(t, row.old, row.code, row.q)
	}
}

func TestDecodeWrong(t *testing.T) {
	hundred := filled(4, 4, 100)
	for _, code := range [][]byte{
		nil, {}, {18}, {18, 1}, {18, 2, 2}, {18, 1, 255}, {18, 1, 255, 0}, {18, 2, 255, 0, 2}, {18, 2, 2, 255}, {18, 2, 2, 255, 0},
		{18, 0, 0}, {18, 0, 18}, {18, 0, 18, 0}, {18, 1, 2, 0}, {18, 1, 255, 0, 2, 0}, {18, 0, 255},
		{5, 0}, {6, 0}, {7, 0}, {13, 0}, {37, 0}, {38, 0}, {40, 0}, {42, 0}, {128 + 18, 0}, {255, 0}, {255, 0, 18, 0}, {64 + 18, 0},
		append([]byte{18, 17}, make([]byte, 17)...), append([]byte{18, 255}, make([]byte, 255)...), append([]byte{18, 32}, make([]byte, 32)...), {18, 17}, {18, 255},
		append([]byte{18, 16}, make([]byte, 15)...), append([]byte{18, 16}, make([]byte, 17)...),
		make([]byte, 1), make([]byte, 3), make([]byte, 100000),
	} {
		for _, q := range []int64{1, 64} {
			checkNotDecoded(t, hundred, code, q)
			checkDecode(t, hundred, code, q)
		}
	}
}

// Every value of the byte that points, in each block; likewise of the one that tells how many.
func TestDecodeBytes(t *testing.T) {
	old := unlike(8, 12)
	for block := range 6 {
		for n := range 256 {
			code := slices.Repeat([]byte{stillPoint, 0}, 6)
			code[2*block] = byte(n)
			want, ok := decodeByWords(old, code, 1)
			if ok != (n/8 <= 4 && n%8 <= 4) {
				t.Fatal(n, ok)
			}
			checkDecodeIs(t, old, code, 1, want, ok)
			// All levels that are told are there.
			told := slices.Repeat([]byte{stillPoint, 0}, 6)
			told[2*block+1] = byte(n)
			for i := range n {
				told = slices.Insert(told, 2*block+2, byte(i%7))
			}
			want, ok = decodeByWords(old, told, 3)
			if ok != (n <= 16) {
				t.Fatal(n, ok)
			}
			checkDecodeIs(t, old, told, 3, want, ok)
		}
	}
	// Every value of a level's byte, and of the two behind a 255.
	flat := filled(4, 4, 128)
	for n := range 256 {
		checkDecode(t, flat, []byte{stillPoint, 1, byte(n)}, 1)
		checkDecode(t, flat, []byte{stillPoint, 3, byte(n), 1, 2}, 1)
		for _, other := range []byte{0, 1, 2, 254, 255} {
			checkDecode(t, flat, []byte{stillPoint, 1, 255, byte(n), other}, 1)
			checkDecode(t, flat, []byte{stillPoint, 1, 255, other, byte(n)}, 1)
		}
	}
}

// Bytes that end at each place too early, and bytes that are left over.
func TestDecodeEnds(t *testing.T) {
	r := rand.New(rand.NewSource(142))
	for _, size := range [][2]int64{{4, 4}, {8, 4}, {12, 8}, {16, 16}} {
		old, p := noisy(r, size[0], size[1], 255), noisy(r, size[0], size[1], 255)
		for i := range p.Px[:16] {
			p.Px[i], old.Px[i] = 255, 0
		}
		for _, q := range []int64{1, 5, 64} {
			code, ok := impl.Encode(old, p, q)
			if !ok {
				t.Fatal(old, p)
			}
			checkDecode(t, old, code, q)
			for n := range code {
				checkNotDecoded(t, old, code[:n], q)
			}
			for n := range 256 {
				checkNotDecoded(t, old, append(slices.Clone(code), byte(n)), q)
			}
			checkNotDecoded(t, old, append(slices.Clone(code), code...), q)
			checkNotDecoded(t, old, append(slices.Clone(code), stillPoint, 0), q)
		}
	}
}

// Blocks stand row by row, and each is told by itself.
func TestCoderBlocks(t *testing.T) {
	for _, size := range pictureSizes() {
		w, h := size[0], size[1]
		for block := range w * h / 16 {
			p, code := filled(w, h, 50), []byte{}
			left, top := block%(w/4)*4, block/(w/4)*4
			for i := range int64(16) {
				p.Px[(top+i/4)*w+left+i%4] = 57
			}
			for n := range w * h / 16 {
				if code = append(code, stillPoint); n == block {
					code = append(code, 1, 14)
				} else {
					code = append(code, 0)
				}
			}
			if seen := checkCodedIs(t, filled(w, h, 50), p, 1, code); !slices.Equal(seen.Px, p.Px) {
				t.Fatal(size, block, seen)
			}
		}
	}
}

func randomSize(r *rand.Rand) (int64, int64) {
	sides := codedSides()
	return sides[r.Intn(4)], sides[r.Intn(4)]
}

// nearlyMoved is old, moved by parts and a bit spoiled.
func nearlyMoved(r *rand.Rand, old impl.Picture, most int64) impl.Picture {
	p := shifted(old, int64(r.Intn(5)-2), int64(r.Intn(5)-2))
	for i, v := range p.Px {
		p.Px[i] = max(0, min(255, v+r.Int63n(2*most+1)-most))
	}
	return p
}

// For each q from 1 to 64: what is decoded is by at most 8 q what was coded.
func TestCoderPromise(t *testing.T) {
	r := rand.New(rand.NewSource(143))
	for q := int64(1); q <= 64; q++ {
		for _, size := range [][2]int64{{4, 4}, {8, 4}, {4, 12}, {16, 16}} {
			w, h := size[0], size[1]
			old := noisy(r, w, h, 255)
			checkCoded(t, old, noisy(r, w, h, 255), q)
			checkCoded(t, old, nearlyMoved(r, old, 20), q)
			checkCoded(t, filled(w, h, 0), noisy(r, w, h, 255), q)
			checkCoded(t, filled(w, h, 255), filled(w, h, 0), q)
			checkCoded(t, filled(w, h, 0), filled(w, h, 255), q)
			checkCoded(t, old, filled(w, h, r.Int63n(256)), q)
			steep := filled(w, h, 0)
			for i := range steep.Px {
				steep.Px[i] = 255 * r.Int63n(2)
			}
			checkCoded(t, old, steep, q)
			checkCoded(t, steep, old, q)
		}
	}
}

// The encoder goes on from what the decoder shows: both have the same picture at each step, and errors do not add up.
func TestCoderGoesOn(t *testing.T) {
	r := rand.New(rand.NewSource(144))
	for _, q := range []int64{1, 7, 64} {
		seen := noisy(r, 16, 12, 255)
		p, codes, want := seen, [][]byte{}, []impl.Picture{}
		first := seen
		for range 12 {
			p = nearlyMoved(r, p, 9)
			code, _ := impl.Encode(seen, p, q)
			seen = checkCoded(t, seen, p, q)
			codes, want = append(codes, code), append(want, seen)
		}
		at := first
		for i, code := range codes {
			next, ok := impl.Decode(at, code, q)
			if !ok || !slices.Equal(next.Px, want[i].Px) {
				t.Fatal(q, i, next, ok)
			}
			at = next
		}
	}
}

func TestCoderRandom(t *testing.T) {
	r := rand.New(rand.NewSource(145))
	for range 1500 {
		w, h := randomSize(r)
		most := []int64{1, 2, 9, 255}[r.Intn(4)]
		old, p := noisy(r, w, h, most), noisy(r, w, h, most)
		if r.Intn(2) == 0 {
			p = nearlyMoved(r, old, r.Int63n(4))
		}
		q := r.Int63n(64) + 1
		if r.Intn(3) > 0 {
			q = r.Int63n(4) + 1
		}
		checkMotions(t, old, p)
		checkCoded(t, old, p, q)
	}
}

// randomCode is nearly right most of the time.
func randomCode(r *rand.Rand, blocks int64) []byte {
	out := []byte{}
	for range blocks {
		stay := r.Intn(17)
		if r.Intn(200) == 0 {
			stay = r.Intn(256)
		}
		out = append(out, byte(8*r.Intn(5)+r.Intn(5)), byte(stay))
		for range stay {
			switch v := r.Intn(256); r.Intn(8) {
			case 0:
				out = append(out, 255, byte(v), byte(r.Intn(256)))
			case 1:
				out = append(out, byte(v))
			default:
				out = append(out, byte(r.Intn(9)))
			}
		}
	}
	for range r.Intn(4) {
		if at := r.Intn(len(out)); r.Intn(4) == 0 {
			out[at] = byte(r.Intn(256))
		}
	}
	return out
}

func TestDecodeRandom(t *testing.T) {
	r := rand.New(rand.NewSource(146))
	right := 0
	for range 3000 {
		w, h := randomSize(r)
		old := noisy(r, w, h, 255)
		code := randomCode(r, w*h/16)
		q := r.Int63n(64) + 1
		checkDecode(t, old, code, q)
		if _, ok := impl.Decode(old, code, q); ok {
			right++
		}
	}
	if right < 500 || right > 2900 {
		t.Fatal("too few codes are wrong, or right: ", right)
	}
}

func TestBufferCases(t *testing.T) {
	for _, row := range []struct {
		sizes      numbers
		rate, room int64
		want       numbers
	}{
		{nil, 1, 1, nil},
		{numbers{}, 5, 9, numbers{}},
		{numbers{5, 9, 1}, 2, 8, numbers{5, -1, 8}},
		{numbers{0}, 1, 1, numbers{1}},
		{numbers{1}, 1, 1, numbers{1}},
		{numbers{2}, 1, 1, numbers{-1}},
		// Just what is there, and one more.
		{numbers{8}, 2, 8, numbers{2}},
		{numbers{9}, 2, 8, numbers{-1}},
		{numbers{8, 2}, 2, 8, numbers{2, 2}},
		{numbers{8, 3}, 2, 8, numbers{2, -1}},
		{numbers{8, 3, 4}, 2, 8, numbers{2, -1, 2}},
		{numbers{8, 3, 5}, 2, 8, numbers{2, -1, -1}},
		// What is too great takes nothing, and the rate comes in behind it.
		{numbers{8, 9, 9, 9, 9, 0}, 2, 8, numbers{2, -1, -1, -1, -1, 8}},
		{numbers{7, 100, 3}, 1, 8, numbers{2, -1, 1}},
		{numbers{7, 100, 4}, 1, 8, numbers{2, -1, -1}},
		// It fills up to room, and not above it.
		{numbers{8, 0, 0, 0, 0}, 3, 8, numbers{3, 6, 8, 8, 8}},
		{numbers{3}, 3, 8, numbers{8}},
		{numbers{2}, 3, 8, numbers{8}},
		{numbers{4}, 3, 8, numbers{7}},
		{numbers{8, 8, 8}, 8, 8, numbers{8, 8, 8}},
		{numbers{8, 8, 8}, 100, 8, numbers{8, 8, 8}},
		{numbers{9, 8}, 100, 8, numbers{-1, 8}},
		{numbers{8, 1, 1, 1, 1}, 1, 8, numbers{1, 1, 1, 1, 1}},
		{numbers{lastFrame}, 1, lastFrame, numbers{1}},
		{numbers{lastFrame, lastFrame}, lastFrame, lastFrame, numbers{lastFrame, lastFrame}},
		{numbers{lastFrame}, lastFrame, lastFrame - 1, numbers{-1}},
		{numbers{lastFrame - 1}, 1, lastFrame, numbers{2}},
		{numbers{0, 0}, lastFrame, 1, numbers{1, 1}},
		{numbers{-1}, 1, 1, nil},
		{numbers{lastFrame + 1}, 1, 1, nil},
		{numbers{lastFrame + 1}, lastFrame, lastFrame, nil},
		{numbers{5}, 0, 8, nil},
		{numbers{5}, 2, 0, nil},
		{numbers{0}, 1, 0, nil},
		{numbers{5}, -1, 8, nil},
		{numbers{5}, 2, -1, nil},
		{numbers{5}, lastFrame + 1, 8, nil},
		{numbers{5}, 2, lastFrame + 1, nil},
		{nil, 0, 1, nil},
		{nil, 1, 0, nil},
	} {
		checkBufferIs(t, row.sizes, row.rate, row.room, row.want)
		checkBuffer(t, row.sizes, row.rate, row.room)
	}
}

func TestBufferLimits(t *testing.T) {
	for _, n := range []int64{1, 2, lastFrame - 1, lastFrame} {
		checkBufferIs(t, numbers{0}, n, 8, numbers{8})
		checkBufferIs(t, numbers{0}, 8, n, numbers{n})
		checkBufferIs(t, numbers{n}, n, n, numbers{n})
	}
	for _, n := range append(strangeNumbers(), 0, -1, lastFrame+1, -lastFrame, 1<<32+1) {
		checkBufferIs(t, numbers{1, 2, 3}, n, 8, nil)
		checkBufferIs(t, numbers{1, 2, 3}, 8, n, nil)
		checkBufferIs(t, numbers{1, 2, 3}, n, n, nil)
		if n == 0 {
			continue
		}
		for place := range 3 {
			sizes := numbers{1, 2, 3}
			sizes[place] = n
			checkBufferIs(t, sizes, 2, 8, nil)
			checkBufferIs(t, sizes, lastFrame, lastFrame, nil)
		}
	}
	for _, n := range []int{mostTicks - 1, mostTicks} {
		checkBufferIs(t, make(numbers, n), 1, 5, slices.Repeat(numbers{5}, n))
		sizes := slices.Repeat(numbers{3}, n)
		checkBuffer(t, sizes, 2, 50)
		sizes[n-1] = 6
		checkBuffer(t, sizes, 3, 5)
		if got := impl.Buffer(sizes, 3, 5); got[n-1] != -1 || got[n-2] != 5 {
			t.Fatal(got)
		}
		sizes[n-1] = -1
		checkBufferIs(t, sizes, 3, 5, nil)
		sizes[n-1] = lastFrame + 1
		checkBufferIs(t, sizes, 3, 5, nil)
	}
	for _, n := range []int{mostTicks + 1, mostTicks + 2, 2 * mostTicks, 65536} {
		checkBufferIs(t, make(numbers, n), 1, 5, nil)
		checkBufferIs(t, slices.Repeat(numbers{lastFrame}, n), lastFrame, lastFrame, nil)
	}
}

// All short lists of small sizes, with all small rates and rooms.
func TestBufferSmall(t *testing.T) {
	sizes := numbers{}
	var all func(left int)
	all = func(left int) {
		for rate := int64(0); rate <= 3; rate++ {
			for room := int64(0); room <= 4; room++ {
				checkBuffer(t, sizes, rate, room)
			}
		}
		if left == 0 {
			return
		}
		for size := int64(-1); size <= 5; size++ {
			sizes = append(sizes, size)
			all(left - 1)
			sizes = sizes[:len(sizes)-1]
		}
	}
	all(4)
}

func TestBufferRandom(t *testing.T) {
	r := rand.New(rand.NewSource(147))
	for range 3000 {
		most := []int64{3, 10, 1000, lastFrame}[r.Intn(4)]
		sizes := numbers{}
		for range r.Intn(30) {
			sizes = append(sizes, r.Int63n(most+1))
		}
		checkBuffer(t, sizes, r.Int63n(most)+1, r.Int63n(most)+1)
		checkBuffer(t, sizes, r.Int63n(max(most/3, 1))+1, most)
	}
}

func pictureFromBytes(w, h int64, b []byte) impl.Picture {
	px := numbers{}
	for i := range int(w * h) {
		if len(b) == 0 {
			px = append(px, 0)
		} else {
			px = append(px, int64(b[i%len(b)]))
		}
	}
	return pictureOf(w, h, px)
}

// FuzzCoder takes bytes for the pixels of two pictures, again and again, and for what is decoded.
func FuzzCoder(f *testing.F) {
	f.Add([]byte{1, 2, 3}, []byte{200, 0, 100, 9, 8}, []byte{18, 1, 2}, uint8(0), int64(1), int64(0))
	f.Add([]byte{}, []byte{255}, []byte{18, 1, 255, 255, 255, 0, 0}, uint8(1), int64(64), int64(1))
	f.Add([]byte{0, 255}, []byte{255, 0}, []byte{36, 16, 255, 0, 3}, uint8(15), int64(7), int64(math.MinInt64))
	f.Fuzz(func(t *testing.T, one, other, code []byte, size uint8, q, n int64) {
		sides := codedSides()
		w, h := sides[size%4], sides[size/4%4]
		old, p := pictureFromBytes(w, h, one), pictureFromBytes(w, h, other)
		checkMotions(t, old, p)
		checkMotion(t, old, p, n)
		fit := (q%64+64)%64 + 1
		checkCoded(t, old, p, fit)
		checkDecode(t, old, code, q)
		checkDecode(t, old, code, fit)
		block, sizes := numbers{}, numbers{}
		for i, b := range code {
			block = append(block, (int64(b)-128)*n)
			sizes = append(sizes, int64(b)*(n%int64(i+1)))
		}
		checkTurn(t, block)
		checkTurn(t, block[:min(16, len(block))])
		checkBuffer(t, sizes, q, n)
		checkBuffer(t, sizes, fit, (n%1000+1000)%1000)
	})
}
