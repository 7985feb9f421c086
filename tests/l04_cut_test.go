package tests

import (
	"math"
	"math/big"
	"math/rand"
	"slices"
	"testing"

	"loop.example/g00066/impl"
)

// The faces of the chapter, held as they were given.
var (
	_ func([]impl.Clip) bool                                             = impl.TrackOk
	_ func([]impl.Clip) int64                                            = impl.Length
	_ func(track []impl.Clip, at int64) (int64, int64)                   = impl.FrameAt
	_ func([]impl.Clip) []impl.Clip                                      = impl.Joined
	_ func(track []impl.Clip, at int64, c impl.Clip) ([]impl.Clip, bool) = impl.Insert
	_ func(track []impl.Clip, at, n int64) ([]impl.Clip, bool)           = impl.Extract
	_ func(track []impl.Clip, at, n int64) ([]impl.Clip, bool)           = impl.Lift
	_ func(track []impl.Clip, at int64, c impl.Clip) ([]impl.Clip, bool) = impl.Overwrite
	_ func(track []impl.Clip, i, n int64) ([]impl.Clip, bool)            = impl.Roll
	_ func(track []impl.Clip, i, n int64) ([]impl.Clip, bool)            = impl.Slip
	_ func(track []impl.Clip, i, n int64) ([]impl.Clip, bool)            = impl.Slide
	_ func(track []impl.Clip, i, n int64) ([]impl.Clip, bool)            = impl.Ripple
	_ struct{ Src, In, Len int64 }                                       = impl.Clip{}
)

const (
	lastFrame = 10000000
	mostClips = 300
)

func clip(src, in, length int64) impl.Clip { return impl.Clip{Src: src, In: in, Len: length} }

func gap(length int64) impl.Clip { return impl.Clip{Len: length} }

type track = []impl.Clip

// plus keeps to the ends of int64: what does not fit is out of range there as well.
func plus(x, y int64) int64 {
	sum := new(big.Int).Add(big.NewInt(x), big.NewInt(y))
	switch {
	case sum.IsInt64():
		return sum.Int64()
	case sum.Sign() < 0:
		return math.MinInt64
	}
	return math.MaxInt64
}

func less(x, y int64) int64 {
	if y == math.MinInt64 {
		return plus(plus(x, math.MaxInt64), 1)
	}
	return plus(x, -y)
}

// clipByWords says the chapter's sentence over again.
func clipByWords(c impl.Clip) bool {
	if c.Len < 1 || c.Len > lastFrame {
		return false
	}
	switch {
	case c.Src == 0:
		return c.In == 0
	case c.Src < 0, c.Src > 500, c.In < 0, plus(c.In, c.Len) > lastFrame:
		return false
	}
	return true
}

func lengthByWords(list track) int64 {
	sum := int64(0)
	for _, c := range list {
		sum = plus(sum, c.Len)
	}
	return sum
}

func trackByWords(list track) bool {
	return len(list) <= mostClips && !slices.ContainsFunc(list, func(c impl.Clip) bool { return !clipByWords(c) }) && lengthByWords(list) <= lastFrame
}

// picture is what is seen at one frame: the chapter's edits are told of these, without any clips.
type picture struct{ src, frame int64 }

func picturesOf(list ...impl.Clip) []picture {
	out := []picture{}
	for _, c := range list {
		for i := range c.Len {
			if c.Src == 0 {
				out = append(out, picture{})
			} else {
				out = append(out, picture{c.Src, c.In + i})
			}
		}
	}
	return out
}

// clipsOf is the shortest list of clips that shows these: one for each run.
func clipsOf(seen []picture) track {
	out := track{}
	for i, p := range seen {
		goesOn := i > 0 && (p == picture{} && seen[i-1] == picture{} || p.src != 0 && seen[i-1] == picture{p.src, p.frame - 1})
		if goesOn {
			out[len(out)-1].Len++
		} else {
			out = append(out, clip(p.src, p.frame, 1))
		}
	}
	return out
}

func insertByWords(list track, at, _ int64, c impl.Clip) ([]picture, bool) {
	seen := picturesOf(list...)
	if !clipByWords(c) || at < 0 || at > int64(len(seen)) || int64(len(seen))+c.Len > lastFrame {
		return nil, false
	}
	return slices.Concat(seen[:at], picturesOf(c), seen[at:]), true
}

func extractByWords(list track, at, n int64, _ impl.Clip) ([]picture, bool) {
	seen := picturesOf(list...)
	if at < 0 || n < 1 || plus(at, n) > int64(len(seen)) {
		return nil, false
	}
	return slices.Concat(seen[:at], seen[at+n:]), true
}

func liftByWords(list track, at, n int64, _ impl.Clip) ([]picture, bool) {
	seen := picturesOf(list...)
	if at < 0 || n < 1 || plus(at, n) > int64(len(seen)) {
		return nil, false
	}
	for i := at; i < at+n; i++ {
		seen[i] = picture{}
	}
	return seen, true
}

func overwriteByWords(list track, at, _ int64, c impl.Clip) ([]picture, bool) {
	seen := picturesOf(list...)
	if !clipByWords(c) || at < 0 || at > int64(len(seen)) || at+c.Len > lastFrame {
		return nil, false
	}
	for i, p := range picturesOf(c) {
		if at := int(at) + i; at < len(seen) {
			seen[at] = p
		} else {
			seen = append(seen, p)
		}
	}
	return seen, true
}

// noGap is false too where there is no such clip.
func noGap(list track, i int64) bool {
	return i >= 0 && i < int64(len(list)) && list[i].Src != 0
}

// longer lets the clip end n later, later lets it begin n later; both give what may be no clip.
func longer(c impl.Clip, n int64) impl.Clip { return clip(c.Src, c.In, plus(c.Len, n)) }

func later(c impl.Clip, n int64) impl.Clip { return clip(c.Src, plus(c.In, n), less(c.Len, n)) }

func rollByWords(list track, i, n int64, _ impl.Clip) ([]picture, bool) {
	if !noGap(list, i) || !noGap(list, i+1) {
		return nil, false
	}
	one, other := longer(list[i], n), later(list[i+1], n)
	if !clipByWords(one) || !clipByWords(other) {
		return nil, false
	}
	return picturesOf(slices.Concat(list[:i], track{one, other}, list[i+2:])...), true
}

func slipByWords(list track, i, n int64, _ impl.Clip) ([]picture, bool) {
	if !noGap(list, i) {
		return nil, false
	}
	c := clip(list[i].Src, plus(list[i].In, n), list[i].Len)
	if !clipByWords(c) {
		return nil, false
	}
	return picturesOf(slices.Concat(list[:i], track{c}, list[i+1:])...), true
}

func slideByWords(list track, i, n int64, _ impl.Clip) ([]picture, bool) {
	if i < 1 || i > int64(len(list))-2 || !noGap(list, i-1) || !noGap(list, i+1) {
		return nil, false
	}
	ahead, behind := longer(list[i-1], n), later(list[i+1], n)
	if !clipByWords(ahead) || !clipByWords(behind) {
		return nil, false
	}
	return picturesOf(slices.Concat(list[:i-1], track{ahead, list[i], behind}, list[i+2:])...), true
}

func rippleByWords(list track, i, n int64, _ impl.Clip) ([]picture, bool) {
	if !noGap(list, i) {
		return nil, false
	}
	c := longer(list[i], n)
	if !clipByWords(c) || lengthByWords(list)+n > lastFrame {
		return nil, false
	}
	return picturesOf(slices.Concat(list[:i], track{c}, list[i+1:])...), true
}

type cutEdit struct {
	name    string
	hasClip bool
	do      func(list track, at, n int64, c impl.Clip) (track, bool)
	words   func(list track, at, n int64, c impl.Clip) ([]picture, bool)
}

func withClip(f func(track, int64, impl.Clip) (track, bool)) func(track, int64, int64, impl.Clip) (track, bool) {
	return func(list track, at, _ int64, c impl.Clip) (track, bool) { return f(list, at, c) }
}

func withNumber(f func(track, int64, int64) (track, bool)) func(track, int64, int64, impl.Clip) (track, bool) {
	return func(list track, at, n int64, _ impl.Clip) (track, bool) { return f(list, at, n) }
}

var cutEdits = []cutEdit{
	{"Insert", true, withClip(impl.Insert), insertByWords},
	{"Overwrite", true, withClip(impl.Overwrite), overwriteByWords},
	{"Extract", false, withNumber(impl.Extract), extractByWords},
	{"Lift", false, withNumber(impl.Lift), liftByWords},
	{"Roll", false, withNumber(impl.Roll), rollByWords},
	{"Slip", false, withNumber(impl.Slip), slipByWords},
	{"Slide", false, withNumber(impl.Slide), slideByWords},
	{"Ripple", false, withNumber(impl.Ripple), rippleByWords},
}

func editNamed(name string) cutEdit {
	return cutEdits[slices.IndexFunc(cutEdits, func(e cutEdit) bool { return e.name == name })]
}

var cutMark = clip(-77, -78, -79)

// checkAnswer does the edit twice and holds it against what is wanted; it watches the argument, its room, and the answers' memory.
func checkAnswer(t *testing.T, e cutEdit, list track, at, n int64, c impl.Clip, want track, wantOk bool) {
	t.Helper()
	given, whole := withRoom(list, cutMark)
	before := slices.Clone(whole)
	got, ok := e.do(given, at, n, c)
	again, okAgain := e.do(given, at, n, c)
	if ok != wantOk || !slices.Equal(got, want) {
		t.Fatalf("%s of %v at %d, n %d, %v: %v %v, want %v %v", e.name, shortly(list), at, n, c, shortly(got), ok, shortly(want), wantOk)
	}
	for i := range got[:cap(got)] {
		got[:cap(got)][i] = cutMark
	}
	if !slices.Equal(whole, before) {
		t.Fatalf("%s of %v at %d, n %d, %v: an argument, or its room, was written into, or shares memory with the answer", e.name, shortly(list), at, n, c)
	}
	for i := range whole {
		whole[i] = cutMark
	}
	if okAgain != wantOk || !slices.Equal(again, want) {
		t.Fatalf("%s of %v at %d, n %d, %v: the second answer shares memory, or is another one: %v", e.name, shortly(list), at, n, c, shortly(again))
	}
}

// shortly keeps what a failing test tells readable.
func shortly(list track) any {
	if len(list) > 12 {
		return []any{len(list), list[:6], list[len(list)-6:]}
	}
	return list
}

// checkEdit holds an edit against the chapter's words; what comes of it is gone through frame by frame.
func checkEdit(t *testing.T, e cutEdit, list track, at, n int64, c impl.Clip) {
	t.Helper()
	if !trackByWords(list) {
		checkAnswer(t, e, list, at, n, c, nil, false)
		return
	}
	seen, ok := e.words(list, at, n, c)
	want := clipsOf(seen)
	if !ok || !trackByWords(want) {
		want, ok = nil, false
	}
	checkAnswer(t, e, list, at, n, c, want, ok)
}

// checkTrack holds the four functions that tell of a track against the chapter's words.
func checkTrack(t *testing.T, list track) {
	t.Helper()
	given, whole := withRoom(list, cutMark)
	before := slices.Clone(whole)
	ok := trackByWords(list)
	length, want, seen := int64(-1), track{}, []picture{}
	if ok {
		length, seen = lengthByWords(list), picturesOf(list...)
		want = clipsOf(seen)
	}
	if got := impl.TrackOk(given); got != ok {
		t.Fatalf("TrackOk of %v: %v", shortly(list), got)
	}
	if got := impl.Length(given); got != length {
		t.Fatalf("Length of %v: %d, want %d", shortly(list), got, length)
	}
	for i, p := range seen {
		if src, frame := impl.FrameAt(given, int64(i)); (picture{src, frame}) != p {
			t.Fatalf("FrameAt of %v at %d: %d %d, want %v", shortly(list), i, src, frame, p)
		}
	}
	for _, at := range []int64{int64(len(seen)), int64(len(seen)) + 1, -1, -2, math.MaxInt64, math.MinInt64} {
		if src, frame := impl.FrameAt(given, at); src != -1 || frame != -1 {
			t.Fatalf("FrameAt of %v at %d: %d %d", shortly(list), at, src, frame)
		}
	}
	got, again := impl.Joined(given), impl.Joined(given)
	if !slices.Equal(got, want) {
		t.Fatalf("Joined of %v: %v, want %v", shortly(list), shortly(got), shortly(want))
	}
	for i := range got[:cap(got)] {
		got[:cap(got)][i] = cutMark
	}
	if !slices.Equal(whole, before) {
		t.Fatalf("%v, or its room, was written into, or shares memory with Joined", shortly(list))
	}
	for i := range whole {
		whole[i] = cutMark
	}
	if !slices.Equal(again, want) {
		t.Fatalf("Joined of %v: two answers share memory", shortly(list))
	}
}

func TestCutConstants(t *testing.T) {
	if impl.MaxSrc != 500 || impl.MaxClips != 300 || impl.MaxFrame != 10000000 {
		t.Error("a limit is another one")
	}
}

// Clips at each limit and one past it; each alone, behind another and ahead of another.
func TestClipLimits(t *testing.T) {
	for _, x := range []struct {
		c  impl.Clip
		ok bool
	}{
		{clip(0, 0, 1), true},
		{clip(0, 0, lastFrame-2), true},
		{clip(1, 0, 1), true},
		{clip(2, 0, 1), true},
		{clip(499, 3, 4), true},
		{clip(500, 0, 1), true},
		{clip(501, 0, 1), false},
		{clip(-1, 0, 1), false},
		{clip(-500, 0, 1), false},
		{clip(math.MinInt64, 0, 1), false},
		{clip(math.MaxInt64, 0, 1), false},
		{clip(1<<32, 0, 1), false},
		{clip(1<<32+1, 0, 1), false},
		{clip(0, 1, 1), false},
		{clip(0, -1, 1), false},
		{clip(0, math.MaxInt64, 1), false},
		{clip(0, 0, 0), false},
		{clip(0, 0, -1), false},
		{clip(0, 0, lastFrame+1), false},
		{clip(1, -1, 1), false},
		{clip(1, -1, 5), false},
		{clip(1, -1, lastFrame), false},
		{clip(1, 0, 0), false},
		{clip(1, 5, 0), false},
		{clip(1, 5, -1), false},
		{clip(1, 5, -5), false},
		{clip(1, lastFrame, 0), false},
		{clip(1, lastFrame, 1), false},
		{clip(1, lastFrame-1, 1), true},
		{clip(1, lastFrame-1, 2), false},
		{clip(1, 1, lastFrame-2), true},
		{clip(1, 2, lastFrame-2), true},
		{clip(1, 3, lastFrame-2), false},
		{clip(1, lastFrame/2, lastFrame/2), true},
		{clip(1, lastFrame/2+1, lastFrame/2), false},
		{clip(1, lastFrame+1, -1), false},
		{clip(1, math.MaxInt64, 1), false},
		{clip(1, 1, math.MaxInt64), false},
		{clip(1, math.MaxInt64, math.MaxInt64), false},
		{clip(1, math.MinInt64, math.MaxInt64), false},
		{clip(1, math.MinInt64, math.MinInt64), false},
		{clip(1, math.MaxInt64, 2), false},
		{clip(1, math.MinInt64, 1), false},
		{clip(1, 0, math.MinInt64), false},
		{clip(0, 0, math.MaxInt64), false},
		{clip(0, 0, math.MinInt64), false},
	} {
		if clipByWords(x.c) != x.ok {
			t.Errorf("by the words %v is a clip: %v", x.c, !x.ok)
		}
		for _, list := range []track{{x.c}, {clip(7, 7, 1), x.c}, {x.c, clip(7, 7, 1)}, {clip(7, 7, 1), x.c, gap(1)}} {
			place := slices.Index(list, x.c)
			length := lengthByWords(list)
			if !x.ok {
				length = -1
			}
			if impl.TrackOk(list) != x.ok || impl.Length(list) != length {
				t.Errorf("%v: a track: %v, of the length %d", list, !x.ok, impl.Length(list))
			}
			src, frame := impl.FrameAt(list, int64(place))
			if x.ok && (src != x.c.Src || frame != x.c.In) || !x.ok && (src != -1 || frame != -1) {
				t.Errorf("%v at %d: %d %d", list, place, src, frame)
			}
			if joined := impl.Joined(list); x.ok && len(joined) == 0 || !x.ok && len(joined) != 0 {
				t.Errorf("%v: joined to %v", list, joined)
			}
			checkRefused(t, list, x.ok)
		}
		for _, e := range cutEdits[:2] {
			for _, list := range []track{nil, {clip(7, 7, 1)}} {
				want := append(track{x.c}, list...)
				if e.name == "Overwrite" {
					want = track{x.c}
				}
				if !x.ok {
					want = nil
				}
				checkAnswer(t, e, list, 0, 0, x.c, want, x.ok)
			}
		}
	}
}

// checkRefused: no edit answers anything of what is no track, not even one that would do nothing or take the wrong clip out.
func checkRefused(t *testing.T, list track, ok bool) {
	t.Helper()
	if ok {
		return
	}
	for _, e := range cutEdits {
		for at := range int64(len(list) + 1) {
			for _, n := range []int64{-1, 0, 1, 2} {
				checkAnswer(t, e, list, at, n, clip(7, 7, 1), nil, false)
			}
		}
	}
}

func TestTrackLengths(t *testing.T) {
	half := int64(lastFrame / 2)
	for _, x := range []struct {
		list   track
		length int64
	}{
		{nil, 0},
		{track{}, 0},
		{track{gap(lastFrame)}, lastFrame},
		{track{clip(1, 0, lastFrame)}, lastFrame},
		{track{clip(1, 0, lastFrame-1)}, lastFrame - 1},
		{track{clip(1, 0, lastFrame-1), gap(1)}, lastFrame},
		{track{clip(1, 0, lastFrame), gap(1)}, -1},
		{track{gap(1), clip(1, 0, lastFrame)}, -1},
		{track{gap(1), gap(lastFrame)}, -1},
		{track{clip(1, 0, half), clip(1, half, half)}, lastFrame},
		{track{clip(1, 0, half), clip(1, half, half), clip(2, 0, 1)}, -1},
		{track{gap(half), gap(half)}, lastFrame},
		{track{gap(half), gap(half + 1)}, -1},
		{track{gap(lastFrame), gap(lastFrame), gap(lastFrame)}, -1},
		{slices.Repeat(track{gap(lastFrame)}, 300), -1},
		{slices.Repeat(track{gap(lastFrame / 300)}, 300), 33333 * 300},
		{slices.Repeat(track{gap(math.MaxInt64), gap(1), gap(math.MaxInt64), gap(1)}, 2), -1},
	} {
		if trackByWords(x.list) != (x.length >= 0) {
			t.Errorf("by the words %v is another thing", shortly(x.list))
		}
		if got := impl.Length(x.list); got != x.length || impl.TrackOk(x.list) != (x.length >= 0) {
			t.Errorf("%v: %d", shortly(x.list), got)
		}
		if x.length < 0 {
			if src, frame := impl.FrameAt(x.list, 0); src != -1 || frame != -1 || len(impl.Joined(x.list)) != 0 {
				t.Errorf("%v is no track", shortly(x.list))
			}
			if len(x.list) < 10 {
				checkRefused(t, x.list, false)
			}
		}
	}
}

// manyClips have no two that go on, with a gap at every tenth place.
func manyClips(n int) track {
	list := track{}
	for i := range n {
		if i%10 == 9 {
			list = append(list, gap(3))
		} else {
			list = append(list, clip(int64(i%500+1), int64(10*i+5), 3))
		}
	}
	return list
}

func TestManyClips(t *testing.T) {
	for _, n := range []int{0, 1, 2, 299, 300, 301, 302, 600} {
		ok := n <= 300
		for _, list := range []track{manyClips(n), slices.Repeat(track{gap(2)}, n), slices.Repeat(track{clip(3, 4, 2)}, n)} {
			checkTrack(t, list)
			if impl.TrackOk(list) != ok {
				t.Errorf("%d clips: %v", n, !ok)
			}
			for _, e := range cutEdits {
				for _, at := range []int64{-1, 0, 1, 2, 3, 149, 298, 299, 300, 301} {
					checkEdit(t, e, list, at, 1, clip(400, 7, 1))
				}
			}
		}
	}
	// One more than MaxClips is no track, though it would be one once Joined.
	for _, c := range []impl.Clip{gap(1), clip(1, 1, 1)} {
		list := track{}
		for i := range int64(301) {
			c.In += min(c.In, 1)
			if list = append(list, c); i == 299 && (!impl.TrackOk(list) || len(impl.Joined(list)) != 1) {
				t.Errorf("300 of %v: %v", c, shortly(impl.Joined(list)))
			}
		}
		checkTrack(t, list)
		if impl.TrackOk(list) || impl.Length(list) != -1 || len(impl.Joined(list)) != 0 {
			t.Errorf("301 of %v are a track", c)
		}
		for _, e := range cutEdits {
			checkEdit(t, e, list, 1, 1, gap(1))
		}
	}
}

func TestFrameAt(t *testing.T) {
	list := track{clip(1, 10, 3), gap(2), gap(1), clip(2, 0, 1), clip(500, lastFrame-2, 2), clip(1, 13, 1)}
	for at, want := range []picture{{1, 10}, {1, 11}, {1, 12}, {}, {}, {}, {2, 0}, {500, lastFrame - 2}, {500, lastFrame - 1}, {1, 13}, {-1, -1}, {-1, -1}} {
		if src, frame := impl.FrameAt(list, int64(at)); (picture{src, frame}) != want {
			t.Errorf("at %d: %d %d, want %v", at, src, frame, want)
		}
	}
	for _, at := range []int64{-1, -2, 11, 1 << 32, 1<<32 + 1, math.MinInt64, math.MaxInt64, math.MinInt64 + 1} {
		if src, frame := impl.FrameAt(list, at); src != -1 || frame != -1 {
			t.Errorf("at %d: %d %d", at, src, frame)
		}
	}
	long := track{clip(1, 0, lastFrame/2), gap(1), clip(2, lastFrame/2+1, lastFrame/2-1)}
	for at, want := range map[int64]picture{
		0: {1, 0}, lastFrame/2 - 1: {1, lastFrame/2 - 1}, lastFrame / 2: {}, lastFrame/2 + 1: {2, lastFrame/2 + 1},
		lastFrame - 1: {2, lastFrame - 1}, lastFrame: {-1, -1}, lastFrame + 1: {-1, -1},
	} {
		if src, frame := impl.FrameAt(long, at); (picture{src, frame}) != want {
			t.Errorf("at %d: %d %d, want %v", at, src, frame, want)
		}
	}
	for _, none := range []track{nil, {}} {
		if src, frame := impl.FrameAt(none, 0); src != -1 || frame != -1 {
			t.Errorf("without clips: %d %d", src, frame)
		}
	}
}

func TestJoined(t *testing.T) {
	half := int64(lastFrame / 2)
	for _, x := range []struct{ list, want track }{
		{nil, nil},
		{track{clip(1, 5, 2)}, track{clip(1, 5, 2)}},
		{track{clip(1, 5, 2), clip(1, 7, 3)}, track{clip(1, 5, 5)}},
		{track{clip(1, 5, 2), clip(1, 7, 3), clip(1, 10, 1)}, track{clip(1, 5, 6)}},
		{track{clip(1, 5, 2), clip(1, 8, 3)}, track{clip(1, 5, 2), clip(1, 8, 3)}},
		{track{clip(1, 5, 2), clip(1, 6, 3)}, track{clip(1, 5, 2), clip(1, 6, 3)}},
		{track{clip(1, 5, 2), clip(1, 5, 2)}, track{clip(1, 5, 2), clip(1, 5, 2)}},
		{track{clip(1, 7, 3), clip(1, 5, 2)}, track{clip(1, 7, 3), clip(1, 5, 2)}},
		{track{clip(1, 5, 2), clip(2, 7, 3)}, track{clip(1, 5, 2), clip(2, 7, 3)}},
		{track{clip(1, 5, 2), clip(2, 7, 3), clip(1, 7, 3)}, track{clip(1, 5, 2), clip(2, 7, 3), clip(1, 7, 3)}},
		{track{clip(1, 5, 2), gap(1), clip(1, 7, 3)}, track{clip(1, 5, 2), gap(1), clip(1, 7, 3)}},
		{track{gap(1), gap(1)}, track{gap(2)}},
		{track{gap(1), gap(4), gap(2), clip(3, 3, 3), gap(1), gap(1)}, track{gap(7), clip(3, 3, 3), gap(2)}},
		{track{gap(2), clip(1, 0, 1), clip(1, 1, 1)}, track{gap(2), clip(1, 0, 2)}},
		{track{gap(2), clip(1, 2, 1)}, track{gap(2), clip(1, 2, 1)}},
		{track{clip(1, 0, 1), gap(1)}, track{clip(1, 0, 1), gap(1)}},
		{track{clip(1, 0, half), clip(1, half, half)}, track{clip(1, 0, lastFrame)}},
		{track{gap(half), gap(half)}, track{gap(lastFrame)}},
		{track{clip(1, 0, 1), clip(1, 1, 0)}, nil},
		{track{gap(1), gap(1), clip(0, 1, 1)}, nil},
		{track{gap(half), gap(half), gap(1)}, nil},
	} {
		if got := impl.Joined(x.list); !slices.Equal(got, x.want) {
			t.Errorf("%v: %v, want %v", x.list, got, x.want)
		}
		if got := impl.Joined(x.want); !slices.Equal(got, x.want) {
			t.Errorf("%v is not Joined: %v", x.want, got)
		}
	}
}

type editCase struct {
	list  track
	at, n int64
	c     impl.Clip
	want  track // nil: nothing and false
}

func checkCases(t *testing.T, name string, cases []editCase) {
	t.Helper()
	e := editNamed(name)
	for _, x := range cases {
		checkAnswer(t, e, x.list, x.at, x.n, x.c, x.want, x.want != nil)
		if lengthByWords(x.list) < 1000 && lengthByWords(x.want) < 1000 && x.c.Len < 1000 {
			checkEdit(t, e, x.list, x.at, x.n, x.c)
		}
	}
}

// someTrack has cuts at 5, 9, 11 and 14, its gap from 5 on.
func someTrack() track {
	return track{clip(1, 10, 5), gap(4), clip(2, 0, 2), clip(1, 20, 3), clip(500, lastFrame-6, 6)}
}

func TestInsert(t *testing.T) {
	list, c := someTrack(), clip(3, 7, 4)
	wide := track{clip(1, 0, lastFrame-4)}
	checkCases(t, "Insert", []editCase{
		{nil, 0, 0, c, track{c}},
		{nil, 0, 0, gap(4), track{gap(4)}},
		{nil, 1, 0, c, nil},
		{nil, -1, 0, c, nil},
		{list, 0, 0, c, slices.Concat(track{c}, list)},
		{list, 20, 0, c, slices.Concat(list, track{c})},
		{list, 21, 0, c, nil},
		{list, -1, 0, c, nil},
		{list, math.MaxInt64, 0, c, nil},
		{list, math.MinInt64, 0, c, nil},
		{list, 5, 0, c, slices.Concat(list[:1], track{c}, list[1:])},
		{list, 11, 0, c, slices.Concat(list[:3], track{c}, list[3:])},
		{list, 2, 0, c, slices.Concat(track{clip(1, 10, 2), c, clip(1, 12, 3)}, list[1:])},
		{list, 6, 0, c, slices.Concat(list[:1], track{gap(1), c, gap(3)}, list[2:])},
		{list, 19, 0, c, slices.Concat(list[:4], track{clip(500, lastFrame-6, 5), c, clip(500, lastFrame-1, 1)})},
		// Clips that go on with what is there, ahead, behind, and on both sides.
		{list, 5, 0, clip(1, 15, 4), slices.Concat(track{clip(1, 10, 9)}, list[1:])},
		{list, 0, 0, clip(1, 6, 4), slices.Concat(track{clip(1, 6, 9)}, list[1:])},
		{track{clip(1, 1, 3), clip(1, 9, 3)}, 3, 0, clip(1, 4, 5), track{clip(1, 1, 11)}},
		{track{clip(1, 1, 3), clip(1, 4, 3)}, 3, 0, c, track{clip(1, 1, 3), c, clip(1, 4, 3)}},
		// A gap beside and within a gap.
		{list, 5, 0, gap(3), slices.Concat(list[:1], track{gap(7)}, list[2:])},
		{list, 9, 0, gap(3), slices.Concat(list[:1], track{gap(7)}, list[2:])},
		{list, 7, 0, gap(3), slices.Concat(list[:1], track{gap(7)}, list[2:])},
		{list, 1, 0, gap(3), slices.Concat(track{clip(1, 10, 1), gap(3), clip(1, 11, 4)}, list[1:])},
		// Clips that are none.
		{list, 5, 0, impl.Clip{}, nil},
		{list, 5, 0, clip(3, 7, 0), nil},
		{list, 5, 0, clip(3, 7, -1), nil},
		{list, 5, 0, clip(0, 7, 4), nil},
		{list, 5, 0, clip(501, 7, 4), nil},
		{list, 5, 0, clip(-1, 7, 4), nil},
		{list, 5, 0, clip(3, -1, 4), nil},
		{list, 5, 0, clip(3, lastFrame-3, 4), nil},
		{list, 5, 0, clip(3, math.MaxInt64, 4), nil},
		{list, 5, 0, clip(3, 7, math.MaxInt64), nil},
		{list, 5, 0, clip(3, 7, math.MinInt64), nil},
		// As many frames as may be, and one more.
		{wide, 0, 0, c, slices.Concat(track{c}, wide)},
		{wide, lastFrame - 4, 0, c, slices.Concat(wide, track{c})},
		{wide, lastFrame - 5, 0, c, track{clip(1, 0, lastFrame-5), c, clip(1, lastFrame-5, 1)}},
		{wide, 0, 0, clip(3, 7, 5), nil},
		{wide, lastFrame - 4, 0, gap(5), nil},
		{track{clip(1, 0, lastFrame)}, 3, 0, gap(1), nil},
		{track{gap(lastFrame)}, 3, 0, gap(1), nil},
		{track{gap(lastFrame)}, lastFrame, 0, clip(1, 1, 1), nil},
		{track{gap(lastFrame - 1)}, 3, 0, gap(1), track{gap(lastFrame)}},
		{nil, 0, 0, clip(1, 0, lastFrame), track{clip(1, 0, lastFrame)}},
		{nil, 0, 0, gap(lastFrame), track{gap(lastFrame)}},
		{track{gap(lastFrame)}, 0, 0, gap(lastFrame), nil},
	})
}

func TestExtract(t *testing.T) {
	list := someTrack()
	wide := track{clip(1, 0, lastFrame)}
	checkCases(t, "Extract", []editCase{
		{list, 0, 5, impl.Clip{}, list[1:]},
		{list, 0, 1, impl.Clip{}, slices.Concat(track{clip(1, 11, 4)}, list[1:])},
		{list, 0, 20, impl.Clip{}, track{}},
		{list, 0, 21, impl.Clip{}, nil},
		{list, 1, 20, impl.Clip{}, nil},
		{list, 20, 1, impl.Clip{}, nil},
		{list, 20, 0, impl.Clip{}, nil},
		{list, 21, 1, impl.Clip{}, nil},
		{list, 21, -1, impl.Clip{}, nil},
		{list, -1, 1, impl.Clip{}, nil},
		{list, -1, 2, impl.Clip{}, nil},
		{list, 19, 1, impl.Clip{}, slices.Concat(list[:4], track{clip(500, lastFrame-6, 5)})},
		{list, 14, 6, impl.Clip{}, list[:4]},
		{list, 5, 4, impl.Clip{}, slices.Concat(list[:1], list[2:])},
		{list, 6, 2, impl.Clip{}, slices.Concat(list[:1], track{gap(2)}, list[2:])},
		{list, 2, 2, impl.Clip{}, slices.Concat(track{clip(1, 10, 2), clip(1, 14, 1)}, list[1:])},
		{list, 3, 9, impl.Clip{}, slices.Concat(track{clip(1, 10, 3), clip(1, 21, 2)}, list[4:])},
		{list, 0, 0, impl.Clip{}, nil},
		{list, 5, 0, impl.Clip{}, nil},
		{list, 5, -1, impl.Clip{}, nil},
		{list, 5, math.MaxInt64, impl.Clip{}, nil},
		{list, 5, math.MinInt64, impl.Clip{}, nil},
		{list, math.MaxInt64, 1, impl.Clip{}, nil},
		{list, math.MaxInt64, math.MaxInt64, impl.Clip{}, nil},
		{list, math.MinInt64, 1, impl.Clip{}, nil},
		{list, math.MinInt64, math.MinInt64, impl.Clip{}, nil},
		{list, math.MinInt64, math.MaxInt64, impl.Clip{}, nil},
		{list, -math.MaxInt64, math.MaxInt64, impl.Clip{}, nil},
		{nil, 0, 0, impl.Clip{}, nil},
		{nil, 0, 1, impl.Clip{}, nil},
		// What comes together goes on.
		{track{clip(1, 1, 3), clip(2, 0, 2), clip(1, 4, 3)}, 3, 2, impl.Clip{}, track{clip(1, 1, 6)}},
		{track{gap(2), clip(2, 0, 2), gap(5)}, 2, 2, impl.Clip{}, track{gap(7)}},
		{track{gap(2), clip(2, 0, 2), gap(5)}, 1, 5, impl.Clip{}, track{gap(4)}},
		{track{clip(1, 1, 3), clip(1, 4, 3)}, 4, 1, impl.Clip{}, track{clip(1, 1, 4), clip(1, 6, 1)}},
		{wide, 0, lastFrame, impl.Clip{}, track{}},
		{wide, 1, lastFrame, impl.Clip{}, nil},
		{wide, 0, lastFrame + 1, impl.Clip{}, nil},
		{wide, 0, lastFrame - 1, impl.Clip{}, track{clip(1, lastFrame-1, 1)}},
		{wide, 1, lastFrame - 2, impl.Clip{}, track{clip(1, 0, 1), clip(1, lastFrame-1, 1)}},
	})
}

func TestLift(t *testing.T) {
	list := someTrack()
	wide := track{clip(1, 0, lastFrame)}
	checkCases(t, "Lift", []editCase{
		{list, 0, 5, impl.Clip{}, slices.Concat(track{gap(9)}, list[2:])},
		{list, 0, 1, impl.Clip{}, slices.Concat(track{gap(1), clip(1, 11, 4)}, list[1:])},
		{list, 0, 20, impl.Clip{}, track{gap(20)}},
		{list, 0, 21, impl.Clip{}, nil},
		{list, 1, 20, impl.Clip{}, nil},
		{list, 20, 1, impl.Clip{}, nil},
		{list, 20, 0, impl.Clip{}, nil},
		{list, 21, 1, impl.Clip{}, nil},
		{list, 21, -1, impl.Clip{}, nil},
		{list, -1, 1, impl.Clip{}, nil},
		{list, -1, 2, impl.Clip{}, nil},
		{list, 19, 1, impl.Clip{}, slices.Concat(list[:4], track{clip(500, lastFrame-6, 5), gap(1)})},
		{list, 14, 6, impl.Clip{}, slices.Concat(list[:4], track{gap(6)})},
		{list, 5, 4, impl.Clip{}, list},
		{list, 6, 2, impl.Clip{}, list},
		{list, 2, 2, impl.Clip{}, slices.Concat(track{clip(1, 10, 2), gap(2), clip(1, 14, 1)}, list[1:])},
		{list, 3, 9, impl.Clip{}, slices.Concat(track{clip(1, 10, 3), gap(9), clip(1, 21, 2)}, list[4:])},
		{list, 0, 0, impl.Clip{}, nil},
		{list, 5, 0, impl.Clip{}, nil},
		{list, 5, -1, impl.Clip{}, nil},
		{list, 5, math.MaxInt64, impl.Clip{}, nil},
		{list, 5, math.MinInt64, impl.Clip{}, nil},
		{list, math.MaxInt64, 1, impl.Clip{}, nil},
		{list, math.MaxInt64, math.MaxInt64, impl.Clip{}, nil},
		{list, math.MinInt64, math.MaxInt64, impl.Clip{}, nil},
		{list, -math.MaxInt64, math.MaxInt64, impl.Clip{}, nil},
		{nil, 0, 0, impl.Clip{}, nil},
		{nil, 0, 1, impl.Clip{}, nil},
		{track{gap(2), clip(2, 0, 2), gap(5)}, 2, 2, impl.Clip{}, track{gap(9)}},
		{track{clip(1, 1, 3), clip(1, 4, 3)}, 4, 1, impl.Clip{}, track{clip(1, 1, 4), gap(1), clip(1, 6, 1)}},
		{wide, 0, lastFrame, impl.Clip{}, track{gap(lastFrame)}},
		{wide, 1, lastFrame, impl.Clip{}, nil},
		{wide, 0, lastFrame + 1, impl.Clip{}, nil},
		{wide, 0, lastFrame - 1, impl.Clip{}, track{gap(lastFrame - 1), clip(1, lastFrame-1, 1)}},
		{wide, 1, 1, impl.Clip{}, track{clip(1, 0, 1), gap(1), clip(1, 2, lastFrame-2)}},
	})
}

func TestOverwrite(t *testing.T) {
	list, c := someTrack(), clip(3, 7, 4)
	wide := track{clip(1, 0, lastFrame-4)}
	full := track{clip(1, 0, lastFrame)}
	checkCases(t, "Overwrite", []editCase{
		{nil, 0, 0, c, track{c}},
		{nil, 0, 0, gap(4), track{gap(4)}},
		{nil, 1, 0, c, nil},
		{nil, -1, 0, c, nil},
		{list, 0, 0, c, slices.Concat(track{c, clip(1, 14, 1)}, list[1:])},
		{list, 1, 0, c, slices.Concat(track{clip(1, 10, 1), c}, list[1:])},
		{list, 0, 0, clip(3, 7, 20), track{clip(3, 7, 20)}},
		{list, 0, 0, clip(3, 7, 21), track{clip(3, 7, 21)}},
		{list, 0, 0, clip(3, 7, 19), track{clip(3, 7, 19), clip(500, lastFrame-1, 1)}},
		// At the length and behind the end.
		{list, 20, 0, c, slices.Concat(list, track{c})},
		{list, 21, 0, c, nil},
		{list, -1, 0, c, nil},
		{list, -4, 0, c, nil},
		{list, math.MaxInt64, 0, c, nil},
		{list, math.MinInt64, 0, c, nil},
		{list, math.MinInt64 + 1, 0, clip(3, 7, math.MaxInt64), nil},
		{list, 16, 0, c, slices.Concat(list[:4], track{clip(500, lastFrame-6, 2), c})},
		{list, 17, 0, c, slices.Concat(list[:4], track{clip(500, lastFrame-6, 3), c})},
		{list, 19, 0, c, slices.Concat(list[:4], track{clip(500, lastFrame-6, 5), c})},
		{list, 5, 0, c, slices.Concat(list[:1], track{c}, list[2:])},
		{list, 6, 0, clip(3, 7, 2), slices.Concat(list[:1], track{gap(1), clip(3, 7, 2), gap(1)}, list[2:])},
		{list, 2, 0, clip(3, 7, 1), slices.Concat(track{clip(1, 10, 2), clip(3, 7, 1), clip(1, 13, 2)}, list[1:])},
		{list, 3, 0, clip(3, 7, 9), slices.Concat(track{clip(1, 10, 3), clip(3, 7, 9), clip(1, 21, 2)}, list[4:])},
		{list, 3, 0, clip(1, 13, 9), slices.Concat(track{clip(1, 10, 12), clip(1, 21, 2)}, list[4:])},
		// What is there already, and what goes on with it.
		{list, 1, 0, clip(1, 11, 3), list},
		{list, 9, 0, clip(2, 0, 2), list},
		{list, 9, 0, clip(1, 18, 2), slices.Concat(list[:2], track{clip(1, 18, 5)}, list[4:])},
		{list, 9, 0, gap(2), slices.Concat(list[:1], track{gap(6)}, list[3:])},
		{list, 5, 0, gap(4), list},
		{track{clip(1, 1, 3), gap(2), clip(1, 6, 3)}, 3, 0, clip(1, 4, 2), track{clip(1, 1, 8)}},
		{list, 5, 0, impl.Clip{}, nil},
		{list, 5, 0, clip(3, 7, 0), nil},
		{list, 5, 0, clip(3, 7, -1), nil},
		{list, 5, 0, clip(0, 7, 4), nil},
		{list, 5, 0, clip(501, 7, 4), nil},
		{list, 5, 0, clip(-1, 7, 4), nil},
		{list, 5, 0, clip(3, -1, 4), nil},
		{list, 5, 0, clip(3, lastFrame-3, 4), nil},
		{list, 5, 0, clip(3, 7, math.MaxInt64), nil},
		{list, 5, 0, clip(3, 7, math.MinInt64), nil},
		// As many frames as may be, and one more.
		{wide, lastFrame - 4, 0, c, slices.Concat(wide, track{c})},
		{wide, lastFrame - 4, 0, clip(3, 7, 5), nil},
		{wide, lastFrame - 5, 0, clip(3, 7, 5), track{clip(1, 0, lastFrame-5), clip(3, 7, 5)}},
		{wide, lastFrame - 5, 0, clip(3, 7, 6), nil},
		{wide, lastFrame - 4, 0, clip(1, lastFrame-4, 4), full},
		{full, lastFrame, 0, gap(1), nil},
		{full, lastFrame - 1, 0, gap(1), track{clip(1, 0, lastFrame-1), gap(1)}},
		{full, lastFrame - 1, 0, gap(2), nil},
		{full, 0, 0, gap(lastFrame), track{gap(lastFrame)}},
		{full, 1, 0, gap(lastFrame), nil},
		{full, 0, 0, clip(2, 0, lastFrame), track{clip(2, 0, lastFrame)}},
		{nil, 0, 0, clip(2, 0, lastFrame), track{clip(2, 0, lastFrame)}},
	})
}

// With as many clips as may be, what would be more of them is refused, and what is not more once Joined is not.
func TestEditsOfManyClips(t *testing.T) {
	list := manyClips(300)
	at := int64(3 * 150) // where clip 150 begins; the one ahead is a gap
	x := list[150]
	split := func(i int, in ...impl.Clip) track { return slices.Concat(list[:i], in, list[i+1:]) }
	none := impl.Clip{}
	checkCases(t, "Insert", []editCase{
		{list, 0, 0, clip(400, 0, 1), nil},
		{list, at, 0, clip(400, 0, 1), nil},
		{list, at + 1, 0, clip(400, 0, 1), nil},
		{list, 900, 0, clip(400, 0, 1), nil},
		{list, at, 0, gap(2), split(149, gap(5))},
		{list, at - 1, 0, gap(2), split(149, gap(5))},
		{list, at, 0, clip(x.Src, x.In-2, 2), split(150, clip(x.Src, x.In-2, 5))},
		{list, at + 3, 0, clip(x.Src, x.In+3, 2), split(150, clip(x.Src, x.In, 5))},
		{list, at + 1, 0, clip(x.Src, x.In+1, 2), nil},
		{list[:299], 0, 0, clip(400, 0, 1), slices.Concat(track{clip(400, 0, 1)}, list[:299])},
		{list[:299], at, 0, clip(400, 0, 1), slices.Concat(list[:150], track{clip(400, 0, 1)}, list[150:299])},
		{list[:299], at + 1, 0, clip(400, 0, 1), nil},
		{list[:298], at + 1, 0, clip(400, 0, 1), slices.Concat(list[:150], track{clip(x.Src, x.In, 1), clip(400, 0, 1), clip(x.Src, x.In+1, 2)}, list[151:298])},
		{list[:299], at + 1, 0, clip(x.Src, x.In+1, 2), slices.Concat(list[:150], track{clip(x.Src, x.In, 3), clip(x.Src, x.In+1, 2)}, list[151:299])},
	})
	checkCases(t, "Extract", []editCase{
		{list, at + 1, 1, none, nil},
		{list, at, 1, none, split(150, clip(x.Src, x.In+1, 2))},
		{list, at + 2, 1, none, split(150, clip(x.Src, x.In, 2))},
		{list, at, 3, none, split(150)},
		{list, at - 2, 1, none, split(149, gap(2))},
		{list[:299], at + 1, 1, none, slices.Concat(list[:150], track{clip(x.Src, x.In, 1), clip(x.Src, x.In+2, 1)}, list[151:299])},
	})
	checkCases(t, "Lift", []editCase{
		{list, at + 1, 1, none, nil},
		{list, at + 2, 1, none, nil},
		{list, at, 1, none, slices.Concat(list[:149], track{gap(4), clip(x.Src, x.In+1, 2)}, list[151:])},
		{list, at, 3, none, slices.Concat(list[:149], track{gap(6)}, list[151:])},
		{list, at + 3, 3, none, split(151, gap(3))},
		{list, at + 2, 3, none, nil},
		{list[:299], at + 2, 1, none, slices.Concat(list[:150], track{clip(x.Src, x.In, 2), gap(1)}, list[151:299])},
		{list[:298], at + 1, 1, none, slices.Concat(list[:150], track{clip(x.Src, x.In, 1), gap(1), clip(x.Src, x.In+2, 1)}, list[151:298])},
		{list[:299], at + 1, 1, none, nil},
	})
	checkCases(t, "Overwrite", []editCase{
		{list, at + 1, 0, clip(400, 0, 1), nil},
		{list, at + 2, 0, clip(400, 0, 1), nil},
		{list, at, 0, clip(400, 0, 3), split(150, clip(400, 0, 3))},
		{list, at, 0, clip(400, 0, 2), nil},
		{list, at + 1, 0, clip(x.Src, x.In+1, 1), list},
		{list, at + 1, 0, clip(x.Src, x.In+1, 2), list},
		{list, at - 2, 0, gap(1), list},
		{list, 900, 0, clip(400, 0, 1), nil},
		{list, 900, 0, gap(1), split(299, gap(4))},
		{list, 899, 0, clip(400, 0, 1), nil},
		{list, 897, 0, clip(400, 0, 9), split(299, clip(400, 0, 9))},
		{list[:299], 897, 0, clip(400, 0, 1), slices.Concat(list[:299], track{clip(400, 0, 1)})},
		{list[:298], at + 1, 0, clip(400, 0, 1), slices.Concat(list[:150], track{clip(x.Src, x.In, 1), clip(400, 0, 1), clip(x.Src, x.In+2, 1)}, list[151:298])},
	})
	// Of 300 clips, each two go on: there is room for as many again.
	pairs := track{}
	for i := range int64(150) {
		pairs = append(pairs, clip(i+1, 10, 2), clip(i+1, 12, 2))
	}
	for _, e := range cutEdits {
		for at := range int64(20) {
			checkEdit(t, e, pairs, at, 1, clip(400, 0, 1))
		}
		for _, at := range []int64{297, 298, 299, 300, 597, 598, 599, 600} {
			checkEdit(t, e, pairs, at, 1, clip(400, 0, 1))
		}
	}
	if got, ok := impl.Insert(pairs, 1, clip(400, 0, 1)); !ok || len(got) != 152 {
		t.Error(ok, len(got))
	}
	if got, ok := impl.Roll(pairs, 0, 1); !ok || len(got) != 150 {
		t.Error(ok, len(got))
	}
	if got, ok := impl.Slip(pairs, 0, 1); !ok || len(got) != 151 {
		t.Error(ok, len(got))
	}
}

func TestRoll(t *testing.T) {
	none := impl.Clip{}
	list := track{clip(1, 10, 5), clip(2, 3, 4), gap(2), clip(3, 0, 3), clip(4, 9, 3), clip(5, 2, 1)}
	rolled := func(i int, one, other impl.Clip) track {
		return slices.Concat(list[:i], track{one, other}, list[i+2:])
	}
	checkCases(t, "Roll", []editCase{
		{list, 0, 0, none, list},
		{list, 0, 1, none, rolled(0, clip(1, 10, 6), clip(2, 4, 3))},
		// A frame at least stays of each.
		{list, 0, 3, none, rolled(0, clip(1, 10, 8), clip(2, 6, 1))},
		{list, 0, 4, none, nil},
		{list, 0, 5, none, nil},
		{list, 0, -1, none, rolled(0, clip(1, 10, 4), clip(2, 2, 5))},
		// The source's first frame comes first here,
		{list, 0, -3, none, rolled(0, clip(1, 10, 2), clip(2, 0, 7))},
		{list, 0, -4, none, nil},
		{list, 0, -5, none, nil},
		// and here the last frame that must be kept.
		{list, 3, -2, none, rolled(3, clip(3, 0, 1), clip(4, 7, 5))},
		{list, 3, -3, none, nil},
		{list, 3, -4, none, nil},
		// At the gap, beside it, and at what is no cut between two.
		{list, 1, 1, none, nil},
		{list, 1, 0, none, nil},
		{list, 1, -1, none, nil},
		{list, 2, 1, none, nil},
		{list, 2, 0, none, nil},
		{list, 2, -1, none, nil},
		{list, 4, 0, none, list},
		{list, 4, -1, none, rolled(4, clip(4, 9, 2), clip(5, 1, 2))},
		{list, 4, 1, none, nil},
		{list, 5, 0, none, nil},
		{list, 5, -1, none, nil},
		{list, 6, 0, none, nil},
		{list, -1, 0, none, nil},
		{list, -1, 1, none, nil},
		{list, math.MaxInt64, 1, none, nil},
		{list, math.MaxInt64, 0, none, nil},
		{list, math.MinInt64, 1, none, nil},
		{list, 1 << 32, 0, none, nil},
		{list, 0, math.MaxInt64, none, nil},
		{list, 0, math.MinInt64, none, nil},
		{list, 0, math.MaxInt64 - 4, none, nil},
		{list, 0, math.MinInt64 + 4, none, nil},
		{list, 0, lastFrame + 1, none, nil},
		{list, 0, -lastFrame - 1, none, nil},
		{nil, 0, 0, none, nil},
		{track{clip(1, 1, 1)}, 0, 0, none, nil},
		{track{clip(1, 1, 1)}, -1, 0, none, nil},
		// Up to the end of the source, and one past it.
		{track{clip(1, lastFrame-5, 3), clip(2, 0, 9)}, 0, 2, none, track{clip(1, lastFrame-5, 5), clip(2, 2, 7)}},
		{track{clip(1, lastFrame-5, 3), clip(2, 0, 9)}, 0, 3, none, nil},
		{track{clip(1, lastFrame-5, 3), clip(2, lastFrame-9, 9)}, 0, -2, none, track{clip(1, lastFrame-5, 1), clip(2, lastFrame-11, 11)}},
		{track{clip(1, 0, lastFrame/2), clip(2, lastFrame/2, lastFrame/2)}, 0, lastFrame/2 - 1, none, track{clip(1, 0, lastFrame-1), clip(2, lastFrame-1, 1)}},
		{track{clip(1, 0, lastFrame/2), clip(2, lastFrame/2, lastFrame/2)}, 0, lastFrame / 2, none, nil},
		{track{clip(1, 0, lastFrame/2), clip(2, lastFrame/2, lastFrame/2)}, 0, 1 - lastFrame/2, none, track{clip(1, 0, 1), clip(2, 1, lastFrame-1)}},
		{track{clip(1, 0, lastFrame/2), clip(2, lastFrame/2, lastFrame/2)}, 0, -lastFrame / 2, none, nil},
		// The clips are those of the track as it is given; what comes is Joined.
		{track{clip(1, 0, 2), clip(1, 2, 2), clip(2, 5, 4)}, 1, 1, none, track{clip(1, 0, 5), clip(2, 6, 3)}},
		{track{clip(1, 0, 2), clip(1, 2, 2), clip(2, 5, 4)}, 1, -1, none, track{clip(1, 0, 3), clip(2, 4, 5)}},
		{track{clip(1, 0, 2), clip(1, 2, 2), clip(2, 5, 4)}, 1, -2, none, nil},
		{track{clip(1, 0, 2), clip(1, 2, 2), clip(2, 5, 4)}, 0, 1, none, track{clip(1, 0, 4), clip(2, 5, 4)}},
		{track{gap(1), gap(1), clip(1, 0, 2), clip(2, 5, 4)}, 2, 1, none, track{gap(2), clip(1, 0, 3), clip(2, 6, 3)}},
		{track{gap(1), gap(1), clip(1, 0, 2), clip(2, 5, 4)}, 1, 1, none, nil},
		{track{gap(1), gap(1), clip(1, 0, 2), clip(2, 5, 4)}, 0, 0, none, nil},
	})
}

func TestSlip(t *testing.T) {
	none := impl.Clip{}
	list := track{clip(1, 10, 5), clip(2, 3, 4), gap(2), clip(500, lastFrame-7, 3)}
	slipped := func(i int, c impl.Clip) track { return slices.Concat(list[:i], track{c}, list[i+1:]) }
	checkCases(t, "Slip", []editCase{
		{list, 0, 0, none, list},
		{list, 0, 1, none, slipped(0, clip(1, 11, 5))},
		{list, 0, -1, none, slipped(0, clip(1, 9, 5))},
		{list, 0, -10, none, slipped(0, clip(1, 0, 5))},
		{list, 0, -11, none, nil},
		{list, 0, lastFrame - 15, none, slipped(0, clip(1, lastFrame-5, 5))},
		{list, 0, lastFrame - 14, none, nil},
		{list, 1, -3, none, slipped(1, clip(2, 0, 4))},
		{list, 1, -4, none, nil},
		{list, 2, 0, none, nil},
		{list, 2, 1, none, nil},
		{list, 2, -1, none, nil},
		{list, 3, 4, none, slipped(3, clip(500, lastFrame-3, 3))},
		{list, 3, 5, none, nil},
		{list, 3, 7 - lastFrame, none, slipped(3, clip(500, 0, 3))},
		{list, 3, 6 - lastFrame, none, nil},
		{list, 4, 0, none, nil},
		{list, -1, 0, none, nil},
		{list, math.MaxInt64, 0, none, nil},
		{list, math.MinInt64, 0, none, nil},
		{list, 0, math.MaxInt64, none, nil},
		{list, 0, math.MinInt64, none, nil},
		{list, 0, math.MaxInt64 - 9, none, nil},
		{nil, 0, 0, none, nil},
		{track{clip(1, 0, lastFrame)}, 0, 0, none, track{clip(1, 0, lastFrame)}},
		{track{clip(1, 0, lastFrame)}, 0, 1, none, nil},
		{track{clip(1, 0, lastFrame)}, 0, -1, none, nil},
		{track{clip(1, 0, 1)}, 0, lastFrame - 1, none, track{clip(1, lastFrame-1, 1)}},
		{track{clip(1, 0, 1)}, 0, lastFrame, none, nil},
		{track{clip(1, lastFrame-1, 1)}, 0, 1 - lastFrame, none, track{clip(1, 0, 1)}},
		{track{clip(1, lastFrame-1, 1)}, 0, -lastFrame, none, nil},
		// It may go on with its neighbours then, or no longer.
		{track{clip(1, 0, 2), clip(1, 5, 2), clip(1, 8, 2)}, 1, -3, none, track{clip(1, 0, 4), clip(1, 8, 2)}},
		{track{clip(1, 0, 2), clip(1, 5, 2), clip(1, 8, 2)}, 1, 1, none, track{clip(1, 0, 2), clip(1, 6, 4)}},
		{track{clip(1, 0, 2), clip(1, 2, 2), clip(1, 4, 2)}, 1, 1, none, track{clip(1, 0, 2), clip(1, 3, 2), clip(1, 4, 2)}},
		{track{gap(1), gap(1), clip(1, 2, 2)}, 2, 1, none, track{gap(2), clip(1, 3, 2)}},
		{track{gap(1), gap(1), clip(1, 2, 2)}, 1, 1, none, nil},
	})
}

func TestSlide(t *testing.T) {
	none := impl.Clip{}
	list := track{clip(1, 10, 5), clip(2, 3, 4), clip(3, 3, 6), clip(4, 9, 3)}
	slid := func(i int, ahead, behind impl.Clip) track {
		return slices.Concat(list[:i-1], track{ahead, list[i], behind}, list[i+2:])
	}
	checkCases(t, "Slide", []editCase{
		{list, 1, 0, none, list},
		{list, 1, 1, none, slid(1, clip(1, 10, 6), clip(3, 4, 5))},
		{list, 1, 5, none, slid(1, clip(1, 10, 10), clip(3, 8, 1))},
		{list, 1, 6, none, nil},
		{list, 1, -1, none, slid(1, clip(1, 10, 4), clip(3, 2, 7))},
		{list, 1, -3, none, slid(1, clip(1, 10, 2), clip(3, 0, 9))},
		{list, 1, -4, none, nil},
		{list, 2, -3, none, slid(2, clip(2, 3, 1), clip(4, 6, 6))},
		{list, 2, -4, none, nil},
		{list, 2, 2, none, slid(2, clip(2, 3, 6), clip(4, 11, 1))},
		{list, 2, 3, none, nil},
		// The first and the last have no neighbour on one side.
		{list, 0, 0, none, nil},
		{list, 0, 1, none, nil},
		{list, 3, 0, none, nil},
		{list, 3, -1, none, nil},
		{list, 4, 0, none, nil},
		{list, 4, -1, none, nil},
		{list, 5, 0, none, nil},
		{list, -1, 0, none, nil},
		{list, -2, 0, none, nil},
		{list, math.MaxInt64, 0, none, nil},
		{list, math.MinInt64, 0, none, nil},
		{list, math.MinInt64, 1, none, nil},
		{list, 1, math.MaxInt64, none, nil},
		{list, 1, math.MinInt64, none, nil},
		{list, 1, lastFrame + 1, none, nil},
		{nil, 0, 0, none, nil},
		{track{clip(1, 1, 1)}, 0, 0, none, nil},
		{track{clip(1, 1, 1), clip(2, 1, 1)}, 0, 0, none, nil},
		{track{clip(1, 1, 1), clip(2, 1, 1)}, 1, 0, none, nil},
		// A gap ahead or behind bars it; a gap itself may move.
		{track{gap(2), clip(2, 1, 1), clip(3, 3, 3)}, 1, 0, none, nil},
		{track{gap(2), clip(2, 1, 1), clip(3, 3, 3)}, 1, 1, none, nil},
		{track{clip(3, 3, 3), clip(2, 1, 1), gap(2)}, 1, 0, none, nil},
		{track{clip(3, 3, 3), clip(2, 1, 1), gap(2)}, 1, -1, none, nil},
		{track{clip(3, 3, 3), gap(2), clip(2, 1, 2)}, 1, -1, none, track{clip(3, 3, 2), gap(2), clip(2, 0, 3)}},
		{track{clip(3, 3, 3), gap(2), clip(2, 1, 2)}, 1, 1, none, track{clip(3, 3, 4), gap(2), clip(2, 2, 1)}},
		{track{gap(1), clip(3, 3, 3), clip(4, 0, 1), clip(2, 1, 2), gap(1)}, 2, 1, none, track{gap(1), clip(3, 3, 4), clip(4, 0, 1), clip(2, 2, 1), gap(1)}},
		// Up to the end of the source ahead, and one past it.
		{track{clip(1, lastFrame-5, 3), clip(2, 1, 1), clip(3, 0, 9)}, 1, 2, none, track{clip(1, lastFrame-5, 5), clip(2, 1, 1), clip(3, 2, 7)}},
		{track{clip(1, lastFrame-5, 3), clip(2, 1, 1), clip(3, 0, 9)}, 1, 3, none, nil},
		// It may go on with a neighbour then.
		{track{clip(1, 0, 2), clip(1, 5, 2), clip(2, 0, 9)}, 1, 3, none, track{clip(1, 0, 7), clip(2, 3, 6)}},
		{track{clip(2, 0, 9), clip(1, 0, 2), clip(1, 5, 2)}, 1, -3, none, track{clip(2, 0, 6), clip(1, 0, 7)}},
		{track{clip(1, 0, 2), clip(1, 2, 2), clip(1, 4, 2)}, 1, 1, none, track{clip(1, 0, 3), clip(1, 2, 2), clip(1, 5, 1)}},
	})
}

func TestRipple(t *testing.T) {
	none := impl.Clip{}
	list := track{clip(1, 10, 5), gap(2), clip(500, lastFrame-7, 3)}
	full := track{clip(1, 0, lastFrame/2), clip(2, 0, lastFrame/2)}
	checkCases(t, "Ripple", []editCase{
		{list, 0, 0, none, list},
		{list, 0, 1, none, slices.Concat(track{clip(1, 10, 6)}, list[1:])},
		{list, 0, -1, none, slices.Concat(track{clip(1, 10, 4)}, list[1:])},
		{list, 0, -4, none, slices.Concat(track{clip(1, 10, 1)}, list[1:])},
		{list, 0, -5, none, nil},
		{list, 0, -6, none, nil},
		{list, 1, 0, none, nil},
		{list, 1, 1, none, nil},
		{list, 1, -1, none, nil},
		{list, 2, 4, none, slices.Concat(list[:2], track{clip(500, lastFrame-7, 7)})},
		{list, 2, 5, none, nil},
		{list, 2, -2, none, slices.Concat(list[:2], track{clip(500, lastFrame-7, 1)})},
		{list, 2, -3, none, nil},
		{list, 3, 0, none, nil},
		{list, -1, 0, none, nil},
		{list, math.MaxInt64, 0, none, nil},
		{list, math.MinInt64, 0, none, nil},
		{list, 0, math.MaxInt64, none, nil},
		{list, 0, math.MinInt64, none, nil},
		{list, 0, math.MaxInt64 - 4, none, nil},
		{nil, 0, 0, none, nil},
		// Up to the end of the source, of the track, and one past each.
		{track{clip(1, 0, 1)}, 0, lastFrame - 1, none, track{clip(1, 0, lastFrame)}},
		{track{clip(1, 0, 1)}, 0, lastFrame, none, nil},
		{track{clip(1, 1, 1)}, 0, lastFrame - 2, none, track{clip(1, 1, lastFrame-1)}},
		{track{clip(1, 1, 1)}, 0, lastFrame - 1, none, nil},
		{track{clip(1, 0, 1), gap(1)}, 0, lastFrame - 2, none, track{clip(1, 0, lastFrame-1), gap(1)}},
		{track{clip(1, 0, 1), gap(1)}, 0, lastFrame - 1, none, nil},
		{track{clip(1, 0, lastFrame)}, 0, 1 - lastFrame, none, track{clip(1, 0, 1)}},
		{track{clip(1, 0, lastFrame)}, 0, -lastFrame, none, nil},
		{full, 0, 0, none, full},
		{full, 0, 1, none, nil},
		{full, 1, 1, none, nil},
		{full, 0, -1, none, track{clip(1, 0, lastFrame/2-1), clip(2, 0, lastFrame/2)}},
		// It may go on with the next one then, or no longer.
		{track{clip(1, 0, 2), clip(1, 5, 2)}, 0, 3, none, track{clip(1, 0, 7)}},
		{track{clip(1, 0, 2), clip(1, 2, 2)}, 0, 1, none, track{clip(1, 0, 3), clip(1, 2, 2)}},
		{track{clip(1, 0, 2), clip(1, 2, 2), clip(1, 4, 2)}, 2, 1, none, track{clip(1, 0, 7)}},
		{track{gap(1), gap(1), clip(1, 2, 2)}, 2, 1, none, track{gap(2), clip(1, 2, 3)}},
		{track{gap(1), gap(1), clip(1, 2, 2)}, 1, 1, none, nil},
	})
}

// Every list of up to three of these clips, at every place, by every number that could matter.
func TestEditsOfAllShapes(t *testing.T) {
	shapes := track{gap(1), gap(2), clip(1, 0, 1), clip(1, 1, 2), clip(1, 3, 3), clip(2, 3, 2), clip(2, lastFrame-3, 2), clip(0, 1, 1)}
	comes := track{gap(1), gap(3), clip(1, 1, 2), clip(1, 2, 1), clip(2, lastFrame-3, 3), clip(2, lastFrame-3, 4), clip(3, 0, 8), clip(3, 0, 0)}
	var lists func(list track)
	lists = func(list track) {
		checkTrack(t, list)
		for at := int64(-1); at <= min(lengthByWords(list), 9)+1; at++ {
			for _, e := range cutEdits {
				if e.hasClip {
					for _, c := range comes {
						checkEdit(t, e, list, at, 0, c)
					}
					continue
				}
				for n := int64(-4); n <= 4; n++ {
					checkEdit(t, e, list, at, n, impl.Clip{})
				}
			}
		}
		if len(list) < 3 {
			for _, c := range shapes {
				lists(append(slices.Clip(list), c))
			}
		}
	}
	lists(nil)
}

// randomTrack has few sources and short clips, so that many go on with one another.
func randomTrack(r *rand.Rand) track {
	list := track{}
	next := clip(1, 5, 1)
	for range r.Intn(9) {
		c := clip(int64(r.Intn(3)), int64(r.Intn(7)), int64(1+r.Intn(5)))
		switch r.Intn(5) {
		case 0:
			c = clip(next.Src, next.In+next.Len, c.Len)
		case 1:
			c.In = lastFrame - c.Len - int64(r.Intn(3))
		}
		if c.Src == 0 {
			c.In = 0
		}
		if clipByWords(c) {
			list = append(list, c)
			next = c
		}
	}
	return list
}

func randomClip(r *rand.Rand) impl.Clip {
	c := clip(int64(r.Intn(3)), int64(r.Intn(9)), int64(1+r.Intn(6)))
	if c.Src == 0 {
		c.In = 0
	}
	return c
}

func TestEditsAtRandom(t *testing.T) {
	r := rand.New(rand.NewSource(12))
	great := []int64{lastFrame, -lastFrame, math.MaxInt64, math.MinInt64, 1 << 32, -1 << 32}
	for range 4000 {
		list, c := randomTrack(r), randomClip(r)
		checkTrack(t, list)
		for _, e := range cutEdits {
			at := int64(r.Intn(len(list) + 2))
			if e.hasClip || r.Intn(3) == 0 {
				at = int64(r.Intn(int(lengthByWords(list)) + 2))
			}
			n := int64(r.Intn(12) - 5)
			checkEdit(t, e, list, at, n, c)
			checkEdit(t, e, list, at, great[r.Intn(len(great))], c)
			checkEdit(t, e, list, great[r.Intn(len(great))], n, c)
		}
	}
}

func frameAt(list track, at int64) picture {
	src, frame := impl.FrameAt(list, at)
	return picture{src, frame}
}

// checkSame: from the two places on, as many frames are the same.
func checkSame(t *testing.T, what string, old track, at int64, new track, to, n int64) {
	t.Helper()
	for i := range n {
		if frameAt(old, at+i) != frameAt(new, to+i) || at+i >= impl.Length(old) {
			t.Fatalf("%s: frame %d of %v is not frame %d of %v", what, at+i, old, to+i, new)
		}
	}
}

// Promise 4, by the chapter's own functions alone.
func TestWhatComesInGoesOut(t *testing.T) {
	r := rand.New(rand.NewSource(13))
	done := map[string]int{}
	for range 6000 {
		list, c := randomTrack(r), randomClip(r)
		length := impl.Length(list)
		at := int64(r.Intn(int(length) + 1))
		n := int64(r.Intn(6))
		if in, ok := impl.Insert(list, at, c); ok {
			done["Insert"]++
			checkSame(t, "Insert", list, 0, in, 0, at)
			checkSame(t, "Insert", track{c}, 0, in, at, c.Len)
			checkSame(t, "Insert", list, at, in, at+c.Len, length-at)
			if out, ok := impl.Extract(in, at, c.Len); !ok || !slices.Equal(out, impl.Joined(list)) || impl.Length(in) != length+c.Len {
				t.Fatalf("%v in and out of %v at %d: %v %v", c, list, at, out, ok)
			}
		} else {
			t.Fatalf("Insert of %v at %d of %v", c, at, list)
		}
		out, ok := impl.Extract(list, at, n)
		if ok != (n >= 1 && at+n <= length) {
			t.Fatalf("Extract of %d at %d of %v: %v", n, at, list, ok)
		}
		if ok {
			done["Extract"]++
			checkSame(t, "Extract", list, 0, out, 0, at)
			checkSame(t, "Extract", list, at+n, out, at, length-at-n)
			if impl.Length(out) != length-n {
				t.Fatalf("Extract of %d at %d of %v: %v", n, at, list, out)
			}
		}
		if up, ok := impl.Lift(list, at, n); ok {
			done["Lift"]++
			checkSame(t, "Lift", list, 0, up, 0, at)
			checkSame(t, "Lift", track{gap(n)}, 0, up, at, n)
			checkSame(t, "Lift", list, at+n, up, at+n, length-at-n)
			if impl.Length(up) != length {
				t.Fatalf("Lift of %d at %d of %v: %v", n, at, list, up)
			}
		}
		if over, ok := impl.Overwrite(list, at, c); ok {
			done["Overwrite"]++
			end := max(length, at+c.Len)
			checkSame(t, "Overwrite", list, 0, over, 0, at)
			checkSame(t, "Overwrite", track{c}, 0, over, at, c.Len)
			checkSame(t, "Overwrite", list, at+c.Len, over, at+c.Len, end-at-c.Len)
			if impl.Length(over) != end {
				t.Fatalf("Overwrite of %v at %d of %v: %v", c, at, list, over)
			}
		}
	}
	if len(done) != 4 || min(done["Insert"], done["Extract"], done["Lift"], done["Overwrite"]) < 500 {
		t.Error("too few were done:", done)
	}
}

// clipEnding is the clip that ends at a frame, -1 when there is no cut or end there.
func clipEnding(list track, at int64) int64 {
	for i, c := range list {
		if at -= c.Len; at == 0 {
			return int64(i)
		}
	}
	return -1
}

// Promise 5, and of promise 4 that nothing else is changed, by the chapter's own functions alone.
func TestWhatIsMovedComesBack(t *testing.T) {
	r := rand.New(rand.NewSource(14))
	done := map[string]int{}
	back := func(name string, list, moved track, i, n int64) {
		t.Helper()
		if i < 0 {
			return
		}
		done[name]++
		if got, ok := editNamed(name).do(moved, i, -n, impl.Clip{}); !ok || !slices.Equal(got, impl.Joined(list)) {
			t.Fatalf("%s of %v gave %v; back at %d by %d: %v %v", name, list, moved, i, -n, got, ok)
		}
	}
	for range 20000 {
		list := randomTrack(r)
		if len(list) == 0 {
			continue
		}
		i := int64(r.Intn(len(list)))
		n := int64(r.Intn(9) - 4)
		length, begin := lengthByWords(list), lengthByWords(list[:i])
		end := begin + list[i].Len
		if moved, ok := impl.Roll(list, i, n); ok {
			first, last := min(end, end+n), max(end, end+n)
			checkSame(t, "Roll", list, 0, moved, 0, first)
			checkSame(t, "Roll", list, last, moved, last, length-last)
			if impl.Length(moved) != length {
				t.Fatalf("Roll of %v: %v", list, moved)
			}
			back("Roll", list, moved, clipEnding(moved, end+n), n)
		}
		if moved, ok := impl.Slip(list, i, n); ok {
			checkSame(t, "Slip", list, 0, moved, 0, begin)
			checkSame(t, "Slip", list, end, moved, end, length-end)
			if impl.Length(moved) != length {
				t.Fatalf("Slip of %v: %v", list, moved)
			}
			if j := clipEnding(moved, end); j >= 0 && moved[j].Len == list[i].Len {
				back("Slip", list, moved, j, n)
			}
		}
		if moved, ok := impl.Slide(list, i, n); ok {
			first, last := min(begin, begin+n), max(end, end+n)
			checkSame(t, "Slide", list, 0, moved, 0, first)
			checkSame(t, "Slide", list, begin, moved, begin+n, list[i].Len)
			checkSame(t, "Slide", list, last, moved, last, length-last)
			if impl.Length(moved) != length {
				t.Fatalf("Slide of %v: %v", list, moved)
			}
			if j := clipEnding(moved, end+n); j >= 0 && moved[j].Len == list[i].Len {
				back("Slide", list, moved, j, n)
			}
		}
		if moved, ok := impl.Ripple(list, i, n); ok {
			checkSame(t, "Ripple", list, 0, moved, 0, min(end, end+n))
			checkSame(t, "Ripple", list, end, moved, end+n, length-end)
			if impl.Length(moved) != length+n {
				t.Fatalf("Ripple of %v: %v", list, moved)
			}
			back("Ripple", list, moved, clipEnding(moved, end+n), n)
		}
	}
	if len(done) != 4 || min(done["Roll"], done["Slip"], done["Slide"], done["Ripple"]) < 500 {
		t.Error("too few came back:", done)
	}
}

// An edit on the answer of another one leaves that answer as it was.
func TestEditsOnAnswers(t *testing.T) {
	r := rand.New(rand.NewSource(15))
	for range 300 {
		list := track{}
		var kept []track
		var answers []track
		for range 25 {
			e := cutEdits[r.Intn(len(cutEdits))]
			at := int64(r.Intn(int(lengthByWords(list)) + 1))
			next, ok := e.do(list, at, int64(r.Intn(7)-2), randomClip(r))
			if !ok {
				continue
			}
			answers, kept = append(answers, next), append(kept, slices.Clone(next))
			list = next
		}
		for i := range answers {
			if !slices.Equal(answers[i], kept[i]) || !slices.Equal(impl.Joined(answers[i]), kept[i]) {
				t.Fatalf("answer %d is no longer what it was: %v, not %v", i, answers[i], kept[i])
			}
		}
		for i := range answers {
			for j := range answers[i][:cap(answers[i])] {
				answers[i][:cap(answers[i])][j] = cutMark
			}
			for k := i + 1; k < len(answers); k++ {
				if !slices.Equal(answers[k], kept[k]) {
					t.Fatalf("the answers %d and %d share memory", i, k)
				}
			}
		}
	}
}

// FuzzEdits takes three bytes for each clip; its track may be none.
func FuzzEdits(f *testing.F) {
	f.Add([]byte{1, 10, 20, 2, 0, 10}, int64(5), int64(3), int64(3), int64(7), int64(4))
	f.Add([]byte{0, 0, 2, 0, 0, 1, 1, 255, 3}, int64(1), int64(-1), int64(0), int64(0), int64(1))
	f.Fuzz(func(t *testing.T, b []byte, at, n, src, in, length int64) {
		list := track{}
		for ; len(b) >= 3; b = b[3:] {
			c := clip(int64(b[0]%8), int64(b[1]), int64(b[2]))
			if b[1] > 250 {
				c.In = lastFrame - int64(b[1]-250)
			}
			if c.Src == 7 {
				c.Src = 498 + int64(b[1]%4)
			}
			list = append(list, c)
		}
		c := clip(src, in, length)
		if length > 100000 && clipByWords(c) {
			t.Skip("too long to go through frame by frame")
		}
		checkTrack(t, list)
		for _, e := range cutEdits {
			if e.name != "Ripple" || n < 100000 {
				checkEdit(t, e, list, at, n, c)
			}
		}
	})
}
