package tests

import (
	"math"
	"math/rand"
	"slices"
	"testing"

	"loop.example/g00066/impl"
)

// The faces of the chapter, held as they were given.
var (
	_ func(a, b []impl.Clip) []impl.Change                          = impl.Changes
	_ func(a []impl.Clip, list []impl.Change) ([]impl.Clip, bool)   = impl.Apply
	_ func(a []impl.Clip, list []impl.Change) ([]impl.Change, bool) = impl.Turned
	_ func(list []impl.Change, at int64) int64                      = impl.Shift
	_ struct{ Kind, Src, In, Len int64 }                            = impl.Change{}
)

type changes = []impl.Change

func change(kind, src, in, length int64) impl.Change {
	return impl.Change{Kind: kind, Src: src, In: in, Len: length}
}

func kept(n int64) impl.Change { return change(1, 0, 0, n) }

func dropped(n int64) impl.Change { return change(2, 0, 0, n) }

func added(c impl.Clip) impl.Change { return change(3, c.Src, c.In, c.Len) }

func allAdded(list track) changes {
	out := changes{}
	for _, c := range list {
		out = append(out, added(c))
	}
	return out
}

var changeMark = change(-76, -77, -78, -79)

// few keeps what a failing test tells readable.
func few[T any](list []T) any {
	if len(list) > 12 {
		return []any{len(list), list[:6], list[len(list)-6:]}
	}
	return list
}

// changeByWords says the chapter's sentence over again.
func changeByWords(c impl.Change) bool {
	switch c.Kind {
	case 1, 2:
		return c.Len >= 1 && c.Len <= lastFrame && c.Src == 0 && c.In == 0
	case 3:
		return clipByWords(clip(c.Src, c.In, c.Len))
	}
	return false
}

func listByWords(list changes) bool {
	return len(list) <= mostClips && !slices.ContainsFunc(list, func(c impl.Change) bool { return !changeByWords(c) })
}

// changesByWords tries the numbers of frames from the greatest on.
func changesByWords(a, b track) changes {
	if !trackByWords(a) || !trackByWords(b) {
		return nil
	}
	from, to := picturesOf(a...), picturesOf(b...)
	p := min(len(from), len(to))
	for !slices.Equal(from[:p], to[:p]) {
		p--
	}
	from, to = from[p:], to[p:]
	q := min(len(from), len(to))
	for !slices.Equal(from[len(from)-q:], to[len(to)-q:]) {
		q--
	}
	out := changes{kept(int64(p)), dropped(int64(len(from) - q))}
	out = append(out, allAdded(clipsOf(to[:len(to)-q]))...)
	out = append(out, kept(int64(q)))
	return slices.DeleteFunc(out, func(c impl.Change) bool { return c.Len == 0 })
}

// taken goes through the list frame by frame: what comes of the track, and which of its frames each change keeps or drops.
func taken(a track, list changes) (seen []picture, parts [][]picture, ok bool) {
	if !trackByWords(a) || !listByWords(list) {
		return nil, nil, false
	}
	left := picturesOf(a...)
	for _, c := range list {
		part := left[:0]
		if c.Kind == 3 {
			seen = append(seen, picturesOf(clip(c.Src, c.In, c.Len))...)
		} else if c.Len > int64(len(left)) {
			return nil, nil, false
		} else {
			part, left = left[:c.Len], left[c.Len:]
		}
		if c.Kind == 1 {
			seen = append(seen, part...)
		}
		parts = append(parts, part)
	}
	return seen, parts, len(left) == 0
}

func applyByWords(a track, list changes) (track, bool) {
	seen, _, ok := taken(a, list)
	if want := clipsOf(seen); ok && trackByWords(want) {
		return want, true
	}
	return nil, false
}

func turnedByWords(a track, list changes) (changes, bool) {
	if _, ok := applyByWords(a, list); !ok {
		return nil, false
	}
	_, parts, _ := taken(a, list)
	out := changes{}
	for i, c := range list {
		switch c.Kind {
		case 1:
			out = append(out, c)
		case 2:
			out = append(out, allAdded(clipsOf(parts[i]))...)
		case 3:
			out = append(out, dropped(c.Len))
		}
	}
	return out, true
}

// placesByWords is where each frame that the list keeps or drops is then.
func placesByWords(list changes) []int64 {
	out := []int64{}
	if !listByWords(list) {
		return out
	}
	next := int64(0)
	for _, c := range list {
		for range c.Len {
			switch c.Kind {
			case 1:
				out = append(out, next)
				next++
			case 2:
				out = append(out, -1)
			case 3:
				next++
			}
		}
	}
	return out
}

// checkTwice asks twice, holds both answers against what is wanted, and watches the arguments, their room, and the answers' memory.
func checkTwice[A, B, T comparable](t *testing.T, name string, do func([]A, []B) ([]T, bool), a []A, markA A, b []B, markB B, want []T, mark T, wantOk bool) {
	t.Helper()
	givenA, wholeA := withRoom(a, markA)
	givenB, wholeB := withRoom(b, markB)
	beforeA, beforeB := slices.Clone(wholeA), slices.Clone(wholeB)
	got, ok := do(givenA, givenB)
	again, okAgain := do(givenA, givenB)
	if ok != wantOk || !slices.Equal(got, want) {
		t.Fatalf("%s of %v and %v: %v %v, want %v %v", name, few(a), few(b), few(got), ok, few(want), wantOk)
	}
	for i := range got[:cap(got)] {
		got[:cap(got)][i] = mark
	}
	if !slices.Equal(wholeA, beforeA) || !slices.Equal(wholeB, beforeB) {
		t.Fatalf("%s of %v and %v: an argument, or its room, was written into, or shares memory with the answer", name, few(a), few(b))
	}
	for i := range wholeA {
		wholeA[i] = markA
	}
	for i := range wholeB {
		wholeB[i] = markB
	}
	if okAgain != wantOk || !slices.Equal(again, want) {
		t.Fatalf("%s of %v and %v: the second answer shares memory, or is another one: %v %v", name, few(a), few(b), few(again), okAgain)
	}
}

func checkChanges(t *testing.T, a, b track, want changes) {
	t.Helper()
	do := func(a, b track) (changes, bool) { return impl.Changes(a, b), true }
	checkTwice(t, "Changes", do, a, cutMark, b, cutMark, want, changeMark, true)
}

func checkApply(t *testing.T, a track, list changes, want track, ok bool) {
	t.Helper()
	checkTwice(t, "Apply", impl.Apply, a, cutMark, list, changeMark, want, cutMark, ok)
}

func checkTurned(t *testing.T, a track, list changes, want changes, ok bool) {
	t.Helper()
	checkTwice(t, "Turned", impl.Turned, a, cutMark, list, changeMark, want, changeMark, ok)
}

var farPlaces = []int64{-1, -2, lastFrame, -lastFrame, math.MaxInt64, math.MinInt64, math.MinInt64 + 1, 1 << 32, -1 << 32}

// checkShift asks for every frame, for those around them, and for numbers far off.
func checkShift(t *testing.T, list changes) {
	t.Helper()
	given, whole := withRoom(list, changeMark)
	before := slices.Clone(whole)
	places := placesByWords(list)
	for at, want := range places {
		if got := impl.Shift(given, int64(at)); got != want {
			t.Fatalf("Shift of %v at %d: %d, want %d", few(list), at, got, want)
		}
	}
	for _, at := range append([]int64{int64(len(places)), int64(len(places)) + 1}, farPlaces...) {
		if at >= 0 && at < int64(len(places)) {
			continue
		}
		if got := impl.Shift(given, at); got != -1 {
			t.Fatalf("Shift of %v at %d: %d", few(list), at, got)
		}
	}
	if !slices.Equal(whole, before) {
		t.Fatalf("Shift wrote into %v, or its room", few(list))
	}
}

// checkList holds Apply, Turned and Shift against the chapter's words.
func checkList(t *testing.T, a track, list changes) {
	t.Helper()
	want, ok := applyByWords(a, list)
	checkApply(t, a, list, want, ok)
	back, okBack := turnedByWords(a, list)
	checkTurned(t, a, list, back, okBack)
	checkShift(t, list)
}

// checkThereAndBack holds Changes against the chapter's words, and promise 6 by the chapter's own functions alone.
func checkThereAndBack(t *testing.T, a, b track) {
	t.Helper()
	checkChanges(t, a, b, changesByWords(a, b))
	if trackByWords(a) && trackByWords(b) {
		checkPromise(t, a, b)
	}
}

func checkPromise(t *testing.T, a, b track) {
	t.Helper()
	list := impl.Changes(a, b)
	there, ok := impl.Apply(a, list)
	back, okBack := impl.Turned(a, list)
	if len(list) > mostClips {
		if ok || okBack || len(there)+len(back) != 0 {
			t.Fatalf("from %v to %v: %d changes are applied", few(a), few(b), len(list))
		}
		return
	}
	if !ok || !slices.Equal(there, impl.Joined(b)) {
		t.Fatalf("from %v to %v: %v gives %v %v", few(a), few(b), few(list), few(there), ok)
	}
	if !okBack {
		t.Fatalf("from %v to %v: %v is not turned", few(a), few(b), few(list))
	}
	if len(back) <= mostClips {
		for _, at := range []track{b, there} {
			if again, ok := impl.Apply(at, back); !ok || !slices.Equal(again, impl.Joined(a)) {
				t.Fatalf("from %v to %v, and back by %v: %v %v", few(a), few(b), few(back), few(again), ok)
			}
		}
	}
	checkKept(t, a, b, list, back)
}

// checkKept: what is kept is the same frame where Shift says, those in order, and none but those of the ChKeep.
func checkKept(t *testing.T, a, b track, list, back changes) {
	t.Helper()
	length := impl.Length(a)
	stays, last := int64(0), int64(-1)
	for at := range min(length, 2000) {
		to := impl.Shift(list, at)
		if to == -1 {
			continue
		}
		stays++
		if to <= last || frameAt(a, at) != frameAt(b, to) {
			t.Fatalf("from %v to %v: frame %d is at %d: %v, not %v", few(a), few(b), at, to, frameAt(b, to), frameAt(a, at))
		}
		if len(back) <= mostClips && impl.Shift(back, to) != at {
			t.Fatalf("from %v to %v: frame %d is at %d, and that at %d", few(a), few(b), at, to, impl.Shift(back, to))
		}
		last = to
	}
	for _, c := range list {
		if c.Kind == impl.ChKeep {
			stays -= c.Len
		}
	}
	if length <= 2000 && stays != 0 {
		t.Fatalf("from %v to %v: %v, but %d more frames stay", few(a), few(b), few(list), stays)
	}
}

func TestChangeConstants(t *testing.T) {
	if impl.ChKeep != 1 || impl.ChDrop != 2 || impl.ChAdd != 3 {
		t.Error("a kind is another one")
	}
}

func TestChangesOrdinary(t *testing.T) {
	one := track{clip(1, 10, 6)}
	for _, x := range []struct {
		a, b track
		want changes
	}{
		// The same, none, and one of them none.
		{nil, nil, nil},
		{track{}, nil, nil},
		{one, one, changes{kept(6)}},
		{someTrack(), someTrack(), changes{kept(20)}},
		{nil, one, changes{added(one[0])}},
		{one, nil, changes{dropped(6)}},
		{nil, track{gap(2)}, changes{added(gap(2))}},
		{track{gap(2)}, track{}, changes{dropped(2)}},
		{nil, someTrack(), allAdded(someTrack())},
		{someTrack(), nil, changes{dropped(20)}},
		// Nothing alike.
		{one, track{clip(2, 10, 6)}, changes{dropped(6), added(clip(2, 10, 6))}},
		{one, track{clip(1, 11, 6)}, changes{dropped(6), added(clip(1, 11, 6))}},
		{one, track{clip(1, 9, 6)}, changes{dropped(6), added(clip(1, 9, 6))}},
		{one, track{clip(2, 0, 1), clip(1, 10, 5)}, changes{dropped(6), added(clip(2, 0, 1)), added(clip(1, 10, 5))}},
		{one, track{gap(6)}, changes{dropped(6), added(gap(6))}},
		{track{gap(6)}, one, changes{dropped(6), added(one[0])}},
		{track{clip(1, 0, 3)}, track{gap(3)}, changes{dropped(3), added(gap(3))}},
		// Both ends alike.
		{one, track{clip(1, 10, 2), clip(2, 0, 3), clip(1, 14, 2)}, changes{kept(2), dropped(2), added(clip(2, 0, 3)), kept(2)}},
		{one, track{clip(1, 10, 2), clip(2, 0, 3), clip(1, 12, 4)}, changes{kept(2), added(clip(2, 0, 3)), kept(4)}},
		{one, track{clip(1, 10, 1), clip(1, 15, 1)}, changes{kept(1), dropped(4), kept(1)}},
		{one, track{clip(1, 10, 1), gap(4), clip(1, 15, 1)}, changes{kept(1), dropped(4), added(gap(4)), kept(1)}},
		{track{clip(1, 10, 2), clip(2, 0, 3), clip(1, 14, 2)}, one, changes{kept(2), dropped(3), added(clip(1, 12, 2)), kept(2)}},
		{track{clip(1, 0, 2), clip(2, 0, 2)}, track{clip(1, 0, 2), clip(3, 0, 2), clip(4, 0, 2), clip(2, 0, 2)}, changes{kept(2), added(clip(3, 0, 2)), added(clip(4, 0, 2)), kept(2)}},
		// The beginning alone, the end alone.
		{one, track{clip(1, 10, 4), clip(2, 0, 2)}, changes{kept(4), dropped(2), added(clip(2, 0, 2))}},
		{one, track{clip(1, 10, 4), clip(1, 15, 2)}, changes{kept(4), dropped(2), added(clip(1, 15, 2))}},
		{one, track{clip(2, 0, 2), clip(1, 12, 4)}, changes{dropped(2), added(clip(2, 0, 2)), kept(4)}},
		{one, track{clip(1, 9, 2), clip(1, 12, 4)}, changes{dropped(2), added(clip(1, 9, 2)), kept(4)}},
		{one, track{clip(2, 0, 1), clip(2, 3, 1), clip(1, 15, 1)}, changes{dropped(5), added(clip(2, 0, 1)), added(clip(2, 3, 1)), kept(1)}},
		// One is a beginning or an end of the other.
		{one, track{clip(1, 10, 4)}, changes{kept(4), dropped(2)}},
		{one, track{clip(1, 12, 4)}, changes{dropped(2), kept(4)}},
		{one, track{clip(1, 11, 4)}, changes{dropped(6), added(clip(1, 11, 4))}},
		{track{clip(1, 10, 4)}, one, changes{kept(4), added(clip(1, 14, 2))}},
		{track{clip(1, 12, 4)}, one, changes{added(clip(1, 10, 2)), kept(4)}},
		{track{clip(1, 11, 4)}, one, changes{dropped(4), added(one[0])}},
		{one, track{one[0], gap(1)}, changes{kept(6), added(gap(1))}},
		{one, track{gap(1), one[0]}, changes{added(gap(1)), kept(6)}},
		{track{one[0], gap(1)}, one, changes{kept(6), dropped(1)}},
		{track{gap(1), one[0]}, one, changes{dropped(1), kept(6)}},
		// What is alike at both ends would overlap: the beginning takes all it can.
		{track{gap(3)}, track{gap(5)}, changes{kept(3), added(gap(2))}},
		{track{gap(5)}, track{gap(3)}, changes{kept(3), dropped(2)}},
		{one, track{one[0], one[0]}, changes{kept(6), added(one[0])}},
		{track{one[0], one[0]}, one, changes{kept(6), dropped(6)}},
		{track{clip(1, 0, 2), clip(1, 0, 2)}, track{clip(1, 0, 2), clip(1, 0, 2), clip(1, 0, 2)}, changes{kept(4), added(clip(1, 0, 2))}},
		{track{gap(2), clip(1, 0, 1), gap(2)}, track{gap(2)}, changes{kept(2), dropped(3)}},
		{track{gap(2), clip(1, 0, 1), gap(2)}, track{gap(3)}, changes{kept(2), dropped(2), kept(1)}},
		{track{gap(3)}, track{gap(2), clip(1, 0, 1), gap(2)}, changes{kept(2), added(clip(1, 0, 1)), added(gap(1)), kept(1)}},
		{track{gap(2), clip(1, 0, 1), gap(2)}, track{gap(4)}, changes{kept(2), dropped(1), kept(2)}},
		{track{gap(2), clip(1, 0, 1), gap(2)}, track{gap(5)}, changes{kept(2), dropped(1), added(gap(1)), kept(2)}},
		{track{clip(1, 0, 4), clip(1, 2, 4)}, track{clip(1, 0, 6)}, changes{kept(4), dropped(2), kept(2)}},
		{track{clip(1, 0, 6)}, track{clip(1, 0, 4), clip(1, 2, 4)}, changes{kept(4), added(clip(1, 2, 2)), kept(2)}},
		// The frames are the same, the clips are not.
		{one, track{clip(1, 10, 2), clip(1, 12, 1), clip(1, 13, 3)}, changes{kept(6)}},
		{track{clip(1, 10, 1), clip(1, 11, 5)}, track{clip(1, 10, 4), clip(1, 14, 2)}, changes{kept(6)}},
		{track{gap(1), gap(2), gap(3)}, track{gap(4), gap(2)}, changes{kept(6)}},
		{track{gap(1), gap(2)}, track{gap(4)}, changes{kept(3), added(gap(1))}},
		{track{clip(1, 10, 1), clip(1, 11, 5), clip(2, 0, 1)}, track{clip(1, 10, 4), clip(1, 14, 2), clip(3, 0, 1)}, changes{kept(6), dropped(1), added(clip(3, 0, 1))}},
		// What comes in is Joined, and cut where the ends are alike.
		{track{clip(9, 9, 1)}, track{clip(1, 0, 1), clip(1, 1, 1), gap(1), gap(1), clip(1, 2, 1)}, changes{dropped(1), added(clip(1, 0, 2)), added(gap(2)), added(clip(1, 2, 1))}},
		{one, track{clip(1, 10, 3), gap(1), gap(2), clip(1, 13, 3)}, changes{kept(3), added(gap(3)), kept(3)}},
		{track{gap(3), clip(1, 0, 1), gap(3)}, track{gap(4), gap(1), clip(2, 0, 1), gap(4)}, changes{kept(3), dropped(1), added(gap(2)), added(clip(2, 0, 1)), added(gap(1)), kept(3)}},
		{someTrack(), track{clip(1, 10, 5), gap(2), clip(1, 21, 2), clip(500, lastFrame-6, 6)}, changes{kept(7), dropped(5), kept(8)}},
		// Gaps at the beginning, between, and at the end.
		{track{gap(2), clip(1, 0, 2)}, track{gap(3), clip(1, 0, 2)}, changes{kept(2), added(gap(1)), kept(2)}},
		{track{clip(1, 0, 2), gap(2), clip(2, 0, 2)}, track{clip(1, 0, 2), gap(1), clip(2, 0, 2)}, changes{kept(3), dropped(1), kept(2)}},
		{track{clip(1, 0, 2), gap(2)}, track{clip(1, 0, 2), gap(1)}, changes{kept(3), dropped(1)}},
		{track{clip(1, 0, 2), gap(2)}, track{clip(2, 0, 2), gap(3)}, changes{dropped(2), added(clip(2, 0, 2)), added(gap(1)), kept(2)}},
		// The same frame of two sources, and two frames of one, are not alike.
		{track{clip(1, 5, 2), clip(2, 7, 1)}, track{clip(1, 5, 2), clip(1, 7, 1)}, changes{kept(2), dropped(1), added(clip(1, 7, 1))}},
		{track{clip(1, lastFrame-2, 2)}, track{clip(500, lastFrame-2, 2)}, changes{dropped(2), added(clip(500, lastFrame-2, 2))}},
	} {
		checkChanges(t, x.a, x.b, x.want)
		checkThereAndBack(t, x.a, x.b)
	}
}

// What is no track on either side has no changes, not even to itself.
func TestChangesOfNoTrack(t *testing.T) {
	right := []track{nil, {clip(1, 10, 6)}, {gap(2), clip(1, 0, 1)}, manyClips(300)}
	for _, none := range []track{
		{clip(0, 1, 1)},
		{clip(501, 0, 1)},
		{clip(-1, 0, 1)},
		{clip(1, -1, 2)},
		{clip(1, 10, 0)},
		{clip(1, 10, -1)},
		{clip(1, lastFrame, 1)},
		{clip(1, math.MaxInt64, 1)},
		{clip(1, 1, math.MaxInt64)},
		{clip(1, 10, 6), gap(0)},
		{gap(lastFrame), gap(1)},
		{gap(lastFrame + 1)},
		{gap(math.MinInt64)},
		{gap(math.MaxInt64), gap(math.MaxInt64), gap(8)},
		manyClips(301),
		slices.Repeat(track{gap(1)}, 301),
	} {
		for _, a := range right {
			checkChanges(t, a, none, nil)
			checkChanges(t, none, a, nil)
		}
		checkChanges(t, none, none, nil)
		for _, list := range []changes{nil, {kept(1)}, {kept(2)}, {kept(6)}, {dropped(6)}, {kept(300)}, {dropped(301)}, {added(gap(1))}, {kept(lastFrame), kept(1)}} {
			checkApply(t, none, list, nil, false)
			checkTurned(t, none, list, nil, false)
		}
	}
}

func TestChangesOfLongTracks(t *testing.T) {
	half := int64(lastFrame / 2)
	whole, empty := track{clip(1, 0, lastFrame)}, track{gap(lastFrame)}
	for _, x := range []struct {
		a, b track
		want changes
	}{
		{whole, whole, changes{kept(lastFrame)}},
		{empty, empty, changes{kept(lastFrame)}},
		{whole, empty, changes{dropped(lastFrame), added(gap(lastFrame))}},
		{empty, whole, changes{dropped(lastFrame), added(whole[0])}},
		{whole, track{clip(2, 0, lastFrame)}, changes{dropped(lastFrame), added(clip(2, 0, lastFrame))}},
		{whole, track{clip(1, 0, lastFrame-1)}, changes{kept(lastFrame - 1), dropped(1)}},
		{whole, track{clip(1, 1, lastFrame-1)}, changes{dropped(1), kept(lastFrame - 1)}},
		{track{clip(1, 1, lastFrame-1)}, whole, changes{added(clip(1, 0, 1)), kept(lastFrame - 1)}},
		{track{clip(1, 0, lastFrame-1)}, whole, changes{kept(lastFrame - 1), added(clip(1, lastFrame-1, 1))}},
		{nil, whole, changes{added(whole[0])}},
		{whole, nil, changes{dropped(lastFrame)}},
		{empty, track{gap(1)}, changes{kept(1), dropped(lastFrame - 1)}},
		{whole, track{clip(1, 0, half), clip(1, half, half)}, changes{kept(lastFrame)}},
		{whole, track{clip(1, 0, half), gap(1), clip(1, half+1, half-1)}, changes{kept(half), dropped(1), added(gap(1)), kept(half - 1)}},
		{whole, track{clip(1, half, half), clip(1, 0, half)}, changes{dropped(lastFrame), added(clip(1, half, half)), added(clip(1, 0, half))}},
		{track{clip(1, half, half), clip(1, 0, half)}, track{clip(1, half, half), clip(1, 1, half)}, changes{kept(half), dropped(half), added(clip(1, 1, half))}},
		{track{gap(half), clip(1, 0, 1), gap(half - 1)}, empty, changes{kept(half), dropped(1), added(gap(1)), kept(half - 1)}},
		{track{gap(half), clip(1, 0, 1), gap(half - 1)}, track{gap(half)}, changes{kept(half), dropped(half)}},
		{track{gap(half), clip(1, 0, 1), gap(half - 1)}, track{gap(lastFrame - 1)}, changes{kept(half), dropped(1), kept(half - 1)}},
	} {
		checkChanges(t, x.a, x.b, x.want)
		checkPromise(t, x.a, x.b)
	}
}

func TestChangesOfManyClips(t *testing.T) {
	many := manyClips(300)
	other := slices.Clone(many)
	for i := range other {
		other[i] = clip(int64(i+1), int64(i), 2)
	}
	other299 := other[:299]
	checkChanges(t, many, many, changes{kept(900)})
	checkChanges(t, many, other, append(changes{dropped(900)}, allAdded(other)...))
	checkChanges(t, many, other299, append(changes{dropped(900)}, allAdded(other299)...))
	checkChanges(t, nil, other, allAdded(other))
	checkApply(t, nil, allAdded(other), other, true)
	for _, x := range []struct{ a, b track }{
		{many, other}, {many, other299}, {other, many}, {other299, many}, {nil, many}, {many, nil},
		{many, many[1:]}, {many, many[:299]}, {many[1:], many}, {many[:299], many},
		{many, append(slices.Clone(many[:150]), many[151:]...)},
		{many, append(slices.Clone(many[:150]), append(track{clip(500, 1, 1)}, many[151:]...)...)},
		{slices.Repeat(track{gap(1)}, 300), track{gap(299)}},
		{track{gap(299)}, slices.Repeat(track{gap(1)}, 300)},
		{slices.Repeat(track{clip(1, 1, 1)}, 300), slices.Repeat(track{clip(1, 1, 1)}, 299)},
	} {
		checkThereAndBack(t, x.a, x.b)
	}
}

// Every change at each limit and one past it; alone, and beside others that are right.
func TestChangeLimits(t *testing.T) {
	for _, x := range []struct {
		c  impl.Change
		ok bool
	}{
		{kept(1), true},
		{kept(2), true},
		{kept(0), false},
		{kept(-1), false},
		{kept(-lastFrame), false},
		{kept(lastFrame + 1), false},
		{kept(math.MaxInt64), false},
		{kept(math.MinInt64), false},
		{kept(1 << 32), false},
		{dropped(1), true},
		{dropped(2), true},
		{dropped(0), false},
		{dropped(-1), false},
		{dropped(lastFrame + 1), false},
		{dropped(math.MaxInt64), false},
		{dropped(math.MinInt64), false},
		{change(1, 1, 0, 2), false},
		{change(1, -1, 0, 2), false},
		{change(1, 500, 0, 2), false},
		{change(1, 0, 1, 2), false},
		{change(1, 0, -1, 2), false},
		{change(1, 1, 1, 2), false},
		{change(1, 0, math.MinInt64, 2), false},
		{change(2, 1, 0, 2), false},
		{change(2, -1, 0, 2), false},
		{change(2, 500, 0, 2), false},
		{change(2, 0, 1, 2), false},
		{change(2, 0, -1, 2), false},
		{change(2, 1, 1, 2), false},
		{change(2, math.MinInt64, 0, 2), false},
		{change(0, 0, 0, 2), false},
		{change(0, 0, 0, 0), false},
		{change(0, 1, 1, 2), false},
		{change(4, 0, 0, 2), false},
		{change(4, 1, 1, 2), false},
		{change(5, 0, 0, 2), false},
		{change(-1, 0, 0, 2), false},
		{change(-2, 0, 0, 2), false},
		{change(-3, 1, 1, 2), false},
		{change(257, 0, 0, 2), false},
		{change(1<<32+1, 0, 0, 2), false},
		{change(math.MaxInt64, 0, 0, 2), false},
		{change(math.MinInt64, 0, 0, 2), false},
		{added(gap(1)), true},
		{added(gap(2)), true},
		{added(gap(0)), false},
		{added(gap(-1)), false},
		{added(gap(lastFrame + 1)), false},
		{added(gap(math.MaxInt64)), false},
		{added(gap(math.MinInt64)), false},
		{added(clip(0, 1, 2)), false},
		{added(clip(0, -1, 2)), false},
		{added(clip(1, 0, 2)), true},
		{added(clip(500, 0, 2)), true},
		{added(clip(501, 0, 2)), false},
		{added(clip(-1, 0, 2)), false},
		{added(clip(1, -1, 2)), false},
		{added(clip(1, 5, 0)), false},
		{added(clip(1, 5, -1)), false},
		{added(clip(1, lastFrame-2, 2)), true},
		{added(clip(1, lastFrame-1, 2)), false},
		{added(clip(1, lastFrame, 1)), false},
		{added(clip(1, lastFrame+1, -1)), false},
		{added(clip(1, math.MaxInt64, 1)), false},
		{added(clip(1, 1, math.MaxInt64)), false},
		{added(clip(1, math.MinInt64, math.MinInt64)), false},
	} {
		if changeByWords(x.c) != x.ok {
			t.Errorf("by the words %v is as told: %v", x.c, !x.ok)
		}
		for _, list := range []changes{{x.c}, {kept(2), x.c}, {x.c, kept(2)}, {dropped(1), x.c, added(clip(7, 7, 1)), kept(1)}, {added(gap(3)), x.c}} {
			for length := range int64(7) {
				a := track{clip(7, 1, length)}
				if length == 0 {
					a = nil
				}
				checkList(t, a, list)
			}
			if !x.ok {
				checkApply(t, track{gap(lastFrame)}, list, nil, false)
				checkTurned(t, track{gap(lastFrame)}, list, nil, false)
			}
		}
	}
}

// Lists of great numbers, with the answers written out: frame by frame they would take too long.
func TestGreatLists(t *testing.T) {
	whole, empty := track{clip(1, 0, lastFrame)}, track{gap(lastFrame)}
	for _, x := range []struct {
		a    track
		list changes
		want track // nil: nothing and false
		back changes
	}{
		{whole, changes{kept(lastFrame)}, whole, changes{kept(lastFrame)}},
		{empty, changes{kept(lastFrame)}, empty, changes{kept(lastFrame)}},
		{whole, changes{dropped(lastFrame)}, track{}, changes{added(whole[0])}},
		{whole, changes{kept(lastFrame + 1)}, nil, nil},
		{whole, changes{dropped(lastFrame + 1)}, nil, nil},
		{whole, changes{kept(lastFrame - 1)}, nil, nil},
		{whole, changes{kept(lastFrame), kept(1)}, nil, nil},
		{whole, changes{kept(lastFrame), dropped(1)}, nil, nil},
		{whole, changes{kept(lastFrame - 1), kept(1)}, whole, changes{kept(lastFrame - 1), kept(1)}},
		{whole, changes{kept(1), dropped(lastFrame - 1)}, track{clip(1, 0, 1)}, changes{kept(1), added(clip(1, 1, lastFrame-1))}},
		{nil, changes{added(whole[0])}, whole, changes{dropped(lastFrame)}},
		{nil, changes{added(gap(lastFrame))}, empty, changes{dropped(lastFrame)}},
		{nil, changes{added(gap(lastFrame)), added(gap(1))}, nil, nil},
		{nil, changes{added(gap(lastFrame - 1)), added(gap(1))}, empty, changes{dropped(lastFrame - 1), dropped(1)}},
		{nil, changes{added(whole[0]), added(gap(1))}, nil, nil},
		{nil, changes{added(whole[0]), added(whole[0])}, nil, nil},
		{nil, slices.Repeat(changes{added(gap(lastFrame))}, 300), nil, nil},
		{nil, slices.Repeat(changes{added(whole[0])}, 300), nil, nil},
		{whole, changes{kept(lastFrame), added(gap(1))}, nil, nil},
		{whole, changes{added(gap(1)), kept(lastFrame)}, nil, nil},
		{whole, changes{added(gap(1)), kept(lastFrame - 1), dropped(1)}, track{gap(1), clip(1, 0, lastFrame-1)}, changes{dropped(1), kept(lastFrame - 1), added(clip(1, lastFrame-1, 1))}},
		{whole, changes{added(clip(2, 0, lastFrame)), dropped(lastFrame)}, track{clip(2, 0, lastFrame)}, changes{dropped(lastFrame), added(whole[0])}},
		{whole, changes{added(clip(2, 0, lastFrame)), dropped(lastFrame - 1), kept(1)}, nil, nil},
		// Sums that would come round to what is there.
		{track{gap(10)}, changes{kept(math.MaxInt64), kept(math.MaxInt64), kept(12)}, nil, nil},
		{track{gap(10)}, changes{dropped(math.MaxInt64), kept(math.MaxInt64), dropped(12)}, nil, nil},
		{track{gap(10)}, changes{kept(math.MinInt64), kept(math.MinInt64), kept(10)}, nil, nil},
		{track{gap(10)}, changes{kept(-1), kept(11)}, nil, nil},
		{track{gap(10)}, changes{kept(11), dropped(-1)}, nil, nil},
		{track{gap(10)}, changes{kept(10), added(gap(math.MaxInt64)), added(gap(math.MaxInt64)), added(gap(2))}, nil, nil},
		{track{gap(10)}, changes{kept(10), added(clip(1, math.MaxInt64, math.MaxInt64))}, nil, nil},
		{track{gap(10)}, append(slices.Repeat(changes{kept(lastFrame)}, 299), kept(10)), nil, nil},
		{track{gap(10)}, append(slices.Repeat(changes{dropped(1 << 62)}, 4), kept(10)), nil, nil},
	} {
		ok := x.want != nil
		checkApply(t, x.a, x.list, x.want, ok)
		checkTurned(t, x.a, x.list, x.back, ok)
		if ok {
			if again, is := impl.Apply(x.want, x.back); !is || !slices.Equal(again, impl.Joined(x.a)) {
				t.Errorf("%v and back by %v: %v %v", few(x.list), few(x.back), few(again), is)
			}
		}
	}
}

func TestApplyOrdinary(t *testing.T) {
	one := track{clip(1, 10, 6)}
	for _, x := range []struct {
		a    track
		list changes
		want track // nil: nothing and false
		back changes
	}{
		// An empty list is for an empty track alone.
		{nil, nil, track{}, nil},
		{track{}, changes{}, track{}, nil},
		{one, nil, nil, nil},
		{track{gap(1)}, nil, nil, nil},
		{nil, changes{kept(1)}, nil, nil},
		{nil, changes{dropped(1)}, nil, nil},
		{nil, changes{added(gap(1))}, track{gap(1)}, changes{dropped(1)}},
		{nil, changes{added(clip(2, 3, 4)), added(clip(2, 7, 1))}, track{clip(2, 3, 5)}, changes{dropped(4), dropped(1)}},
		// Each kind alone.
		{one, changes{kept(6)}, one, changes{kept(6)}},
		{one, changes{dropped(6)}, track{}, changes{added(one[0])}},
		{one, changes{added(one[0])}, nil, nil},
		// One frame less, one more.
		{one, changes{kept(5)}, nil, nil},
		{one, changes{kept(7)}, nil, nil},
		{one, changes{dropped(5)}, nil, nil},
		{one, changes{dropped(7)}, nil, nil},
		{one, changes{kept(3), dropped(2)}, nil, nil},
		{one, changes{kept(3), dropped(4)}, nil, nil},
		{one, changes{kept(5), added(clip(1, 15, 1))}, nil, nil},
		{one, changes{kept(6), added(clip(1, 16, 1))}, track{clip(1, 10, 7)}, changes{kept(6), dropped(1)}},
		// The changes stay as they are cut; the track is Joined.
		{one, changes{kept(2), kept(1), kept(3)}, one, changes{kept(2), kept(1), kept(3)}},
		{one, changes{dropped(2), dropped(4)}, track{}, changes{added(clip(1, 10, 2)), added(clip(1, 12, 4))}},
		{one, changes{kept(2), dropped(1), dropped(1), kept(2)}, track{clip(1, 10, 2), clip(1, 14, 2)}, changes{kept(2), added(clip(1, 12, 1)), added(clip(1, 13, 1)), kept(2)}},
		{one, changes{kept(2), added(clip(1, 12, 2)), dropped(2), kept(2)}, one, changes{kept(2), dropped(2), added(clip(1, 12, 2)), kept(2)}},
		{one, changes{dropped(2), added(gap(1)), kept(4), added(gap(1)), added(gap(1))}, track{gap(1), clip(1, 12, 4), gap(2)}, changes{added(clip(1, 10, 2)), dropped(1), kept(4), dropped(1), dropped(1)}},
		{one, changes{added(clip(1, 8, 2)), kept(6)}, track{clip(1, 8, 8)}, changes{dropped(2), kept(6)}},
		// What is dropped is told Joined.
		{track{clip(1, 0, 1), clip(1, 1, 1), gap(1), gap(1)}, changes{dropped(4)}, track{}, changes{added(clip(1, 0, 2)), added(gap(2))}},
		{track{clip(1, 0, 1), clip(1, 1, 1), gap(1), gap(1)}, changes{kept(1), dropped(2), kept(1)}, track{clip(1, 0, 1), gap(1)}, changes{kept(1), added(clip(1, 1, 1)), added(gap(1)), kept(1)}},
		{track{gap(1), gap(1), clip(1, 0, 1)}, changes{kept(2), dropped(1)}, track{gap(2)}, changes{kept(2), added(clip(1, 0, 1))}},
		{track{gap(2), clip(1, 0, 1), gap(2)}, changes{kept(2), dropped(1), kept(2)}, track{gap(4)}, changes{kept(2), added(clip(1, 0, 1)), kept(2)}},
		{track{gap(3)}, changes{kept(1), dropped(1), kept(1)}, track{gap(2)}, changes{kept(1), added(gap(1)), kept(1)}},
		{someTrack(), changes{kept(7), dropped(5), kept(8)}, track{clip(1, 10, 5), gap(2), clip(1, 21, 2), clip(500, lastFrame-6, 6)}, changes{kept(7), added(gap(2)), added(clip(2, 0, 2)), added(clip(1, 20, 1)), kept(8)}},
	} {
		checkApply(t, x.a, x.list, x.want, x.want != nil)
		checkTurned(t, x.a, x.list, x.back, x.want != nil)
		checkList(t, x.a, x.list)
	}
}

func TestManyChanges(t *testing.T) {
	for _, n := range []int64{1, 2, 298, 299, 300, 301, 302, 600} {
		ok := n <= mostClips
		for _, c := range []impl.Change{kept(1), dropped(1), kept(2), dropped(3)} {
			list := slices.Repeat(changes{c}, int(n))
			for _, a := range []track{{gap(n * c.Len)}, {clip(3, 4, n*c.Len)}, {gap(n*c.Len - 1)}, {gap(n*c.Len + 1)}} {
				checkList(t, a, list)
			}
			if _, is := impl.Apply(track{gap(n * c.Len)}, list); is != ok {
				t.Errorf("%d changes are applied: %v", n, is)
			}
			if _, is := impl.Turned(track{gap(n * c.Len)}, list); is != ok {
				t.Errorf("%d changes are turned: %v", n, is)
			}
			if at := impl.Shift(list, 0); (at == 0) != (ok && c.Kind == impl.ChKeep) {
				t.Errorf("%d changes: %d", n, at)
			}
		}
		checkList(t, nil, slices.Repeat(changes{added(gap(2))}, int(n)))
		checkList(t, nil, slices.Repeat(changes{added(clip(2, 2, 2))}, int(n)))
		checkList(t, track{gap(1)}, append(slices.Repeat(changes{added(clip(2, 2, 2))}, int(n-1)), kept(1)))
	}
}

// What comes may have as many clips as a track has, once Joined.
func TestApplyOfManyClips(t *testing.T) {
	many := manyClips(300)
	last := many[298]
	many = append(many[:299], clip(500, 1, 3))
	grown := append(slices.Clone(many[:299]), clip(500, 1, 5))
	checkApply(t, many, changes{kept(900)}, many, true)
	checkApply(t, many, changes{kept(900), added(clip(500, 4, 2))}, grown, true)
	checkTurned(t, many, changes{kept(900), added(clip(500, 4, 2))}, changes{kept(900), dropped(2)}, true)
	for _, c := range []impl.Clip{clip(500, 5, 2), clip(499, 4, 2), gap(1), clip(500, 1, 3)} {
		checkApply(t, many, changes{kept(900), added(c)}, nil, false)
		checkTurned(t, many, changes{kept(900), added(c)}, nil, false)
		checkApply(t, many, changes{kept(897), dropped(3), added(c)}, append(slices.Clone(many[:299]), c), true)
		checkApply(t, many, changes{added(c), kept(900)}, nil, false)
		checkApply(t, many, changes{kept(1), added(c), kept(899)}, nil, false)
	}
	// A clip in the middle of another one is two more; where it goes on on both sides, none.
	checkApply(t, many[:299], changes{kept(1), added(gap(1)), kept(896)}, nil, false)
	checkApply(t, many[:298], changes{kept(1), added(gap(1)), kept(893)}, slices.Concat(track{clip(1, 5, 1), gap(1), clip(1, 6, 2)}, many[1:298]), true)
	checkApply(t, many, changes{kept(896), dropped(1), added(clip(last.Src, last.In+2, 1)), kept(3)}, many, true)
	// Three hundred clips that all go on, and three hundred changes on them.
	rows := track{}
	for i := range int64(300) {
		rows = append(rows, clip(1, 5+3*i, 3))
	}
	list := append(slices.Repeat(changes{kept(2), kept(1)}, 149), kept(3*151-1), dropped(1))
	checkApply(t, rows, list, track{clip(1, 5, 899)}, true)
	list[299] = kept(1)
	checkApply(t, rows, list, track{clip(1, 5, 900)}, true)
	for i := range list {
		list[i] = []impl.Change{kept(3), dropped(3)}[i%2]
	}
	checkList(t, rows, list)
	// More than MaxClips clips come in between, and only as many as a track has stay.
	checkList(t, many, append(slices.Repeat(changes{kept(3), added(gap(1))}, 149), kept(453)))
	checkList(t, many, append(slices.Repeat(changes{dropped(6), added(gap(1)), added(clip(9, 9, 1))}, 99), kept(306)))
	// Turned may be more changes than Apply takes.
	back := append(allAdded(many), dropped(1))
	checkTurned(t, many, changes{dropped(900), added(clip(7, 7, 1))}, back, true)
	checkApply(t, track{clip(7, 7, 1)}, back, nil, false)
	checkTurned(t, track{clip(7, 7, 1)}, back, nil, false)
	checkApply(t, nil, back[:300], many, true)
	if got := impl.Shift(back, 0); got != -1 {
		t.Errorf("Shift of 301 changes: %d", got)
	}
}

func TestShift(t *testing.T) {
	list := changes{kept(4), dropped(2), added(clip(2, 9, 3)), kept(4), dropped(1), added(gap(2))}
	for at, want := range []int64{0, 1, 2, 3, -1, -1, 7, 8, 9, 10, -1, -1, -1} {
		if got := impl.Shift(list, int64(at)); got != want {
			t.Errorf("at %d: %d, want %d", at, got, want)
		}
	}
	checkShift(t, list)
	for _, x := range []struct {
		list changes
		want map[int64]int64
	}{
		{nil, map[int64]int64{0: -1, 1: -1, -1: -1}},
		{changes{added(gap(5))}, map[int64]int64{0: -1, 4: -1, 5: -1}},
		{changes{added(gap(5)), kept(1)}, map[int64]int64{0: 5, 1: -1, -1: -1}},
		{changes{kept(1), added(gap(5))}, map[int64]int64{0: 0, 1: -1}},
		{changes{dropped(1), added(gap(5)), kept(2)}, map[int64]int64{0: -1, 1: 5, 2: 6, 3: -1}},
		{changes{kept(lastFrame)}, map[int64]int64{0: 0, lastFrame - 1: lastFrame - 1, lastFrame: -1, lastFrame + 1: -1, -1: -1}},
		{changes{dropped(lastFrame)}, map[int64]int64{0: -1, lastFrame - 1: -1, lastFrame: -1}},
		{changes{dropped(lastFrame), kept(1)}, map[int64]int64{lastFrame - 1: -1, lastFrame: 0, lastFrame + 1: -1}},
		// A list that no track has frames enough for is still a list.
		{slices.Repeat(changes{kept(lastFrame)}, 300), map[int64]int64{0: 0, 300*lastFrame - 1: 300*lastFrame - 1, 300 * lastFrame: -1}},
		{slices.Repeat(changes{kept(lastFrame)}, 301), map[int64]int64{0: -1, lastFrame: -1}},
		{append(slices.Repeat(changes{added(gap(lastFrame))}, 299), kept(1)), map[int64]int64{0: 299 * lastFrame, 1: -1}},
		{append(slices.Repeat(changes{dropped(lastFrame)}, 299), kept(1)), map[int64]int64{0: -1, 299*lastFrame - 1: -1, 299 * lastFrame: 0, 299*lastFrame + 1: -1}},
		// One that is not as told, ahead of the frame or behind it.
		{changes{kept(4), kept(lastFrame + 1)}, map[int64]int64{0: -1, 4: -1}},
		{changes{kept(4), kept(0)}, map[int64]int64{0: -1, 3: -1}},
		{changes{kept(4), change(4, 0, 0, 1)}, map[int64]int64{0: -1, 3: -1}},
		{changes{kept(4), change(0, 0, 0, 1)}, map[int64]int64{0: -1, 3: -1}},
		{changes{kept(4), added(clip(501, 0, 1))}, map[int64]int64{0: -1, 3: -1}},
		{changes{kept(4), change(2, 1, 0, 1)}, map[int64]int64{0: -1, 3: -1}},
		{changes{change(1, 0, 1, 1), kept(4)}, map[int64]int64{0: -1, 1: -1, 3: -1}},
		{changes{kept(-1), kept(4)}, map[int64]int64{0: -1, 1: -1, 3: -1}},
		{changes{added(gap(0)), kept(4)}, map[int64]int64{0: -1, 3: -1}},
		{changes{kept(math.MaxInt64)}, map[int64]int64{0: -1, math.MaxInt64: -1, math.MaxInt64 - 1: -1}},
		{changes{kept(math.MaxInt64), kept(math.MaxInt64), kept(12)}, map[int64]int64{0: -1, 9: -1}},
		{changes{added(gap(math.MaxInt64)), kept(4)}, map[int64]int64{0: -1, 3: -1}},
	} {
		for at, want := range x.want {
			if got := impl.Shift(x.list, at); got != want {
				t.Errorf("%v at %d: %d, want %d", few(x.list), at, got, want)
			}
		}
		for _, at := range []int64{-1, math.MinInt64, math.MaxInt64, 300*lastFrame + 1} {
			if got := impl.Shift(x.list, at); got != -1 {
				t.Errorf("%v at %d: %d", few(x.list), at, got)
			}
		}
	}
}

// Every two lists of up to three of these clips, each from and to the other.
func TestChangesOfAllShapes(t *testing.T) {
	shapes := track{gap(1), gap(2), clip(1, 0, 1), clip(1, 1, 2), clip(1, 0, 3), clip(2, 1, 2), clip(0, 1, 1)}
	all := []track{nil}
	for at := 0; len(all[at]) < 3; at++ {
		for _, c := range shapes {
			all = append(all, append(slices.Clip(all[at]), c))
		}
	}
	for _, a := range all {
		for _, b := range all {
			if len(a)+len(b) < 6 {
				checkThereAndBack(t, a, b)
			} else {
				checkChanges(t, a, b, changesByWords(a, b))
			}
		}
	}
}

// Every list of up to four of these changes, on tracks of all the lengths that could be right.
func TestListsOfAllShapes(t *testing.T) {
	tracks := []track{nil, {gap(1)}, {clip(1, 1, 2)}, {gap(1), clip(1, 1, 2)}, {clip(1, 1, 2), clip(1, 3, 1), clip(2, 4, 1)}, {gap(2), gap(1), clip(2, 4, 1), clip(1, 0, 1)}, {gap(0)}}
	all := changes{kept(1), kept(2), dropped(1), dropped(3), added(gap(1)), added(clip(1, 3, 1)), added(clip(1, 0, 1)), kept(0), change(4, 0, 0, 1), change(2, 0, 1, 1)}
	var lists func(list changes)
	lists = func(list changes) {
		for _, a := range tracks {
			checkList(t, a, list)
		}
		if len(list) < 4 {
			for _, c := range all {
				lists(append(slices.Clip(list), c))
			}
		}
	}
	lists(nil)
}

// cutElsewhere shows the same by other clips.
func cutElsewhere(r *rand.Rand, list track) track {
	out := track{}
	for _, c := range impl.Joined(list) {
		for c.Len > 1 && r.Intn(3) == 0 {
			head, tail := c, c
			head.Len = 1 + int64(r.Intn(int(c.Len-1)))
			tail.Len -= head.Len
			if tail.Src != 0 {
				tail.In += head.Len
			}
			out, c = append(out, head), tail
		}
		out = append(out, c)
	}
	return out
}

// otherCut is a track that was edited some times, so that much of it is as it was.
func otherCut(r *rand.Rand, list track) track {
	for range r.Intn(4) {
		e := cutEdits[r.Intn(len(cutEdits))]
		if next, ok := e.do(list, int64(r.Intn(int(lengthByWords(list))+1)), int64(r.Intn(9)-4), randomClip(r)); ok {
			list = next
		}
	}
	return list
}

func TestChangesAtRandom(t *testing.T) {
	r := rand.New(rand.NewSource(16))
	twoKept := 0
	for range 8000 {
		a := randomTrack(r)
		for _, b := range []track{randomTrack(r), cutElsewhere(r, a), otherCut(r, a), cutElsewhere(r, otherCut(r, a)), slices.Concat(a, a)} {
			checkThereAndBack(t, a, b)
			checkThereAndBack(t, b, a)
			if list := impl.Changes(a, b); len(list) > 2 && list[0].Kind == impl.ChKeep && list[len(list)-1].Kind == impl.ChKeep {
				twoKept++
			}
		}
	}
	if twoKept < 3000 {
		t.Error("too few begin and end alike:", twoKept)
	}
}

// randomList is a list for a track of that length, now and then with one change that spoils it.
func randomList(r *rand.Rand, length int64) changes {
	list := changes{}
	for length > 0 || r.Intn(3) == 0 {
		n := min(1+int64(r.Intn(6)), length)
		switch k := r.Intn(4); {
		case k == 0 || n == 0:
			list = append(list, added(randomClip(r)))
		case k == 1:
			list, length = append(list, dropped(n)), length-n
		default:
			list, length = append(list, kept(n)), length-n
		}
	}
	if len(list) > 0 && r.Intn(4) == 0 {
		i := r.Intn(len(list))
		switch r.Intn(6) {
		case 0:
			list[i].Kind += int64(r.Intn(5) - 2)
		case 1:
			list[i].Src += int64(r.Intn(3) - 1)
		case 2:
			list[i].In += int64(r.Intn(3) - 1)
		case 3:
			list[i].Len += int64(r.Intn(5) - 2)
		case 4:
			list[i].Len = farPlaces[r.Intn(len(farPlaces))]
			if changeByWords(list[i]) && list[i].Kind == 3 {
				list[i].Len++
			}
		case 5:
			list = slices.Delete(list, i, i+1)
		}
	}
	return list
}

func TestListsAtRandom(t *testing.T) {
	r := rand.New(rand.NewSource(17))
	done := 0
	for range 20000 {
		a := randomTrack(r)
		list := randomList(r, lengthByWords(a))
		if !slices.Contains(list, kept(lastFrame)) && !slices.Contains(list, dropped(lastFrame)) {
			checkList(t, a, list)
		}
		if made, ok := impl.Apply(a, list); ok {
			done++
			back, _ := impl.Turned(a, list)
			if again, ok := impl.Apply(made, back); !ok || !slices.Equal(again, impl.Joined(a)) {
				t.Fatalf("%v by %v gives %v, and by %v: %v %v", a, list, made, back, again, ok)
			}
			checkKept(t, a, made, list, back)
		}
	}
	if done < 10000 {
		t.Error("too few were applied:", done)
	}
}

// No answer of the chapter shares memory with another one that was made of the same tracks.
func TestChangeAnswersStandAlone(t *testing.T) {
	r := rand.New(rand.NewSource(18))
	for range 500 {
		a, b := randomTrack(r), randomTrack(r)
		list := impl.Changes(a, b)
		held := slices.Clone(list)
		made, _ := impl.Apply(a, list)
		back, _ := impl.Turned(a, list)
		turnedTwice, _ := impl.Turned(made, back)
		heldMade, heldBack, heldTwice := slices.Clone(made), slices.Clone(back), slices.Clone(turnedTwice)
		spoilAll(list, changeMark)
		if !slices.Equal(made, heldMade) || !slices.Equal(back, heldBack) || !slices.Equal(turnedTwice, heldTwice) {
			t.Fatalf("an answer shares memory with the list %v", held)
		}
		spoilAll(made, cutMark)
		spoilAll(back, changeMark)
		if !slices.Equal(turnedTwice, heldTwice) {
			t.Fatalf("an answer shares memory with the list %v, or the track %v", heldBack, heldMade)
		}
	}
}

func spoilAll[T any](list []T, mark T) {
	list = list[:cap(list)]
	for i := range list {
		list[i] = mark
	}
}

// FuzzChanges takes three bytes for each clip, and four for each change; tracks and list may be none.
func FuzzChanges(f *testing.F) {
	f.Add([]byte{1, 10, 20, 2, 0, 10}, []byte{1, 10, 4, 3, 9, 3, 1, 14, 16, 2, 0, 10}, []byte{1, 0, 0, 4, 2, 0, 0, 26})
	f.Add([]byte{0, 0, 2, 0, 0, 1}, []byte{0, 0, 2}, []byte{1, 0, 0, 3, 3, 1, 255, 2})
	f.Fuzz(func(t *testing.T, one, other, told []byte) {
		a, b := tracksFromBytes(one), tracksFromBytes(other)
		if lengthByWords(a)+lengthByWords(b) > 5000 {
			t.Skip("too long to go through frame by frame")
		}
		checkThereAndBack(t, a, b)
		list := changes{}
		for ; len(told) >= 4; told = told[4:] {
			list = append(list, change(int64(told[0]%5), int64(told[1]), int64(told[2]), int64(told[3])))
		}
		checkList(t, a, list)
	})
}

func tracksFromBytes(b []byte) track {
	list := track{}
	for ; len(b) >= 3; b = b[3:] {
		c := clip(int64(b[0]%4), int64(b[1]), int64(b[2]))
		if b[1] > 250 {
			c.In = lastFrame - int64(b[1]-250)
		}
		if c.Src == 0 && b[0] < 128 {
			c.In = 0
		}
		list = append(list, c)
	}
	return list
}
