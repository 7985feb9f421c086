package tests

import (
	"math"
	"math/rand"
	"slices"
	"testing"

	"loop.example/g00066/impl"
)

// The faces of the chapter, held as they were given.
var (
	_ func(tracks [][]impl.Clip, handle int64) []impl.Reel            = impl.Needs
	_ func(needs, have []impl.Reel) []impl.Reel                       = impl.Missing
	_ func(needs, have []impl.Reel) bool                              = impl.Covered
	_ func(track []impl.Clip, old, new, by int64) ([]impl.Clip, bool) = impl.Relink
	_ struct{ Src, From, To int64 }                                   = impl.Reel{}
)

type reels = []impl.Reel

func reel(src, from, to int64) impl.Reel { return impl.Reel{Src: src, From: from, To: to} }

var reelMark = reel(-71, -72, -73)

// reelByWords says the chapter's sentence over again.
func reelByWords(r impl.Reel) bool {
	return r.Src >= 1 && r.Src <= 500 && r.From >= 0 && r.From < r.To && r.To <= lastFrame
}

func reelsByWords(list reels) bool {
	return len(list) <= mostClips && !slices.ContainsFunc(list, func(r impl.Reel) bool { return !reelByWords(r) })
}

func hasFrame(list reels, src, frame int64) bool {
	return slices.ContainsFunc(list, func(r impl.Reel) bool { return r.Src == src && r.From <= frame && frame < r.To })
}

// toldByWords asks, between each two neighbouring places at which something begins or ends, whether the frame there is wanted: all behind it, up to the next place, are as it is.
func toldByWords(wanted func(src, frame int64) bool, lists ...reels) reels {
	all := slices.Concat(lists...)
	out := reels{}
	for src := int64(1); src <= 500; src++ {
		places := []int64{}
		for _, r := range all {
			if r.Src == src {
				places = append(places, r.From, r.To)
			}
		}
		slices.Sort(places)
		places = slices.Compact(places)
		ahead := false
		for i, from := range places {
			is := i+1 < len(places) && wanted(src, from)
			if is && ahead {
				out[len(out)-1].To = places[i+1]
			} else if is {
				out = append(out, reel(src, from, places[i+1]))
			}
			ahead = is
		}
	}
	return out
}

func needsByWords(tracks []track, handle int64) reels {
	if len(tracks) > 50 || handle < 0 || handle > 1000 || slices.ContainsFunc(tracks, func(list track) bool { return !trackByWords(list) }) {
		return nil
	}
	all := reels{}
	for _, c := range slices.Concat(tracks...) {
		if c.Src == 0 {
			continue
		}
		r := reel(c.Src, c.In, c.In+c.Len)
		for range handle {
			if r.From > 0 {
				r.From--
			}
			if r.To < lastFrame {
				r.To++
			}
		}
		all = append(all, r)
	}
	return toldByWords(func(src, frame int64) bool { return hasFrame(all, src, frame) }, all)
}

func missingByWords(needs, have reels) (reels, bool) {
	if !reelsByWords(needs) || !reelsByWords(have) {
		return nil, false
	}
	wanted := func(src, frame int64) bool { return hasFrame(needs, src, frame) && !hasFrame(have, src, frame) }
	return toldByWords(wanted, needs, have), true
}

func relinkByWords(list track, old, to, by int64) (track, bool) {
	if !trackByWords(list) || old < 1 || old > 500 || to < 1 || to > 500 {
		return nil, false
	}
	list = slices.Clone(list)
	for i, c := range list {
		if c.Src == old {
			list[i] = clip(to, plus(c.In, by), c.Len)
		}
	}
	if slices.ContainsFunc(list, func(c impl.Clip) bool { return !clipByWords(c) }) {
		return nil, false
	}
	return joinedByWords(list), true
}

// checkTold: rising by Src, then From, each a reel, none overlapping or touching.
func checkTold(t *testing.T, list reels) {
	t.Helper()
	for i, r := range list {
		if !reelByWords(r) {
			t.Fatalf("%v is no reel, in %v", r, few(list))
		}
		if i == 0 {
			continue
		}
		if ahead := list[i-1]; ahead.Src > r.Src || ahead.Src == r.Src && ahead.To >= r.From {
			t.Fatalf("%v is behind %v, in %v", r, ahead, few(list))
		}
	}
}

// checkNeeds asks twice, and watches the tracks, the room behind each and behind all, and the answers' memory.
func checkNeeds(t *testing.T, tracks []track, handle int64, want reels) {
	t.Helper()
	given, wholes, befores := []track{}, []track{}, []track{}
	for _, list := range tracks {
		short, whole := withRoom(list, cutMark)
		given, wholes, befores = append(given, short), append(wholes, whole), append(befores, slices.Clone(whole))
	}
	marks := track{cutMark}
	given, all := withRoom(given, marks)
	got, again := impl.Needs(given, handle), impl.Needs(given, handle)
	if !slices.Equal(got, want) {
		t.Fatalf("Needs of %v with %d: %v, want %v", few(tracks), handle, few(got), few(want))
	}
	checkTold(t, got)
	if behind := got[len(got):cap(got)]; slices.ContainsFunc(behind, func(r impl.Reel) bool { return r != impl.Reel{} }) {
		t.Fatalf("Needs of %v with %d: reels that were put together are left behind the answer: %v", few(tracks), handle, few(behind))
	}
	spoilAll(got, reelMark)
	for i, list := range all {
		if i >= len(tracks) {
			if len(list) != 1 || &list[0] != &marks[0] || list[0] != cutMark {
				t.Fatalf("Needs of %v with %d: the room behind the tracks was written into", few(tracks), handle)
			}
		} else if len(list) != len(tracks[i]) || len(list) > 0 && &list[0] != &wholes[i][0] || !slices.Equal(wholes[i], befores[i]) {
			t.Fatalf("Needs of %v with %d: track %d, or its room, was written into", few(tracks), handle, i)
		}
	}
	for _, whole := range wholes {
		spoilAll(whole, cutMark)
	}
	if !slices.Equal(again, want) {
		t.Fatalf("Needs of %v with %d: the second answer shares memory, or is another one: %v", few(tracks), handle, few(again))
	}
}

// checkMissing holds Missing and Covered against what is wanted.
func checkMissing(t *testing.T, needs, have, want reels, right bool) {
	t.Helper()
	do := func(needs, have reels) (reels, bool) {
		got := impl.Missing(needs, have)
		checkTold(t, got)
		return got, impl.Covered(needs, have)
	}
	checkTwice(t, "Missing and Covered", do, needs, reelMark, have, reelMark, want, reelMark, right && len(want) == 0)
}

// checkReels holds both against the chapter's words, and what is missing against promise 8.
func checkReels(t *testing.T, needs, have reels) {
	t.Helper()
	want, right := missingByWords(needs, have)
	checkMissing(t, needs, have, want, right)
	if right {
		checkHad(t, needs, have)
	}
}

// checkHad is promise 8 by the chapter's own functions: with what is missing, all is had; what is missing is needed, and none of it is had.
func checkHad(t *testing.T, needs, have reels) {
	t.Helper()
	missing := impl.Missing(needs, have)
	if both := slices.Concat(have, missing); len(both) <= mostClips && !impl.Covered(needs, both) {
		t.Fatalf("needs %v, have %v: with what is missing, %v, not all is had", few(needs), few(have), few(missing))
	}
	if len(missing) > mostClips {
		return
	}
	if !impl.Covered(missing, needs) {
		t.Fatalf("needs %v, have %v: not all that is missing is needed: %v", few(needs), few(have), few(missing))
	}
	if !slices.Equal(impl.Missing(missing, have), missing) {
		t.Fatalf("needs %v, have %v: some that is missing is had: %v", few(needs), few(have), few(missing))
	}
	here := impl.Missing(needs, missing)
	if len(here) <= mostClips && !impl.Covered(here, have) {
		t.Fatalf("needs %v, have %v: what is not missing, %v, is not had", few(needs), few(have), few(here))
	}
}

// checkTracks holds Needs against the chapter's words, and promise 8 for each two handles.
func checkTracks(t *testing.T, tracks []track, handles ...int64) {
	t.Helper()
	ahead := reels{}
	for i, handle := range handles {
		want := needsByWords(tracks, handle)
		checkNeeds(t, tracks, handle, want)
		if i > 0 && handle >= handles[i-1] && handle <= 1000 && len(ahead) <= mostClips && !impl.Covered(ahead, want) {
			t.Fatalf("%v: the needs with %d do not have those with %d", few(tracks), handle, handles[i-1])
		}
		ahead = want
	}
}

func checkRelinked(t *testing.T, list track, old, to, by int64, want track, wantOk bool) {
	t.Helper()
	do := func(list track, _ []int) (track, bool) { return impl.Relink(list, old, to, by) }
	checkTwice(t, "Relink", do, list, cutMark, []int{int(old), int(to), int(by)}, 0, want, cutMark, wantOk)
}

func checkRelink(t *testing.T, list track, old, to, by int64) {
	t.Helper()
	want, ok := relinkByWords(list, old, to, by)
	checkRelinked(t, list, old, to, by, want, ok)
}

func TestNeedsOrdinary(t *testing.T) {
	one := []track{{clip(1, 10, 5)}}
	for _, x := range []struct {
		tracks []track
		handle int64
		want   reels
	}{
		// No track, none that shows a frame, one, and many.
		{nil, 0, nil},
		{nil, 1000, nil},
		{[]track{}, 5, nil},
		{[]track{nil}, 5, nil},
		{[]track{nil, {}, {gap(7)}}, 5, nil},
		{[]track{{gap(lastFrame)}}, 1000, nil},
		{one, 0, reels{reel(1, 10, 15)}},
		{one, 1, reels{reel(1, 9, 16)}},
		{one, 10, reels{reel(1, 0, 25)}},
		{one, 11, reels{reel(1, 0, 26)}},
		{one, 1000, reels{reel(1, 0, 1015)}},
		{[]track{nil, one[0], nil}, 2, reels{reel(1, 8, 17)}},
		{[]track{one[0], one[0], one[0]}, 2, reels{reel(1, 8, 17)}},
		{[]track{{clip(2, 10, 5)}, one[0]}, 0, reels{reel(1, 10, 15), reel(2, 10, 15)}},
		// Gaps show nothing, wherever they are.
		{[]track{{gap(3), clip(1, 10, 5), gap(2), clip(2, 7, 1), gap(9)}}, 1, reels{reel(1, 9, 16), reel(2, 6, 9)}},
		{[]track{{gap(1)}, {clip(3, 0, 1)}}, 0, reels{reel(3, 0, 1)}},
		// At the frame 0, and at the last one of a source.
		{[]track{{clip(1, 0, 1)}}, 0, reels{reel(1, 0, 1)}},
		{[]track{{clip(1, 0, 1)}}, 1, reels{reel(1, 0, 2)}},
		{[]track{{clip(1, 0, 1)}}, 1000, reels{reel(1, 0, 1001)}},
		{[]track{{clip(1, 1, 1)}}, 1, reels{reel(1, 0, 3)}},
		{[]track{{clip(1, 1000, 1)}}, 1000, reels{reel(1, 0, 2001)}},
		{[]track{{clip(1, 1001, 1)}}, 1000, reels{reel(1, 1, 2002)}},
		{[]track{{clip(500, lastFrame-1, 1)}}, 0, reels{reel(500, lastFrame-1, lastFrame)}},
		{[]track{{clip(500, lastFrame-1, 1)}}, 1, reels{reel(500, lastFrame-2, lastFrame)}},
		{[]track{{clip(500, lastFrame-1, 1)}}, 1000, reels{reel(500, lastFrame-1001, lastFrame)}},
		{[]track{{clip(500, lastFrame-2, 1)}}, 1, reels{reel(500, lastFrame-3, lastFrame)}},
		{[]track{{clip(500, lastFrame-1001, 1)}}, 1000, reels{reel(500, lastFrame-2001, lastFrame)}},
		{[]track{{clip(500, lastFrame-1002, 1)}}, 1000, reels{reel(500, lastFrame-2002, lastFrame-1)}},
		{[]track{{clip(1, 0, lastFrame)}}, 0, reels{reel(1, 0, lastFrame)}},
		{[]track{{clip(1, 0, lastFrame)}}, 1000, reels{reel(1, 0, lastFrame)}},
		{[]track{{clip(1, 0, lastFrame-1)}}, 1, reels{reel(1, 0, lastFrame)}},
		{[]track{{clip(1, 1, lastFrame-2)}, {clip(1, 1, lastFrame-1)}}, 0, reels{reel(1, 1, lastFrame)}},
		// Of one source: the same, one in the other, overlapping, touching, one apart.
		{[]track{{clip(1, 10, 5), clip(1, 10, 5)}}, 0, reels{reel(1, 10, 15)}},
		{[]track{{clip(1, 10, 5), clip(1, 10, 7)}}, 0, reels{reel(1, 10, 17)}},
		{[]track{{clip(1, 10, 7), clip(1, 10, 5)}}, 0, reels{reel(1, 10, 17)}},
		{[]track{{clip(1, 10, 5), clip(1, 11, 2)}}, 0, reels{reel(1, 10, 15)}},
		{[]track{{clip(1, 11, 2), clip(1, 10, 5)}}, 0, reels{reel(1, 10, 15)}},
		{[]track{{clip(1, 11, 2), clip(1, 10, 5), clip(1, 14, 2)}}, 0, reels{reel(1, 10, 16)}},
		{[]track{{clip(1, 10, 20), clip(1, 11, 2), clip(1, 14, 2)}}, 0, reels{reel(1, 10, 30)}},
		{[]track{{clip(1, 10, 5), clip(1, 14, 3)}}, 0, reels{reel(1, 10, 17)}},
		{[]track{{clip(1, 14, 3)}, {clip(1, 10, 5)}}, 0, reels{reel(1, 10, 17)}},
		{[]track{{clip(1, 10, 5), clip(1, 15, 3)}}, 0, reels{reel(1, 10, 18)}},
		{[]track{{clip(1, 15, 3)}, {clip(1, 10, 5)}}, 0, reels{reel(1, 10, 18)}},
		{[]track{{clip(1, 10, 5), clip(1, 16, 3)}}, 0, reels{reel(1, 10, 15), reel(1, 16, 19)}},
		{[]track{{clip(1, 16, 3)}, {clip(1, 10, 5)}}, 0, reels{reel(1, 10, 15), reel(1, 16, 19)}},
		// By their handles alone.
		{[]track{{clip(1, 10, 5), clip(1, 16, 3)}}, 1, reels{reel(1, 9, 20)}},
		{[]track{{clip(1, 10, 5), clip(1, 17, 3)}}, 1, reels{reel(1, 9, 21)}},
		{[]track{{clip(1, 10, 5), clip(1, 18, 3)}}, 1, reels{reel(1, 9, 16), reel(1, 17, 22)}},
		{[]track{{clip(1, 3000, 5), clip(1, 5005, 3)}}, 1000, reels{reel(1, 2000, 6008)}},
		{[]track{{clip(1, 3000, 5), clip(1, 5006, 3)}}, 1000, reels{reel(1, 2000, 4005), reel(1, 4006, 6009)}},
		{[]track{{clip(1, 3000, 5), clip(1, 5005, 3)}}, 999, reels{reel(1, 2001, 4004), reel(1, 4006, 6007)}},
		// Several sources in any order; those that touch are of two.
		{[]track{{clip(3, 0, 5), clip(1, 5, 5), clip(2, 10, 5)}}, 0, reels{reel(1, 5, 10), reel(2, 10, 15), reel(3, 0, 5)}},
		{[]track{{clip(2, 0, 5), clip(1, 5, 5)}, {clip(2, 20, 1), clip(1, 0, 3)}}, 1, reels{reel(1, 0, 11), reel(2, 0, 6), reel(2, 19, 22)}},
		{[]track{{clip(1, 0, 5), clip(2, 5, 5), clip(1, 10, 2)}}, 0, reels{reel(1, 0, 5), reel(1, 10, 12), reel(2, 5, 10)}},
		{[]track{{clip(500, 0, 1), clip(1, 0, 1), clip(10, 0, 1), clip(9, 0, 1)}}, 0, reels{reel(1, 0, 1), reel(9, 0, 1), reel(10, 0, 1), reel(500, 0, 1)}},
	} {
		checkNeeds(t, x.tracks, x.handle, x.want)
		checkTracks(t, x.tracks, x.handle)
		checkTracks(t, x.tracks, 0, 1, 2, 999, 1000)
	}
}

func TestNeedsLimits(t *testing.T) {
	some := track{clip(1, 10, 5)}
	for _, n := range []int{49, 50, 51, 52, 100} {
		// All alike, all empty, and each of another source.
		each := []track{}
		want := reels{}
		for i := range int64(n) {
			each = append(each, track{clip(400-i, i, 1)})
			want = slices.Insert(want, 0, reel(400-i, i, i+1))
		}
		if n > 50 {
			checkNeeds(t, each, 0, nil)
			checkNeeds(t, slices.Repeat([]track{some}, n), 0, nil)
			checkNeeds(t, append(make([]track, n-1), some), 0, nil)
		} else {
			checkNeeds(t, each, 0, want)
			checkNeeds(t, slices.Repeat([]track{some}, n), 3, reels{reel(1, 7, 18)})
			checkNeeds(t, append(make([]track, n-1), some), 0, reels{reel(1, 10, 15)})
		}
		checkNeeds(t, make([]track, n), 0, nil)
	}
	for _, handle := range []int64{-1, -2, 1001, 1002, math.MaxInt64, math.MinInt64, math.MaxInt64 - 5, 1 << 32, -1 << 32, 1<<32 + 1} {
		checkNeeds(t, []track{some}, handle, nil)
		checkNeeds(t, nil, handle, nil)
		checkNeeds(t, []track{{gap(1)}}, handle, nil)
	}
	checkNeeds(t, []track{some}, 999, reels{reel(1, 0, 1014)})
	checkNeeds(t, []track{some}, 1000, reels{reel(1, 0, 1015)})
}

// noTracks are each none for one reason.
func noTracks() []track {
	return []track{
		{clip(0, 1, 1)},
		{clip(501, 0, 1)},
		{clip(-1, 0, 1)},
		{clip(1, -1, 2)},
		{clip(1, 10, 0)},
		{clip(1, 10, -1)},
		{clip(1, lastFrame, 1)},
		{clip(1, math.MaxInt64, 1)},
		{clip(1, 1, math.MaxInt64)},
		{clip(1, 10, 6), gap(0)},
		{gap(lastFrame), gap(1)},
		{clip(1, 0, lastFrame), clip(2, 0, 1)},
		{gap(math.MaxInt64), gap(math.MaxInt64), gap(8)},
		manyClips(301),
		slices.Repeat(track{gap(1)}, 301),
	}
}

// One that is no track, at any place, leaves nothing.
func TestNeedsOfNoTrack(t *testing.T) {
	some := track{clip(1, 10, 5), gap(2), clip(2, 0, 4)}
	for _, none := range noTracks() {
		for _, handle := range []int64{0, 1, 1000} {
			checkNeeds(t, []track{none}, handle, nil)
			checkNeeds(t, []track{none, some}, handle, nil)
			checkNeeds(t, []track{some, none}, handle, nil)
			checkNeeds(t, []track{some, none, some}, handle, nil)
		}
		checkNeeds(t, append(slices.Repeat([]track{some}, 49), none), 0, nil)
		checkNeeds(t, append(slices.Repeat([]track{some}, 49), some), 0, reels{reel(1, 10, 15), reel(2, 0, 4)})
	}
}

// As many clips as there may be: no limit is on the reels that are told.
func TestNeedsOfAllClips(t *testing.T) {
	apart, touching := []track{}, []track{}
	want := reels{}
	for i := range int64(50) {
		list, near := track{}, track{}
		for k := range int64(300) {
			list = append(list, clip(50-i, 7*(299-k), 6))
			near = append(near, clip(9, 6*(300*i+299-k), 6))
		}
		apart, touching = append(apart, list), append(touching, near)
	}
	for src := range int64(50) {
		for k := range int64(300) {
			want = append(want, reel(src+1, 7*k, 7*k+6))
		}
	}
	checkNeeds(t, apart, 0, want)
	checkNeeds(t, touching, 0, reels{reel(9, 0, 90000)})
	wide := reels{}
	for src := range int64(50) {
		wide = append(wide, reel(src+1, 0, 7*299+7))
	}
	checkNeeds(t, apart, 1, wide)
	checkNeeds(t, touching, 1000, reels{reel(9, 0, 91000)})
	checkNeeds(t, append(apart[:49:49], manyClips(301)), 0, nil)
	for i := range apart {
		checkTracks(t, apart[i:i+1], 0, 1)
	}
}

func TestMissingOrdinary(t *testing.T) {
	one := reels{reel(1, 10, 20)}
	for _, x := range []struct{ needs, have, want reels }{
		// Nothing on a side.
		{nil, nil, nil},
		{nil, one, nil},
		{reels{}, reels{}, nil},
		{one, nil, one},
		// What is had: all, more, beside, at the beginning, in the middle, at the end.
		{one, one, nil},
		{one, reels{reel(1, 9, 21)}, nil},
		{one, reels{reel(1, 10, 21)}, nil},
		{one, reels{reel(1, 9, 20)}, nil},
		{one, reels{reel(1, 0, lastFrame)}, nil},
		{one, reels{reel(1, 0, 10)}, one},
		{one, reels{reel(1, 20, 30)}, one},
		{one, reels{reel(1, 0, 10), reel(1, 20, 30)}, one},
		{one, reels{reel(1, 0, 9), reel(1, 21, 30)}, one},
		{one, reels{reel(1, 9, 11)}, reels{reel(1, 11, 20)}},
		{one, reels{reel(1, 10, 11)}, reels{reel(1, 11, 20)}},
		{one, reels{reel(1, 10, 19)}, reels{reel(1, 19, 20)}},
		{one, reels{reel(1, 11, 20)}, reels{reel(1, 10, 11)}},
		{one, reels{reel(1, 19, 20)}, reels{reel(1, 10, 19)}},
		{one, reels{reel(1, 19, 21)}, reels{reel(1, 10, 19)}},
		{one, reels{reel(1, 14, 15)}, reels{reel(1, 10, 14), reel(1, 15, 20)}},
		{one, reels{reel(1, 11, 19)}, reels{reel(1, 10, 11), reel(1, 19, 20)}},
		{one, reels{reel(1, 17, 18), reel(1, 12, 13)}, reels{reel(1, 10, 12), reel(1, 13, 17), reel(1, 18, 20)}},
		{one, reels{reel(1, 15, 20), reel(1, 10, 15)}, nil},
		{one, reels{reel(1, 16, 20), reel(1, 10, 15)}, reels{reel(1, 15, 16)}},
		{one, reels{reel(1, 12, 30), reel(1, 0, 14)}, nil},
		{one, reels{reel(1, 12, 16), reel(1, 14, 18)}, reels{reel(1, 10, 12), reel(1, 18, 20)}},
		{one, reels{reel(1, 12, 18), reel(1, 14, 16)}, reels{reel(1, 10, 12), reel(1, 18, 20)}},
		{one, reels{reel(1, 14, 16), reel(1, 12, 18), reel(1, 14, 16)}, reels{reel(1, 10, 12), reel(1, 18, 20)}},
		{one, reels{reel(1, 12, 14), reel(1, 12, 18)}, reels{reel(1, 10, 12), reel(1, 18, 20)}},
		{one, reels{reel(1, 12, 18), reel(1, 12, 14)}, reels{reel(1, 10, 12), reel(1, 18, 20)}},
		// Of another source, whatever its frames.
		{one, reels{reel(2, 10, 20)}, one},
		{one, reels{reel(2, 0, 30), reel(3, 10, 20)}, one},
		{reels{reel(2, 10, 20)}, one, reels{reel(2, 10, 20)}},
		{reels{reel(3, 0, 2), reel(1, 4, 6)}, reels{reel(2, 0, 9)}, reels{reel(1, 4, 6), reel(3, 0, 2)}},
		{reels{reel(3, 0, 2), reel(1, 4, 6), reel(2, 0, 9)}, reels{reel(2, 0, 9), reel(4, 0, 9)}, reels{reel(1, 4, 6), reel(3, 0, 2)}},
		// What is needed in any order, overlapping, touching, twice.
		{reels{reel(1, 15, 20), reel(1, 10, 15)}, nil, one},
		{reels{reel(1, 14, 20), reel(1, 10, 15)}, nil, one},
		{reels{reel(1, 10, 20), reel(1, 12, 15)}, nil, one},
		{reels{reel(1, 12, 15), reel(1, 10, 20), reel(1, 10, 11)}, nil, one},
		{reels{reel(1, 10, 20), reel(1, 10, 20)}, nil, one},
		{reels{reel(1, 16, 20), reel(1, 10, 15)}, nil, reels{reel(1, 10, 15), reel(1, 16, 20)}},
		{reels{reel(1, 15, 20), reel(1, 10, 15)}, reels{reel(1, 15, 16)}, reels{reel(1, 10, 15), reel(1, 16, 20)}},
		{reels{reel(1, 15, 20), reel(1, 10, 15)}, reels{reel(1, 12, 18)}, reels{reel(1, 10, 12), reel(1, 18, 20)}},
		{reels{reel(1, 15, 20), reel(1, 10, 14)}, reels{reel(1, 13, 16)}, reels{reel(1, 10, 13), reel(1, 16, 20)}},
		{reels{reel(1, 15, 20), reel(1, 10, 14)}, reels{reel(1, 14, 15)}, reels{reel(1, 10, 14), reel(1, 15, 20)}},
		{reels{reel(1, 0, 4), reel(1, 6, 9), reel(1, 11, 15)}, reels{reel(1, 2, 13)}, reels{reel(1, 0, 2), reel(1, 13, 15)}},
		// At the ends of a source.
		{reels{reel(500, 0, lastFrame)}, reels{reel(500, 1, lastFrame-1)}, reels{reel(500, 0, 1), reel(500, lastFrame-1, lastFrame)}},
		{reels{reel(500, 0, lastFrame)}, reels{reel(500, 0, 1), reel(500, lastFrame-1, lastFrame)}, reels{reel(500, 1, lastFrame-1)}},
		{reels{reel(500, 0, lastFrame)}, reels{reel(500, 0, lastFrame)}, nil},
		{reels{reel(1, 0, 1), reel(2, 0, 1), reel(1, lastFrame-1, lastFrame)}, reels{reel(2, 0, 1), reel(1, lastFrame-1, lastFrame)}, reels{reel(1, 0, 1)}},
	} {
		checkMissing(t, x.needs, x.have, x.want, true)
		checkReels(t, x.needs, x.have)
		checkReels(t, x.have, x.needs)
	}
}

// Each number of a reel at its limits, alone and one among others, on each side.
func TestReelLimits(t *testing.T) {
	some := reels{reel(1, 10, 20), reel(2, 0, 5)}
	for _, x := range []struct {
		r  impl.Reel
		ok bool
	}{
		{reel(1, 5, 6), true},
		{reel(500, 5, 6), true},
		{reel(0, 5, 6), false},
		{reel(-1, 5, 6), false},
		{reel(501, 5, 6), false},
		{reel(math.MinInt64, 5, 6), false},
		{reel(math.MaxInt64, 5, 6), false},
		{reel(1<<32+1, 5, 6), false},
		{reel(1, 0, 1), true},
		{reel(1, -1, 1), false},
		{reel(1, -1, 0), false},
		{reel(1, math.MinInt64, 6), false},
		{reel(1, math.MinInt64, math.MaxInt64), false},
		{reel(1, 5, 5), false},
		{reel(1, 0, 0), false},
		{reel(1, 6, 5), false},
		{reel(1, lastFrame-1, lastFrame), true},
		{reel(1, 0, lastFrame), true},
		{reel(1, lastFrame, lastFrame), false},
		{reel(1, lastFrame, lastFrame+1), false},
		{reel(1, lastFrame-1, lastFrame+1), false},
		{reel(1, 0, lastFrame+1), false},
		{reel(1, 5, math.MaxInt64), false},
		{reel(1, math.MaxInt64, math.MinInt64), false},
		{reel(1, math.MaxInt64-1, math.MaxInt64), false},
		{reel(1, 1<<32+5, 1<<32+6), false},
		{impl.Reel{}, false},
	} {
		for _, list := range []reels{{x.r}, append(slices.Clip(some), x.r), append(reels{x.r}, some...), {some[0], x.r, some[1]}} {
			for _, other := range []reels{nil, some, {reel(1, 0, lastFrame), reel(500, 0, lastFrame), reel(2, 0, lastFrame)}, list} {
				checkReels(t, list, other)
				checkReels(t, other, list)
			}
			if got := impl.Covered(nil, list); got != x.ok {
				t.Errorf("nothing is needed, %v had: %v", list, got)
			}
			if got := impl.Covered(list, list); got != x.ok {
				t.Errorf("%v in itself: %v", list, got)
			}
		}
	}
}

func TestManyReels(t *testing.T) {
	for _, n := range []int64{299, 300, 301, 302, 1000} {
		odd, even, same := reels{}, reels{}, reels{}
		for i := range n {
			odd = append(odd, reel(7, 2*(n-i)-1, 2*(n-i)))
			even = append(even, reel(7, 2*i, 2*i+1))
			same = append(same, reel(7, 3, 4))
		}
		whole := reels{reel(7, 0, 2*n)}
		ok := n <= 300
		ordered := slices.Clone(odd)
		slices.Reverse(ordered)
		for _, x := range []struct{ needs, have, want reels }{
			{odd, nil, ordered},
			{odd, even, ordered},
			{even, odd, even},
			{odd, odd, nil},
			{whole, odd, even},
			{whole, even, ordered},
			{odd, whole, nil},
			{same, whole, nil},
			{same, even, reels{reel(7, 3, 4)}},
			{whole, same, reels{reel(7, 0, 3), reel(7, 4, 2*n)}},
			{nil, same, nil},
			{same, nil, reels{reel(7, 3, 4)}},
		} {
			if !ok {
				x.want = nil
			}
			checkMissing(t, x.needs, x.have, x.want, ok)
		}
	}
	// 300 on both sides leave one reel more than may be given: it is told all the same.
	cuts := reels{}
	for i := range int64(300) {
		cuts = append(cuts, reel(1, 2*i+1, 2*i+2))
	}
	if got := impl.Missing(reels{reel(1, 0, 1000)}, cuts); len(got) != 301 || got[300] != reel(1, 600, 1000) {
		t.Errorf("%d reels are missing: %v", len(got), few(got))
	}
	// Each of 300 needs is cut by two that are had.
	needs, have := reels{}, reels{}
	for i := range int64(300) {
		needs = append(needs, reel(i+1, 0, 100))
		have = append(have, reel(i+1, 40, 60))
	}
	if got := impl.Missing(needs, have); len(got) != 600 || got[599] != reel(300, 60, 100) {
		t.Errorf("%d reels are missing: %v", len(got), few(got))
	}
	checkReels(t, needs, have)
}

// Every two lists of up to two of all the reels that five frames have, and one of another source.
func TestReelsOfAllShapes(t *testing.T) {
	shapes := reels{reel(2, 1, 3)}
	for from := range int64(5) {
		for to := from + 1; to <= 5; to++ {
			shapes = append(shapes, reel(1, from, to))
		}
	}
	all := []reels{nil}
	for at := 0; len(all[at]) < 2; at++ {
		for _, r := range shapes {
			all = append(all, append(slices.Clip(all[at]), r))
		}
	}
	framed := func(list reels) [6]bool {
		out := [6]bool{}
		for _, r := range list {
			for i := r.From; i < r.To && r.Src == 1; i++ {
				out[i] = true
			}
		}
		return out
	}
	for _, needs := range all {
		for _, have := range all {
			got := impl.Missing(needs, have)
			checkTold(t, got)
			want, a, b := [6]bool{}, framed(needs), framed(have)
			for i := range want {
				want[i] = a[i] && !b[i]
			}
			two := slices.Contains(needs, reel(2, 1, 3)) && !slices.Contains(have, reel(2, 1, 3))
			if framed(got) != want || slices.Contains(got, reel(2, 1, 3)) != two {
				t.Fatalf("needs %v, have %v: %v", needs, have, got)
			}
			if impl.Covered(needs, have) != (!two && want == [6]bool{}) {
				t.Fatalf("needs %v, have %v: covered is another thing than nothing missing", needs, have)
			}
		}
	}
	for _, needs := range all[:100] {
		for _, have := range all[:100] {
			checkReels(t, needs, have)
		}
	}
}

// Every three clips of these, in one track and in several, with each handle that could matter.
func TestNeedsOfAllShapes(t *testing.T) {
	shapes := track{gap(2), clip(1, 0, 2), clip(1, 2, 3), clip(1, 6, 2), clip(1, 3, 4), clip(1, 11, 1), clip(2, 0, 1), clip(2, lastFrame-4, 2), clip(2, lastFrame-1, 1), clip(2, lastFrame, 1)}
	for _, a := range shapes {
		for _, b := range shapes {
			for _, c := range shapes {
				for _, tracks := range [][]track{{{a, b, c}}, {{a}, {b, c}}, {{c}, nil, {b}, {a}}} {
					checkTracks(t, tracks, 0, 1, 2, 3, 4)
				}
			}
		}
	}
}

func TestRelinkOrdinary(t *testing.T) {
	one := track{clip(1, 10, 5)}
	list := track{clip(1, 10, 5), gap(4), clip(2, 0, 2), clip(1, 20, 3), clip(500, lastFrame-6, 6)}
	for _, x := range []struct {
		list        track
		old, to, by int64
		want        track
	}{
		// No clip, and no clip of the source.
		{nil, 1, 2, 3, track{}},
		{track{}, 1, 1, math.MaxInt64, track{}},
		{track{gap(3)}, 1, 2, -1, track{gap(3)}},
		{one, 2, 3, 0, one},
		{one, 2, 3, lastFrame, one},
		{one, 2, 1, math.MaxInt64, one},
		{one, 500, 1, math.MinInt64, one},
		{track{gap(1), gap(2), clip(1, 10, 5), clip(1, 15, 1)}, 2, 3, -7, track{gap(3), clip(1, 10, 6)}},
		// One clip.
		{one, 1, 2, 0, track{clip(2, 10, 5)}},
		{one, 1, 500, 0, track{clip(500, 10, 5)}},
		{track{clip(500, 10, 5)}, 500, 1, 4, track{clip(1, 14, 5)}},
		{one, 1, 2, 3, track{clip(2, 13, 5)}},
		{one, 1, 2, -3, track{clip(2, 7, 5)}},
		{one, 1, 1, 0, one},
		{one, 1, 1, 3, track{clip(1, 13, 5)}},
		{one, 1, 1, -3, track{clip(1, 7, 5)}},
		// At the ends of the source, and past them.
		{one, 1, 2, -10, track{clip(2, 0, 5)}},
		{one, 1, 2, -11, nil},
		{one, 1, 1, -11, nil},
		{one, 1, 2, lastFrame - 15, track{clip(2, lastFrame-5, 5)}},
		{one, 1, 2, lastFrame - 14, nil},
		{one, 1, 2, lastFrame, nil},
		{one, 1, 2, -lastFrame, nil},
		{one, 1, 2, math.MaxInt64, nil},
		{one, 1, 2, math.MaxInt64 - 10, nil},
		{one, 1, 2, math.MaxInt64 - 9, nil},
		{one, 1, 2, math.MinInt64, nil},
		{one, 1, 2, math.MinInt64 + 1, nil},
		{one, 1, 2, 1 << 32, nil},
		{one, 1, 2, -1 << 32, nil},
		{track{clip(1, 0, lastFrame)}, 1, 2, 0, track{clip(2, 0, lastFrame)}},
		{track{clip(1, 0, lastFrame)}, 1, 2, 1, nil},
		{track{clip(1, 0, lastFrame)}, 1, 2, -1, nil},
		{track{clip(1, lastFrame-1, 1)}, 1, 2, 0, track{clip(2, lastFrame-1, 1)}},
		{track{clip(1, lastFrame-1, 1)}, 1, 2, 1, nil},
		{track{clip(1, lastFrame-1, 1)}, 1, 2, 1 - lastFrame, track{clip(2, 0, 1)}},
		{track{clip(1, lastFrame-1, 1)}, 1, 2, -lastFrame, nil},
		{track{clip(1, 0, 1)}, 1, 2, lastFrame - 1, track{clip(2, lastFrame-1, 1)}},
		{track{clip(1, 0, 1)}, 1, 2, lastFrame, nil},
		// Many clips; gaps and those of other sources stay.
		{list, 1, 3, 0, track{clip(3, 10, 5), gap(4), clip(2, 0, 2), clip(3, 20, 3), list[4]}},
		{list, 1, 3, -10, track{clip(3, 0, 5), gap(4), clip(2, 0, 2), clip(3, 10, 3), list[4]}},
		{list, 1, 3, -11, nil},
		{list, 1, 1, 7, track{clip(1, 17, 5), gap(4), clip(2, 0, 2), clip(1, 27, 3), list[4]}},
		{list, 2, 3, 9, track{list[0], gap(4), clip(3, 9, 2), list[3], list[4]}},
		{list, 500, 3, 0, track{list[0], gap(4), list[2], list[3], clip(3, lastFrame-6, 6)}},
		{list, 500, 3, 1, nil},
		{list, 1, 3, lastFrame - 23, track{clip(3, lastFrame-13, 5), gap(4), list[2], clip(3, lastFrame-3, 3), list[4]}},
		{list, 1, 3, lastFrame - 22, nil},
		{track{clip(1, 5, 1), clip(1, 4, 1), clip(1, 3, 1)}, 1, 2, -3, track{clip(2, 2, 1), clip(2, 1, 1), clip(2, 0, 1)}},
		{track{clip(1, 5, 1), clip(1, 4, 1), clip(1, 3, 1)}, 1, 2, -4, nil},
		{track{clip(1, 5, 1), clip(1, 2, 1), clip(1, 3, 1)}, 1, 2, -3, nil},
		// Those that go on once they are relinked, and that no more do.
		{track{clip(1, 0, 5), clip(2, 5, 5)}, 2, 1, 0, track{clip(1, 0, 10)}},
		{track{clip(1, 0, 5), clip(2, 5, 5)}, 1, 2, 0, track{clip(2, 0, 10)}},
		{track{clip(1, 0, 5), clip(2, 8, 5)}, 2, 1, -3, track{clip(1, 0, 10)}},
		{track{clip(1, 0, 5), clip(2, 8, 5)}, 1, 2, 3, track{clip(2, 3, 10)}},
		{track{clip(1, 0, 5), clip(2, 8, 5)}, 1, 2, 2, track{clip(2, 2, 5), clip(2, 8, 5)}},
		{track{clip(3, 0, 5), clip(2, 5, 5), clip(3, 10, 5)}, 2, 3, 0, track{clip(3, 0, 15)}},
		{track{clip(1, 0, 5), clip(1, 5, 5)}, 1, 2, 4, track{clip(2, 4, 10)}},
		{track{clip(1, 0, 5), clip(1, 5, 5)}, 2, 3, 4, track{clip(1, 0, 10)}},
		{track{clip(1, 0, 5), gap(1), clip(2, 5, 5)}, 2, 1, 0, track{clip(1, 0, 5), gap(1), clip(1, 5, 5)}},
		{track{gap(1), gap(1), clip(2, 2, 5)}, 2, 1, 0, track{gap(2), clip(1, 2, 5)}},
		{track{clip(1, 0, 5), clip(2, 5, 5), clip(2, 10, 1)}, 2, 2, 1, track{clip(1, 0, 5), clip(2, 6, 6)}},
		// A source that is the new one already stays where it is.
		{track{clip(1, 0, 5), clip(2, 0, 5)}, 1, 2, 0, track{clip(2, 0, 5), clip(2, 0, 5)}},
		{track{clip(2, 7, 5), clip(1, 0, 5)}, 1, 2, 1, track{clip(2, 7, 5), clip(2, 1, 5)}},
		// What is no source, though no clip has it.
		{one, 0, 2, 0, nil},
		{track{gap(3)}, 0, 2, 0, nil},
		{nil, 0, 2, 0, nil},
		{one, -1, 2, 0, nil},
		{one, 501, 2, 0, nil},
		{one, 1, 0, 0, nil},
		{one, 1, -1, 0, nil},
		{one, 1, 501, 0, nil},
		{one, 2, 501, 0, nil},
		{nil, 2, 501, 0, nil},
		{nil, 501, 501, 0, nil},
		{one, math.MaxInt64, 2, 0, nil},
		{one, math.MinInt64, 2, 0, nil},
		{one, 1, math.MaxInt64, 0, nil},
		{one, 1, math.MinInt64, 0, nil},
		{one, 1<<32 + 1, 2, 0, nil},
	} {
		checkRelinked(t, x.list, x.old, x.to, x.by, x.want, x.want != nil)
		checkRelink(t, x.list, x.old, x.to, x.by)
	}
}

func TestRelinkOfNoTrack(t *testing.T) {
	for _, none := range noTracks() {
		for _, by := range []int64{0, 1, -1, 1 - lastFrame} {
			checkRelinked(t, none, 1, 2, by, nil, false)
			checkRelinked(t, none, 1, 1, by, nil, false)
			checkRelinked(t, none, 77, 78, by, nil, false)
		}
	}
	// What is no clip is none, though it would be one once it is relinked.
	for _, src := range []int64{-1, 0, 501} {
		checkRelinked(t, track{clip(src, 5, 1)}, src, 1, 0, nil, false)
	}
}

func TestRelinkOfManyClips(t *testing.T) {
	for _, n := range []int{299, 300, 301} {
		same, apart, near := track{}, track{}, track{}
		for i := range int64(n) {
			same = append(same, clip(1, 5, 2))
			apart = append(apart, clip(1+i%2, 3*i, 2))
			near = append(near, clip(1+i%2, 2*i, 2))
		}
		for _, list := range []track{same, apart, near, manyClips(n)} {
			for _, x := range [][3]int64{{1, 2, 0}, {1, 1, 9}, {2, 1, 0}, {2, 1, -3}, {2, 9, -2}, {7, 8, 1}} {
				checkRelink(t, list, x[0], x[1], x[2])
				if got, ok := impl.Relink(list, x[0], x[1], x[2]); n > 300 && (ok || len(got) != 0) {
					t.Errorf("%d clips are relinked", n)
				}
			}
		}
		if got, ok := impl.Relink(near, 2, 1, 0); n <= 300 && (!ok || !slices.Equal(got, track{clip(1, 0, int64(2*n))})) {
			t.Errorf("%d clips do not go on: %v", n, few(got))
		}
	}
}

// Every three of these clips, from and to each source, by each number that could matter.
func TestRelinkOfAllShapes(t *testing.T) {
	shapes := track{gap(2), clip(1, 0, 2), clip(1, 2, 1), clip(1, 3, 2), clip(2, 1, 2), clip(2, lastFrame-4, 2), clip(0, 1, 1)}
	for _, a := range shapes {
		for _, b := range shapes {
			for _, c := range shapes {
				for old := int64(0); old <= 3; old++ {
					for to := int64(0); to <= 3; to++ {
						for by := int64(-3); by <= 3; by++ {
							checkRelink(t, track{a, b, c}, old, to, by)
						}
					}
				}
			}
		}
	}
}

func randomReels(r *rand.Rand) reels {
	out := reels{}
	for range r.Intn(8) {
		from := int64(r.Intn(20))
		next := reel(int64(1+r.Intn(3)), from, from+1+int64(r.Intn(6)))
		switch r.Intn(60) {
		case 0:
			next.Src = []int64{0, 501, 500, -1}[r.Intn(4)]
		case 1:
			next.To = []int64{lastFrame, lastFrame + 1, from, from - 1}[r.Intn(4)]
		case 2:
			next.From = []int64{-1, 0, next.To, math.MinInt64}[r.Intn(4)]
		}
		out = append(out, next)
	}
	return out
}

func TestReelsAtRandom(t *testing.T) {
	r := rand.New(rand.NewSource(70))
	covered := 0
	for range 6000 {
		needs, have := randomReels(r), slices.Concat(randomReels(r), randomReels(r))
		if r.Intn(2) == 0 {
			needs = needs[:min(len(needs), 2)]
		}
		checkReels(t, needs, have)
		if reelsByWords(needs) && reelsByWords(have) && len(needs) > 0 && impl.Covered(needs, have) {
			covered++
		}
		// The order of either side tells nothing.
		first, isCovered := impl.Missing(needs, have), impl.Covered(needs, have)
		r.Shuffle(len(needs), func(i, k int) { needs[i], needs[k] = needs[k], needs[i] })
		r.Shuffle(len(have), func(i, k int) { have[i], have[k] = have[k], have[i] })
		if !slices.Equal(impl.Missing(needs, have), first) || impl.Covered(needs, have) != isCovered {
			t.Fatalf("needs %v, have %v: in another order it is another answer", needs, have)
		}
	}
	if covered < 100 {
		t.Error("too few are covered:", covered)
	}
}

func TestNeedsAtRandom(t *testing.T) {
	r := rand.New(rand.NewSource(71))
	for range 1500 {
		tracks := []track{}
		for range r.Intn(5) {
			tracks = append(tracks, randomTrack(r))
		}
		checkTracks(t, tracks, 0, int64(r.Intn(3)), int64(3+r.Intn(5)), 1000)
		// Clips that are cut or ordered otherwise show the same frames.
		other := []track{}
		for _, list := range tracks {
			other = append(other, cutElsewhere(r, list))
		}
		r.Shuffle(len(other), func(i, k int) { other[i], other[k] = other[k], other[i] })
		if !slices.Equal(impl.Needs(tracks, 2), impl.Needs(other, 2)) {
			t.Fatalf("%v and %v need other frames", tracks, other)
		}
		// What one track needs, all of them need.
		for _, list := range tracks {
			if !impl.Covered(impl.Needs([]track{list}, 1), impl.Needs(tracks, 1)) {
				t.Fatalf("%v: not all of %v is needed", tracks, list)
			}
		}
	}
}

func TestRelinkAtRandom(t *testing.T) {
	r := rand.New(rand.NewSource(72))
	done := 0
	for range 6000 {
		list := randomTrack(r)
		old, to, by := int64(r.Intn(4)), int64(r.Intn(4)), int64(r.Intn(9)-4)
		checkRelink(t, list, old, to, by)
		made, ok := impl.Relink(list, old, to, by)
		if !ok {
			continue
		}
		done++
		// No frame that is of another source is another one then.
		for at := range impl.Length(list) {
			want := frameAt(list, at)
			if want.src == old {
				want = picture{to, want.frame + by}
			}
			if frameAt(made, at) != want {
				t.Fatalf("%v from %d to %d by %d: frame %d of %v is not %v", list, old, to, by, at, made, want)
			}
		}
	}
	if done < 2000 {
		t.Error("too few were relinked:", done)
	}
}

// No answer of the chapter shares memory with another one that was made of it.
func TestConformAnswersStandAlone(t *testing.T) {
	r := rand.New(rand.NewSource(73))
	for range 500 {
		tracks := []track{randomTrack(r), randomTrack(r)}
		needs, wide := impl.Needs(tracks, 0), impl.Needs(tracks, 3)
		missing := impl.Missing(wide, needs)
		all := impl.Missing(needs, nil)
		heldWide, heldMissing, heldAll := slices.Clone(wide), slices.Clone(missing), slices.Clone(all)
		spoilAll(needs, reelMark)
		if !slices.Equal(wide, heldWide) || !slices.Equal(missing, heldMissing) || !slices.Equal(all, heldAll) {
			t.Fatalf("%v: an answer shares memory with the needs", tracks)
		}
		spoilAll(wide, reelMark)
		spoilAll(all, reelMark)
		if !slices.Equal(missing, heldMissing) {
			t.Fatalf("%v: what is missing shares memory with another answer", tracks)
		}
		made, _ := impl.Relink(tracks[0], 9, 9, 0)
		held := slices.Clone(tracks[0])
		spoilAll(made, cutMark)
		if !slices.Equal(tracks[0], held) {
			t.Fatalf("%v: what is relinked is the track's memory", held)
		}
	}
}

// FuzzConform takes three bytes for each clip and each reel; each may be none.
func FuzzConform(f *testing.F) {
	f.Add([]byte{1, 10, 20, 2, 0, 10}, []byte{1, 10, 4, 3, 9, 3, 1, 14, 16}, []byte{1, 5, 9}, int64(3), int64(1), int64(2), int64(-5))
	f.Add([]byte{0, 0, 2, 0, 0, 1, 2, 255, 4}, []byte{0, 0, 2}, []byte{2, 250, 9, 2, 3, 0}, int64(1000), int64(2), int64(2), int64(1))
	f.Fuzz(func(t *testing.T, one, other, had []byte, handle, old, to, by int64) {
		tracks := []track{tracksFromBytes(one), tracksFromBytes(other)}
		checkTracks(t, tracks, handle)
		checkRelink(t, tracks[0], old, to, by)
		have := reels{}
		for ; len(had) >= 3; had = had[3:] {
			from := int64(had[1])
			have = append(have, reel(int64(had[0]%5), from, from+int64(had[2])))
		}
		checkReels(t, impl.Needs(tracks, 2), have)
		checkReels(t, have, impl.Needs(tracks[:1], 0))
	})
}
