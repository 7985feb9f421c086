package tests

import (
	"math"
	"math/big"
	"math/rand"
	"slices"
	"testing"

	"loop.example/g00066/impl"
)

// The faces of the chapter, held as they were given.
var (
	_ func([]impl.Key) bool                                   = impl.KeysOk
	_ func(keys []impl.Key, t int64) int64                    = impl.SpeedAt
	_ func(keys []impl.Key, src, n int64) ([]impl.Clip, bool) = impl.Retime
	_ func([]impl.Clip) ([]impl.Clip, bool)                   = impl.Reverse
	_ func(keys []impl.Key, t int64) (int64, int64, int64)    = impl.Blend
	_ struct{ At, To int64 }                                  = impl.Key{}
	_ [impl.MaxKeys - 100]struct{}                            = [0]struct{}{}
	_ [impl.MaxRetime - 2000]struct{}                         = [0]struct{}{}
)

type keys = []impl.Key

func key(at, to int64) impl.Key { return impl.Key{At: at, To: to} }

var keyMark = key(-61, -62)

func frameByWords(n int64) bool { return n >= 0 && n <= lastFrame }

// keysByWords holds each key against each other one.
func keysByWords(list keys) bool {
	if len(list) < 1 || len(list) > 100 {
		return false
	}
	for i, k := range list {
		if !frameByWords(k.At) || !frameByWords(k.To) {
			return false
		}
		for _, later := range list[i+1:] {
			if later.At <= k.At {
				return false
			}
		}
	}
	return true
}

// mixed is what Blend tells.
type mixed struct{ frame, behind, weight int64 }

func blended(list keys, at int64) mixed {
	frame, behind, weight := impl.Blend(list, at)
	return mixed{frame, behind, weight}
}

// blendByWords divides numbers of any size; its first number is what SpeedAt tells.
func blendByWords(list keys, at int64) mixed {
	if !keysByWords(list) || !frameByWords(at) {
		return mixed{-1, -1, -1}
	}
	one, other := list[0], list[len(list)-1]
	if at < one.At {
		return mixed{one.To, one.To, 0}
	}
	if at > other.At {
		return mixed{other.To, other.To, 0}
	}
	for _, k := range list {
		switch {
		case k.At == at:
			return mixed{k.To, k.To, 0}
		case k.At < at && k.At >= one.At:
			one = k
		case k.At > at && k.At <= other.At:
			other = k
		}
	}
	way := big.NewInt(at - one.At)
	way.Mul(way, big.NewInt(other.To-one.To))
	whole, rest := new(big.Int).DivMod(way, big.NewInt(other.At-one.At), new(big.Int))
	frame := one.To + whole.Int64()
	weight := down([]int64{rest.Int64(), 256}, []int64{other.At - one.At}).Int64()
	return mixed{frame, min(frame+1, lastFrame), weight}
}

func retimeByWords(list keys, src, n int64) (track, bool) {
	if !keysByWords(list) || src < 1 || src > 500 || n < 1 || n > 2000 {
		return nil, false
	}
	seen := []picture{}
	for at := range n {
		seen = append(seen, picture{src, blendByWords(list, at).frame})
	}
	if made := clipsOf(seen); trackByWords(made) {
		return made, true
	}
	return nil, false
}

func reverseByWords(list track) (track, bool) {
	if !trackByWords(list) || lengthByWords(list) > 2000 {
		return nil, false
	}
	seen := picturesOf(list...)
	slices.Reverse(seen)
	if made := clipsOf(seen); trackByWords(made) {
		return made, true
	}
	return nil, false
}

// watchKeys asks twice, and watches the keys and the room behind them.
func watchKeys[T comparable](t *testing.T, name string, list keys, at int64, ask func(keys) T, want T) {
	t.Helper()
	given, whole := withRoom(list, keyMark)
	before := slices.Clone(whole)
	got, again := ask(given), ask(given)
	if got != want || again != want {
		t.Fatalf("%s of %v at %d: %v, then %v, want %v", name, few(list), at, got, again, want)
	}
	if !slices.Equal(whole, before) {
		t.Fatalf("%s of %v at %d: the keys, or their room, were written into", name, few(list), at)
	}
}

func checkKeys(t *testing.T, list keys, want bool) {
	t.Helper()
	watchKeys(t, "KeysOk", list, 0, impl.KeysOk, want)
}

// checkMixed holds SpeedAt and Blend against what is wanted.
func checkMixed(t *testing.T, list keys, at int64, want mixed) {
	t.Helper()
	watchKeys(t, "SpeedAt", list, at, func(list keys) int64 { return impl.SpeedAt(list, at) }, want.frame)
	watchKeys(t, "Blend", list, at, func(list keys) mixed { return blended(list, at) }, want)
}

// checkSpeed holds all three against the chapter's words, and SpeedAt against promise 9.
func checkSpeed(t *testing.T, list keys, places ...int64) {
	t.Helper()
	ok := keysByWords(list)
	checkKeys(t, list, ok)
	for _, at := range places {
		checkMixed(t, list, at, blendByWords(list, at))
		if ok && frameByWords(at) {
			checkAround(t, list, at)
		}
	}
}

// checkAround is promise 9 by the chapter's own functions: between the keys around, To at a key, and the nearest frame that is not above the line between the two.
func checkAround(t *testing.T, list keys, at int64) {
	t.Helper()
	got := impl.SpeedAt(list, at)
	next := 0
	for next < len(list) && list[next].At < at {
		next++
	}
	one, other := list[max(next-1, 0)], list[min(next, len(list)-1)]
	if next == 0 {
		one = other
	}
	if next == len(list) {
		other = one
	}
	if got < min(one.To, other.To) || got > max(one.To, other.To) {
		t.Fatalf("%v at %d: %d is not between %v and %v", few(list), at, got, one, other)
	}
	if other.At == at && got != other.To {
		t.Fatalf("%v: %d at the key %v", few(list), got, other)
	}
	if one == other {
		return
	}
	way, line := (got-one.To)*(other.At-one.At), (at-one.At)*(other.To-one.To)
	if way > line || line >= way+other.At-one.At {
		t.Fatalf("%v at %d: %d is not rounded down", few(list), at, got)
	}
}

// around are the places at each key, beside it, and halfway to the next one, and those at the ends of all frames and past them.
func around(list keys) []int64 {
	out := []int64{-1, 0, 1, lastFrame - 1, lastFrame, lastFrame + 1}
	for i, k := range list {
		if frameByWords(k.At) {
			out = append(out, k.At-1, k.At, k.At+1, k.At+2)
		}
		if i > 0 {
			out = append(out, list[i-1].At/2+k.At/2, (list[i-1].At/3)*2+k.At/3)
		}
	}
	return out
}

func checkRetimed(t *testing.T, list keys, src, n int64, want track, ok bool) {
	t.Helper()
	do := func(list keys, _ []int64) (track, bool) { return impl.Retime(list, src, n) }
	checkTwice(t, "Retime", do, list, keyMark, []int64{src, n}, 0, want, cutMark, ok)
}

// checkRetime holds Retime against the chapter's words, and what it shows against SpeedAt.
func checkRetime(t *testing.T, list keys, src, n int64) bool {
	t.Helper()
	want, ok := retimeByWords(list, src, n)
	checkRetimed(t, list, src, n, want, ok)
	if !ok {
		return false
	}
	made, _ := impl.Retime(list, src, n)
	if impl.Length(made) != n || !slices.Equal(impl.Joined(made), made) {
		t.Fatalf("Retime of %v, %d frames: %v has %d, or is not joined", few(list), n, few(made), impl.Length(made))
	}
	for at := range n {
		if seen := frameAt(made, at); seen != (picture{src, impl.SpeedAt(list, at)}) {
			t.Fatalf("Retime of %v: frame %d of %v is %v", few(list), at, few(made), seen)
		}
	}
	return true
}

func checkReversed(t *testing.T, list track, want track, ok bool) {
	t.Helper()
	do := func(list track, _ []int) (track, bool) { return impl.Reverse(list) }
	checkTwice(t, "Reverse", do, list, cutMark, nil, 0, want, cutMark, ok)
}

// checkReverse holds Reverse against the chapter's words and against promise 9.
func checkReverse(t *testing.T, list track) bool {
	t.Helper()
	want, ok := reverseByWords(list)
	checkReversed(t, list, want, ok)
	if !ok {
		return false
	}
	made, _ := impl.Reverse(list)
	length := impl.Length(list)
	if impl.Length(made) != length || !slices.Equal(impl.Joined(made), made) {
		t.Fatalf("Reverse of %v: %v is of another length, or not joined", few(list), few(made))
	}
	for at := range length {
		if frameAt(made, at) != frameAt(list, length-1-at) {
			t.Fatalf("Reverse of %v: frame %d of %v is not the one as far from the end", few(list), at, few(made))
		}
	}
	back, okBack := impl.Reverse(made)
	if !okBack || !slices.Equal(back, impl.Joined(list)) {
		t.Fatalf("Reverse of Reverse of %v: %v %v", few(list), few(back), okBack)
	}
	return true
}

func TestKeysOrdinary(t *testing.T) {
	for _, x := range []struct {
		list keys
		want bool
	}{
		// No key, and one.
		{nil, false},
		{keys{}, false},
		{keys{key(0, 0)}, true},
		{keys{key(7, 3)}, true},
		// At and To at 0, at the last frame, one below and one past.
		{keys{key(-1, 5)}, false},
		{keys{key(0, 5)}, true},
		{keys{key(1, 5)}, true},
		{keys{key(lastFrame-1, 5)}, true},
		{keys{key(lastFrame, 5)}, true},
		{keys{key(lastFrame+1, 5)}, false},
		{keys{key(5, -1)}, false},
		{keys{key(5, 0)}, true},
		{keys{key(5, 1)}, true},
		{keys{key(5, lastFrame-1)}, true},
		{keys{key(5, lastFrame)}, true},
		{keys{key(5, lastFrame+1)}, false},
		{keys{key(lastFrame, lastFrame)}, true},
		{keys{key(-1, -1)}, false},
		{keys{key(0, 0), key(lastFrame, lastFrame)}, true},
		{keys{key(0, lastFrame), key(lastFrame, 0)}, true},
		{keys{key(-1, 0), key(lastFrame, 0)}, false},
		{keys{key(0, 0), key(lastFrame+1, 0)}, false},
		{keys{key(0, -1), key(lastFrame, 0)}, false},
		{keys{key(0, 0), key(lastFrame, lastFrame+1)}, false},
		// Rising, alike, falling by At; To is free.
		{keys{key(1, 9), key(2, 9), key(3, 9)}, true},
		{keys{key(1, 9), key(2, 5), key(30, 7)}, true},
		{keys{key(1, 9), key(1, 9)}, false},
		{keys{key(1, 8), key(1, 9)}, false},
		{keys{key(0, 0), key(0, 0)}, false},
		{keys{key(lastFrame, 1), key(lastFrame, 2)}, false},
		{keys{key(2, 8), key(1, 9)}, false},
		{keys{key(1, 1), key(2, 2), key(2, 3)}, false},
		{keys{key(1, 1), key(1, 2), key(2, 3)}, false},
		{keys{key(1, 1), key(3, 2), key(2, 3)}, false},
		{keys{key(2, 1), key(1, 2), key(3, 3)}, false},
		{keys{key(1, 1), key(5, 2), key(1, 3)}, false},
		{keys{key(3, 1), key(2, 2), key(1, 3)}, false},
	} {
		checkKeys(t, x.list, x.want)
		checkSpeed(t, x.list, around(x.list)...)
	}
	for _, far := range strangeNumbers() {
		checkKeys(t, keys{key(far, 0)}, false)
		checkKeys(t, keys{key(0, far)}, false)
		checkKeys(t, keys{key(far, far)}, false)
		checkKeys(t, keys{key(0, 0), key(far, 5)}, false)
		checkKeys(t, keys{key(far, 0), key(5, 5)}, false)
		checkKeys(t, keys{key(1, 0), key(5, far), key(9, 9)}, false)
	}
}

// manyKeys are apart by 7, and their frames go up and down.
func manyKeys(n int) keys {
	list := keys{}
	for i := range int64(n) {
		list = append(list, key(7*i+3, 50+i*i%41))
	}
	return list
}

func TestManyKeys(t *testing.T) {
	for _, n := range []int{0, 1, 2, 50, 99, 100, 101, 102, 300} {
		ok := n >= 1 && n <= 100
		list := manyKeys(n)
		checkKeys(t, list, ok)
		for at := range int64(7*n + 20) {
			checkSpeed(t, list, at)
			if got := impl.SpeedAt(list, at); (got == -1) == ok {
				t.Fatalf("%d keys: %d at %d", n, got, at)
			}
		}
		if _, is := impl.Retime(list, 1, 20); is != ok {
			t.Fatalf("%d keys: retimed %v", n, is)
		}
		checkRetime(t, list, 1, 20)
	}
	// One wrong key, at any place of as many as there may be.
	for place := range 100 {
		for _, wrong := range []impl.Key{key(-1, 5), key(lastFrame+1, 5), key(7*int64(place)+3, -1), key(7*int64(place)+3, lastFrame+1)} {
			list := manyKeys(100)
			list[place] = wrong
			checkSpeed(t, list, 0, 4, 300, lastFrame)
			checkKeys(t, list, false)
			checkRetimed(t, list, 1, 20, nil, false)
		}
		if place > 0 {
			list := manyKeys(100)
			list[place].At = list[place-1].At
			checkKeys(t, list, false)
			list[place].At--
			checkKeys(t, list, false)
			list[place].At += 2
			checkKeys(t, list, true)
		}
	}
}

func TestSpeedOrdinary(t *testing.T) {
	one := keys{key(5, 9)}
	falls := keys{key(0, 10), key(4, 4), key(8, 4)}
	rises := keys{key(10, 100), key(20, 130), key(24, 131)}
	slow := keys{key(2, 5), key(12, 8)}
	backward := keys{key(2, 8), key(12, 5)}
	for _, x := range []struct {
		list keys
		at   int64
		want mixed
	}{
		// One key.
		{one, 0, mixed{9, 9, 0}},
		{one, 4, mixed{9, 9, 0}},
		{one, 5, mixed{9, 9, 0}},
		{one, 6, mixed{9, 9, 0}},
		{one, lastFrame, mixed{9, 9, 0}},
		// To falls, then stays: what is left counts from the lower frame on.
		{falls, 0, mixed{10, 10, 0}},
		{falls, 1, mixed{8, 9, 128}},
		{falls, 2, mixed{7, 8, 0}},
		{falls, 3, mixed{5, 6, 128}},
		{falls, 4, mixed{4, 4, 0}},
		{falls, 5, mixed{4, 5, 0}},
		{falls, 7, mixed{4, 5, 0}},
		{falls, 8, mixed{4, 4, 0}},
		{falls, 9, mixed{4, 4, 0}},
		{falls, lastFrame, mixed{4, 4, 0}},
		// To rises by whole frames, then by less than one for a frame.
		{rises, 0, mixed{100, 100, 0}},
		{rises, 9, mixed{100, 100, 0}},
		{rises, 10, mixed{100, 100, 0}},
		{rises, 11, mixed{103, 104, 0}},
		{rises, 19, mixed{127, 128, 0}},
		{rises, 20, mixed{130, 130, 0}},
		{rises, 21, mixed{130, 131, 64}},
		{rises, 22, mixed{130, 131, 128}},
		{rises, 23, mixed{130, 131, 192}},
		{rises, 24, mixed{131, 131, 0}},
		{rises, 25, mixed{131, 131, 0}},
		// Weights that are rounded down: tenths of 256 are no whole numbers.
		{slow, 3, mixed{5, 6, 76}},
		{slow, 4, mixed{5, 6, 153}},
		{slow, 5, mixed{5, 6, 230}},
		{slow, 6, mixed{6, 7, 51}},
		{slow, 7, mixed{6, 7, 128}},
		{slow, 8, mixed{6, 7, 204}},
		{slow, 9, mixed{7, 8, 25}},
		{slow, 10, mixed{7, 8, 102}},
		{slow, 11, mixed{7, 8, 179}},
		{slow, 12, mixed{8, 8, 0}},
		{backward, 2, mixed{8, 8, 0}},
		{backward, 3, mixed{7, 8, 179}},
		{backward, 4, mixed{7, 8, 102}},
		{backward, 5, mixed{7, 8, 25}},
		{backward, 6, mixed{6, 7, 204}},
		{backward, 9, mixed{5, 6, 230}},
		{backward, 11, mixed{5, 6, 76}},
		{backward, 12, mixed{5, 5, 0}},
		// Neighbouring keys have nothing between them.
		{keys{key(3, 9), key(4, 2), key(5, 7)}, 3, mixed{9, 9, 0}},
		{keys{key(3, 9), key(4, 2), key(5, 7)}, 4, mixed{2, 2, 0}},
		{keys{key(3, 9), key(4, 2), key(5, 7)}, 5, mixed{7, 7, 0}},
		// Down to the frame 0, and from it.
		{keys{key(0, 1), key(3, 0)}, 1, mixed{0, 1, 170}},
		{keys{key(0, 1), key(3, 0)}, 2, mixed{0, 1, 85}},
		{keys{key(0, 1), key(3, 0)}, 3, mixed{0, 0, 0}},
		{keys{key(0, 0), key(3, 1)}, 1, mixed{0, 1, 85}},
		{keys{key(0, 0), key(4, 0)}, 1, mixed{0, 1, 0}},
	} {
		checkMixed(t, x.list, x.at, x.want)
		checkSpeed(t, x.list, x.at)
		checkSpeed(t, x.list, around(x.list)...)
	}
}

// The frame behind the last one is the last one.
func TestSpeedAtTheEnds(t *testing.T) {
	const last = lastFrame
	up, turned := keys{key(0, 0), key(last, last)}, keys{key(0, last), key(last, 0)}
	still := keys{key(3, last), key(9, last)}
	almost := keys{key(3, last-1), key(9, last)}
	fast, steep := keys{key(0, 0), key(2, last)}, keys{key(last-2, last), key(last, 1)}
	crawl := keys{key(0, last-1), key(last, last)}
	for _, x := range []struct {
		list keys
		at   int64
		want mixed
	}{
		{up, 0, mixed{0, 0, 0}},
		{up, 1, mixed{1, 2, 0}},
		{up, last - 1, mixed{last - 1, last, 0}},
		{up, last, mixed{last, last, 0}},
		{turned, 0, mixed{last, last, 0}},
		{turned, 1, mixed{last - 1, last, 0}},
		{turned, last - 1, mixed{1, 2, 0}},
		{turned, last, mixed{0, 0, 0}},
		{still, 2, mixed{last, last, 0}},
		{still, 3, mixed{last, last, 0}},
		{still, 4, mixed{last, last, 0}},
		{still, 8, mixed{last, last, 0}},
		{still, 9, mixed{last, last, 0}},
		{still, last, mixed{last, last, 0}},
		{almost, 3, mixed{last - 1, last - 1, 0}},
		{almost, 4, mixed{last - 1, last, 42}},
		{almost, 8, mixed{last - 1, last, 213}},
		{almost, 9, mixed{last, last, 0}},
		{fast, 1, mixed{last / 2, last/2 + 1, 0}},
		{steep, last - 1, mixed{last / 2, last/2 + 1, 128}},
		{crawl, 1, mixed{last - 1, last, 0}},
		{crawl, last / 2, mixed{last - 1, last, 128}},
		{crawl, last - 1, mixed{last - 1, last, 255}},
		{crawl, last, mixed{last, last, 0}},
	} {
		checkMixed(t, x.list, x.at, x.want)
		checkSpeed(t, x.list, around(x.list)...)
	}
	none := mixed{-1, -1, -1}
	for _, list := range []keys{up, turned, still, almost, fast, steep, crawl, {key(0, 0)}, {key(last, last)}} {
		for _, at := range strangeNumbers() {
			checkMixed(t, list, at, none)
		}
	}
	for _, list := range []keys{nil, {}, {key(-1, 5)}, {key(5, -1)}, {key(last+1, 5)}, {key(5, last+1)}, {key(5, 5), key(5, 5)}, {key(5, 5), key(4, 4)}, manyKeys(101)} {
		for _, at := range append([]int64{0, 1, 4, 5, 6, last - 1, last}, strangeNumbers()...) {
			checkMixed(t, list, at, none)
		}
	}
}

// Two keys as far apart as matters, their frames up, down and the same, at each frame.
func TestSpeedOfAllShapes(t *testing.T) {
	for wide := int64(1); wide <= 13; wide++ {
		for by := int64(-30); by <= 30; by++ {
			list := keys{key(2, 30), key(2+wide, 30+by)}
			behind := keys{key(0, 3), key(2, 30), key(2+wide, 30+by), key(4+wide, 40)}
			for at := range wide + 6 {
				checkSpeed(t, list, at)
				checkSpeed(t, behind, at)
			}
		}
	}
	// Every list of up to three keys of these, right and wrong.
	some := keys{key(0, 4), key(1, 0), key(3, 5), key(3, 3), key(7, 4), key(-1, 2), key(5, -1), key(lastFrame, lastFrame), key(lastFrame+1, 2)}
	all := []keys{nil}
	for at := 0; len(all[at]) < 3; at++ {
		for _, k := range some {
			all = append(all, append(slices.Clip(all[at]), k))
		}
	}
	right := 0
	for _, list := range all {
		checkSpeed(t, list, -1, 0, 1, 2, 3, 4, 5, 6, 7, 8, lastFrame-1, lastFrame, lastFrame+1)
		for _, n := range []int64{0, 1, 2, 9} {
			checkRetime(t, list, 6, n)
		}
		if keysByWords(list) {
			right++
		}
	}
	if right < 30 {
		t.Error("too few are keys:", right)
	}
}

func TestRetimeOrdinary(t *testing.T) {
	on := keys{key(0, 20), key(2000, 2020)}
	stays := keys{key(4, 7)}
	back := keys{key(0, 9), key(9, 0)}
	half := keys{key(0, 10), key(8, 14)}
	double := keys{key(0, 10), key(5, 20)}
	turns := keys{key(0, 3), key(2, 5), key(4, 3), key(6, 3), key(8, 9)}
	for _, x := range []struct {
		list   keys
		src, n int64
		want   track
	}{
		// On, frame by frame.
		{on, 1, 1, track{clip(1, 20, 1)}},
		{on, 1, 2, track{clip(1, 20, 2)}},
		{on, 500, 1999, track{clip(500, 20, 1999)}},
		{on, 500, 2000, track{clip(500, 20, 2000)}},
		{on, 1, 2001, nil},
		// Still.
		{stays, 3, 1, track{clip(3, 7, 1)}},
		{stays, 3, 3, track{clip(3, 7, 1), clip(3, 7, 1), clip(3, 7, 1)}},
		{keys{key(0, 0)}, 3, 2, track{clip(3, 0, 1), clip(3, 0, 1)}},
		// Backward.
		{back, 2, 1, track{clip(2, 9, 1)}},
		{back, 2, 3, track{clip(2, 9, 1), clip(2, 8, 1), clip(2, 7, 1)}},
		{back, 2, 11, track{clip(2, 9, 1), clip(2, 8, 1), clip(2, 7, 1), clip(2, 6, 1), clip(2, 5, 1), clip(2, 4, 1), clip(2, 3, 1), clip(2, 2, 1), clip(2, 1, 1), clip(2, 0, 1), clip(2, 0, 1)}},
		// Half as fast: each frame twice, and the second of it goes on.
		{half, 1, 2, track{clip(1, 10, 1), clip(1, 10, 1)}},
		{half, 1, 3, track{clip(1, 10, 1), clip(1, 10, 2)}},
		{half, 1, 6, track{clip(1, 10, 1), clip(1, 10, 2), clip(1, 11, 2), clip(1, 12, 1)}},
		// Twice as fast: each other frame is left out.
		{double, 1, 3, track{clip(1, 10, 1), clip(1, 12, 1), clip(1, 14, 1)}},
		{double, 1, 7, track{clip(1, 10, 1), clip(1, 12, 1), clip(1, 14, 1), clip(1, 16, 1), clip(1, 18, 1), clip(1, 20, 1), clip(1, 20, 1)}},
		// All of it, one behind the other.
		{turns, 4, 9, track{clip(4, 3, 3), clip(4, 4, 1), clip(4, 3, 1), clip(4, 3, 1), clip(4, 3, 1), clip(4, 6, 1), clip(4, 9, 1)}},
		// The keys begin later than the track does, or end earlier.
		{keys{key(2, 5), key(4, 7)}, 1, 7, track{clip(1, 5, 1), clip(1, 5, 1), clip(1, 5, 3), clip(1, 7, 1), clip(1, 7, 1)}},
		{keys{key(100, 5), key(400, 9)}, 1, 2, track{clip(1, 5, 1), clip(1, 5, 1)}},
		// Out of range.
		{on, 1, 0, nil},
		{on, 1, -1, nil},
		{on, 0, 5, nil},
		{on, -1, 5, nil},
		{on, 501, 5, nil},
		{nil, 1, 5, nil},
		{keys{}, 1, 5, nil},
		{keys{key(5, 5), key(5, 6)}, 1, 5, nil},
		{keys{key(6, 5), key(5, 6)}, 1, 5, nil},
		{keys{key(-1, 5)}, 1, 5, nil},
		{keys{key(1, -1)}, 1, 5, nil},
		// Wrong is wrong, though it would never be seen.
		{keys{key(0, 0), key(2000, lastFrame+1)}, 1, 1, nil},
		{keys{key(0, 0), key(lastFrame+1, 5)}, 1, 1, nil},
		// The last frame of a source is the one ahead of MaxFrame.
		{keys{key(0, lastFrame-1)}, 1, 1, track{clip(1, lastFrame-1, 1)}},
		{keys{key(0, lastFrame-1)}, 1, 2, track{clip(1, lastFrame-1, 1), clip(1, lastFrame-1, 1)}},
		{keys{key(0, lastFrame)}, 1, 1, nil},
		{keys{key(0, lastFrame)}, 1, 2, nil},
		{keys{key(0, lastFrame-3), key(3, lastFrame)}, 1, 3, track{clip(1, lastFrame-3, 3)}},
		{keys{key(0, lastFrame-3), key(3, lastFrame)}, 1, 4, nil},
		{keys{key(0, lastFrame), key(9, lastFrame-9)}, 1, 1, nil},
		{keys{key(0, 0), key(1, lastFrame), key(2, 0)}, 1, 1, track{clip(1, 0, 1)}},
		{keys{key(0, 0), key(1, lastFrame), key(2, 0)}, 1, 3, nil},
		{keys{key(0, lastFrame-1), key(4, lastFrame)}, 1, 4, slices.Repeat(track{clip(1, lastFrame-1, 1)}, 4)},
		{keys{key(0, lastFrame-1), key(4, lastFrame)}, 1, 5, nil},
	} {
		checkRetimed(t, x.list, x.src, x.n, x.want, x.want != nil)
		checkRetime(t, x.list, x.src, x.n)
	}
	for _, far := range append(strangeNumbers(), 0, 2001, 501, math.MinInt64) {
		checkRetime(t, on, far, 5)
		checkRetime(t, on, 1, far)
		checkRetime(t, on, far, far)
		if _, ok := impl.Retime(on, 1, far); ok && far != 501 {
			t.Errorf("retimed to %d frames", far)
		}
		if _, ok := impl.Retime(on, far, 5); ok {
			t.Errorf("retimed of source %d", far)
		}
	}
	for src := int64(-2); src <= 503; src++ {
		if _, ok := impl.Retime(stays, src, 3); ok != (src >= 1 && src <= 500) {
			t.Errorf("source %d: %v", src, ok)
		}
	}
}

// As many frames as there may be clips, where each frame is a clip, and one more.
func TestRetimeOfManyClips(t *testing.T) {
	still, back, leap := keys{key(9, 9)}, keys{key(0, 2000), key(2000, 0)}, keys{key(0, 0), key(2000, 4000)}
	for _, list := range []keys{still, back, leap} {
		for n := int64(295); n <= 305; n++ {
			if got := checkRetime(t, list, 1, n); got != (n <= 300) {
				t.Errorf("%v, %d clips: %v", list, n, got)
			}
		}
		checkRetimed(t, list, 1, 2000, nil, false)
	}
	// Half as fast there are two frames to a clip, but for the first.
	half := keys{key(0, 0), key(4000, 2000)}
	for n := int64(590); n <= 605; n++ {
		made, ok := impl.Retime(half, 1, n)
		if want := n/2 + 1; ok != (want <= 300) || ok && int64(len(made)) != want {
			t.Errorf("%d frames half as fast: %d clips, %v", n, len(made), ok)
		}
		checkRetime(t, half, 1, n)
	}
	// Still for a while, then on: all frames that may be, in 299, 300 and 301 clips.
	for stop := int64(297); stop <= 302; stop++ {
		list := keys{key(0, 5), key(stop, 5), key(stop+3000, 3005)}
		made, ok := impl.Retime(list, 7, 2000)
		if ok != (stop < 300) || ok && (int64(len(made)) != stop+1 || made[stop] != clip(7, 5, 2000-stop)) {
			t.Errorf("still for %d frames: %d clips, %v", stop, len(made), ok)
		}
		checkRetime(t, list, 7, 2000)
		checkRetime(t, list, 7, 2001)
	}
}

func TestReverseOrdinary(t *testing.T) {
	for _, x := range []struct{ list, want track }{
		// No clip, one, and many.
		{nil, track{}},
		{track{}, track{}},
		{track{clip(1, 5, 1)}, track{clip(1, 5, 1)}},
		{track{clip(500, lastFrame-1, 1)}, track{clip(500, lastFrame-1, 1)}},
		{track{clip(1, 0, 1)}, track{clip(1, 0, 1)}},
		{track{clip(1, 5, 2)}, track{clip(1, 6, 1), clip(1, 5, 1)}},
		{track{clip(1, 5, 4)}, track{clip(1, 8, 1), clip(1, 7, 1), clip(1, 6, 1), clip(1, 5, 1)}},
		{track{clip(2, 0, 2), clip(1, lastFrame-2, 2)}, track{clip(1, lastFrame-1, 1), clip(1, lastFrame-2, 1), clip(2, 1, 1), clip(2, 0, 1)}},
		{track{clip(1, 5, 1), clip(2, 5, 1), clip(3, 9, 1)}, track{clip(3, 9, 1), clip(2, 5, 1), clip(1, 5, 1)}},
		{track{clip(1, 5, 1), clip(1, 5, 1)}, track{clip(1, 5, 1), clip(1, 5, 1)}},
		// Gaps.
		{track{gap(1)}, track{gap(1)}},
		{track{gap(7)}, track{gap(7)}},
		{track{gap(3), gap(4)}, track{gap(7)}},
		{track{gap(2), clip(1, 5, 1), gap(3)}, track{gap(3), clip(1, 5, 1), gap(2)}},
		{track{gap(2), gap(1), clip(1, 5, 2), gap(3)}, track{gap(3), clip(1, 6, 1), clip(1, 5, 1), gap(3)}},
		{track{clip(1, 4, 1), gap(2), clip(1, 3, 1)}, track{clip(1, 3, 1), gap(2), clip(1, 4, 1)}},
		// What goes on in the other order.
		{track{clip(1, 4, 1), clip(1, 3, 1), gap(2)}, track{gap(2), clip(1, 3, 2)}},
		{track{clip(1, 6, 1), clip(1, 5, 1), clip(1, 4, 1)}, track{clip(1, 4, 3)}},
		{track{clip(1, lastFrame-1, 1), clip(1, lastFrame-2, 1)}, track{clip(1, lastFrame-2, 2)}},
		{track{clip(1, 6, 1), clip(2, 5, 1), clip(1, 4, 1)}, track{clip(1, 4, 1), clip(2, 5, 1), clip(1, 6, 1)}},
		{track{clip(1, 6, 1), clip(2, 5, 1)}, track{clip(2, 5, 1), clip(1, 6, 1)}},
		{track{clip(1, 6, 1), clip(1, 4, 1)}, track{clip(1, 4, 1), clip(1, 6, 1)}},
		{track{clip(1, 6, 2), clip(1, 5, 1)}, track{clip(1, 5, 1), clip(1, 7, 1), clip(1, 6, 1)}},
		{track{clip(1, 6, 2), clip(1, 5, 2)}, track{clip(1, 6, 1), clip(1, 5, 1), clip(1, 7, 1), clip(1, 6, 1)}},
		{track{clip(1, 6, 2), clip(1, 4, 2)}, track{clip(1, 5, 1), clip(1, 4, 1), clip(1, 7, 1), clip(1, 6, 1)}},
		{track{clip(1, 6, 2), clip(1, 5, 1), clip(1, 4, 2)}, track{clip(1, 5, 1), clip(1, 4, 2), clip(1, 7, 1), clip(1, 6, 1)}},
		{track{clip(1, 8, 1), clip(1, 7, 1), clip(1, 6, 3)}, track{clip(1, 8, 1), clip(1, 7, 1), clip(1, 6, 3)}},
		// What was not joined.
		{track{clip(1, 5, 1), clip(1, 6, 1)}, track{clip(1, 6, 1), clip(1, 5, 1)}},
		{track{clip(1, 5, 1), clip(1, 6, 1), clip(1, 5, 1)}, track{clip(1, 5, 2), clip(1, 5, 1)}},
	} {
		checkReversed(t, x.list, x.want, true)
		checkReverse(t, x.list)
	}
	checkReverse(t, someTrack())
	for _, none := range noTracks() {
		checkReversed(t, none, nil, false)
		checkReverse(t, none)
		checkReversed(t, slices.Concat(track{clip(1, 4, 1)}, none), nil, false)
	}
}

func TestReverseOfManyFrames(t *testing.T) {
	for _, n := range []int64{1, 299, 300, 301, 1998, 1999, 2000, 2001, 2002, 4000, lastFrame} {
		ok := n <= 2000
		one := track{gap(n)}
		checkReversed(t, one, track{gap(n)}[:min(1, max(0, 2001-n))], ok)
		checkReverse(t, one)
		// One frame of a source behind it, ahead of it, and some of it.
		if n < 4 || n > 4000 {
			continue
		}
		for _, list := range []track{
			{gap(n - 1), clip(1, 5, 1)},
			{clip(1, 5, 1), gap(n - 1)},
			{gap(n - 3), clip(1, 5, 2), gap(1)},
			{clip(1, 5, 2), gap(n - 4), clip(2, 7, 2)},
			{clip(1, 6, 1), clip(1, 5, 1), gap(n - 2)},
		} {
			if checkReverse(t, list) != ok {
				t.Errorf("%d frames: %v", n, !ok)
			}
		}
	}
	for _, list := range []track{{gap(lastFrame)}, {clip(1, 0, lastFrame)}, {clip(1, 0, 2001)}, {clip(1, 0, 2000)}, {gap(2000), gap(1)}, {gap(1), clip(1, 0, 2000)}} {
		checkReversed(t, list, nil, false)
	}
}

// As many clips as there may be, and one more, though what is given has few.
func TestReverseOfManyClips(t *testing.T) {
	for n := int64(297); n <= 303; n++ {
		for _, x := range []struct {
			list  track
			clips int64
		}{
			{track{clip(1, 5, n)}, n},
			{track{clip(1, 5, n-1), gap(1)}, n},
			{track{gap(2001 - n), clip(1, 5, n-1)}, n},
			{track{clip(1, 5, 7), clip(2, 5, n-7)}, n},
			{track{clip(1, 5, 7), gap(9), clip(1, 12, n-8)}, n},
			{track{clip(1, 50, 7), clip(1, 49, n-7)}, n},
			// What begins one ahead of where the clip ahead ended goes on with it in the other order.
			{track{clip(1, 44, 7), clip(1, 49, n-6)}, n},
			{track{clip(1, 44, 7), clip(1, 49, 1), clip(1, 48, n-6)}, n},
		} {
			want, ok := reverseByWords(x.list)
			if checkReverse(t, x.list) != (x.clips <= 300) || ok && int64(len(want)) != x.clips {
				t.Errorf("%v: %d clips, %v, want %d", x.list, len(want), ok, x.clips)
			}
		}
		ok := n <= 300
		// Frames that fall, one by one, are one clip; a 301st is one too many in what is given.
		falls, same, rises := track{}, track{}, track{}
		for i := range n {
			falls = append(falls, clip(1, 700-i, 1))
			same = append(same, clip(1, 700, 1))
			rises = append(rises, clip(1, 700+i, 1))
		}
		checkReversed(t, falls, track{clip(1, 701-n, n)}[:min(1, max(0, 301-n))], ok)
		for _, list := range []track{falls, same, rises, manyClips(int(n))} {
			checkReverse(t, list)
		}
		if got, is := impl.Reverse(rises); is != ok || ok && (int64(len(got)) != n || !slices.Equal(got, descending(699+n, n))) {
			t.Errorf("%d frames that rise: %d clips, %v", n, len(got), is)
		}
	}
	// All frames that may be, in as many clips as may be.
	list := track{}
	for i := range int64(150) {
		list = append(list, clip(1, 700-i, 1), gap(12))
	}
	list[299].Len += 50
	if lengthByWords(list) != 2000 || !checkReverse(t, list) {
		t.Error("300 clips of 2000 frames are not reversed")
	}
	list[299].Len++
	if checkReverse(t, list) {
		t.Error("2001 frames are reversed")
	}
}

// descending are n clips of a frame, from one frame down.
func descending(from, n int64) track {
	out := track{}
	for i := range n {
		out = append(out, clip(1, from-i, 1))
	}
	return out
}

// Every four of these clips.
func TestReverseOfAllShapes(t *testing.T) {
	shapes := track{gap(1), gap(2), clip(1, 4, 1), clip(1, 3, 1), clip(1, 5, 2), clip(1, 4, 3), clip(2, 3, 1), clip(2, lastFrame-1, 1), clip(2, lastFrame-2, 2), clip(2, lastFrame, 1)}
	for _, a := range shapes {
		checkReverse(t, track{a})
		for _, b := range shapes {
			checkReverse(t, track{a, b})
			for _, c := range shapes {
				checkReverse(t, track{a, b, c})
				for _, d := range shapes {
					checkReverse(t, track{a, b, c, d})
				}
			}
		}
	}
}

func randomKeys(r *rand.Rand) keys {
	list := keys{}
	at := int64(r.Intn(4))
	for range 1 + r.Intn(7) {
		k := key(at, int64(r.Intn(30)))
		switch r.Intn(12) {
		case 0:
			k.To = lastFrame - int64(r.Intn(4))
		case 1:
			k.To = int64(r.Intn(lastFrame + 1))
		}
		if len(list) > 0 && r.Intn(3) == 0 {
			k.To = list[len(list)-1].To + k.At - list[len(list)-1].At
		}
		list = append(list, k)
		at += 1 + int64(r.Intn(11))
		if r.Intn(15) == 0 {
			at += int64(r.Intn(lastFrame / 3))
		}
	}
	// Now and then they are none.
	switch place := r.Intn(len(list)); r.Intn(40) {
	case 0:
		list[place].At = []int64{-1, lastFrame + 1, math.MinInt64, math.MaxInt64}[r.Intn(4)]
	case 1:
		list[place].To = []int64{-1, lastFrame + 1, math.MinInt64, math.MaxInt64}[r.Intn(4)]
	case 2:
		list[place].At = list[0].At
	}
	return list
}

func TestSpeedAtRandom(t *testing.T) {
	r := rand.New(rand.NewSource(80))
	right := 0
	for range 5000 {
		list := randomKeys(r)
		places := around(list)
		for range 20 {
			places = append(places, int64(r.Intn(80)), int64(r.Intn(lastFrame+1)))
		}
		checkSpeed(t, list, places...)
		if keysByWords(list) {
			right++
		}
	}
	if right < 3000 {
		t.Error("too few are keys:", right)
	}
}

func TestRetimeAtRandom(t *testing.T) {
	r := rand.New(rand.NewSource(81))
	done, refused := 0, 0
	for range 3000 {
		list := randomKeys(r)
		if checkRetime(t, list, int64(r.Intn(501)), int64(r.Intn(90))) {
			done++
		} else {
			refused++
		}
	}
	if done < 1000 || refused < 100 {
		t.Error("too few were retimed, or refused:", done, refused)
	}
	for range 30 {
		list := randomKeys(r)
		checkRetime(t, list, 5, 200+int64(r.Intn(1900)))
	}
}

func TestReverseAtRandom(t *testing.T) {
	r := rand.New(rand.NewSource(82))
	for range 6000 {
		list := randomTrack(r)
		if !checkReverse(t, list) {
			t.Fatalf("%v is not reversed", list)
		}
		// However a track is cut, the same comes of it.
		one, _ := impl.Reverse(list)
		other, _ := impl.Reverse(cutElsewhere(r, list))
		if !slices.Equal(one, other) {
			t.Fatalf("%v: cut elsewhere it is another one backward: %v and %v", list, one, other)
		}
	}
	// What is retimed is a track, and goes backward as any other.
	done := 0
	for range 1500 {
		list := randomKeys(r)
		made, ok := impl.Retime(list, 3, int64(1+r.Intn(60)))
		if ok && checkReverse(t, made) {
			done++
		}
	}
	if done < 500 {
		t.Error("too few were retimed and reversed:", done)
	}
}

// Speeds that go by whole frames are, backward, those whose keys are turned.
func TestTurnedKeys(t *testing.T) {
	for by := int64(-3); by <= 3; by++ {
		for n := int64(1); n <= 60; n++ {
			there := keys{key(0, 500), key(n, 500+by*n)}
			back := keys{key(0, 500+by*(n-1)), key(n, 500-by)}
			made, ok := impl.Retime(there, 9, n)
			want, okWant := impl.Retime(back, 9, n)
			got, okGot := impl.Reverse(made)
			if !ok || !okWant || !okGot || !slices.Equal(got, want) {
				t.Fatalf("by %d, %d frames: %v backward is %v, want %v", by, n, few(made), few(got), few(want))
			}
		}
	}
}

// No answer of the chapter shares memory with another one that was made of it.
func TestSpeedAnswersStandAlone(t *testing.T) {
	r := rand.New(rand.NewSource(83))
	for range 1000 {
		list := randomTrack(r)
		held := slices.Clone(list)
		made, _ := impl.Reverse(list)
		again, _ := impl.Reverse(list)
		back, _ := impl.Reverse(made)
		heldAgain, heldBack := slices.Clone(again), slices.Clone(back)
		spoilAll(made, cutMark)
		if !slices.Equal(list, held) || !slices.Equal(again, heldAgain) || !slices.Equal(back, heldBack) {
			t.Fatalf("%v: what is reversed shares memory", held)
		}
		spoilAll(list, cutMark)
		spoilAll(again, cutMark)
		if !slices.Equal(back, heldBack) {
			t.Fatalf("%v: what is reversed twice shares memory", held)
		}
		on := randomKeys(r)
		one, _ := impl.Retime(on, 4, 40)
		other, _ := impl.Retime(on, 4, 40)
		heldOther := slices.Clone(other)
		spoilAll(one, cutMark)
		spoilAll(on, keyMark)
		if !slices.Equal(other, heldOther) {
			t.Fatal("what is retimed shares memory")
		}
	}
}

// FuzzSpeed takes three bytes for each key and each clip; both may be none.
func FuzzSpeed(f *testing.F) {
	f.Add([]byte{0, 0, 10, 4, 0, 4, 4, 0, 4}, []byte{1, 4, 1, 1, 3, 1, 0, 0, 2}, int64(1), int64(3), int64(3))
	f.Add([]byte{1, 255, 255, 200, 0, 0, 0, 0, 9}, []byte{2, 255, 4, 0, 0, 200}, int64(lastFrame), int64(500), int64(2000))
	f.Fuzz(func(t *testing.T, told, clips []byte, at, src, n int64) {
		list := keys{}
		for last := int64(0); len(told) >= 3; told = told[3:] {
			last += int64(told[0])
			to := int64(told[1])<<8 + int64(told[2])
			if told[1] > 250 {
				to = lastFrame + 2 - int64(told[2])
			}
			list = append(list, key(last, to))
		}
		checkSpeed(t, list, append(around(list), at)...)
		checkRetime(t, list, src, n)
		checkReverse(t, tracksFromBytes(clips))
	})
}
