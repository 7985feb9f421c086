package tests

import (
	"bytes"
	"fmt"
	"math"
	"math/big"
	"math/rand"
	"runtime"
	"slices"
	"strings"
	"sync"
	"testing"
	"time"

	"loop.example/g00066/impl"
)

// The faces of the chapter, held as they were given.
var (
	_ func(b []byte) int64                                                     = impl.Digest
	_ func(list []impl.Asset) bool                                             = impl.PackOk
	_ func(names []string, bodies [][]byte) ([]impl.Asset, bool)               = impl.Pack
	_ func(list []impl.Asset, names []string, bodies [][]byte) []int64         = impl.Verify
	_ func(old, new []impl.Asset) ([]string, []string)                         = impl.Update
	_ func(body []byte, secret int64) []byte                                   = impl.Seal
	_ func(lock impl.Lock, minute int64, sealed []byte) (body []byte, ok bool) = impl.Open
	_ struct{ From, To, Secret int64 }                                         = impl.Lock{}
	_ struct {
		Name string
		Size int64
		Sum  int64
	} = impl.Asset{}
	_ [impl.MaxAssets - 100]struct{}        = [0]struct{}{}
	_ [impl.MaxMinute - 1000000000]struct{} = [0]struct{}{}
)

const (
	mostAssets = 100
	lastMinute = 1000000000
	sumCount   = 1000000007
	lastSum    = sumCount - 1
	nameSigns  = "ABCDEFGHIJKLMNOPQRSTUVWXYZabcdefghijklmnopqrstuvwxyz0123456789_."
	nameMark   = "\x00mark"
	byteMark   = 0xd5
)

type (
	assets = []impl.Asset
	texts  = []string
	bodies = [][]byte
)

var assetMark = asset(nameMark, -71, -72)

func asset(name string, size, sum int64) impl.Asset {
	return impl.Asset{Name: name, Size: size, Sum: sum}
}

func lock(from, to, secret int64) impl.Lock {
	return impl.Lock{From: from, To: to, Secret: secret}
}

// digestByWords is the sum of all bytes, each with its power of 257: it goes from the last byte to the first.
func digestByWords(b []byte) int64 {
	if len(b) > mostWhole {
		b = b[:mostWhole]
	}
	sum, power := uint64(0), uint64(1)
	for i := len(b) - 1; i >= 0; i-- {
		sum = (sum + (uint64(b[i])+1)*power) % sumCount
		power = power * 257 % sumCount
	}
	return int64(sum)
}

func nameByWords(name string) bool {
	return len(name) >= 1 && len(name) <= 40 && strings.Trim(name, nameSigns) == "" && !strings.ContainsFunc(name, func(r rune) bool { return !strings.ContainsRune(nameSigns, r) })
}

func packByWords(list assets) bool {
	names := texts{}
	for _, a := range list {
		if !nameByWords(a.Name) || a.Size < 0 || a.Size > mostWhole || a.Sum < 0 || a.Sum > lastSum {
			return false
		}
		names = append(names, a.Name)
	}
	rising := slices.Compact(slices.Sorted(slices.Values(names)))
	return len(list) <= mostAssets && slices.Equal(names, rising)
}

// packedByWords goes through all names in order, and takes for each the one body that it has.
func packedByWords(names texts, all bodies) (assets, bool) {
	if len(names) != len(all) || len(names) > mostAssets {
		return nil, false
	}
	out := assets{}
	for _, name := range slices.Sorted(slices.Values(names)) {
		at := slices.Index(names, name)
		if !nameByWords(name) || slices.Index(names[at+1:], name) >= 0 || len(all[at]) > mostWhole {
			return nil, false
		}
		out = append(out, asset(name, int64(len(all[at])), digestByWords(all[at])))
	}
	return out, true
}

// verifyByWords goes through the bodies from the last one to the first, so that the first one of a name is what stays.
func verifyByWords(list assets, names texts, all bodies) []int64 {
	if !packByWords(list) || len(names) != len(all) {
		return nil
	}
	first := map[string][]byte{}
	for i := len(names) - 1; i >= 0; i-- {
		first[names[i]] = all[i]
	}
	out := []int64{}
	for _, a := range list {
		body, there := first[a.Name]
		code := int64(0)
		if there && digestByWords(body) != a.Sum {
			code = 3
		}
		if there && int64(len(body)) != a.Size {
			code = 2
		}
		if !there {
			code = 1
		}
		out = append(out, code)
	}
	return out
}

func updateByWords(old, now assets) (sent, gone texts) {
	if !packByWords(old) || !packByWords(now) {
		return nil, nil
	}
	was, is := map[string][2]int64{}, map[string][2]int64{}
	for _, a := range old {
		was[a.Name] = [2]int64{a.Size, a.Sum}
	}
	for _, a := range now {
		is[a.Name] = [2]int64{a.Size, a.Sum}
	}
	for name, what := range is {
		if before, there := was[name]; !there || before != what {
			sent = append(sent, name)
		}
	}
	for name := range was {
		if _, there := is[name]; !there {
			gone = append(gone, name)
		}
	}
	slices.Sort(sent)
	slices.Sort(gone)
	return sent, gone
}

// sealByWords has the secret times a power of 48271 for each byte.
func sealByWords(body []byte, secret int64) []byte {
	if secret < 1 || secret > lastSum || len(body) > mostWhole {
		return nil
	}
	out, power := []byte{}, uint64(1)
	for _, c := range body {
		power = power * 48271 % sumCount
		turn := uint64(secret) * power % sumCount & 255
		// A bit that stands in one of the two alone.
		out = append(out, (c|byte(turn))-(c&byte(turn)))
	}
	return out
}

func lockByWords(l impl.Lock) bool {
	return !(l.From < 0 || l.To < l.From || l.To > lastMinute || l.Secret < 1 || l.Secret > lastSum)
}

func openByWords(l impl.Lock, minute int64, sealed []byte) ([]byte, bool) {
	if !lockByWords(l) || minute < l.From || minute > l.To || len(sealed) > mostWhole {
		return nil, false
	}
	return sealByWords(sealed, l.Secret), true
}

// given has names and bodies in memory of their own, with room behind each list and behind each body.
type given struct {
	names, wholeNames, keptNames texts
	all, wholeAll                bodies
	wholeBodies, keptBodies      bodies
}

func give(names texts, all bodies) *given {
	g := &given{}
	own := texts{}
	for _, name := range names {
		own = append(own, strings.Clone(name))
	}
	g.names, g.wholeNames = withRoom(own, nameMark)
	g.keptNames = slices.Clone(g.wholeNames)
	shorts := bodies{}
	for _, body := range all {
		short, whole := withRoom(body, byteMark)
		shorts = append(shorts, short)
		g.wholeBodies = append(g.wholeBodies, whole)
		g.keptBodies = append(g.keptBodies, bytes.Clone(whole))
	}
	g.all, g.wholeAll = withRoom(shorts, []byte{byteMark})
	return g
}

// stands tells whether all that was given is as it was.
func (g *given) stands() bool {
	if !slices.Equal(g.wholeNames, g.keptNames) || !slices.EqualFunc(g.wholeBodies, g.keptBodies, bytes.Equal) {
		return false
	}
	for i, body := range g.wholeAll {
		if i >= len(g.all) {
			if len(body) != 1 || body[0] != byteMark {
				return false
			}
		} else if whole := g.wholeBodies[i]; &body[:1][0] != &whole[0] || len(body) != len(whole)-3 {
			return false
		}
	}
	return true
}

func (g *given) spoil() {
	spoilAll(g.wholeNames, "spoilt")
	for _, whole := range g.wholeBodies {
		spoilAll(whole, 0x2a)
	}
	spoilAll(g.wholeAll, []byte{7, 7, 7})
}

func namesOfAssets(list assets) texts {
	out := texts{}
	for _, a := range list {
		out = append(out, a.Name)
	}
	return out
}

// noneShared holds each text of the lists against each other one, of its own list too.
func noneShared(t *testing.T, name string, lists ...texts) {
	t.Helper()
	all := slices.Concat(lists...)
	for i, a := range all {
		for _, b := range all[:i] {
			if shareBytes(a, b) {
				t.Fatalf("%s: %q and %q lie in the same memory", name, a, b)
			}
		}
	}
}

func shortBodies(all bodies) string {
	parts := texts{}
	for _, body := range all[:min(len(all), 12)] {
		parts = append(parts, fmt.Sprint(few(body)))
	}
	return fmt.Sprintf("%d bodies %v", len(all), parts)
}

func checkDigestIs(t *testing.T, b []byte, want int64) {
	t.Helper()
	watchList(t, "Digest", b, byteMark, len(b), impl.Digest, want)
}

func checkDigest(t *testing.T, b []byte) {
	t.Helper()
	checkDigestIs(t, b, digestByWords(b))
}

func checkPackOkIs(t *testing.T, list assets, want bool) {
	t.Helper()
	watchList(t, "PackOk", list, assetMark, len(list), impl.PackOk, want)
	if packByWords(list) != want {
		t.Fatalf("the words say another thing of %v", few(list))
	}
}

func checkPackOk(t *testing.T, list assets) {
	t.Helper()
	checkPackOkIs(t, list, packByWords(list))
}

func checkPackIs(t *testing.T, names texts, all bodies, want assets, wantOk bool) {
	t.Helper()
	what := fmt.Sprintf("Pack of %q and %s", few(names), shortBodies(all))
	g := give(names, all)
	got, ok := impl.Pack(g.names, g.all)
	again, okAgain := impl.Pack(g.names, g.all)
	if ok != wantOk || !slices.Equal(got, want) {
		t.Fatalf("%s: %v %v, want %v %v", what, few(got), ok, few(want), wantOk)
	}
	if wantOk {
		noneShared(t, what, g.names, namesOfAssets(got), namesOfAssets(again))
	}
	spoilAll(got, assetMark)
	if !g.stands() {
		t.Fatalf("%s: an argument, or its room, was written into", what)
	}
	g.spoil()
	if okAgain != wantOk || !slices.Equal(again, want) {
		t.Fatalf("%s, once more: %v %v, want %v %v", what, few(again), okAgain, few(want), wantOk)
	}
}

// checkPack holds promise 16 for what can be packed.
func checkPack(t *testing.T, names texts, all bodies) {
	t.Helper()
	want, ok := packedByWords(names, all)
	checkPackIs(t, names, all, want, ok)
	if ok {
		checkPackOkIs(t, want, true)
		checkVerifyIs(t, want, names, all, make([]int64, len(want)))
		checkUpdateIs(t, want, want, nil, nil)
	}
}

func checkNotPacked(t *testing.T, names texts, all bodies) {
	t.Helper()
	checkPackIs(t, names, all, nil, false)
}

func checkVerifyIs(t *testing.T, list assets, names texts, all bodies, want []int64) {
	t.Helper()
	what := fmt.Sprintf("Verify of %v with %q and %s", few(list), few(names), shortBodies(all))
	g := give(names, all)
	givenList, wholeList := withRoom(list, assetMark)
	keptList := slices.Clone(wholeList)
	got := impl.Verify(givenList, g.names, g.all)
	again := impl.Verify(givenList, g.names, g.all)
	if !slices.Equal(got, want) {
		t.Fatalf("%s: %v, want %v", what, few(got), few(want))
	}
	spoilAll(got, -77)
	if !g.stands() || !slices.Equal(wholeList, keptList) {
		t.Fatalf("%s: an argument, or its room, was written into", what)
	}
	g.spoil()
	spoilAll(wholeList, assetMark)
	if !slices.Equal(again, want) {
		t.Fatalf("%s, once more: %v, want %v", what, few(again), few(want))
	}
}

func checkVerify(t *testing.T, list assets, names texts, all bodies) {
	t.Helper()
	checkVerifyIs(t, list, names, all, verifyByWords(list, names, all))
}

func checkUpdateIs(t *testing.T, old, now assets, wantSent, wantGone texts) {
	t.Helper()
	what := fmt.Sprintf("Update of %v to %v", few(old), few(now))
	givenOld, wholeOld := withRoom(old, assetMark)
	givenNow, wholeNow := withRoom(now, assetMark)
	keptOld, keptNow := slices.Clone(wholeOld), slices.Clone(wholeNow)
	sent, gone := impl.Update(givenOld, givenNow)
	sentAgain, goneAgain := impl.Update(givenOld, givenNow)
	if !slices.Equal(sent, wantSent) || !slices.Equal(gone, wantGone) {
		t.Fatalf("%s: %q and %q, want %q and %q", what, few(sent), few(gone), few(wantSent), few(wantGone))
	}
	noneShared(t, what, sent, gone, sentAgain, goneAgain)
	for _, a := range slices.Concat(old, now) {
		for _, name := range slices.Concat(sent, gone) {
			if shareBytes(a.Name, name) {
				t.Fatalf("%s: %q lies in the memory of an asset", what, name)
			}
		}
	}
	spoilAll(sent, nameMark)
	if !slices.Equal(gone, wantGone) {
		t.Fatalf("%s: what is sent and what goes lie in the same memory", what)
	}
	spoilAll(gone, nameMark)
	if !slices.Equal(wholeOld, keptOld) || !slices.Equal(wholeNow, keptNow) {
		t.Fatalf("%s: an argument, or its room, was written into", what)
	}
	spoilAll(wholeOld, assetMark)
	spoilAll(wholeNow, assetMark)
	if !slices.Equal(sentAgain, wantSent) || !slices.Equal(goneAgain, wantGone) {
		t.Fatalf("%s, once more: %q and %q, want %q and %q", what, few(sentAgain), few(goneAgain), few(wantSent), few(wantGone))
	}
}

// checkUpdate goes both ways; what is sent and what goes takes the names of the one to those of the other.
func checkUpdate(t *testing.T, old, now assets) {
	t.Helper()
	for range 2 {
		sent, gone := updateByWords(old, now)
		checkUpdateIs(t, old, now, sent, gone)
		if packByWords(old) && packByWords(now) {
			checkTaken(t, old, now)
		}
		old, now = now, old
	}
}

func checkTaken(t *testing.T, old, now assets) {
	t.Helper()
	sent, gone := impl.Update(old, now)
	taken := slices.DeleteFunc(slices.Clone(old), func(a impl.Asset) bool {
		return slices.Contains(gone, a.Name) || slices.Contains(sent, a.Name)
	})
	for _, a := range now {
		if slices.Contains(sent, a.Name) {
			taken = append(taken, a)
		}
	}
	slices.SortFunc(taken, func(a, b impl.Asset) int { return strings.Compare(a.Name, b.Name) })
	if !slices.Equal(taken, now) || !slices.IsSorted(sent) || !slices.IsSorted(gone) {
		t.Fatalf("Update of %v to %v: %q and %q take it to %v", few(old), few(now), sent, gone, few(taken))
	}
}

func checkSealIs(t *testing.T, body []byte, secret int64, want []byte) {
	t.Helper()
	ask := func(body []byte, secret []int64) ([]byte, bool) { return impl.Seal(body, secret[0]), true }
	checkTwice(t, "Seal", ask, body, byteMark, []int64{secret}, -77, want, byteMark, true)
}

// checkSeal holds promise 16: what is sealed by a secret is the body again by a Lock of that Secret.
func checkSeal(t *testing.T, body []byte, secret int64) {
	t.Helper()
	want := sealByWords(body, secret)
	checkSealIs(t, body, secret, want)
	if secret < 1 || secret > lastSum || len(body) > mostWhole {
		return
	}
	checkSealIs(t, want, secret, body)
	checkOpenIs(t, lock(5, 9, secret), 9, want, body, true)
	checkOpenIs(t, lock(5, 9, secret), 10, want, nil, false)
}

func checkOpenIs(t *testing.T, l impl.Lock, minute int64, sealed, want []byte, wantOk bool) {
	t.Helper()
	ask := func(sealed []byte, _ []int64) ([]byte, bool) { return impl.Open(l, minute, sealed) }
	name := fmt.Sprintf("Open (%v, minute %d)", l, minute)
	checkTwice(t, name, ask, sealed, byteMark, []int64{}, -77, want, byteMark, wantOk)
}

func checkOpen(t *testing.T, l impl.Lock, minute int64, sealed []byte) {
	t.Helper()
	want, ok := openByWords(l, minute, sealed)
	checkOpenIs(t, l, minute, sealed, want, ok)
}

func checkNotOpened(t *testing.T, l impl.Lock, minute int64, sealed []byte) {
	t.Helper()
	checkOpenIs(t, l, minute, sealed, nil, false)
}

// wavedBytes are unlike for unlike seeds.
func wavedBytes(n, seed int) []byte {
	out := make([]byte, n)
	for i := range out {
		out[i] = byte(i*i*7 + i/251 + seed*31 + seed/8)
	}
	return out
}

func packName(i int) string { return fmt.Sprintf("reel_%03d.mxf", i) }

// manyAssets rise.
func manyAssets(n int) assets {
	out := assets{}
	for i := range n {
		out = append(out, asset(packName(i), int64(i), int64(1000*i)))
	}
	return out
}

// manyBodies are told out of order.
func manyBodies(n, size int) (texts, bodies) {
	names, all := texts{}, bodies{}
	for i := range n {
		at := (i*37 + 11) % n
		names = append(names, packName(at))
		all = append(all, wavedBytes(size, at))
	}
	return names, all
}

func withAsset(list assets, at int, a impl.Asset) assets {
	list = slices.Clone(list)
	list[at] = a
	return list
}

// wrongNames are none: too short, too long, or with a sign that is not allowed.
func wrongNames() texts {
	return texts{
		"", strings.Repeat("a", 41), strings.Repeat("a", 42), strings.Repeat("a", 80), strings.Repeat("a", 256), strings.Repeat("a", 257), strings.Repeat("a", 296), strings.Repeat("_", 41), strings.Repeat(".", 41),
		" ", "a b", " a", "a ", "-", "a-b", "-a", "a-", "/", "a/b", "/a", "a/", "\\", "a:b", "a,b", "a+b", "a*", "?", "@", "[", "`", "{", "^", "a\x00", "\x00", "a\n", "\x7f", "\x80", "\xff", "a\xc3", "\xe1", "\xb5",
		"\u00e4", "\u00e9", "a\u00e9", "\u00e9a", "\u017f", "\u212a", "\uff21", "\u0663", "\uff10", "\uff3f", "\uff0e", "\u4e00", "\U0001f3ac",
	}
}

// wrongAssets have one thing that is not as it should be.
func wrongAssets() assets {
	out := assets{{}}
	for _, name := range wrongNames() {
		out = append(out, asset(name, 1, 2))
	}
	for _, n := range strangeNumbers() {
		if n < 0 || n > mostWhole {
			out = append(out, asset("reel", n, 2))
		}
		if n < 0 || n > lastSum {
			out = append(out, asset("reel", 1, n))
		}
	}
	return append(out, asset("reel", mostWhole+1, 2), asset("reel", 1, sumCount), asset("reel", 1, 1<<32+2), asset("reel", 1<<32+1, 2))
}

// noPackages have something wrong in the first, a middle or the last place.
func noPackages() []assets {
	right := manyAssets(7)
	out := []assets{manyAssets(mostAssets + 1), manyAssets(mostAssets + 2), manyAssets(300)}
	for _, a := range wrongAssets() {
		for _, at := range []int{0, 3, 6} {
			out = append(out, withAsset(right, at, a))
		}
		out = append(out, assets{a})
	}
	turned := slices.Clone(right)
	slices.Reverse(turned)
	out = append(out, turned)
	for at := 1; at < len(right); at++ {
		out = append(out, withAsset(right, at, right[at-1]), withAsset(right, at, asset(right[at-1].Name, 9, 9)))
		swapped := slices.Clone(right)
		swapped[at-1], swapped[at] = swapped[at], swapped[at-1]
		out = append(out, swapped)
	}
	return out
}

func TestDigestCases(t *testing.T) {
	for _, row := range []struct {
		b    []byte
		want int64
	}{
		{nil, 0},
		{[]byte{}, 0},
		{[]byte{0}, 1},
		{[]byte{1}, 2},
		{[]byte{127}, 128},
		{[]byte{128}, 129},
		{[]byte{254}, 255},
		{[]byte{255}, 256},
		{[]byte{0, 0}, 258},
		{[]byte{2, 3}, 3*257 + 4},
		{[]byte{3, 2}, 4*257 + 3},
		{[]byte{255, 255}, 66048},
		{[]byte{0, 0, 0}, 66307},
		{[]byte{0, 0, 0, 0}, 17040900},
		// The first to go past 1000000007, by four times of it.
		{[]byte{0, 0, 0, 0, 0}, 379511273},
		{[]byte{255, 255, 255, 255}, 362470372},
		{[]byte{255, 255, 255, 255, 255, 255, 255, 255}, 383065738},
		// Just at it, one below and one above.
		{[]byte{57, 233, 69, 155}, lastSum},
		{[]byte{57, 233, 69, 156}, 0},
		{[]byte{57, 233, 69, 157}, 1},
		{[]byte{57, 233, 69, 156, 4}, 5},
		{[]byte{57, 233, 69, 155, 0}, sumCount - 256},
		// Unlike bytes of one sum.
		{[]byte{58, 234, 70, 157}, 17040900},
		{[]byte("reel"), 958841509},
		{[]byte("Moviola"), 116747855},
	} {
		checkDigestIs(t, row.b, row.want)
		checkDigest(t, row.b)
	}
	for c := range 256 {
		checkDigestIs(t, []byte{byte(c)}, int64(c)+1)
		checkDigestIs(t, []byte{byte(c), 9}, int64(c+1)*257+10)
		checkDigestIs(t, []byte{9, byte(c)}, 10*257+int64(c)+1)
	}
}

// The sum by numbers of any size, for many lengths.
func TestDigestByWholeNumbers(t *testing.T) {
	whole, factor, modulus := big.NewInt(0), big.NewInt(257), big.NewInt(sumCount)
	b := wavedBytes(700, 3)
	for n, c := range b {
		if got := impl.Digest(b[:n]); got != new(big.Int).Mod(whole, modulus).Int64() {
			t.Fatal(n, got)
		}
		checkDigest(t, b[:n])
		whole.Mul(whole, factor).Add(whole, big.NewInt(int64(c)+1))
	}
}

func TestDigestLimits(t *testing.T) {
	checkDigestIs(t, make([]byte, mostWhole), 563657924)
	checkDigestIs(t, bytes.Repeat([]byte{255}, mostWhole), 296427536)
	checkDigestIs(t, bytes.Repeat([]byte{7}, mostWhole-1), 616767566)
	long := wavedBytes(4*mostWhole, 1)
	most := impl.Digest(long[:mostWhole])
	if most == impl.Digest(long[:mostWhole-1]) {
		t.Fatal("the last byte that counts does not")
	}
	for _, n := range []int{mostWhole, mostWhole + 1, mostWhole + 2, 2 * mostWhole, 65536, 1 << 17, 4 * mostWhole} {
		checkDigestIs(t, long[:n], most)
		checkDigest(t, long[:n])
	}
	// A byte that counts, and one that does not.
	turned := bytes.Clone(long)
	turned[mostWhole] ^= 1
	checkDigestIs(t, turned, most)
	turned[mostWhole-1] ^= 1
	if impl.Digest(turned) == most {
		t.Fatal("the last byte that counts does not")
	}
}

// A byte that is turned is told, whichever it is and whatever it becomes.
func TestDigestTellsATurnedByte(t *testing.T) {
	body := wavedBytes(300, 5)
	sum := impl.Digest(body)
	for at := range body {
		for c := range 256 {
			turned := bytes.Clone(body)
			turned[at] = byte(c)
			if (impl.Digest(turned) == sum) != (byte(c) == body[at]) {
				t.Fatal(at, c)
			}
		}
	}
}

func TestPackOkCases(t *testing.T) {
	a := asset("a", 1, 2)
	for _, row := range []struct {
		list assets
		want bool
	}{
		{nil, true},
		{assets{}, true},
		{assets{a}, true},
		{assets{{}}, false},
		{assets{asset("a", 0, 0)}, true},
		{assets{asset("a", mostWhole, lastSum)}, true},
		{assets{asset("a", -1, 0)}, false},
		{assets{asset("a", 0, -1)}, false},
		{assets{asset("a", mostWhole+1, 0)}, false},
		{assets{asset("a", 0, lastSum+1)}, false},
		{assets{asset("a", math.MinInt64, 0)}, false},
		{assets{asset("a", math.MaxInt64, 0)}, false},
		{assets{asset("a", 0, math.MinInt64)}, false},
		{assets{asset("a", 0, math.MaxInt64)}, false},
		// Size and Sum need not fit to each other: none knows the body.
		{assets{asset("a", 0, 77)}, true},
		{assets{asset("a", 5, 0)}, true},
		// Twice, falling, rising.
		{assets{a, a}, false},
		{assets{a, asset("a", 3, 4)}, false},
		{assets{a, asset("b", 1, 2)}, true},
		{assets{asset("b", 1, 2), a}, false},
		{assets{a, asset("b", 1, 2), a}, false},
		{assets{a, asset("b", 1, 2), asset("b", 1, 2)}, false},
		{assets{a, asset("c", 1, 2), asset("b", 1, 2)}, false},
		{assets{a, asset("b", 1, 2), asset("c", 1, 2)}, true},
		// A beginning is less; bytes decide, not letters.
		{assets{a, asset("aa", 1, 2)}, true},
		{assets{asset("aa", 1, 2), a}, false},
		{assets{asset("B", 1, 2), a}, true},
		{assets{a, asset("B", 1, 2)}, false},
		{assets{asset("reel10", 1, 2), asset("reel9", 1, 2)}, true},
		{assets{asset("reel9", 1, 2), asset("reel10", 1, 2)}, false},
		{assets{asset("b", 1, 2), asset("aa", 1, 2)}, false},
		{assets{asset("aa", 1, 2), asset("b", 1, 2)}, true},
		{assets{asset("a", 9, 9), asset("b", 1, 1)}, true},
		{assets{asset(".", 1, 2), asset("..", 1, 2), asset("0", 1, 2), asset("9", 1, 2), asset("A", 1, 2), asset("Z", 1, 2), asset("_", 1, 2), asset("a", 1, 2), asset("z", 1, 2), asset("z.", 1, 2), asset("z0", 1, 2)}, true},
	} {
		checkPackOkIs(t, row.list, row.want)
	}
}

func TestPackOkNames(t *testing.T) {
	for n := range 130 {
		for _, sign := range []string{"a", "Z", "0", "_", "."} {
			checkPackOkIs(t, assets{asset(strings.Repeat(sign, n), 1, 2)}, n >= 1 && n <= 40)
		}
	}
	for c := range 256 {
		allowed := strings.IndexByte(nameSigns, byte(c)) >= 0
		sign := string([]byte{byte(c)})
		checkPackOkIs(t, assets{asset(sign, 1, 2)}, allowed)
		for at := range 40 {
			name := strings.Repeat("m", at) + sign + strings.Repeat("m", 39-at)
			checkPackOkIs(t, assets{asset(name, 1, 2)}, allowed)
		}
		checkPackOkIs(t, assets{asset("", 1, 2), asset(sign, 1, 2)}, false)
	}
	for _, name := range wrongNames() {
		checkPackOkIs(t, assets{asset(name, 1, 2)}, false)
	}
	// A letter of more than one byte in a name that has room for it.
	for n := range 45 {
		checkPackOkIs(t, assets{asset(strings.Repeat("a", n)+"\u00e9", 1, 2)}, false)
	}
}

func TestPackOkLimits(t *testing.T) {
	for _, n := range []int{1, 2, 50, mostAssets - 1, mostAssets} {
		list := manyAssets(n)
		checkPackOkIs(t, list, true)
		for _, at := range []int{0, n / 2, n - 1} {
			for _, size := range []int64{0, mostWhole - 1, mostWhole} {
				checkPackOkIs(t, withAsset(list, at, asset(list[at].Name, size, 3)), true)
			}
			for _, sum := range []int64{0, 1, mostWhole + 1, lastFrame + 1, lastSum - 1, lastSum} {
				checkPackOkIs(t, withAsset(list, at, asset(list[at].Name, 3, sum)), true)
			}
			for _, wrong := range append(strangeNumbers(), sumCount, sumCount+1) {
				checkPackOkIs(t, withAsset(list, at, asset(list[at].Name, wrong, 3)), false)
				checkPackOkIs(t, withAsset(list, at, asset(list[at].Name, 3, wrong)), wrong >= 0 && wrong <= lastSum)
			}
			checkPackOkIs(t, withAsset(list, at, asset(list[at].Name, mostWhole+1, 3)), false)
		}
	}
	for _, n := range []int{mostAssets + 1, mostAssets + 2, 2 * mostAssets, 256, 257, 356, 1000} {
		checkPackOkIs(t, manyAssets(n), false)
	}
	for _, list := range noPackages() {
		checkPackOkIs(t, list, false)
	}
}

func TestPackCases(t *testing.T) {
	one, two := []byte{1}, []byte{2, 3}
	for _, row := range []struct {
		names texts
		all   bodies
		want  assets
		ok    bool
	}{
		{nil, nil, nil, true},
		{texts{}, bodies{}, nil, true},
		{nil, bodies{}, nil, true},
		{texts{"a"}, bodies{nil}, assets{asset("a", 0, 0)}, true},
		{texts{"a"}, bodies{{}}, assets{asset("a", 0, 0)}, true},
		{texts{"a"}, bodies{{0}}, assets{asset("a", 1, 1)}, true},
		{texts{"b", "a"}, bodies{one, two}, assets{asset("a", 2, 775), asset("b", 1, 2)}, true},
		{texts{"a", "b"}, bodies{one, two}, assets{asset("a", 1, 2), asset("b", 2, 775)}, true},
		{texts{"c", "a", "b"}, bodies{{2}, {0}, {1}}, assets{asset("a", 1, 1), asset("b", 1, 2), asset("c", 1, 3)}, true},
		{texts{"b", "c", "a"}, bodies{{1}, {2}, {0}}, assets{asset("a", 1, 1), asset("b", 1, 2), asset("c", 1, 3)}, true},
		// A body may stand under many names.
		{texts{"b", "a"}, bodies{one, one}, assets{asset("a", 1, 2), asset("b", 1, 2)}, true},
		{texts{"aa", "B", "a", "_", ".", "a.", "9"}, bodies{{6}, {2}, {4}, {3}, {0}, {5}, {1}}, assets{asset(".", 1, 1), asset("9", 1, 2), asset("B", 1, 3), asset("_", 1, 4), asset("a", 1, 5), asset("a.", 1, 6), asset("aa", 1, 7)}, true},
		// Sums at both ends of what they may be.
		{texts{"b", "a"}, bodies{{57, 233, 69, 156}, {57, 233, 69, 155}}, assets{asset("a", 4, lastSum), asset("b", 4, 0)}, true},
		// Twice, side by side and far apart.
		{texts{"a", "a"}, bodies{one, one}, nil, false},
		{texts{"a", "a"}, bodies{one, two}, nil, false},
		{texts{"a", "b", "a"}, bodies{one, two, one}, nil, false},
		{texts{"b", "a", "c", "d", "b"}, bodies{one, two, one, two, nil}, nil, false},
		// Not as many.
		{texts{"a"}, nil, nil, false},
		{nil, bodies{one}, nil, false},
		{nil, bodies{nil}, nil, false},
		{texts{"a", "b"}, bodies{one}, nil, false},
		{texts{"a"}, bodies{one, two}, nil, false},
		// A name that is none.
		{texts{""}, bodies{one}, nil, false},
		{texts{"a", ""}, bodies{one, two}, nil, false},
		{texts{"", "a"}, bodies{one, two}, nil, false},
		{texts{"a", "b-c"}, bodies{one, two}, nil, false},
	} {
		checkPackIs(t, row.names, row.all, row.want, row.ok)
		checkPack(t, row.names, row.all)
	}
	for _, name := range wrongNames() {
		for at := range 5 {
			names, all := manyBodies(5, 3)
			names[at] = name
			checkNotPacked(t, names, all)
		}
		checkNotPacked(t, texts{name}, bodies{one})
	}
	for c := range 256 {
		sign := string([]byte{byte(c)})
		_, ok := impl.Pack(texts{sign, "zz"}, bodies{one, two})
		if ok != (strings.IndexByte(nameSigns, byte(c)) >= 0) {
			t.Fatal(c, ok)
		}
	}
}

func TestPackLimits(t *testing.T) {
	for _, n := range []int{1, 2, 99, mostAssets} {
		names, all := manyBodies(n, 20)
		checkPack(t, names, all)
		// One name more, one body more, one of both less.
		checkNotPacked(t, append(slices.Clone(names), "more"), all)
		checkNotPacked(t, names, append(slices.Clone(all), []byte{1}))
		checkNotPacked(t, names, all[1:])
		checkNotPacked(t, names[1:], all)
		for at := range n {
			twice := slices.Clone(names)
			if other := (at + 1) % n; other != at {
				twice[at] = twice[other]
				checkNotPacked(t, twice, all)
			}
			if other := (at + n/2) % n; other != at {
				twice[at] = names[other]
				checkNotPacked(t, twice, all)
			}
		}
	}
	for _, n := range []int{mostAssets + 1, mostAssets + 2, 2 * mostAssets, 356, 5000} {
		names, all := texts{}, bodies{}
		for i := range n {
			names = append(names, fmt.Sprintf("x%d", i))
			all = append(all, []byte{byte(i)})
		}
		checkNotPacked(t, names, all)
		checkNotPacked(t, names, all[:mostAssets])
		checkNotPacked(t, names[:mostAssets], all)
		checkPack(t, names[:mostAssets], all[:mostAssets])
	}
	for _, name := range []string{"a", strings.Repeat("a", 40)} {
		checkPack(t, texts{name}, bodies{{1, 2}})
	}
}

func TestPackBodies(t *testing.T) {
	for _, size := range []int{0, 1, mostWhole - 1, mostWhole} {
		names, all := manyBodies(4, size)
		checkPack(t, names, all)
		got, ok := impl.Pack(names, all)
		if !ok || got[2].Size != int64(size) {
			t.Fatal(size, got, ok)
		}
	}
	checkPackIs(t, texts{"a"}, bodies{make([]byte, mostWhole)}, assets{asset("a", mostWhole, 563657924)}, true)
	for _, size := range []int{mostWhole + 1, mostWhole + 2, 65536, 65537, 2 * mostWhole} {
		for at := range 5 {
			names, all := manyBodies(5, 9)
			all[at] = wavedBytes(size, at)
			checkNotPacked(t, names, all)
		}
		checkNotPacked(t, texts{"a"}, bodies{make([]byte, size)})
	}
	// The greatest package.
	names, all := manyBodies(mostAssets, mostWhole)
	checkPack(t, names, all)
}

// All orders of five names.
func TestPackOrders(t *testing.T) {
	names, all := texts{"A", "_", "a", "a.1", "aa"}, bodies{{1}, {2, 2}, {}, {4, 4, 4}, {5}}
	want, _ := packedByWords(names, all)
	orders := 0
	var turn func(at int)
	turn = func(at int) {
		if at == len(names) {
			orders++
			checkPackIs(t, names, all, want, true)
			checkVerifyIs(t, want, names, all, make([]int64, 5))
			return
		}
		for i := at; i < len(names); i++ {
			names[at], names[i], all[at], all[i] = names[i], names[at], all[i], all[at]
			turn(at + 1)
			names[at], names[i], all[at], all[i] = names[i], names[at], all[i], all[at]
		}
	}
	turn(0)
	if orders != 120 {
		t.Fatal(orders)
	}
}

func TestVerifyCases(t *testing.T) {
	list := assets{asset("a", 2, 775), asset("b", 1, 2), asset("c", 0, 0)}
	a, b := []byte{2, 3}, []byte{1}
	for _, row := range []struct {
		list  assets
		names texts
		all   bodies
		want  []int64
	}{
		{nil, nil, nil, nil},
		{nil, texts{"a"}, bodies{a}, nil},
		{list, texts{"a", "b", "c"}, bodies{a, b, nil}, []int64{0, 0, 0}},
		{list, texts{"a", "b", "c"}, bodies{a, b, {}}, []int64{0, 0, 0}},
		{list, texts{"c", "b", "a"}, bodies{nil, b, a}, []int64{0, 0, 0}},
		// None of its name.
		{list, nil, nil, []int64{1, 1, 1}},
		{list, texts{"b", "c"}, bodies{b, nil}, []int64{1, 0, 0}},
		{list, texts{"a", "c"}, bodies{a, nil}, []int64{0, 1, 0}},
		{list, texts{"a", "b"}, bodies{a, b}, []int64{0, 0, 1}},
		{list, texts{"A", "B", "C"}, bodies{a, b, nil}, []int64{1, 1, 1}},
		{list, texts{"a ", "b.", "cc"}, bodies{a, b, nil}, []int64{1, 1, 1}},
		// Another Size, with another Sum and with the same.
		{list, texts{"a", "b", "c"}, bodies{{2, 3, 4}, nil, {0}}, []int64{2, 2, 2}},
		{list, texts{"a", "b", "c"}, bodies{nil, {1, 1}, {57, 233, 69, 156}}, []int64{2, 2, 2}},
		{list, texts{"a", "b", "c"}, bodies{a, {57, 233, 69, 158}, nil}, []int64{0, 2, 0}},
		// Another Sum alone.
		{list, texts{"a", "b", "c"}, bodies{{2, 4}, {2}, nil}, []int64{3, 3, 0}},
		{list, texts{"a", "b", "c"}, bodies{{3, 2}, {0}, nil}, []int64{3, 3, 0}},
		{assets{asset("c", 0, 1)}, texts{"c"}, bodies{nil}, []int64{3}},
		{assets{asset("c", 0, lastSum)}, texts{"c"}, bodies{{}}, []int64{3}},
		// Each code once.
		{append(slices.Clone(list), asset("d", 1, 9)), texts{"d", "b", "a"}, bodies{{1}, {1, 1}, a}, []int64{0, 2, 1, 3}},
		// Of two of one name the first counts, right or wrong.
		{list, texts{"a", "a", "b", "c"}, bodies{a, {2, 4}, b, nil}, []int64{0, 0, 0}},
		{list, texts{"a", "a", "b", "c"}, bodies{{2, 4}, a, b, nil}, []int64{3, 0, 0}},
		{list, texts{"a", "b", "c", "b"}, bodies{a, nil, nil, b}, []int64{0, 2, 0}},
		{list, texts{"b", "a", "c", "b"}, bodies{b, a, nil, {9, 9}}, []int64{0, 0, 0}},
		{list, texts{"b", "b", "b", "b"}, bodies{{7}, {1, 1}, b, b}, []int64{1, 3, 1}},
		// Names that are in no asset, or are none at all.
		{list, texts{"x", "a", "", "b", "y-z", "c", "\xff", "q"}, bodies{b, a, a, b, nil, nil, a, nil}, []int64{0, 0, 0}},
		{list, texts{"", "a", "", "b", strings.Repeat("n", 99), "c"}, bodies{nil, a, a, b, nil, nil}, []int64{0, 0, 0}},
		{list, texts{"x", "y", "z"}, bodies{a, b, nil}, []int64{1, 1, 1}},
		// Unlike bytes of one Size and Sum.
		{assets{asset("a", 4, 17040900)}, texts{"a"}, bodies{{58, 234, 70, 157}}, []int64{0}},
		{assets{asset("a", 4, 17040900)}, texts{"a"}, bodies{{0, 0, 0, 0}}, []int64{0}},
		// Not as many.
		{list, texts{"a", "b", "c"}, bodies{a, b}, nil},
		{list, texts{"a", "b"}, bodies{a, b, nil}, nil},
		{list, nil, bodies{a}, nil},
		{list, texts{"a"}, nil, nil},
		{nil, texts{"a"}, nil, nil},
		// No package.
		{assets{asset("b", 1, 2), asset("a", 2, 775)}, texts{"a", "b"}, bodies{a, b}, nil},
		{assets{asset("b", 1, 2), asset("b", 1, 2)}, texts{"b", "b"}, bodies{b, b}, nil},
		{assets{asset("", 1, 2)}, texts{""}, bodies{b}, nil},
		{assets{asset("a", 2, 775+sumCount)}, texts{"a"}, bodies{a}, nil},
	} {
		checkVerifyIs(t, row.list, row.names, row.all, row.want)
		checkVerify(t, row.list, row.names, row.all)
	}
	for _, list := range noPackages() {
		checkVerifyIs(t, list, nil, nil, nil)
		checkVerifyIs(t, list, namesOfAssets(list), make(bodies, len(list)), nil)
	}
}

func TestVerifyLimits(t *testing.T) {
	for _, size := range []int{0, 1, mostWhole - 1, mostWhole} {
		body := wavedBytes(size, 2)
		list := assets{asset("a", int64(size), digestByWords(body))}
		checkVerifyIs(t, list, texts{"a"}, bodies{body}, []int64{0})
		// Longer than any asset, with the very sum: the bytes past MaxWhole count for the Size alone.
		longer := append(bytes.Clone(body), make([]byte, 2*mostWhole)...)
		checkVerifyIs(t, list, texts{"a"}, bodies{longer}, []int64{2})
		checkVerifyIs(t, list, texts{"a"}, bodies{longer[:size+1]}, []int64{2})
		if size > 0 {
			checkVerifyIs(t, list, texts{"a"}, bodies{body[:size-1]}, []int64{2})
			body[size-1]++
			checkVerifyIs(t, list, texts{"a"}, bodies{body}, []int64{3})
		}
	}
	most := manyAssets(mostAssets)
	for i := range most {
		most[i] = asset(most[i].Name, 20, digestByWords(wavedBytes(20, i)))
	}
	names, all := manyBodies(mostAssets, 20)
	checkVerifyIs(t, most, names, all, make([]int64, mostAssets))
	checkVerifyIs(t, most, nil, nil, slices.Repeat([]int64{1}, mostAssets))
	for at, name := range names {
		place := slices.Index(namesOfAssets(most), name)
		want := make([]int64, mostAssets)
		turned := slices.Clone(all)
		turned[at] = bytes.Clone(all[at])
		turned[at][at%20] ^= byte(1 << (at % 8))
		want[place] = 3
		checkVerifyIs(t, most, names, turned, want)
		turned[at] = all[at][1:]
		want[place] = 2
		checkVerifyIs(t, most, names, turned, want)
		fewer := slices.Clone(names)
		fewer[at] = "no"
		want[place] = 1
		checkVerifyIs(t, most, fewer, all, want)
	}
	checkVerifyIs(t, manyAssets(mostAssets+1), names, all, nil)
	// There may be more names than a package has assets, and the right ones far behind.
	far, farAll := texts{}, bodies{}
	for i := range 5000 {
		far, farAll = append(far, fmt.Sprintf("no%d", i)), append(farAll, []byte{byte(i)})
	}
	checkVerifyIs(t, most, slices.Concat(far, names, names), slices.Concat(farAll, all, slices.Repeat(bodies{nil}, mostAssets)), make([]int64, mostAssets))
	checkVerifyIs(t, most, slices.Concat(names, far), slices.Concat(all, farAll), make([]int64, mostAssets))
}

// Promise 16: each byte of each body, turned, is told, and of no other asset anything else is.
func TestVerifyTellsATurnedByte(t *testing.T) {
	names, all := texts{"c", "a", "b"}, bodies{wavedBytes(40, 1), wavedBytes(3, 2), wavedBytes(17, 3)}
	list, ok := impl.Pack(names, all)
	if !ok {
		t.Fatal(names)
	}
	for at, body := range all {
		for place := range body {
			for by := 1; by < 256; by++ {
				body[place] ^= byte(by)
				want := make([]int64, 3)
				want[(at+2)%3] = 3
				if got := impl.Verify(list, names, all); !slices.Equal(got, want) {
					t.Fatal(at, place, by, got)
				}
				body[place] ^= byte(by)
			}
		}
	}
	// The first and the last byte of the longest body.
	long := wavedBytes(mostWhole, 9)
	list, _ = impl.Pack(texts{"long"}, bodies{long})
	for _, place := range []int{0, 1, mostWhole / 2, mostWhole - 2, mostWhole - 1} {
		long[place] ^= 128
		checkVerifyIs(t, list, texts{"long"}, bodies{long}, []int64{3})
		long[place] ^= 128
	}
	checkVerifyIs(t, list, texts{"long"}, bodies{long}, []int64{0})
}

func TestUpdateCases(t *testing.T) {
	a, b, c := asset("a", 1, 2), asset("b", 3, 4), asset("c", 5, 6)
	for _, row := range []struct {
		old, now   assets
		sent, gone texts
	}{
		{nil, nil, nil, nil},
		{assets{a}, assets{a}, nil, nil},
		{assets{a, b, c}, assets{a, b, c}, nil, nil},
		{nil, assets{a}, texts{"a"}, nil},
		{nil, assets{a, b, c}, texts{"a", "b", "c"}, nil},
		{assets{a}, nil, nil, texts{"a"}},
		{assets{a, b, c}, nil, nil, texts{"a", "b", "c"}},
		{assets{a}, assets{b}, texts{"b"}, texts{"a"}},
		{assets{b}, assets{a}, texts{"a"}, texts{"b"}},
		{assets{a, c}, assets{b}, texts{"b"}, texts{"a", "c"}},
		{assets{b}, assets{a, c}, texts{"a", "c"}, texts{"b"}},
		{assets{a, b}, assets{b, c}, texts{"c"}, texts{"a"}},
		{assets{a, b}, assets{a, b, c}, texts{"c"}, nil},
		{assets{b, c}, assets{a, b, c}, texts{"a"}, nil},
		{assets{a, b, c}, assets{a, c}, nil, texts{"b"}},
		// Changed in Size alone, in Sum alone, in both: sent, and not gone.
		{assets{a}, assets{asset("a", 2, 2)}, texts{"a"}, nil},
		{assets{a}, assets{asset("a", 1, 3)}, texts{"a"}, nil},
		{assets{a}, assets{asset("a", 2, 3)}, texts{"a"}, nil},
		{assets{a}, assets{asset("a", 2, 1)}, texts{"a"}, nil},
		{assets{a, b, c}, assets{a, asset("b", 0, 4), c}, texts{"b"}, nil},
		{assets{a, b, c}, assets{a, asset("b", 3, 0), c}, texts{"b"}, nil},
		{assets{a, b, c}, assets{asset("a", 1, 9), asset("b", 9, 4), asset("c", 9, 9)}, texts{"a", "b", "c"}, nil},
		// The Size and Sum of another name do not count.
		{assets{asset("a", 1, 2), asset("b", 1, 2)}, assets{asset("a", 1, 2), asset("c", 1, 2)}, texts{"c"}, texts{"b"}},
		{assets{a, b}, assets{asset("a", 3, 4), asset("b", 1, 2)}, texts{"a", "b"}, nil},
		{assets{asset("A", 1, 2)}, assets{a}, texts{"a"}, texts{"A"}},
		{assets{asset("aa", 1, 2)}, assets{a}, texts{"a"}, texts{"aa"}},
		// No package on one side or the other.
		{assets{b, a}, assets{a}, nil, nil},
		{assets{a}, assets{b, a}, nil, nil},
		{assets{b, a}, assets{b, a}, nil, nil},
		{assets{a, a}, nil, nil, nil},
		{nil, assets{a, a}, nil, nil},
		{assets{{}}, assets{a}, nil, nil},
		{assets{a}, assets{{}}, nil, nil},
	} {
		checkUpdateIs(t, row.old, row.now, row.sent, row.gone)
		checkUpdate(t, row.old, row.now)
	}
	for _, list := range noPackages() {
		for _, other := range []assets{nil, {a}, manyAssets(7), manyAssets(mostAssets), list} {
			checkUpdateIs(t, list, other, nil, nil)
			checkUpdateIs(t, other, list, nil, nil)
		}
	}
}

func TestUpdateLimits(t *testing.T) {
	most := manyAssets(mostAssets)
	names := namesOfAssets(most)
	checkUpdateIs(t, most, most, nil, nil)
	checkUpdateIs(t, nil, most, names, nil)
	checkUpdateIs(t, most, nil, nil, names)
	checkUpdateIs(t, manyAssets(mostAssets+1), most, nil, nil)
	checkUpdateIs(t, most, manyAssets(mostAssets+1), nil, nil)
	for at, a := range most {
		checkUpdateIs(t, most, withAsset(most, at, asset(a.Name, a.Size+1, a.Sum)), texts{a.Name}, nil)
		checkUpdateIs(t, most, withAsset(most, at, asset(a.Name, a.Size, a.Sum+1)), texts{a.Name}, nil)
		without := slices.Delete(slices.Clone(most), at, at+1)
		checkUpdateIs(t, most, without, nil, texts{a.Name})
		checkUpdateIs(t, without, most, texts{a.Name}, nil)
	}
	// No name in common: all are sent and all go.
	others, otherNames := assets{}, texts{}
	for i, a := range most {
		others = append(others, asset(a.Name+"x", a.Size, a.Sum))
		otherNames = append(otherNames, others[i].Name)
	}
	checkUpdateIs(t, most, others, otherNames, names)
	checkUpdate(t, most, others)
	checkUpdate(t, most[:50], most[25:])
}

// All pairs of small packages: each of three names is missing or has one of four contents.
func TestUpdateOfAllSmall(t *testing.T) {
	all := []assets{}
	for n := range 125 {
		list := assets{}
		for i, name := range []string{"A", "b", "bb"} {
			if what := n / []int{1, 5, 25}[i] % 5; what > 0 {
				list = append(list, asset(name, int64(what/3), int64(what%2)))
			}
		}
		all = append(all, list)
	}
	for _, old := range all {
		for _, now := range all {
			sent, gone := updateByWords(old, now)
			checkUpdateIs(t, old, now, sent, gone)
			checkTaken(t, old, now)
		}
	}
}

func TestSealCases(t *testing.T) {
	for _, row := range []struct {
		body   []byte
		secret int64
		want   []byte
	}{
		{nil, 1, nil},
		{[]byte{}, lastSum, nil},
		{[]byte{0}, 1, []byte{143}},
		{[]byte{255}, 1, []byte{112}},
		{[]byte{143}, 1, []byte{0}},
		{[]byte{1}, 1, []byte{142}},
		{make([]byte, 8), 1, []byte{143, 211, 50, 118, 7, 41, 81, 191}},
		{make([]byte, 8), 2, []byte{30, 166, 93, 236, 7, 82, 155, 126}},
		{make([]byte, 8), 77, []byte{3, 200, 123, 98, 238, 85, 101, 196}},
		{make([]byte, 8), 48271, []byte{211, 50, 118, 7, 41, 81, 191, 144}},
		{make([]byte, 8), 500000003, []byte{188, 26, 110, 76, 128, 239, 91, 164}},
		{make([]byte, 8), lastSum - 1, []byte{233, 97, 170, 27, 0, 181, 108, 137}},
		{make([]byte, 8), lastSum, []byte{120, 52, 213, 145, 0, 222, 182, 72}},
		{[]byte{0, 1, 2, 3}, 1, []byte{143, 210, 48, 117}},
		{[]byte("reel"), 77, []byte{113, 173, 30, 14}},
		{[]byte{113, 173, 30, 14}, 77, []byte("reel")},
		// Secrets that are none.
		{[]byte("reel"), 0, nil},
		{[]byte("reel"), -1, nil},
		{[]byte("reel"), -77, nil},
		{[]byte("reel"), sumCount, nil},
		{[]byte("reel"), sumCount + 1, nil},
		{[]byte("reel"), sumCount + 77, nil},
		{[]byte("reel"), math.MaxInt64, nil},
		{[]byte("reel"), math.MinInt64, nil},
		{[]byte("reel"), 1<<32 + 77, nil},
		{nil, 0, nil},
		{nil, sumCount, nil},
	} {
		checkSealIs(t, row.body, row.secret, row.want)
		checkSeal(t, row.body, row.secret)
	}
	for c := range 256 {
		checkSealIs(t, []byte{byte(c)}, 1, []byte{byte(c) ^ 143})
	}
}

func someSecrets() []int64 {
	return []int64{1, 2, 77, 255, 256, 257, 48271, 1 << 16, lastFrame, 500000003, 1 << 29, lastSum - 1, lastSum}
}

func wrongSecrets() []int64 {
	return []int64{0, -1, -2, -lastSum, -sumCount, sumCount, sumCount + 1, 2 * sumCount, 1 << 30, 1 << 32, 1<<32 + 1, -1<<32 + 1, math.MaxInt64 - 1, math.MaxInt64, math.MinInt64, math.MinInt64 + 1}
}

func TestSealLimits(t *testing.T) {
	long := wavedBytes(2*mostWhole, 4)
	for _, secret := range someSecrets() {
		for _, n := range []int{0, 1, 2, 255, 256, 1000, mostWhole - 1, mostWhole} {
			checkSeal(t, long[:n], secret)
			if got := impl.Seal(long[:n], secret); len(got) != n {
				t.Fatal(secret, n, len(got))
			}
		}
		for _, n := range []int{mostWhole + 1, mostWhole + 2, 65536, 65537, 2 * mostWhole} {
			checkSealIs(t, long[:n], secret, nil)
		}
	}
	for _, secret := range wrongSecrets() {
		for _, n := range []int{0, 1, 100, mostWhole, mostWhole + 1} {
			checkSealIs(t, long[:n], secret, nil)
		}
	}
}

// Each place has its own turn, by a power reckoned in numbers of any size.
func TestSealByWholeNumbers(t *testing.T) {
	factor, modulus := big.NewInt(48271), big.NewInt(sumCount)
	for _, secret := range someSecrets() {
		sealed := impl.Seal(make([]byte, mostWhole), secret)
		for _, at := range []int{0, 1, 2, 3, 10, 100, 255, 256, 9999, mostWhole - 2, mostWhole - 1} {
			s := new(big.Int).Exp(factor, big.NewInt(int64(at+1)), modulus)
			s.Mul(s, big.NewInt(secret)).Mod(s, modulus)
			if want := byte(s.Int64() % 256); sealed[at] != want {
				t.Fatal(secret, at, sealed[at], want)
			}
		}
	}
}

func TestOpenCases(t *testing.T) {
	sealed := []byte{113, 173, 30, 14}
	for _, row := range []struct {
		lock   impl.Lock
		minute int64
		ok     bool
	}{
		{lock(5, 9, 77), 4, false},
		{lock(5, 9, 77), 5, true},
		{lock(5, 9, 77), 7, true},
		{lock(5, 9, 77), 9, true},
		{lock(5, 9, 77), 10, false},
		{lock(5, 9, 77), 0, false},
		{lock(5, 9, 77), -5, false},
		{lock(5, 9, 77), -9, false},
		{lock(5, 9, 77), math.MaxInt64, false},
		{lock(5, 9, 77), math.MinInt64, false},
		{lock(5, 9, 77), 1<<32 + 7, false},
		{lock(7, 7, 77), 6, false},
		{lock(7, 7, 77), 7, true},
		{lock(7, 7, 77), 8, false},
		{lock(0, 0, 77), -1, false},
		{lock(0, 0, 77), 0, true},
		{lock(0, 0, 77), 1, false},
		{lock(0, lastMinute, 77), 0, true},
		{lock(0, lastMinute, 77), lastMinute, true},
		{lock(0, lastMinute, 77), lastMinute + 1, false},
		{lock(0, lastMinute, 77), -1, false},
		{lock(0, lastMinute, 77), math.MaxInt64, false},
		{lock(0, lastMinute, 77), math.MinInt64, false},
		{lock(lastMinute, lastMinute, 77), lastMinute, true},
		{lock(lastMinute, lastMinute, 77), lastMinute - 1, false},
		// Locks that are none.
		{lock(9, 5, 77), 7, false},
		{lock(9, 5, 77), 9, false},
		{lock(9, 5, 77), 5, false},
		{lock(8, 7, 77), 7, false},
		{lock(8, 7, 77), 8, false},
		{lock(-1, 9, 77), 5, false},
		{lock(-1, 9, 77), -1, false},
		{lock(-9, -5, 77), -7, false},
		{lock(0, -1, 77), 0, false},
		{lock(0, -1, 77), -1, false},
		{lock(5, lastMinute+1, 77), 7, false},
		{lock(lastMinute+1, lastMinute+1, 77), lastMinute + 1, false},
		{lock(math.MinInt64, 9, 77), 7, false},
		{lock(5, math.MaxInt64, 77), 7, false},
		{lock(math.MinInt64, math.MaxInt64, 77), 7, false},
		{lock(math.MaxInt64, math.MinInt64, 77), 7, false},
		{lock(5, 9, 0), 7, false},
		{lock(5, 9, -77), 7, false},
		{lock(5, 9, sumCount), 7, false},
		{lock(5, 9, sumCount+77), 7, false},
		{lock(5, 9, math.MaxInt64), 7, false},
		{lock(5, 9, math.MinInt64), 7, false},
		{impl.Lock{}, 0, false},
	} {
		want := []byte(nil)
		if row.ok {
			want = []byte("reel")
		}
		checkOpenIs(t, row.lock, row.minute, sealed, want, row.ok)
		checkOpen(t, row.lock, row.minute, sealed)
	}
	// In its time nothing is opened to nothing, and that is told apart.
	checkOpenIs(t, lock(5, 9, 77), 5, nil, nil, true)
	checkOpenIs(t, lock(5, 9, 77), 9, []byte{}, []byte{}, true)
	checkNotOpened(t, lock(5, 9, 77), 10, nil)
	checkNotOpened(t, lock(5, 9, 0), 7, nil)
	// By another secret it is opened, but it is not what was sealed.
	got, ok := impl.Open(lock(5, 9, 78), 7, sealed)
	if !ok || string(got) == "reel" {
		t.Fatal(got, ok)
	}
}

func TestOpenLimits(t *testing.T) {
	long := wavedBytes(2*mostWhole, 6)
	for _, secret := range someSecrets() {
		for _, n := range []int{0, 1, 300, mostWhole - 1, mostWhole} {
			sealed := impl.Seal(long[:n], secret)
			for _, minute := range []int64{5, 6, 9} {
				checkOpenIs(t, lock(5, 9, secret), minute, sealed, long[:n], true)
			}
			for _, minute := range []int64{4, 10, -1, 0, lastMinute, math.MinInt64, math.MaxInt64} {
				checkNotOpened(t, lock(5, 9, secret), minute, sealed)
			}
		}
		for _, n := range []int{mostWhole + 1, mostWhole + 2, 65536, 2 * mostWhole} {
			checkNotOpened(t, lock(5, 9, secret), 7, long[:n])
			checkNotOpened(t, lock(5, 9, secret), 10, long[:n])
		}
	}
	for _, secret := range wrongSecrets() {
		for _, n := range []int{0, 1, 100, mostWhole, mostWhole + 1} {
			checkNotOpened(t, lock(5, 9, secret), 7, long[:n])
		}
	}
}

// All minutes around all small locks, and around those at the end.
func TestOpenMinutes(t *testing.T) {
	sealed := impl.Seal([]byte("body"), 9)
	edges := []int64{math.MinInt64, math.MinInt64 + 1, -lastMinute, -2, -1, 0, 1, 2, 3, lastMinute - 1, lastMinute, lastMinute + 1, lastMinute + 2, 1 << 32, math.MaxInt64 - 1, math.MaxInt64}
	for _, from := range edges {
		for _, to := range edges {
			for _, minute := range edges {
				ok := 0 <= from && from <= minute && minute <= to && to <= lastMinute
				want := []byte(nil)
				if ok {
					want = []byte("body")
				}
				checkOpenIs(t, lock(from, to, 9), minute, sealed, want, ok)
			}
		}
	}
}

func randomName(r *rand.Rand) string {
	if r.Intn(12) == 0 {
		return wrongNames()[r.Intn(len(wrongNames()))]
	}
	name := make([]byte, 1+r.Intn(3))
	for i := range name {
		name[i] = "ABab01_."[r.Intn(8)]
	}
	return string(name)
}

func randomBody(r *rand.Rand) []byte {
	body := make([]byte, r.Intn(6))
	r.Read(body)
	return body
}

// randomPack can mostly be packed: a name that is there already is passed over.
func randomPack(r *rand.Rand) (texts, bodies) {
	names, all := texts{}, bodies{}
	for range r.Intn(9) {
		if name := randomName(r); !slices.Contains(names, name) || r.Intn(15) == 0 {
			names, all = append(names, name), append(all, randomBody(r))
		}
	}
	return names, all
}

// spoiltPack turns one thing of what is packed.
func spoiltPack(r *rand.Rand, names texts, all bodies) (texts, bodies) {
	names, all = slices.Clone(names), slices.Clone(all)
	if len(names) == 0 || len(all) == 0 {
		return texts{randomName(r)}, bodies{randomBody(r)}
	}
	at, other := r.Intn(len(all)), r.Intn(len(names))
	switch r.Intn(7) {
	case 0:
		all[at] = randomBody(r)
	case 1:
		names[other] = randomName(r)
	case 2:
		all[at] = bytes.Clone(all[at])
		if len(all[at]) > 0 {
			all[at][r.Intn(len(all[at]))] ^= byte(1 << r.Intn(8))
		}
	case 3:
		names, all = append(names, names[other]), append(all, randomBody(r))
	case 4:
		names, all = append(texts{names[other]}, names...), append(bodies{randomBody(r)}, all...)
	case 5:
		names = names[1:]
	default:
		names, all = slices.Delete(names, 0, 1), slices.Delete(all, 0, 1)
	}
	return names, all
}

func TestPacksAtRandom(t *testing.T) {
	r := rand.New(rand.NewSource(151))
	last := assets{}
	for range 12000 {
		names, all := randomPack(r)
		checkPack(t, names, all)
		list, _ := impl.Pack(names, all)
		otherNames, otherAll := spoiltPack(r, names, all)
		checkPack(t, otherNames, otherAll)
		checkVerify(t, list, otherNames, otherAll)
		other, _ := impl.Pack(otherNames, otherAll)
		checkUpdate(t, list, other)
		checkUpdate(t, list, last)
		checkVerify(t, last, names, all)
		last = list
	}
}

func TestAssetsAtRandom(t *testing.T) {
	r := rand.New(rand.NewSource(152))
	sizes := append(strangeNumbers(), 0, 1, mostWhole-1, mostWhole, mostWhole+1)
	sums := append(strangeNumbers(), 0, 1, lastSum-1, lastSum, sumCount)
	for range 20000 {
		list := assets{}
		for range r.Intn(5) {
			a := asset(randomName(r), int64(r.Intn(mostWhole+1)), r.Int63n(sumCount))
			if r.Intn(9) == 0 {
				a.Size = sizes[r.Intn(len(sizes))]
			}
			if r.Intn(9) == 0 {
				a.Sum = sums[r.Intn(len(sums))]
			}
			list = append(list, a)
		}
		if r.Intn(5) > 0 {
			slices.SortFunc(list, func(a, b impl.Asset) int { return strings.Compare(a.Name, b.Name) })
		}
		checkPackOk(t, list)
		checkUpdate(t, list, list)
		checkVerify(t, list, namesOfAssets(list), make(bodies, len(list)))
	}
}

func TestSealsAtRandom(t *testing.T) {
	r := rand.New(rand.NewSource(153))
	for range 4000 {
		body := make([]byte, r.Intn(70))
		r.Read(body)
		secret := 1 + r.Int63n(lastSum)
		checkDigest(t, body)
		checkSeal(t, body, secret)
		from := r.Int63n(lastMinute)
		checkOpen(t, lock(from, from+r.Int63n(4)-1, secret), from+r.Int63n(7)-3, body)
	}
}

// Many ask at once of the same arguments: each gets the same answers, memory of its own, and none who reckons is left behind.
func TestPacksAtOnce(t *testing.T) {
	before := runtime.NumGoroutine()
	names, all := manyBodies(mostAssets, 700)
	turned := slices.Clone(all)
	for i := range turned {
		if turned[i] = bytes.Clone(all[i]); i%3 == 0 {
			turned[i][i] ^= 1
		}
	}
	list, ok := packedByWords(names, all)
	changed, okChanged := packedByWords(names, turned)
	told := verifyByWords(list, names, turned)
	sent, gone := updateByWords(list, changed)
	if !ok || !okChanged || len(sent) != 34 || len(gone) != 0 {
		t.Fatal(ok, okChanged, sent, gone)
	}
	group := sync.WaitGroup{}
	wrong := make([]string, 64)
	for n := range wrong {
		group.Go(func() {
			for range 10 {
				got, ok := impl.Pack(names, all)
				if !ok || !slices.Equal(got, list) {
					wrong[n] = "Pack"
				}
				spoilAll(got, assetMark)
				codes := impl.Verify(list, names, turned)
				if !slices.Equal(codes, told) {
					wrong[n] = "Verify"
				}
				spoilAll(codes, 9)
				now, away := impl.Update(list, changed)
				if !slices.Equal(now, sent) || !slices.Equal(away, gone) {
					wrong[n] = "Update"
				}
				spoilAll(now, nameMark)
				sealed := impl.Seal(all[n], int64(n)+1)
				opened, ok := impl.Open(lock(0, int64(n), int64(n)+1), int64(n), sealed)
				if !ok || !bytes.Equal(opened, all[n]) {
					wrong[n] = "Open"
				}
				spoilAll(sealed, byteMark)
				spoilAll(opened, byteMark)
			}
		})
	}
	group.Wait()
	for n, what := range wrong {
		if what != "" {
			t.Fatalf("%s is another one where many ask (number %d)", what, n)
		}
	}
	for range 1000 {
		if runtime.NumGoroutine() <= before {
			return
		}
		time.Sleep(5 * time.Millisecond)
	}
	t.Fatalf("%d goroutines, %d ahead of the calls", runtime.NumGoroutine(), before)
}

// The answers are the same each time, however many can work at once.
func TestPacksByFewAndMany(t *testing.T) {
	names, all := manyBodies(mostAssets, 3000)
	list, _ := packedByWords(names, all)
	was := runtime.GOMAXPROCS(0)
	defer runtime.GOMAXPROCS(was)
	for _, workers := range []int{1, 2, 3, 16} {
		runtime.GOMAXPROCS(workers)
		for range 15 {
			if got, ok := impl.Pack(names, all); !ok || !slices.Equal(got, list) {
				t.Fatal(workers, few(got), ok)
			}
			if got := impl.Verify(list, names, all); !slices.Equal(got, make([]int64, mostAssets)) {
				t.Fatal(workers, got)
			}
		}
	}
}

// packFromBytes takes a byte for the length of a name and of a body, and then both.
func packFromBytes(b []byte) (texts, bodies) {
	names, all := texts{}, bodies{}
	for len(b) > 0 && len(names) <= mostAssets {
		n, m := int(b[0]%8), int(b[0]/8)
		b = b[1:]
		n = min(n, len(b))
		names = append(names, string(b[:n]))
		b = b[n:]
		m = min(m, len(b))
		all = append(all, b[:m])
		b = b[m:]
	}
	return names, all
}

// FuzzPack takes bytes for what is packed ahead and behind, and numbers for a lock.
func FuzzPack(f *testing.F) {
	f.Add([]byte{17, 'a', 1, 2, 10, 'b', 'c', 3}, []byte{17, 'a', 1, 3}, int64(77), int64(5), int64(9), int64(9))
	f.Add([]byte{1, 'a', 1, 'a'}, []byte{0, 9, '-', 1}, int64(sumCount), int64(-1), int64(lastMinute), int64(0))
	f.Add([]byte{}, []byte{33, 'z', 57, 233, 69, 156}, int64(1), int64(0), int64(0), int64(math.MinInt64))
	f.Fuzz(func(t *testing.T, one, other []byte, secret, from, to, minute int64) {
		names, all := packFromBytes(one)
		otherNames, otherAll := packFromBytes(other)
		checkPack(t, names, all)
		checkPack(t, otherNames, otherAll)
		list, _ := impl.Pack(names, all)
		now, _ := impl.Pack(otherNames, otherAll)
		checkVerify(t, list, otherNames, otherAll)
		checkUpdate(t, list, now)
		checkUpdate(t, assets{asset(string(one), from, secret)}, assets{asset(string(other), to, minute)})
		checkDigest(t, one)
		checkSeal(t, one, secret)
		checkOpen(t, lock(from, to, secret), minute, other)
		checkOpen(t, lock(0, lastMinute, secret), minute, other)
	})
}
