package tests

import (
	"math"
	"math/big"
	"math/rand"
	"slices"
	"testing"

	"loop.example/g00066/impl"
)

// The faces of the chapter, held as they were given.
var (
	_ func(impl.Cx, impl.Cx) impl.Cx            = impl.Product
	_ func(impl.Cx, impl.Cx) impl.Cx            = impl.NarrowProduct
	_ func([]impl.Cx) []impl.Cx                 = impl.Waves
	_ func([]impl.Cx) []impl.Cx                 = impl.Back
	_ func([]impl.Cx) []float64                 = impl.Power
	_ func([]float64, []float64, int64) float64 = impl.Agree
	_ func([]float64, []float64, int64) int64   = impl.Sync
	_ struct{ Re, Im float64 }                  = impl.Cx{}
)

var (
	noughtBelow = math.Copysign(0, -1)
	endless     = math.Inf(1)
	noNumber    = math.NaN()
)

func cx(re, im float64) impl.Cx { return impl.Cx{Re: re, Im: im} }

func sameFloat(x, y float64) bool {
	if math.IsNaN(x) || math.IsNaN(y) {
		return math.IsNaN(x) && math.IsNaN(y)
	}
	return x == y && math.Signbit(x) == math.Signbit(y)
}

func sameCx(x, y impl.Cx) bool { return sameFloat(x.Re, y.Re) && sameFloat(x.Im, y.Im) }

func sameFloats(x, y []float64) bool { return slices.EqualFunc(x, y, sameFloat) }

func sameCxs(x, y []impl.Cx) bool { return slices.EqualFunc(x, y, sameCx) }

// width is a kind of float that is reckoned here from exact numbers, not by the machine's floats.
type width struct{ narrow bool }

var (
	wide    = width{}
	halfway = width{narrow: true}
)

// near rounds an exact number; where that is nought the sign is told beside it.
func (w width) near(exact *big.Rat, below bool) float64 {
	var x float64
	if w.narrow {
		f, _ := exact.Float32()
		x = float64(f)
	} else {
		x, _ = exact.Float64()
	}
	if x == 0 && exact.Sign() == 0 && below {
		return noughtBelow
	}
	return x
}

func exactly(x float64) *big.Rat { return new(big.Rat).SetFloat64(x) }

func isEndless(x float64) bool { return math.IsInf(x, 0) }

func (w width) narrowed(x float64) float64 {
	if math.IsNaN(x) || isEndless(x) {
		return x
	}
	return w.near(exactly(x), math.Signbit(x))
}

func (w width) times(x, y float64) float64 {
	below := math.Signbit(x) != math.Signbit(y)
	switch {
	case math.IsNaN(x) || math.IsNaN(y):
		return noNumber
	case isEndless(x) && y == 0 || isEndless(y) && x == 0:
		return noNumber
	case isEndless(x) || isEndless(y):
		if below {
			return -endless
		}
		return endless
	}
	return w.near(new(big.Rat).Mul(exactly(x), exactly(y)), below)
}

func (w width) plus(x, y float64) float64 {
	switch {
	case math.IsNaN(x) || math.IsNaN(y):
		return noNumber
	case isEndless(x) && isEndless(y) && x != y:
		return noNumber
	case isEndless(x):
		return x
	case isEndless(y):
		return y
	}
	// A sum is the nought with a minus only of two of these.
	below := x == 0 && y == 0 && math.Signbit(x) && math.Signbit(y)
	return w.near(new(big.Rat).Add(exactly(x), exactly(y)), below)
}

func (w width) less(x, y float64) float64 { return w.plus(x, math.Copysign(y, -sign(y))) }

func sign(x float64) float64 { return math.Copysign(1, x) }

func (w width) product(a, b impl.Cx) impl.Cx {
	a, b = cx(w.narrowed(a.Re), w.narrowed(a.Im)), cx(w.narrowed(b.Re), w.narrowed(b.Im))
	return cx(w.less(w.times(a.Re, b.Re), w.times(a.Im, b.Im)), w.plus(w.times(a.Re, b.Im), w.times(a.Im, b.Re)))
}

// The float next to half the root of 2, by its bits.
var rootPart = math.Float64frombits(0x3FE6A09E667F3BCD)

func rootsByWords() [8]impl.Cx {
	h := rootPart
	return [8]impl.Cx{cx(1, 0), cx(h, -h), cx(0, -1), cx(-h, -h), cx(-1, 0), cx(-h, h), cx(0, 1), cx(h, h)}
}

func wavesByWords(list []impl.Cx, back bool) []impl.Cx {
	n := len(list)
	if n != 1 && n != 2 && n != 4 && n != 8 {
		return nil
	}
	var out []impl.Cx
	for j := range n {
		sum := cx(0, 0)
		for k := range n {
			number := 8 / n * j * k % 8
			if back {
				number = (8 - number) % 8
			}
			p := wide.product(list[k], rootsByWords()[number])
			sum = cx(wide.plus(sum.Re, p.Re), wide.plus(sum.Im, p.Im))
		}
		if back {
			// To divide by a power of two and to multiply by its part of 1 are the same.
			sum = cx(wide.times(sum.Re, 1/float64(n)), wide.times(sum.Im, 1/float64(n)))
		}
		out = append(out, sum)
	}
	return out
}

func agreeByWords(a, b []float64, lag int64) float64 {
	if len(a) > 4096 || len(b) > 4096 || lag < -4096 || lag > 4096 {
		return 0
	}
	sum := 0.0
	for i := range a {
		if at := int64(i) + lag; at >= 0 && at < int64(len(b)) {
			sum = wide.plus(sum, wide.times(a[i], b[at]))
		}
	}
	return sum
}

// syncByWords asks of each pair of lags which is better, and takes the one that no other is better than.
func syncByWords(a, b []float64, most int64) int64 {
	if most < 0 || most > 64 || len(a) > 4096 || len(b) > 4096 {
		return 0
	}
	greater := func(x, y float64) bool {
		return !math.IsNaN(x) && (math.IsNaN(y) || x > y)
	}
	away := func(lag int64) int64 { return max(lag, -lag) }
	best := -most
	for lag := -most; lag <= most; lag++ {
		x, y := agreeByWords(a, b, lag), agreeByWords(a, b, best)
		if greater(x, y) || !greater(y, x) && away(lag) <= away(best) {
			best = lag
		}
	}
	return best
}

func strangeFloats() []float64 {
	some := []float64{
		0, 1, 2, 3, 0.1, 1.0 / 3, 0.7071067811865476, 1 + 0x1p-30, 1 + 0x1p-13, 16777217, 9007199254740991, 1000,
		math.MaxFloat64, 1e200, 1e-200, 0x1p-1022, math.SmallestNonzeroFloat64,
		math.MaxFloat32, 0x1.ffffffp127, 0x1.fffffefffffffp127, 1e30, 1e-30, 0x1p-126, math.SmallestNonzeroFloat32, 0x1p-150, 0x1.8p-150, 1e-46,
		endless, noNumber,
	}
	for _, x := range slices.Clone(some) {
		some = append(some, -x)
	}
	return append(some, noughtBelow)
}

func randomFloat(r *rand.Rand) float64 {
	switch r.Intn(8) {
	case 0:
		return math.Float64frombits(r.Uint64())
	case 1:
		return float64(math.Float32frombits(r.Uint32()))
	case 2:
		s := strangeFloats()
		return s[r.Intn(len(s))]
	case 3:
		return float64(r.Intn(2001) - 1000)
	case 4:
		return math.Ldexp(r.NormFloat64(), r.Intn(80)-130)
	case 5:
		return math.Ldexp(r.NormFloat64(), r.Intn(20)+55)
	}
	return r.NormFloat64()
}

func randomCxs(r *rand.Rand, n int) []impl.Cx {
	var out []impl.Cx
	for range n {
		out = append(out, cx(randomFloat(r), randomFloat(r)))
	}
	return out
}

func randomSound(r *rand.Rand, n int) []float64 {
	var out []float64
	for range n {
		out = append(out, r.NormFloat64())
	}
	return out
}

func TestWaveConstants(t *testing.T) {
	if impl.MaxWave != 4096 {
		t.Error(impl.MaxWave)
	}
}

func TestProductOrdinary(t *testing.T) {
	for _, c := range []struct{ a, b, want impl.Cx }{
		{cx(1, 2), cx(3, 4), cx(-5, 10)},
		{cx(3, 4), cx(1, 2), cx(-5, 10)},
		{cx(0, 1), cx(0, 1), cx(-1, 0)},
		{cx(5, 0), cx(0, 7), cx(0, 35)},
		{cx(0.1, 0.2), cx(0.3, 0.4), cx(-0.05000000000000002, 0.1)},
		// Fused, the first would leave 2 to the power -60.
		{cx(1+0x1p-30, 1+0x1p-30), cx(1+0x1p-30, 1+0x1p-30), cx(0, 2+0x1p-28)},
		{cx(1+0x1p-30, -1-0x1p-30), cx(1+0x1p-30, 1+0x1p-30), cx(2+0x1p-28, 0)},
		{cx(0, 0), cx(0, 0), cx(0, 0)},
		{cx(noughtBelow, 0), cx(1, 0), cx(noughtBelow, 0)},
		{cx(noughtBelow, 0), cx(1, noughtBelow), cx(0, 0)},
		{cx(noughtBelow, noughtBelow), cx(1, 0), cx(0, noughtBelow)},
		{cx(-1, noughtBelow), cx(0, 1), cx(0, -1)},
		{cx(-1, 0), cx(0, 1), cx(noughtBelow, -1)},
		{cx(-2, 0), cx(0, 0), cx(noughtBelow, 0)},
		{cx(0, -1), cx(0, 0), cx(0, 0)},
		{cx(1e200, 0), cx(1e200, 1), cx(endless, 1e200)},
		{cx(1e200, 1e200), cx(1e200, 1e200), cx(noNumber, endless)},
		{cx(-1e-200, 1e-200), cx(1e-200, 1e-200), cx(noughtBelow, 0)},
		{cx(endless, 1), cx(2, 3), cx(endless, endless)},
		{cx(endless, 0), cx(1, 0), cx(endless, noNumber)},
		{cx(endless, endless), cx(1, 1), cx(noNumber, endless)},
		{cx(1, -endless), cx(1, 2), cx(endless, -endless)},
		{cx(noNumber, 1), cx(1, 1), cx(noNumber, noNumber)},
		{cx(math.SmallestNonzeroFloat64, 0), cx(0.5, 1), cx(0, math.SmallestNonzeroFloat64)},
	} {
		if got := impl.Product(c.a, c.b); !sameCx(got, c.want) {
			t.Errorf("Product(%v, %v) = %v, want %v", c.a, c.b, got, c.want)
		}
		if got := wide.product(c.a, c.b); !sameCx(got, c.want) {
			t.Errorf("the exact product of %v and %v is %v, want %v", c.a, c.b, got, c.want)
		}
	}
}

func TestNarrowProductOrdinary(t *testing.T) {
	least := float64(math.SmallestNonzeroFloat32)
	for _, c := range []struct{ a, b, want impl.Cx }{
		{cx(1, 2), cx(3, 4), cx(-5, 10)},
		// Narrowed once, at the end, the parts would be -0.05000000074505806 and 0.10000000149011612.
		{cx(0.1, 0.2), cx(0.3, 0.4), cx(-0.05000000447034836, 0.10000000894069672)},
		{cx(1+0x1p-13, 1+0x1p-13), cx(1+0x1p-13, 1+0x1p-12), cx(-0x1p-13, 2.0006103515625)},
		{cx(16777217, 0), cx(1, 0), cx(16777216, 0)},
		{cx(16777219, 0), cx(1, 0), cx(16777220, 0)},
		{cx(1+0x1p-30, 0), cx(1, 1-0x1p-30), cx(1, 1)},
		// The parts are past the floats of 32 bits although their difference is not.
		{cx(1e30, 1e30), cx(1e30, 1e30), cx(noNumber, endless)},
		{cx(1e30, 1e30), cx(1e30, -1e30), cx(endless, noNumber)},
		{cx(math.MaxFloat32, math.MaxFloat32), cx(1, -1), cx(endless, 0)},
		{cx(math.MaxFloat32, 0), cx(1, 0), cx(math.MaxFloat32, 0)},
		{cx(0x1.ffffffp127, 0), cx(1, 0), cx(endless, noNumber)},
		{cx(0x1.fffffefffffffp127, 0), cx(1, 0), cx(math.MaxFloat32, 0)},
		{cx(-1e39, 1), cx(1, 1), cx(-endless, -endless)},
		{cx(math.MaxFloat64, 0), cx(0, 0), cx(noNumber, noNumber)},
		// These narrow to noughts, or to numbers with few bits.
		{cx(1e-46, 1), cx(1, 1), cx(-1, 1)},
		{cx(-1e-46, 0), cx(1, 0), cx(noughtBelow, 0)},
		{cx(-1e-46, 0), cx(1e30, 0), cx(noughtBelow, 0)},
		{cx(1e-30, 0), cx(1e-30, 1), cx(0, float64(float32(1e-30)))},
		{cx(-1e-30, 0), cx(1e-30, 0), cx(noughtBelow, 0)},
		{cx(0x1p-150, 0x1.8p-150), cx(1, 0), cx(0, least)},
		{cx(3*least, 0), cx(0.5, 1), cx(2*least, 3*least)},
		{cx(endless, 0), cx(1, 0), cx(endless, noNumber)},
		{cx(noNumber, 0), cx(1, 0), cx(noNumber, noNumber)},
		{cx(noughtBelow, noughtBelow), cx(1, 0), cx(0, noughtBelow)},
		{cx(-2, 0), cx(0, 0), cx(noughtBelow, 0)},
	} {
		if got := impl.NarrowProduct(c.a, c.b); !sameCx(got, c.want) {
			t.Errorf("NarrowProduct(%v, %v) = %v, want %v", c.a, c.b, got, c.want)
		}
		if got := halfway.product(c.a, c.b); !sameCx(got, c.want) {
			t.Errorf("the exact narrow product of %v and %v is %v, want %v", c.a, c.b, got, c.want)
		}
	}
}

func checkProducts(t *testing.T, a, b impl.Cx) {
	t.Helper()
	if got, want := impl.Product(a, b), wide.product(a, b); !sameCx(got, want) {
		t.Errorf("Product(%v, %v) = %v, want %v", a, b, got, want)
	}
	if got, want := impl.NarrowProduct(a, b), halfway.product(a, b); !sameCx(got, want) {
		t.Errorf("NarrowProduct(%v, %v) = %v, want %v", a, b, got, want)
	}
}

func TestProductsOfStrangeFloats(t *testing.T) {
	some := strangeFloats()
	for i, re := range some {
		for j, im := range some {
			// Two more that go through the list at another pace.
			b := cx(some[(i+7*j)%len(some)], some[(3*i+j)%len(some)])
			checkProducts(t, cx(re, im), b)
			checkProducts(t, b, cx(re, im))
		}
	}
}

func TestProductsAtRandom(t *testing.T) {
	r := rand.New(rand.NewSource(3))
	for range 20000 {
		checkProducts(t, cx(randomFloat(r), randomFloat(r)), cx(randomFloat(r), randomFloat(r)))
	}
}

func FuzzProducts(f *testing.F) {
	f.Add(1.0, 2.0, 3.0, 4.0)
	f.Add(1e30, 1e30, 1e30, 1e30)
	f.Add(noughtBelow, endless, noNumber, 1e-200)
	f.Fuzz(func(t *testing.T, aRe, aIm, bRe, bIm float64) {
		checkProducts(t, cx(aRe, aIm), cx(bRe, bIm))
	})
}

func TestWavesOrdinary(t *testing.T) {
	h := rootPart
	one := func(n, at int) []impl.Cx {
		list := make([]impl.Cx, n)
		list[at] = cx(1, 0)
		return list
	}
	for _, c := range []struct{ list, waves, back []impl.Cx }{
		{[]impl.Cx{cx(3, -4)}, []impl.Cx{cx(3, -4)}, []impl.Cx{cx(3, -4)}},
		{[]impl.Cx{cx(3, 1), cx(5, 2)}, []impl.Cx{cx(8, 3), cx(-2, -1)}, []impl.Cx{cx(4, 1.5), cx(-1, -0.5)}},
		{[]impl.Cx{cx(1, 0), cx(2, 0), cx(3, 0), cx(4, 0)},
			[]impl.Cx{cx(10, 0), cx(-2, 2), cx(-2, 0), cx(-2, -2)},
			[]impl.Cx{cx(2.5, 0), cx(-0.5, -0.5), cx(-0.5, 0), cx(-0.5, 0.5)}},
		{one(8, 1),
			[]impl.Cx{cx(1, 0), cx(h, -h), cx(0, -1), cx(-h, -h), cx(-1, 0), cx(-h, h), cx(0, 1), cx(h, h)},
			[]impl.Cx{cx(0.125, 0), cx(h/8, h/8), cx(0, 0.125), cx(-h/8, h/8), cx(-0.125, 0), cx(-h/8, -h/8), cx(0, -0.125), cx(h/8, -h/8)}},
		{one(8, 3),
			[]impl.Cx{cx(1, 0), cx(-h, -h), cx(0, 1), cx(h, -h), cx(-1, 0), cx(h, h), cx(0, -1), cx(-h, h)},
			[]impl.Cx{cx(0.125, 0), cx(-h/8, h/8), cx(0, -0.125), cx(h/8, h/8), cx(-0.125, 0), cx(h/8, -h/8), cx(0, 0.125), cx(-h/8, -h/8)}},
		// The sums begin at the nought without a minus.
		{[]impl.Cx{cx(noughtBelow, noughtBelow)}, []impl.Cx{cx(0, 0)}, []impl.Cx{cx(0, 0)}},
		{[]impl.Cx{cx(-1, 0), cx(1, noughtBelow)}, []impl.Cx{cx(0, 0), cx(-2, 0)}, []impl.Cx{cx(0, 0), cx(-1, 0)}},
		// They are taken from the front: the second 1 alone is not lost.
		{[]impl.Cx{cx(1e16, 1e16), cx(1, 1), cx(-1e16, -1e16), cx(1, 1)},
			[]impl.Cx{cx(1, 1), cx(2e16, 2e16), cx(-1, -1), cx(2e16, 2e16)},
			[]impl.Cx{cx(0.25, 0.25), cx(5e15, 5e15), cx(-0.25, -0.25), cx(5e15, 5e15)}},
		{[]impl.Cx{cx(endless, 0)}, []impl.Cx{cx(endless, noNumber)}, []impl.Cx{cx(endless, noNumber)}},
		// Nothing is divided ahead of the end.
		{[]impl.Cx{cx(math.MaxFloat64, 0), cx(math.MaxFloat64, 0)}, []impl.Cx{cx(endless, 0), cx(0, 0)}, []impl.Cx{cx(endless, 0), cx(0, 0)}},
	} {
		if got := impl.Waves(c.list); !sameCxs(got, c.waves) {
			t.Errorf("Waves(%v) = %v, want %v", c.list, got, c.waves)
		}
		if got := impl.Back(c.list); !sameCxs(got, c.back) {
			t.Errorf("Back(%v) = %v, want %v", c.list, got, c.back)
		}
	}
}

func checkWaves(t *testing.T, list []impl.Cx) {
	t.Helper()
	if got, want := impl.Waves(list), wavesByWords(list, false); !sameCxs(got, want) {
		t.Errorf("Waves(%v) = %v, want %v", list, got, want)
	}
	if got, want := impl.Back(list), wavesByWords(list, true); !sameCxs(got, want) {
		t.Errorf("Back(%v) = %v, want %v", list, got, want)
	}
}

func TestWavesByDefinition(t *testing.T) {
	r := rand.New(rand.NewSource(4))
	for _, n := range []int{1, 2, 4, 8} {
		for range 60 {
			checkWaves(t, randomCxs(r, n))
			ordinary := randomCxs(r, n)
			for i := range ordinary {
				ordinary[i] = cx(r.NormFloat64(), r.NormFloat64())
			}
			checkWaves(t, ordinary)
		}
		for _, x := range strangeFloats() {
			for at := range n {
				list := make([]impl.Cx, n)
				list[at].Re = x
				checkWaves(t, list)
				list[at] = cx(noughtBelow, x)
				checkWaves(t, list)
			}
		}
	}
}

func TestWavesOfOtherCounts(t *testing.T) {
	r := rand.New(rand.NewSource(5))
	for _, n := range []int{0, 3, 5, 6, 7, 9, 10, 12, 16, 32, 64, 4096, 4097} {
		list := randomCxs(r, n)
		if got := impl.Waves(list); len(got) != 0 {
			t.Errorf("Waves of %d numbers has %d", n, len(got))
		}
		if got := impl.Back(list); len(got) != 0 {
			t.Errorf("Back of %d numbers has %d", n, len(got))
		}
	}
	if len(impl.Waves(nil)) != 0 || len(impl.Back(nil)) != 0 {
		t.Error("waves of nothing")
	}
}

func TestBackOfWaves(t *testing.T) {
	r := rand.New(rand.NewSource(6))
	whole := func() float64 { return float64(r.Intn(2001) - 1000) }
	edge := func() float64 { return float64(r.Intn(2)*2000 - 1000) }
	for _, n := range []int{1, 2, 4, 8} {
		for round := range 3000 {
			list := make([]impl.Cx, n)
			for i := range list {
				list[i] = cx(whole(), whole())
				if round%2 == 0 {
					list[i] = cx(edge(), edge())
				}
			}
			got := impl.Back(impl.Waves(list))
			if len(got) != n {
				t.Fatal(list, got)
			}
			for i, x := range got {
				// Put so that a NaN is no pass.
				if !(math.Abs(x.Re-list[i].Re) < 1e-6 && math.Abs(x.Im-list[i].Im) < 1e-6) {
					t.Fatalf("Back of Waves of %v = %v", list, got)
				}
			}
		}
	}
}

func TestPower(t *testing.T) {
	for _, c := range []struct {
		list []impl.Cx
		want []float64
	}{
		{nil, nil},
		{[]impl.Cx{}, nil},
		{[]impl.Cx{cx(3, 4)}, []float64{25}},
		{[]impl.Cx{cx(-3, 4), cx(3, -4), cx(0, -1), cx(-2, 0)}, []float64{25, 25, 1, 4}},
		{[]impl.Cx{cx(noughtBelow, noughtBelow), cx(0, noughtBelow)}, []float64{0, 0}},
		{[]impl.Cx{cx(1e200, 1), cx(1e-200, 0), cx(1e-200, 1)}, []float64{endless, 0, 1}},
		{[]impl.Cx{cx(-endless, 1), cx(1, noNumber), cx(endless, noNumber)}, []float64{endless, noNumber, noNumber}},
	} {
		if got := impl.Power(c.list); !sameFloats(got, c.want) {
			t.Errorf("Power(%v) = %v, want %v", c.list, got, c.want)
		}
	}
	r := rand.New(rand.NewSource(7))
	for _, n := range []int{1, 2, 3, 5, 100, 4095, 4096} {
		list := randomCxs(r, n)
		var want []float64
		for _, x := range list {
			want = append(want, wide.plus(wide.times(x.Re, x.Re), wide.times(x.Im, x.Im)))
		}
		if got := impl.Power(list); !sameFloats(got, want) {
			t.Errorf("Power of %d numbers is wrong", n)
		}
	}
	for _, n := range []int{4097, 5000} {
		if got := impl.Power(randomCxs(r, n)); len(got) != 0 {
			t.Errorf("Power of %d numbers has %d", n, len(got))
		}
	}
}

func TestAgreeOrdinary(t *testing.T) {
	a, b := []float64{1, 2, 3}, []float64{10, 100, 1000, 10000}
	for _, c := range []struct {
		a, b []float64
		lag  int64
		want float64
	}{
		{a, b, 0, 3210},
		{a, b, 1, 32100},
		{a, b, 2, 21000},
		{a, b, 3, 10000},
		{a, b, 4, 0},
		{a, b, -1, 320},
		{a, b, -2, 30},
		{a, b, -3, 0},
		{b, a, 0, 3210},
		{b, a, -1, 32100},
		{b, a, -3, 10000},
		{b, a, 1, 320},
		{b, a, 2, 30},
		{b, a, 3, 0},
		{a, nil, 0, 0},
		{nil, b, 0, 0},
		{nil, nil, 1, 0},
		{a, b, 4096, 0},
		{a, b, -4096, 0},
		// The sum begins at the nought without a minus.
		{[]float64{-1}, []float64{0}, 0, 0},
		{[]float64{noughtBelow, -1}, []float64{1, 0}, 0, 0},
		// It is taken in the order of i.
		{[]float64{1e16, 1, -1e16, 1}, []float64{1, 1, 1, 1}, 0, 1},
		{[]float64{1, 1, 1, 1}, []float64{9, 1e16, 1, -1e16, 1}, 1, 1},
		{[]float64{1, -1e16, 1, 1e16}, []float64{1, 1, 1, 1}, 0, 0},
		// Fused, this would not be nought.
		{[]float64{-(1 + 0x1p-30) * (1 + 0x1p-30), 1 + 0x1p-30}, []float64{1, 1 + 0x1p-30}, 0, 0},
		{[]float64{endless, 1}, []float64{1, 1}, 0, endless},
		{[]float64{endless, -endless}, []float64{1, 1}, 0, noNumber},
		{[]float64{endless}, []float64{0}, 0, noNumber},
		{[]float64{noNumber, 1}, []float64{1, 1}, 0, noNumber},
		// What has no other is not asked.
		{[]float64{noNumber, 1}, []float64{2, endless}, -1, 2},
		{[]float64{1, noNumber}, []float64{endless, 2}, 1, 2},
	} {
		if got := impl.Agree(c.a, c.b, c.lag); !sameFloat(got, c.want) {
			t.Errorf("Agree(%v, %v, %d) = %v, want %v", c.a, c.b, c.lag, got, c.want)
		}
	}
}

func TestAgreeByDefinition(t *testing.T) {
	r := rand.New(rand.NewSource(8))
	for range 400 {
		a, b := randomSound(r, r.Intn(12)), randomSound(r, r.Intn(12))
		if r.Intn(4) == 0 && len(a) > 0 {
			a[r.Intn(len(a))] = randomFloat(r)
		}
		for lag := int64(-13); lag <= 13; lag++ {
			if got, want := impl.Agree(a, b, lag), agreeByWords(a, b, lag); !sameFloat(got, want) {
				t.Fatalf("Agree(%v, %v, %d) = %v, want %v", a, b, lag, got, want)
			}
		}
	}
}

func TestAgreeLimits(t *testing.T) {
	ones := func(n int) []float64 { return slices.Repeat([]float64{1}, n) }
	for _, c := range []struct {
		a, b int
		lag  int64
		want float64
	}{
		{4096, 4096, 0, 4096},
		{4096, 4096, 1, 4095},
		{4096, 4096, -1, 4095},
		{4096, 4096, 4095, 1},
		{4096, 4096, -4095, 1},
		{4096, 4096, 4096, 0},
		{4096, 4096, -4096, 0},
		{4097, 1, 0, 0},
		{1, 4097, 0, 0},
		{4097, 4097, 5, 0},
		{4096, 1, 0, 1},
		{1, 4096, 0, 1},
		{1, 4096, 4095, 1},
		{4096, 1, -4095, 1},
		{3, 3, 4097, 0},
		{3, 3, -4097, 0},
		{3, 3, math.MaxInt64, 0},
		{3, 3, math.MinInt64, 0},
		{3, 3, 1 << 32, 0},
		{3, 3, -1 << 32, 0},
		{4096, 4096, 1 << 32, 0},
	} {
		if got := impl.Agree(ones(c.a), ones(c.b), c.lag); !sameFloat(got, c.want) {
			t.Errorf("Agree of %d and %d ones, lag %d: %v, want %v", c.a, c.b, c.lag, got, c.want)
		}
	}
}

func TestSyncOrdinary(t *testing.T) {
	nan := noNumber
	for _, c := range []struct {
		a, b []float64
		most int64
		want int64
	}{
		{[]float64{0, 5, 0}, []float64{0, 0, 0, 5}, 3, 2},
		{[]float64{0, 5, 0}, []float64{0, 0, 0, 5}, 2, 2},
		{[]float64{0, 5, 0}, []float64{0, 0, 0, 5}, 1, 0},
		{[]float64{0, 5, 0}, []float64{0, 0, 0, 5}, 0, 0},
		{[]float64{0, 0, 0, 5}, []float64{0, 5, 0}, 3, -2},
		{[]float64{0, 0, 0, 5}, []float64{0, 5, 0}, 64, -2},
		{[]float64{0, 0, 0, 5}, []float64{0, 5, 0}, 65, 0},
		{[]float64{0, 0, 0, 5}, []float64{0, 5, 0}, -1, 0},
		{[]float64{0, 0, 0, 5}, []float64{0, 5, 0}, math.MaxInt64, 0},
		{[]float64{0, 0, 0, 5}, []float64{0, 5, 0}, math.MinInt64, 0},
		{nil, nil, 64, 0},
		{[]float64{1}, nil, 64, 0},
		// Several are as good: the nearest to 0, of two the one above.
		{[]float64{0, 0, 0}, []float64{0, 0, 0}, 2, 0},
		{[]float64{1, 1, 1}, []float64{1, 1, 1}, 2, 0},
		{[]float64{0, 1, 0}, []float64{1, 0, 1}, 2, 1},
		{[]float64{0, 0, 1, 0, 0}, []float64{1, 0, 0, 0, 1}, 4, 2},
		{[]float64{0, 0, 1, 0, 0}, []float64{1, 1, 0, 0, 1}, 4, -1},
		{[]float64{0, 0, 1, 0, 0}, []float64{1, 0, 0, 1, 1}, 4, 1},
		{[]float64{0, 0, 1, 0, 0}, []float64{2, 1, 0, 1, 1}, 4, -2},
		// Below nought everywhere but where nothing meets.
		{[]float64{1}, []float64{-1}, 3, 1},
		{[]float64{-1, 0}, []float64{1, 0}, 3, 1},
		{[]float64{1, 1}, []float64{-1, -1}, 1, 1},
		{[]float64{1, 1}, []float64{-1, -1}, 3, 2},
		// A NaN is no greater than anything, all else is greater than a NaN.
		{[]float64{nan}, []float64{1}, 0, 0},
		{[]float64{nan, nan}, []float64{1, 1}, 1, 0},
		{[]float64{nan, nan}, []float64{1, 1}, 2, 2},
		{[]float64{nan, 1}, []float64{-5, -5}, 1, -1},
		{[]float64{1, nan}, []float64{-5, -5}, 1, 1},
		{[]float64{nan, 1, 1}, []float64{-5, -6, -7}, 2, -2},
		{[]float64{nan}, []float64{-5, -6, -7}, 1, -1},
		{[]float64{1, 2}, []float64{3, nan}, 1, -1},
		{[]float64{1, 2}, []float64{nan, 4}, 1, 1},
		{[]float64{1, -endless}, []float64{1, 1}, 1, 1},
		{[]float64{-endless, nan}, []float64{nan, 1}, 1, 1},
		{[]float64{nan, -endless}, []float64{1, nan}, 1, -1},
		{[]float64{1, endless}, []float64{1, 1}, 1, 0},
		{[]float64{0, endless}, []float64{1, 0}, 1, -1},
	} {
		if want := syncByWords(c.a, c.b, c.most); want != c.want {
			t.Errorf("by the words Sync(%v, %v, %d) is %d, want %d", c.a, c.b, c.most, want, c.want)
		}
		if got := impl.Sync(c.a, c.b, c.most); got != c.want {
			t.Errorf("Sync(%v, %v, %d) = %d, want %d", c.a, c.b, c.most, got, c.want)
		}
	}
}

func TestSyncByDefinition(t *testing.T) {
	r := rand.New(rand.NewSource(9))
	// Few values, so that many lags are as good.
	values := []float64{0, 0, 1, 1, -1, 2, noNumber, endless, -endless}
	for range 1500 {
		known := 3 + r.Intn(len(values)-2)
		some := func() []float64 {
			out := make([]float64, r.Intn(7))
			for i := range out {
				out[i] = values[r.Intn(known)]
			}
			return out
		}
		a, b, most := some(), some(), int64(r.Intn(9))
		if got, want := impl.Sync(a, b, most), syncByWords(a, b, most); got != want {
			t.Fatalf("Sync(%v, %v, %d) = %d, want %d", a, b, most, got, want)
		}
	}
}

func TestSyncOfOnePeak(t *testing.T) {
	peak := func(n, at int, high float64) []float64 {
		sound := make([]float64, n)
		sound[at] = high
		return sound
	}
	for _, high := range []float64{1, -3, 0.001, 1000} {
		for at := range 70 {
			for moved := range 70 {
				lag := int64(moved - at)
				a, b := peak(70, at, high), peak(70, moved, high)
				for _, most := range []int64{0, 5, 63, 64} {
					want := lag
					if lag < -most || lag > most {
						want = 0
					}
					if got := impl.Sync(a, b, most); got != want {
						t.Fatalf("a peak at %d moved to %d, most %d: %d", at, moved, most, got)
					}
				}
			}
		}
	}
}

func TestSyncLimits(t *testing.T) {
	long := func(n, at int) []float64 {
		sound := make([]float64, n)
		sound[at] = 1
		return sound
	}
	for _, c := range []struct {
		a, b, at, moved int
		most, want      int64
	}{
		{4096, 4096, 4000, 4064, 64, 64},
		{4096, 4096, 4064, 4000, 64, -64},
		{4096, 4096, 4065, 4000, 64, 0},
		{4096, 4096, 4000, 4064, 65, 0},
		{4097, 4096, 4000, 4010, 64, 0},
		{4096, 4097, 4000, 4010, 64, 0},
		{4097, 4097, 4000, 4010, 64, 0},
		{4096, 70, 3, 60, 64, 57},
		{70, 4096, 60, 3, 64, -57},
		{4096, 4096, 0, 63, 63, 63},
	} {
		if got := impl.Sync(long(c.a, c.at), long(c.b, c.moved), c.most); got != c.want {
			t.Errorf("%+v: %d", c, got)
		}
	}
	// Were it not too long, the lag below 0 would be the only one without a NaN.
	a := slices.Repeat([]float64{1}, 4097)
	a[0] = noNumber
	if got := impl.Sync(a, []float64{1}, 1); got != 0 {
		t.Error(got)
	}
}

// withRoom is a copy with marked room behind it, and the whole of it.
func withRoom[T any](list []T, mark T) (short, whole []T) {
	whole = append(slices.Clone(list), mark, mark, mark)
	return whole[:len(list):len(whole)], whole
}

func TestWaveMemory(t *testing.T) {
	r := rand.New(rand.NewSource(10))
	mark := cx(-77, 77)
	for _, n := range []int{0, 1, 2, 3, 4, 7, 8, 9, 4096, 4097} {
		first := randomCxs(r, n)
		list, whole := withRoom(first, mark)
		before := slices.Clone(whole)
		waves, back, power := impl.Waves(list), impl.Back(list), impl.Power(list)
		again, againBack, againPower := impl.Waves(list), impl.Back(list), impl.Power(list)
		if !sameCxs(whole, before) {
			t.Errorf("%d numbers: the argument or its room was written to", n)
		}
		kept, keptBack, keptPower := slices.Clone(again), slices.Clone(againBack), slices.Clone(againPower)
		for _, x := range [][]impl.Cx{waves[:cap(waves)], back[:cap(back)], whole} {
			for i := range x {
				x[i] = cx(1234.5, -1234.5)
			}
		}
		for i := range power[:cap(power)] {
			power[:cap(power)][i] = 1234.5
		}
		if !sameCxs(again, kept) || !sameCxs(againBack, keptBack) || !sameFloats(againPower, keptPower) {
			t.Errorf("%d numbers: an answer shares memory", n)
		}
		if !sameCxs(waves, slices.Repeat([]impl.Cx{cx(1234.5, -1234.5)}, len(waves))) {
			t.Errorf("%d numbers: an answer shares memory with another", n)
		}
		copy(whole, before)
		if !sameCxs(impl.Waves(list), kept) || !sameCxs(impl.Back(list), keptBack) || !sameFloats(impl.Power(list), keptPower) {
			t.Errorf("%d numbers: what was written into an answer is seen later", n)
		}
	}
}

func TestSoundsStay(t *testing.T) {
	r := rand.New(rand.NewSource(11))
	for _, n := range []int{0, 1, 5, 100, 4096, 4097} {
		a, wholeA := withRoom(randomSound(r, n), -77)
		b, wholeB := withRoom(randomSound(r, n/2), -78)
		beforeA, beforeB := slices.Clone(wholeA), slices.Clone(wholeB)
		for _, lag := range []int64{-4097, -64, -1, 0, 1, 64, 4096} {
			impl.Agree(a, b, lag)
			impl.Sync(a, b, lag)
			impl.Agree(b, a, lag)
			impl.Sync(b, a, lag)
		}
		if !sameFloats(wholeA, beforeA) || !sameFloats(wholeB, beforeB) {
			t.Errorf("%d numbers: an argument or its room was written to", n)
		}
	}
}
