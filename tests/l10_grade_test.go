package tests

import (
	"encoding/binary"
	"math"
	"math/rand"
	"slices"
	"sync"
	"testing"

	"loop.example/g00066/impl"
)

// The faces of the chapter, held as they were given.
var (
	_ func(nodes []impl.Node) bool                          = impl.GraphOk
	_ func(nodes []impl.Node, c impl.Tone) impl.Tone        = impl.Grade
	_ func(nodes []impl.Node, list []impl.Tone) []impl.Tone = impl.GradeAll
	_ func(nodes []impl.Node) []impl.Node                   = impl.Pruned
	_ func(a, b []impl.Node) bool                           = impl.SameGraph
	_ struct{ R, G, B float64 }                             = impl.Tone{}
	_ struct {
		Kind, In, In2 int64
		V             float64
	} = impl.Node{}
	_ [impl.MaxNodes - 40]struct{} = [0]struct{}{}
	_ [7]int64                     = [...]int64{impl.GrSource - 1: 0, impl.GrGain - 1: 0, impl.GrLift - 1: 0, impl.GrMix - 1: 0, impl.GrGrey - 1: 0, impl.GrClip - 1: 0, impl.GrInvert - 1: 0}
)

const (
	source = iota + 1
	gain
	lift
	mix
	toGrey
	toClip
	invert

	mostNodes = 40
)

// What lies next to 1 in 32 bits, below it and above it.
const (
	belowOne = 1 - 0x1p-24
	aboveOne = 1 + 0x1p-23
	tiny     = 0x1p-149
)

type (
	graph = []impl.Node
	tones = []impl.Tone
)

var (
	nodeMark = impl.Node{Kind: -91, In: -92, In2: -93, V: -94}
	toneMark = tone(-91, -92, -93)
)

func tone(r, g, b float64) impl.Tone { return impl.Tone{R: r, G: g, B: b} }

func even(v float64) impl.Tone { return tone(v, v, v) }

func step(kind, in, in2 int64, v float64) impl.Node {
	return impl.Node{Kind: kind, In: in, In2: in2, V: v}
}

func sourceNode() impl.Node { return step(source, 0, 0, 0) }

// after is a graph of a source and what comes behind it.
func after(nodes ...impl.Node) graph { return append(graph{sourceNode()}, nodes...) }

// inRow is a graph in which each node but the first hangs on the one ahead of it.
func inRow(n int, kind int64, v float64) graph {
	out := graph{sourceNode()}
	for len(out) < n {
		out = append(out, step(kind, int64(len(out)-1), 0, v))
	}
	return out
}

func sameTone(x, y impl.Tone) bool {
	return sameFloat(x.R, y.R) && sameFloat(x.G, y.G) && sameFloat(x.B, y.B)
}

func sameTones(x, y tones) bool { return slices.EqualFunc(x, y, sameTone) }

func sameNode(x, y impl.Node) bool {
	return x.Kind == y.Kind && x.In == y.In && x.In2 == y.In2 && sameFloat(x.V, y.V)
}

func sameNodes(x, y graph) bool { return slices.EqualFunc(x, y, sameNode) }

func sameAnswer(x, y bool) bool { return x == y }

// names are what the table says that a kind has.
func names(kind int64) (known, in, in2, v bool) {
	switch kind {
	case source:
		return true, false, false, false
	case gain, lift, toGrey:
		return true, true, false, true
	case mix:
		return true, true, true, true
	case toClip, invert:
		return true, true, false, false
	}
	return false, false, false, false
}

func graphByWords(nodes graph) bool {
	for i, x := range nodes {
		known, in, in2, v := names(x.Kind)
		if !known {
			return false
		}
		ahead := func(number int64) bool { return 0 <= number && number <= int64(i)-1 }
		if in && !ahead(x.In) || !in && x.In != 0 {
			return false
		}
		if in2 && !ahead(x.In2) || !in2 && x.In2 != 0 {
			return false
		}
		if !v && math.Float64bits(x.V) != 0 {
			return false
		}
	}
	return len(nodes) >= 1 && len(nodes) <= mostNodes
}

func toNarrow(x float64) float64 { return halfway.narrowed(x) }

// Each operation is done in 64 bits and rounded, and what comes of it narrowed.
func timesByWords(x, y float64) float64 { return toNarrow(wide.times(x, y)) }

func plusByWords(x, y float64) float64 { return toNarrow(wide.plus(x, y)) }

func lessByWords(x, y float64) float64 { return toNarrow(wide.less(x, y)) }

func towardByWords(x, other, v float64) float64 {
	d := lessByWords(other, x)
	p := timesByWords(d, v)
	return plusByWords(p, x)
}

func eachOf(do func(x, other float64) float64, c, other impl.Tone) impl.Tone {
	return tone(do(c.R, other.R), do(c.G, other.G), do(c.B, other.B))
}

// nodeByWords asks the nodes it hangs on, and these theirs; what has been told once is kept.
func nodeByWords(nodes graph, at int64, c impl.Tone, told map[int64]impl.Tone) impl.Tone {
	if found, ok := told[at]; ok {
		return found
	}
	x := nodes[at]
	v := toNarrow(x.V)
	var in, in2 impl.Tone
	_, hasIn, hasIn2, _ := names(x.Kind)
	if hasIn {
		in = nodeByWords(nodes, x.In, c, told)
	}
	if hasIn2 {
		in2 = nodeByWords(nodes, x.In2, c, told)
	}
	var out impl.Tone
	switch x.Kind {
	case source:
		out = tone(toNarrow(c.R), toNarrow(c.G), toNarrow(c.B))
	case gain:
		out = eachOf(timesByWords, in, even(v))
	case lift:
		out = eachOf(plusByWords, in, even(v))
	case mix:
		out = eachOf(func(x, other float64) float64 { return towardByWords(x, other, v) }, in, in2)
	case toGrey:
		y := timesByWords(in.R, 0.25)
		y = plusByWords(y, timesByWords(in.G, 0.5))
		y = plusByWords(y, timesByWords(in.B, 0.25))
		out = eachOf(func(x, other float64) float64 { return towardByWords(x, other, v) }, in, even(y))
	case toClip:
		out = eachOf(func(x, _ float64) float64 {
			if x < 0 || math.IsNaN(x) {
				return 0
			}
			if x > 1 {
				return 1
			}
			return x
		}, in, in)
	case invert:
		out = eachOf(func(x, one float64) float64 { return lessByWords(one, x) }, in, even(1))
	}
	told[at] = out
	return out
}

func gradeByWords(nodes graph, c impl.Tone) impl.Tone {
	if !graphByWords(nodes) {
		return impl.Tone{}
	}
	return nodeByWords(nodes, int64(len(nodes))-1, c, map[int64]impl.Tone{})
}

func gradeAllByWords(nodes graph, list tones) tones {
	out := tones{}
	if len(list) > mostPixels || !graphByWords(nodes) {
		return out
	}
	for _, c := range list {
		out = append(out, gradeByWords(nodes, c))
	}
	return out
}

// hangsOn asks whether a node can be come to from another one, by any way.
func hangsOn(nodes graph, from, to int64, gone map[int64]bool) bool {
	if from == to {
		return true
	}
	if from < to || gone[from] {
		return false
	}
	gone[from] = true
	_, in, in2, _ := names(nodes[from].Kind)
	return in && hangsOn(nodes, nodes[from].In, to, gone) || in2 && hangsOn(nodes, nodes[from].In2, to, gone)
}

func prunedByWords(nodes graph) graph {
	out := graph{}
	if !graphByWords(nodes) {
		return out
	}
	needed := func(at int64) bool { return hangsOn(nodes, int64(len(nodes))-1, at, map[int64]bool{}) }
	numberThen := func(at int64) int64 {
		count := int64(0)
		for ahead := range at {
			if needed(ahead) {
				count++
			}
		}
		return count
	}
	for at, x := range nodes {
		if !needed(int64(at)) {
			continue
		}
		_, in, in2, _ := names(x.Kind)
		if in {
			x.In = numberThen(x.In)
		}
		if in2 {
			x.In2 = numberThen(x.In2)
		}
		out = append(out, x)
	}
	return out
}

func sameByWords(a, b graph) bool {
	return graphByWords(a) && graphByWords(b) && sameNodes(prunedByWords(a), prunedByWords(b))
}

func nodeBits(list graph) [][4]uint64 {
	var out [][4]uint64
	for _, x := range list {
		out = append(out, [4]uint64{uint64(x.Kind), uint64(x.In), uint64(x.In2), math.Float64bits(x.V)})
	}
	return out
}

func toneBits(list tones) [][3]uint64 {
	var out [][3]uint64
	for _, c := range list {
		out = append(out, [3]uint64{math.Float64bits(c.R), math.Float64bits(c.G), math.Float64bits(c.B)})
	}
	return out
}

// watchGraphs asks twice, and watches the lists, the room behind them and the memory of the answers, bit by bit: what holds NaN can't be held against itself.
func watchGraphs[T any](t *testing.T, name string, a, b graph, list tones, ask func(a, b graph, list tones) []T, want []T, mark T, same func(x, y T) bool) {
	t.Helper()
	givenA, wholeA := withRoom(a, nodeMark)
	givenB, wholeB := withRoom(b, nodeMark)
	givenList, wholeList := withRoom(list, toneMark)
	beforeA, beforeB, beforeList := nodeBits(wholeA), nodeBits(wholeB), toneBits(wholeList)
	got, again := ask(givenA, givenB, givenList), ask(givenA, givenB, givenList)
	if !slices.EqualFunc(got, want, same) {
		t.Fatalf("%s of %v, %v, %v: %v, want %v", name, a, b, few(list), few(got), few(want))
	}
	spoilAll(got, mark)
	if !slices.Equal(nodeBits(wholeA), beforeA) || !slices.Equal(nodeBits(wholeB), beforeB) || !slices.Equal(toneBits(wholeList), beforeList) {
		t.Fatalf("%s of %v, %v, %v: an argument, or its room, was written into, or shares memory with the answer", name, a, b, few(list))
	}
	spoilAll(wholeA, nodeMark)
	spoilAll(wholeB, nodeMark)
	spoilAll(wholeList, toneMark)
	if !slices.EqualFunc(again, want, same) {
		t.Fatalf("%s of %v, %v, %v: the second answer shares memory, or is another one: %v", name, a, b, few(list), few(again))
	}
}

func checkGraphIs(t *testing.T, nodes graph, want bool) {
	t.Helper()
	ask := func(a, _ graph, _ tones) []bool { return []bool{impl.GraphOk(a)} }
	watchGraphs(t, "GraphOk", nodes, nil, nil, ask, []bool{want}, false, sameAnswer)
}

func checkGraph(t *testing.T, nodes graph) {
	t.Helper()
	checkGraphIs(t, nodes, graphByWords(nodes))
}

func checkGraded(t *testing.T, nodes graph, c, want impl.Tone) {
	t.Helper()
	ask := func(a, _ graph, list tones) tones { return tones{impl.Grade(a, list[0])} }
	watchGraphs(t, "Grade", nodes, nil, tones{c}, ask, tones{want}, toneMark, sameTone)
}

func checkGrade(t *testing.T, nodes graph, c impl.Tone) {
	t.Helper()
	checkGraded(t, nodes, c, gradeByWords(nodes, c))
}

func checkGradedAll(t *testing.T, nodes graph, list, want tones) {
	t.Helper()
	ask := func(a, _ graph, list tones) tones { return impl.GradeAll(a, list) }
	watchGraphs(t, "GradeAll", nodes, nil, list, ask, want, toneMark, sameTone)
}

func checkGradeAll(t *testing.T, nodes graph, list tones) {
	t.Helper()
	checkGradedAll(t, nodes, list, gradeAllByWords(nodes, list))
}

func checkPrunedIs(t *testing.T, nodes, want graph) {
	t.Helper()
	ask := func(a, _ graph, _ tones) graph { return impl.Pruned(a) }
	watchGraphs(t, "Pruned", nodes, nil, nil, ask, want, nodeMark, sameNode)
}

// checkPruned holds Pruned against the chapter's words; what is left is a graph with nothing to leave out.
func checkPruned(t *testing.T, nodes graph) {
	t.Helper()
	want := prunedByWords(nodes)
	checkPrunedIs(t, nodes, want)
	if len(want) > 0 {
		checkGraphIs(t, impl.Pruned(nodes), true)
		checkPrunedIs(t, impl.Pruned(nodes), want)
		checkAlikeIs(t, nodes, impl.Pruned(nodes), true)
	}
}

// checkAlikeIs asks both ways.
func checkAlikeIs(t *testing.T, a, b graph, want bool) {
	t.Helper()
	ask := func(a, b graph, _ tones) []bool { return []bool{impl.SameGraph(a, b), impl.SameGraph(b, a)} }
	watchGraphs(t, "SameGraph", a, b, nil, ask, []bool{want, want}, false, sameAnswer)
}

func checkAlike(t *testing.T, a, b graph) {
	t.Helper()
	checkAlikeIs(t, a, b, sameByWords(a, b))
}

// checkAll asks the whole chapter, and promise 11.
func checkAll(t *testing.T, a, b graph, list tones) {
	t.Helper()
	for _, nodes := range []graph{a, b} {
		checkGraph(t, nodes)
		checkPruned(t, nodes)
		checkGradeAll(t, nodes, list)
		for _, c := range list {
			checkGrade(t, nodes, c)
		}
		checkParts(t, nodes, list)
		checkAlike(t, nodes, nodes)
	}
	checkAlike(t, a, b)
	if impl.SameGraph(a, b) && !sameTones(impl.GradeAll(a, list), impl.GradeAll(b, list)) {
		t.Fatalf("%v and %v are the same and grade %v unlike", a, b, few(list))
	}
}

// checkParts asks for promise 11: a part of the list, each tone alone, and the pruned graph give the same.
func checkParts(t *testing.T, nodes graph, list tones) {
	t.Helper()
	whole := impl.GradeAll(nodes, list)
	if len(whole) != len(list) {
		return
	}
	for from := range list {
		if !sameTone(impl.Grade(nodes, list[from]), whole[from]) {
			t.Fatalf("%v: the tone %v alone gives another one", nodes, list[from])
		}
		for _, to := range []int{from, from + 1, (from + len(list) + 1) / 2, len(list)} {
			if !sameTones(impl.GradeAll(nodes, list[from:to]), whole[from:to]) {
				t.Fatalf("%v: the tones from %d to %d of %v give others", nodes, from, to, few(list))
			}
		}
	}
	turned := slices.Clone(list)
	slices.Reverse(turned)
	back := impl.GradeAll(nodes, turned)
	slices.Reverse(back)
	pruned := impl.GradeAll(impl.Pruned(nodes), list)
	if !sameTones(back, whole) || !sameTones(pruned, whole) {
		t.Fatalf("%v: %v backward gives %v, pruned %v, want %v", nodes, few(list), few(back), few(pruned), few(whole))
	}
}

func TestGraphOkSizes(t *testing.T) {
	checkGraphIs(t, nil, false)
	checkGraphIs(t, graph{}, false)
	for _, kind := range []int64{gain, lift, toGrey} {
		for n := 1; n <= mostNodes; n++ {
			checkGraphIs(t, inRow(n, kind, 0.5), true)
		}
		for _, n := range []int{mostNodes + 1, mostNodes + 2, 2 * mostNodes, 256, 257, 296, 65536 + 3} {
			checkGraphIs(t, inRow(n, kind, 0.5), false)
		}
	}
	all := graph{}
	for range mostNodes {
		all = append(all, sourceNode())
	}
	checkGraphIs(t, all, true)
	checkGraphIs(t, append(all, sourceNode()), false)
	// One that is wrong is found wherever it is.
	for i := range all {
		wrong := slices.Clone(all)
		wrong[i].V = noughtBelow
		checkGraphIs(t, wrong, false)
		wrong[i] = step(toClip, int64(i), 0, 0)
		checkGraphIs(t, wrong, false)
	}
}

// ahead is how many nodes stand ahead of the one that is asked about.
const ahead = 4

func withNode(x impl.Node) graph {
	return graph{sourceNode(), step(gain, 0, 0, 2), step(mix, 0, 1, 0.5), step(invert, 2, 0, 0), x, step(lift, 3, 0, 1)}
}

func farInputs() []int64 {
	return append([]int64{-3, ahead, ahead + 1, ahead + 2, 39, 40, 41, 256, 1<<8 + 1, 1<<16 + 1, 1<<32 + 1, -1 << 32}, strangeNumbers()...)
}

func plainOrNot() []float64 {
	return append(strangeFloats(), math.Float64frombits(0x7FF8000000000001), math.Float64frombits(0xFFF0000000000001))
}

// Each kind just as the table says, and with one thing more or less than it has.
func TestGraphOkKinds(t *testing.T) {
	for kind := int64(source); kind <= invert; kind++ {
		_, in, in2, v := names(kind)
		whole := step(kind, 0, 0, 0)
		checkGraphIs(t, withNode(whole), true)
		for number := range int64(ahead) {
			x := whole
			x.In = number
			checkGraphIs(t, withNode(x), in || number == 0)
			x = whole
			x.In2 = number
			checkGraphIs(t, withNode(x), in2 || number == 0)
			x.In = ahead - 1
			checkGraphIs(t, withNode(x), in && (in2 || number == 0))
		}
		for _, number := range farInputs() {
			x := whole
			x.In = number
			checkGraphIs(t, withNode(x), false)
			x = whole
			x.In2 = number
			checkGraphIs(t, withNode(x), false)
		}
		for _, value := range plainOrNot() {
			x := whole
			x.V = value
			checkGraphIs(t, withNode(x), v || value == 0 && !math.Signbit(value))
		}
		// The first node has none ahead of it.
		checkGraphIs(t, graph{whole}, kind == source)
		checkGraphIs(t, graph{whole, sourceNode()}, kind == source)
		// What is wrong in a node that is used by none is wrong as well.
		x := whole
		x.In2 = ahead
		checkGraphIs(t, withNode(x), false)
	}
	for _, kind := range append([]int64{0, 8, 9, -1, -7, 10, 255, 256, 257, 1<<32 + 1, 1<<32 + 2, -1<<32 + 1}, strangeNumbers()...) {
		for _, x := range []impl.Node{step(kind, 0, 0, 0), step(kind, 1, 0, 0), step(kind, 1, 1, 0.5), step(kind, 0, 0, 1)} {
			checkGraphIs(t, withNode(x), false)
			checkGraphIs(t, graph{x}, false)
			checkGraphIs(t, after(x), false)
			checkGraded(t, withNode(x), tone(1, 2, 3), impl.Tone{})
			checkPrunedIs(t, withNode(x), nil)
			checkAlikeIs(t, withNode(x), withNode(x), false)
		}
	}
}

// The table of the chapter, written out: each kind with what it has, and with one thing more or less than that.
func TestGraphOkTable(t *testing.T) {
	const yes, no = true, false
	for _, row := range []struct {
		kind int64
		// Just as the table says; with In, In2 or V more or less; with a V that is a nought with a minus.
		whole, in, in2, v, minus bool
	}{
		{kind: 0, whole: no, in: no, in2: no, v: no, minus: no},
		{kind: 1, whole: yes, in: no, in2: no, v: no, minus: no},
		{kind: 2, whole: yes, in: yes, in2: no, v: yes, minus: yes},
		{kind: 3, whole: yes, in: yes, in2: no, v: yes, minus: yes},
		{kind: 4, whole: yes, in: yes, in2: yes, v: yes, minus: yes},
		{kind: 5, whole: yes, in: yes, in2: no, v: yes, minus: yes},
		{kind: 6, whole: yes, in: yes, in2: no, v: no, minus: no},
		{kind: 7, whole: yes, in: yes, in2: no, v: no, minus: no},
		{kind: 8, whole: no, in: no, in2: no, v: no, minus: no},
	} {
		checkGraphIs(t, withNode(step(row.kind, 0, 0, 0)), row.whole)
		checkGraphIs(t, withNode(step(row.kind, 1, 0, 0)), row.in)
		checkGraphIs(t, withNode(step(row.kind, 0, 1, 0)), row.in2)
		checkGraphIs(t, withNode(step(row.kind, 0, 0, 1)), row.v)
		checkGraphIs(t, withNode(step(row.kind, 0, 0, noughtBelow)), row.minus)
		// Without a node ahead of it, one that has In has less than the table says.
		checkGraphIs(t, graph{step(row.kind, 0, 0, 0)}, row.kind == source)
		for _, number := range []int64{-1, ahead} {
			checkGraphIs(t, withNode(step(row.kind, number, 0, 0)), false)
			checkGraphIs(t, withNode(step(row.kind, 0, number, 0)), false)
		}
	}
}

func smallNodes() graph {
	out := graph{}
	for kind := int64(-1); kind <= 8; kind++ {
		for in := int64(-1); in <= 2; in++ {
			for in2 := int64(-1); in2 <= 2; in2++ {
				for _, v := range []float64{0, noughtBelow, 0.5} {
					out = append(out, step(kind, in, in2, v))
				}
			}
		}
	}
	return out
}

// All lists of one or two small nodes, right and wrong.
func TestGraphOkOfAllSmall(t *testing.T) {
	right := 0
	for _, x := range smallNodes() {
		if got := impl.GraphOk(graph{x}); got != sameNode(x, sourceNode()) {
			t.Fatalf("GraphOk of %v alone: %v", x, got)
		}
		for _, y := range smallNodes() {
			nodes := graph{x, y}
			got := impl.GraphOk(nodes)
			if got != graphByWords(nodes) {
				t.Fatalf("GraphOk of %v: %v", nodes, got)
			}
			if got {
				right++
			}
		}
	}
	// A source, a clip, an invert, and three each of gain, lift, mix and grey.
	if right != 15 {
		t.Fatalf("%d graphs of two small nodes, want 15", right)
	}
}

// checkEach asks for R, G and B each, beside numbers that it must not hang on.
func checkEach(t *testing.T, nodes graph, x, want float64) {
	t.Helper()
	c := tone(x, 0.25, -7)
	rest := impl.Grade(nodes, even(0.25)).G
	other := impl.Grade(nodes, even(-7)).B
	checkGraded(t, nodes, c, tone(want, rest, other))
	checkGraded(t, nodes, tone(-7, x, 0.25), tone(other, want, rest))
	checkGraded(t, nodes, tone(0.25, -7, x), tone(rest, other, want))
	checkGraded(t, nodes, even(x), even(want))
	checkGrade(t, nodes, c)
}

func TestGradeSource(t *testing.T) {
	for _, x := range []struct{ c, want float64 }{
		{0, 0}, {noughtBelow, noughtBelow}, {1, 1}, {-3, -3},
		{0.1, 0.10000000149011612}, {-0.1, -0.10000000149011612}, {1.0 / 3, 0.3333333432674408},
		{16777217, 16777216}, {16777219, 16777220}, {16777218, 16777218},
		{1 + 0x1p-24, 1}, {1 + 0x1p-24 + 0x1p-52, aboveOne}, {1 + 0x3p-24, 1 + 0x1p-22}, {1 - 0x1p-25, 1}, {1 - 0x1p-25 - 0x1p-53, belowOne},
		{math.MaxFloat32, math.MaxFloat32}, {0x1.fffffefffffffp127, math.MaxFloat32}, {0x1.ffffffp127, endless}, {-0x1.ffffffp127, -endless},
		{1e39, endless}, {math.MaxFloat64, endless}, {-math.MaxFloat64, -endless},
		{tiny, tiny}, {tiny / 2, 0}, {-tiny / 2, noughtBelow}, {tiny * 0.75, tiny}, {tiny * 1.5, tiny * 2}, {tiny * 2.5, tiny * 2},
		{1e-46, 0}, {-1e-46, noughtBelow}, {math.SmallestNonzeroFloat64, 0}, {-math.SmallestNonzeroFloat64, noughtBelow},
		{endless, endless}, {-endless, -endless}, {noNumber, noNumber},
	} {
		checkEach(t, graph{sourceNode()}, x.c, x.want)
		checkEach(t, after(sourceNode()), x.c, x.want)
		checkEach(t, after(step(invert, 0, 0, 0), sourceNode()), x.c, x.want)
	}
}

func TestGradeGain(t *testing.T) {
	for _, x := range []struct{ c, v, want float64 }{
		{3, 2, 6}, {3, -2, -6}, {3, 1, 3}, {3, 0, 0}, {-3, 0, noughtBelow}, {3, noughtBelow, noughtBelow}, {-3, noughtBelow, 0}, {0, -5, noughtBelow}, {noughtBelow, 5, noughtBelow}, {noughtBelow, noughtBelow, 0},
		// V is narrowed ahead of its use: by itself, not with the product.
		{1, 0.1, 0.10000000149011612}, {3, 0.1, 0.30000001192092896}, {10, 0.1, 1}, {1, 16777217, 16777216}, {3, 1 + 0x1p-24, 3}, {1 + 0x1p-24, 3, 3}, {aboveOne, 1 + 0x3p-24, 1 + 0x3p-23},
		// Just a half of the last bit: to the even one, down and up; a bit more or less; and what is whole.
		{1 + 0x1p-12, 1 + 0x1p-12, 1 + 0x1p-11}, {-1 - 0x1p-12, 1 + 0x1p-12, -1 - 0x1p-11}, {aboveOne, 1.5, 1.5 + 0x1p-22}, {-aboveOne, 1.5, -1.5 - 0x1p-22},
		{1 + 0x1p-12 + 0x1p-23, 1 + 0x1p-12, 1 + 0x1p-11 + 0x1p-22}, {aboveOne, 1.25, 1.25 + 0x1p-23}, {aboveOne, 1.75, 1.75 + 0x1p-22}, {aboveOne, 2, 2 + 0x1p-22},
		// Too great, or too small, for 32 bits.
		{math.MaxFloat32, 2, endless}, {math.MaxFloat32, -2, -endless}, {math.MaxFloat32, 1, math.MaxFloat32}, {math.MaxFloat32, aboveOne, endless}, {0x1p127, 2, endless}, {0x1p127, 2 * belowOne, math.MaxFloat32}, {1e30, 1e30, endless}, {1e39, 0.5, endless}, {0.5, 1e39, endless}, {1e39, 1e-39, endless}, {1, math.MaxFloat64, endless}, {0, math.MaxFloat64, noNumber}, {1e39, 0, noNumber}, {1e-46, 1e30, 0}, {1e30, -1e-46, noughtBelow}, {1e-46, 1e39, noNumber},
		{tiny, 0.5, 0}, {-tiny, 0.5, noughtBelow}, {3 * tiny, 0.5, 2 * tiny}, {tiny, 0.5 + 0x1p-24, tiny}, {1e-30, 1e-30, 0}, {0x1p-75, 0x1p-75, 0}, {0x1p-75, 0x1p-75 + 0x1p-98, tiny}, {0x1p-126, belowOne, 0x1p-126},
		{endless, 2, endless}, {endless, -2, -endless}, {endless, 0, noNumber}, {0, endless, noNumber}, {0, -endless, noNumber}, {endless, -endless, -endless}, {2, endless, endless}, {-2, endless, -endless},
		{noNumber, 2, noNumber}, {noNumber, 0, noNumber}, {2, noNumber, noNumber}, {0, noNumber, noNumber}, {endless, noNumber, noNumber}, {noNumber, noNumber, noNumber},
	} {
		checkEach(t, after(step(gain, 0, 0, x.v)), x.c, x.want)
	}
}

func TestGradeLift(t *testing.T) {
	for _, x := range []struct{ c, v, want float64 }{
		{3, 2, 5}, {3, -2, 1}, {3, 0, 3}, {3, -3, 0}, {-3, 3, 0}, {0, 0, 0}, {noughtBelow, 0, 0}, {0, noughtBelow, 0}, {noughtBelow, noughtBelow, noughtBelow}, {noughtBelow, 2, 2},
		{0, 0.1, 0.10000000149011612}, {0.25, 0.1, 0.3499999940395355}, {-0.10000000149011612, 0.1, 0}, {-16777216, 16777217, 0}, {16777217, -16777216, 0},
		{1, 0x1p-24, 1}, {-1, -0x1p-24, -1}, {1, 0x1p-24 + 0x1p-40, aboveOne}, {1, 0x1p-24 - 0x1p-40, 1}, {aboveOne, 0x1p-24, 1 + 0x1p-22}, {aboveOne, -0x1p-24, 1}, {1, 0x1p-23, aboveOne}, {1, -0x1p-25, 1}, {1, -0x1p-25 - 0x1p-40, belowOne}, {belowOne, 0x1p-25, 1}, {16777216, 1, 16777216}, {16777216, 3, 16777220}, {16777218, 1, 16777220},
		// A half of 32 bits and a bit that 64 bits can't hold beside it.
		{1, 0x1p-24 + 0x1p-47, aboveOne}, {1, 0x1p-100, 1}, {16777216, 1 + 0x1p-23, 16777218},
		{math.MaxFloat32, math.MaxFloat32, endless}, {-math.MaxFloat32, -math.MaxFloat32, -endless}, {math.MaxFloat32, 1, math.MaxFloat32}, {math.MaxFloat32, 0x1p103, endless}, {math.MaxFloat32, 0x1.fffffep102, math.MaxFloat32}, {math.MaxFloat32, -math.MaxFloat32, 0}, {1e39, -1e39, noNumber}, {1e39, -1e38, endless}, {1, 1e-46, 1}, {0, -1e-46, 0}, {noughtBelow, -1e-46, noughtBelow},
		{tiny, tiny, 2 * tiny}, {tiny, -tiny, 0}, {0x1p-126, -tiny, 0x1p-126 - tiny},
		{endless, 1, endless}, {1, -endless, -endless}, {endless, -endless, noNumber}, {endless, endless, endless}, {noNumber, 1, noNumber}, {1, noNumber, noNumber}, {endless, noNumber, noNumber},
	} {
		checkEach(t, after(step(lift, 0, 0, x.v)), x.c, x.want)
	}
}

func TestGradeMix(t *testing.T) {
	for _, x := range []struct{ in, in2, v, want float64 }{
		{1, 5, 0.5, 3}, {5, 1, 0.5, 3}, {1, 5, 0, 1}, {1, 5, 1, 5}, {1, 5, -1, -3}, {1, 5, 2, 9}, {1, 5, 0.25, 2}, {1, 5, noughtBelow, 1}, {1, 5, -0.25, 0},
		// V is narrowed.
		{0, 1, 0.1, 0.10000000149011612}, {0, 16777216, 1 + 0x1p-24, 16777216},
		// The difference is narrowed: at V 1 it is not In2.
		{16777216, 1, 1, 1}, {16777216, -1, 1, 0}, {1, 0x1p-24, 1, 0x1p-24}, {1, 0x1p-25, 1, 0}, {1, -0x1p-24, 1, 0}, {-1, 0x1p-30, 1, 0}, {0x1p-30, 1, 1, 1}, {aboveOne, 0x1p-24, 1, 0x1p-23}, {16777215, -1, 1, -1}, {16777215, -2, 1, -1}, {16777215, -4, 1, -5},
		// The product is narrowed: half a bit goes to the even one ahead of the sum.
		{-1, aboveOne - 1, aboveOne, 0x1p-22}, {-1, 0x1p-12, 1 + 0x1p-12, 0x1p-11}, {1, 2.5, aboveOne, 2.5 + 0x1p-22}, {0x1p-20, aboveOne, 0.125, 0.125 + 0x1p-20 - 0x1p-23 + 0x1p-26},
		// The sum is narrowed.
		{1, 1 + 0x1p-23, 0.5, 1}, {aboveOne, 1 + 0x1p-22, 0.5, 1 + 0x1p-22}, {1, 1 + 0x1p-23, 0.75, aboveOne}, {16777216, 16777222, 0.5, 16777220},
		// At V 0 a nought is added, or what is no number.
		{noughtBelow, 5, 0, 0}, {noughtBelow, -5, 0, noughtBelow}, {noughtBelow, 5, noughtBelow, noughtBelow}, {noughtBelow, noughtBelow, 1, 0}, {noughtBelow, noughtBelow, -1, noughtBelow}, {noughtBelow, 0, 1, 0}, {0, noughtBelow, 1, 0}, {noughtBelow, 0, -1, noughtBelow}, {0, 0, -1, 0},
		{1, endless, 0, noNumber}, {1, endless, 0.5, endless}, {1, endless, -0.5, -endless}, {endless, 1, 0.5, noNumber}, {endless, 1, -0.5, endless}, {endless, endless, 0.5, noNumber}, {endless, -endless, -1, endless}, {-endless, endless, 1, noNumber},
		{math.MaxFloat32, -math.MaxFloat32, 0.5, -endless}, {-math.MaxFloat32, math.MaxFloat32, 0.5, endless}, {math.MaxFloat32, -math.MaxFloat32, 0, noNumber}, {0, math.MaxFloat32, 2, endless}, {-math.MaxFloat32, 0, 2, endless}, {-0x1p126, 0, 2, 0x1p126}, {1e39, 1, 0, noNumber}, {1, 2, 1e39, endless}, {2, 1, 1e39, -endless}, {1, 1, 1e39, noNumber}, {1, 2, 1e-46, 1},
		{noNumber, 1, 0, noNumber}, {1, noNumber, 0, noNumber}, {1, noNumber, 1, noNumber}, {1, 2, noNumber, noNumber}, {1, 1, noNumber, noNumber}, {1, 2, endless, endless}, {2, 1, endless, -endless}, {1, 1, endless, noNumber},
		{tiny, 4 * tiny, 0.5, 3 * tiny}, {0, tiny, 0.5, 0}, {0, 3 * tiny, 0.5, 2 * tiny},
	} {
		checkToward(t, x.in, x.in2, x.v, x.want)
	}
}

// checkToward asks with In and In2 that are any numbers: both lifted from the nought with a minus, which any number that is added stands for, or one of them the source, and the other lifted from a nought that was made of it.
func checkToward(t *testing.T, in, in2, v, want float64) {
	t.Helper()
	if got := towardByWords(toNarrow(in), toNarrow(in2), toNarrow(v)); !sameFloat(got, want) {
		t.Errorf("%v toward %v by %v is %v by the words, want %v", in, in2, v, got, want)
		return
	}
	both := after(step(lift, 0, 0, in), step(lift, 0, 0, in2), step(mix, 1, 2, v))
	checkGraded(t, both, even(noughtBelow), even(want))
	noughtAnd := func(number float64) graph {
		return after(step(toClip, 0, 0, 0), step(gain, 1, 0, 0), step(lift, 2, 0, number))
	}
	// A nought and the nought with a minus would be the nought without.
	if !sameFloat(in2, noughtBelow) {
		nodes := append(noughtAnd(in2), step(mix, 0, 3, v))
		checkGraded(t, nodes, even(in), even(want))
		checkGraded(t, nodes, tone(in, 1, in), tone(want, gradeByWords(nodes, even(1)).G, want))
	}
	if !sameFloat(in, noughtBelow) {
		checkGraded(t, append(noughtAnd(in), step(mix, 3, 0, v)), even(in2), even(want))
	}
}

// With In and In2 the same node the difference is a nought, or no number.
func TestGradeMixWithItself(t *testing.T) {
	for _, x := range []struct{ c, v, want float64 }{
		{3, 0.5, 3}, {3, 0, 3}, {3, 1, 3}, {3, -1, 3}, {3, 7, 3}, {0.1, 0.5, 0.10000000149011612},
		{0, 1, 0}, {0, -1, 0}, {noughtBelow, 1, 0}, {noughtBelow, 0, 0}, {noughtBelow, -1, noughtBelow}, {noughtBelow, noughtBelow, noughtBelow}, {noughtBelow, -endless, noNumber},
		{math.MaxFloat32, 1e38, math.MaxFloat32}, {3, endless, noNumber}, {3, 1e39, noNumber}, {3, noNumber, noNumber},
		{endless, 0.5, noNumber}, {-endless, 0, noNumber}, {noNumber, 0.5, noNumber}, {1e39, 0.5, noNumber},
	} {
		checkEach(t, after(step(mix, 0, 0, x.v)), x.c, x.want)
		checkEach(t, after(step(lift, 0, 0, noughtBelow), step(mix, 1, 1, x.v)), x.c, x.want)
		// Another node of the same number does as well.
		checkEach(t, after(sourceNode(), step(mix, 0, 1, x.v)), x.c, x.want)
		checkEach(t, after(sourceNode(), step(mix, 1, 0, x.v)), x.c, x.want)
	}
}

func TestGradeGrey(t *testing.T) {
	const big = 16777216
	for _, x := range []struct {
		c    impl.Tone
		v    float64
		want impl.Tone
	}{
		{tone(1, 0, 0), 1, even(0.25)}, {tone(0, 1, 0), 1, even(0.5)}, {tone(0, 0, 1), 1, even(0.25)}, {tone(1, 1, 1), 1, even(1)}, {tone(4, 8, 12), 1, even(8)},
		{tone(4, 8, 12), 0, tone(4, 8, 12)}, {tone(4, 8, 12), 0.5, tone(6, 8, 10)}, {tone(4, 8, 12), -1, tone(0, 8, 16)}, {tone(4, 8, 12), 2, tone(12, 8, 4)}, {tone(1, 0, 0), 0.5, tone(0.625, 0.125, 0.125)},
		// (R and G) and B, in this order alone: another one would keep the 1, or lose it.
		{tone(4*big, 2, -4*big), 1, tone(0, 0, 0)},
		{tone(4, 2*big, -4*big), 1, tone(0, 0, 0)},
		{tone(4*big, -2*big, 4), 1, tone(0, 0, 1)},
		{tone(4, -2*big, 4*big), 1, tone(1, 0, 0)},
		{tone(4*big, 2, 4), 0, tone(4*big, 2, 4)},
		{tone(4*big, 2, 4), 1, tone(big, big, big)},
		{tone(4*big, 2*3, 4), 1, tone(big+4, big+4, big+4)},
		{tone(4, 2, 4*big), 1, tone(big+2, big+2, big)},
		{tone(4, 2*big, 4), 1, tone(big, big, big)},
		// V is narrowed.
		{tone(0, 0, 4), 0.1, tone(0.10000000149011612, 0.10000000149011612, 3.700000047683716)},
		{tone(0.1, 0.2, 0.3), 1, even(0.20000000298023224)},
		// What is times 0.25 or 0.5 is narrowed by itself.
		{tone(tiny, 0, 0), 1, tone(0, 0, 0)}, {tone(2*tiny, 0, 0), 1, tone(0, 0, 0)}, {tone(3*tiny, 0, 0), 1, even(tiny)}, {tone(0, tiny, 0), 1, even(0)}, {tone(0, 3*tiny, 0), 1, even(2 * tiny)}, {tone(0, 0, 6*tiny), 1, even(2 * tiny)}, {tone(2*tiny, tiny, 2*tiny), 1, even(0)}, {tone(3*tiny, 3*tiny, 3*tiny), 1, even(4 * tiny)}, {tone(4*tiny, 0, 2*tiny), 1, even(tiny)}, {tone(4*tiny, tiny, 0), 1, even(tiny)}, {tone(2*tiny, 2*tiny, 0), 1, even(tiny)}, {tone(0, 2*tiny, 2*tiny), 1, even(tiny)},
		{even(0), 1, even(0)}, {even(noughtBelow), 1, even(0)}, {even(noughtBelow), -1, even(noughtBelow)}, {even(0), -1, even(0)}, {tone(noughtBelow, 0, noughtBelow), 1, even(0)}, {tone(noughtBelow, 0, 4), -1, tone(-1, -1, 7)},
		{even(math.MaxFloat32), 1, even(math.MaxFloat32)}, {even(-math.MaxFloat32), 0.5, even(-math.MaxFloat32)}, {tone(math.MaxFloat32, 0, -math.MaxFloat32), 1, tone(0, 0, 0)}, {tone(math.MaxFloat32, -math.MaxFloat32, 0), 1, tone(-endless, -0x1p126, math.MaxFloat32*-0.25)},
		{tone(endless, 1, 2), 1, tone(noNumber, endless, endless)}, {tone(endless, 1, 2), -1, tone(noNumber, -endless, -endless)}, {tone(1, endless, -endless), 1, even(noNumber)}, {tone(1, -endless, 2), 0.5, tone(-endless, noNumber, -endless)}, {tone(endless, 1, 2), 0, even(noNumber)},
		{tone(noNumber, 1, 2), 0, even(noNumber)}, {tone(1, noNumber, 2), 1, even(noNumber)}, {tone(1, 2, noNumber), 1, even(noNumber)}, {tone(1, 2, 3), noNumber, even(noNumber)}, {tone(1, 2, 5), endless, tone(endless, endless, -endless)}, {tone(1, 2, 3), endless, tone(endless, noNumber, -endless)}, {tone(1, 2, 3), 1e39, tone(endless, noNumber, -endless)},
	} {
		if got := gradeByWords(after(step(toGrey, 0, 0, x.v)), x.c); !sameTone(got, x.want) {
			t.Errorf("the grey of %v by %v is %v by the words, want %v", x.c, x.v, got, x.want)
			continue
		}
		checkGraded(t, after(step(toGrey, 0, 0, x.v)), x.c, x.want)
	}
}

func TestGradeClip(t *testing.T) {
	for _, x := range []struct{ c, want float64 }{
		{0, 0}, {noughtBelow, noughtBelow}, {1, 1}, {0.5, 0.5}, {0.1, 0.10000000149011612},
		{tiny, tiny}, {-tiny, 0}, {belowOne, belowOne}, {aboveOne, 1}, {-belowOne, 0}, {-1, 0}, {-aboveOne, 0}, {2, 1}, {-2, 0},
		// It is asked of what was narrowed.
		{1 + 0x1p-24, 1}, {1 - 0x1p-25, 1}, {-1e-46, noughtBelow}, {1e-46, 0}, {math.SmallestNonzeroFloat64, 0}, {-math.SmallestNonzeroFloat64, noughtBelow},
		{math.MaxFloat32, 1}, {-math.MaxFloat32, 0}, {1e39, 1}, {-1e39, 0}, {endless, 1}, {-endless, 0}, {noNumber, 0}, {math.Copysign(noNumber, -1), 0},
	} {
		checkEach(t, after(step(toClip, 0, 0, 0)), x.c, x.want)
		checkEach(t, after(step(toClip, 0, 0, 0), step(toClip, 1, 0, 0)), x.c, x.want)
	}
}

func TestGradeInvert(t *testing.T) {
	for _, x := range []struct{ c, want float64 }{
		{0, 1}, {noughtBelow, 1}, {1, 0}, {-1, 2}, {0.25, 0.75}, {3, -2}, {0.1, 0.8999999761581421},
		{belowOne, 0x1p-24}, {aboveOne, -0x1p-23}, {0x1p-24, belowOne}, {0x1p-25, 1}, {0x1p-25 + 0x1p-40, belowOne}, {0x3p-26, belowOne}, {-0x1p-24, 1}, {-0x1p-24 - 0x1p-40, aboveOne}, {-0x1p-23, aboveOne}, {-0x3p-24, 1 + 0x1p-22}, {1 + 0x1p-24, 0},
		{16777216, -16777215}, {-16777216, 16777216}, {-16777215, 16777216}, {-16777218, 16777220}, {tiny, 1}, {-tiny, 1},
		{math.MaxFloat32, -math.MaxFloat32}, {1e39, -endless}, {endless, -endless}, {-endless, endless}, {noNumber, noNumber},
	} {
		checkEach(t, after(step(invert, 0, 0, 0)), x.c, x.want)
	}
}

// Each kind, for every strange number and V.
func TestGradeOfStrangeFloats(t *testing.T) {
	some := append(strangeFloats(), belowOne, aboveOne, -belowOne, 0x1p-24, 0x1p-25, 1-0x1p-25, 1+0x1p-24, 3*tiny)
	for i, v := range some {
		for j, x := range some {
			c := tone(x, some[(i+j+7)%len(some)], some[(i*5+j*3+1)%len(some)])
			checkGrade(t, after(step(gain, 0, 0, v)), c)
			checkGrade(t, after(step(lift, 0, 0, v)), c)
			checkGrade(t, after(step(mix, 0, 0, v)), c)
			checkGrade(t, after(step(toGrey, 0, 0, v)), c)
			checkGrade(t, after(step(lift, 0, 0, v), step(mix, 0, 1, 0.3)), c)
			checkGrade(t, after(step(gain, 0, 0, -0.7), step(mix, 1, 0, v), step(invert, 2, 0, 0)), c)
			if i == 0 {
				checkGrade(t, after(step(toClip, 0, 0, 0)), c)
				checkGrade(t, after(step(invert, 0, 0, 0)), c)
				checkGrade(t, graph{sourceNode()}, c)
			}
		}
	}
}

// R, G and B are taken each by itself but for the grey, and each goes to its own place.
func TestGradeKeepsPlaces(t *testing.T) {
	c := tone(0.25, 2, -3)
	for _, x := range []struct {
		nodes graph
		want  impl.Tone
	}{
		{graph{sourceNode()}, c},
		{after(step(gain, 0, 0, 2)), tone(0.5, 4, -6)},
		{after(step(lift, 0, 0, 2)), tone(2.25, 4, -1)},
		{after(step(toClip, 0, 0, 0)), tone(0.25, 1, 0)},
		{after(step(invert, 0, 0, 0)), tone(0.75, -1, 4)},
		{after(step(gain, 0, 0, 3), step(mix, 0, 1, 0.5)), tone(0.5, 4, -6)},
		{after(step(gain, 0, 0, 3), step(mix, 1, 0, 0.25)), tone(0.625, 5, -7.5)},
		{after(step(toGrey, 0, 0, 1)), even(0.3125)},
		{after(step(toGrey, 0, 0, 0.5)), tone(0.28125, 1.15625, -1.34375)},
	} {
		checkGraded(t, x.nodes, c, x.want)
		checkGrade(t, x.nodes, c)
	}
}

// diamond has a source that many use, one node that none uses, and one that one uses.
func diamond() graph {
	return graph{sourceNode(), step(gain, 0, 0, 2), step(invert, 0, 0, 0), step(mix, 0, 1, 0.5), step(toClip, 3, 0, 0)}
}

func TestGradeOfGraphs(t *testing.T) {
	for _, x := range []struct {
		nodes   graph
		c, want impl.Tone
	}{
		{diamond(), tone(0.5, -1, 1), tone(0.75, 0, 1)},
		// The last one counts, whatever is ahead of it.
		{after(step(gain, 0, 0, 2), step(lift, 0, 0, 1)), even(3), even(4)},
		{after(step(gain, 0, 0, 2), step(lift, 1, 0, 1)), even(3), even(7)},
		{after(step(lift, 0, 0, 1), step(gain, 1, 0, 2)), even(3), even(8)},
		{after(step(gain, 0, 0, noNumber), sourceNode()), even(3), even(3)},
		// One node is used by many.
		{after(step(lift, 0, 0, 1), step(mix, 1, 1, 0.5), step(mix, 1, 2, 3), step(gain, 1, 0, 2), step(mix, 3, 4, 0.5)), even(3), even(6)},
		// Two sources are the same one.
		{after(sourceNode(), step(gain, 1, 0, 4), step(mix, 0, 2, 0.5)), even(2), even(5)},
		// A node far ahead.
		{append(inRow(39, lift, 1), step(mix, 38, 0, 0.5)), even(2), even(21)},
		{append(inRow(39, gain, 2), step(invert, 1, 0, 0)), even(2), even(-3)},
		// Rows of the most nodes.
		{inRow(mostNodes, lift, 1), tone(0, 1, -39), tone(39, 40, 0)},
		{inRow(mostNodes, gain, 2), tone(1, -1, 0x1p-149), tone(0x1p39, -0x1p39, 0x1p-110)},
		{inRow(mostNodes, gain, 0.5), tone(1, -1, 0x1p-120), tone(0x1p-39, -0x1p-39, 0)},
		{inRow(mostNodes, invert, 0), tone(0.25, 1, 0), tone(0.75, 0, 1)},
		{inRow(mostNodes-1, invert, 0), tone(0.25, 1, 0), tone(0.25, 1, 0)},
		{inRow(mostNodes, toClip, 0), tone(0.25, 7, -2), tone(0.25, 1, 0)},
		{inRow(mostNodes, toGrey, 1), tone(1, 0, 0), even(0.25)},
		// Narrowed 39 times: 16777216 takes no 1 more.
		{inRow(mostNodes, lift, 1), even(16777200), even(16777216)},
	} {
		checkGraded(t, x.nodes, x.c, x.want)
		checkGrade(t, x.nodes, x.c)
		checkAll(t, x.nodes, x.nodes, tones{x.c, even(0.3), x.c})
	}
	// Each node of a row takes the one ahead of it in twice: told over again each time, it would not end.
	twice := graph{sourceNode()}
	for len(twice) < mostNodes {
		twice = append(twice, step(mix, int64(len(twice)-1), int64(len(twice)-1), 0.5))
	}
	checkGraded(t, twice, even(3), even(3))
	checkPrunedIs(t, twice, twice)
	steps := after(step(lift, 0, 0, 1))
	for len(steps) < mostNodes {
		steps = append(steps, step(mix, int64(len(steps)-1), int64(len(steps)-2), 2))
	}
	checkGrade(t, steps, tone(1, 0.1, -3))
	checkPrunedIs(t, steps, steps)
}

func wrongGraphs() []graph {
	return []graph{
		nil, {}, {step(gain, 0, 0, 1)}, {step(0, 0, 0, 0)}, {step(8, 0, 0, 0)}, {step(source, 0, 0, noughtBelow)}, {step(source, 0, 0, noNumber)},
		after(step(gain, 1, 0, 1)), after(step(gain, -1, 0, 1)), after(step(mix, 0, 1, 1)), after(step(mix, 0, -1, 1)), after(step(gain, 0, 0, 1), step(lift, 0, 1, 1)), after(step(toClip, 0, 0, 1)), after(step(invert, 0, 0, noughtBelow)),
		after(step(gain, 2, 0, 1), sourceNode()), after(step(-1, 0, 0, 0), sourceNode()), append(diamond(), step(9, 0, 0, 0)), inRow(mostNodes+1, lift, 1), inRow(65536+3, lift, 1),
		after(step(gain, math.MinInt64, 0, 1)), after(step(gain, math.MaxInt64, 0, 1)), after(step(mix, 0, math.MinInt64, 1)), after(step(mix, 0, math.MaxInt64, 1)), {step(math.MinInt64, 0, 0, 0)}, {step(math.MaxInt64, 0, 0, 0)},
	}
}

func TestNoGraph(t *testing.T) {
	list := tones{even(1), tone(noNumber, endless, noughtBelow), {}}
	for _, wrong := range wrongGraphs() {
		checkGraphIs(t, wrong, false)
		for _, c := range list {
			checkGraded(t, wrong, c, impl.Tone{})
		}
		checkGradedAll(t, wrong, list, nil)
		checkGradedAll(t, wrong, nil, nil)
		checkGradedAll(t, wrong, make(tones, mostPixels+1), nil)
		checkPrunedIs(t, wrong, nil)
		checkAlikeIs(t, wrong, wrong, false)
		checkAlikeIs(t, wrong, graph{sourceNode()}, false)
		checkAlikeIs(t, wrong, diamond(), false)
		for _, other := range wrongGraphs() {
			checkAlikeIs(t, wrong, other, false)
		}
	}
}

func TestGradeAllSizes(t *testing.T) {
	checkGradedAll(t, diamond(), nil, nil)
	checkGradedAll(t, diamond(), tones{}, nil)
	checkGradedAll(t, diamond(), tones{tone(0.5, -1, 1)}, tones{tone(0.75, 0, 1)})
	checkGradedAll(t, graph{sourceNode()}, tones{even(0.1), tone(1, 2, 3), tone(1, 2, 3)}, tones{even(0.10000000149011612), tone(1, 2, 3), tone(1, 2, 3)})
	many := tones{}
	for i := range mostPixels + 2 {
		many = append(many, tone(float64(i), -float64(i), float64(i)/mostPixels))
	}
	for _, nodes := range []graph{{sourceNode()}, diamond(), inRow(mostNodes, invert, 0)} {
		for _, n := range []int{mostPixels - 1, mostPixels} {
			got := impl.GradeAll(nodes, many[:n])
			if len(got) != n {
				t.Fatalf("%d tones give %d", n, len(got))
			}
			for i, c := range got {
				if !sameTone(c, impl.Grade(nodes, many[i])) {
					t.Fatalf("%v: tone %d gives %v", nodes, i, c)
				}
			}
		}
		checkGradedAll(t, nodes, many[:mostPixels+1], nil)
		checkGradedAll(t, nodes, many[:mostPixels+2], nil)
	}
	checkGradeAll(t, diamond(), many[:mostPixels])
	checkGradedAll(t, diamond(), make(tones, 65536+3), nil)
}

func TestPrunedOrdinary(t *testing.T) {
	long := inRow(mostNodes, gain, 2)
	fork := slices.Clone(long)
	fork[39] = step(mix, 20, 10, 0.5)
	forked := append(slices.Clone(long[:21]), step(mix, 20, 10, 0.5))
	for _, x := range []struct{ nodes, want graph }{
		// Nothing to leave out.
		{graph{sourceNode()}, graph{sourceNode()}},
		{after(step(gain, 0, 0, 2)), after(step(gain, 0, 0, 2))},
		{after(step(gain, 0, 0, 2), step(mix, 0, 1, 3)), after(step(gain, 0, 0, 2), step(mix, 0, 1, 3))},
		{after(step(gain, 0, 0, 2), step(mix, 1, 0, 3)), after(step(gain, 0, 0, 2), step(mix, 1, 0, 3))},
		{after(sourceNode(), step(mix, 0, 1, 3)), after(sourceNode(), step(mix, 0, 1, 3))},
		{long, long},
		// V at 0 leaves nothing out, nor do nodes that change nothing or are alike.
		{after(step(gain, 0, 0, 2), step(mix, 0, 1, 0)), after(step(gain, 0, 0, 2), step(mix, 0, 1, 0))},
		{after(step(gain, 0, 0, 1), step(gain, 0, 0, 1), step(mix, 1, 2, 1)), after(step(gain, 0, 0, 1), step(gain, 0, 0, 1), step(mix, 1, 2, 1))},
		// All but the last goes.
		{after(sourceNode()), graph{sourceNode()}},
		{after(step(gain, 0, 0, 2), sourceNode()), graph{sourceNode()}},
		{append(slices.Clone(long[:39]), sourceNode()), graph{sourceNode()}},
		// At the front.
		{after(sourceNode(), step(gain, 1, 0, 2)), after(step(gain, 0, 0, 2))},
		{after(sourceNode(), step(gain, 1, 0, 2), step(mix, 2, 1, 3)), after(step(gain, 0, 0, 2), step(mix, 1, 0, 3))},
		{after(step(lift, 0, 0, 7), sourceNode(), step(gain, 2, 0, 2), step(mix, 2, 3, 3)), after(step(gain, 0, 0, 2), step(mix, 0, 1, 3))},
		{after(sourceNode(), step(mix, 1, 1, 3), step(toClip, 2, 0, 0)), after(step(mix, 0, 0, 3), step(toClip, 1, 0, 0))},
		// In the middle.
		{after(step(gain, 0, 0, 2), step(lift, 0, 0, 3)), after(step(lift, 0, 0, 3))},
		{after(step(gain, 0, 0, 2), step(lift, 0, 0, 3), step(mix, 0, 2, 4)), after(step(lift, 0, 0, 3), step(mix, 0, 1, 4))},
		{after(step(gain, 0, 0, 2), step(lift, 0, 0, 3), step(mix, 2, 0, 4)), after(step(lift, 0, 0, 3), step(mix, 1, 0, 4))},
		{diamond(), graph{sourceNode(), step(gain, 0, 0, 2), step(mix, 0, 1, 0.5), step(toClip, 2, 0, 0)}},
		{fork, forked},
		// Behind another that goes as well: a node that only hangs on it, or that it hangs on alone.
		{after(step(gain, 0, 0, 2), step(lift, 1, 0, 3), step(invert, 2, 0, 0), step(toGrey, 0, 0, 5)), after(step(toGrey, 0, 0, 5))},
		{after(step(gain, 0, 0, 2), step(lift, 1, 0, 3), step(mix, 2, 1, 9), step(invert, 1, 0, 0)), after(step(gain, 0, 0, 2), step(invert, 1, 0, 0))},
		// At the front, in the middle and just ahead of the last one.
		{after(sourceNode(), step(gain, 1, 0, 2), step(lift, 0, 0, 3), step(mix, 2, 1, 4), step(invert, 4, 0, 0), step(toClip, 4, 0, 0)), after(step(gain, 0, 0, 2), step(mix, 1, 0, 4), step(toClip, 2, 0, 0))},
		// V stays as it is, though it is narrowed when it is used.
		{after(sourceNode(), step(gain, 1, 0, 0.1)), after(step(gain, 0, 0, 0.1))},
		{after(sourceNode(), step(lift, 1, 0, noNumber)), after(step(lift, 0, 0, noNumber))},
		{after(sourceNode(), step(lift, 1, 0, noughtBelow)), after(step(lift, 0, 0, noughtBelow))},
		{after(sourceNode(), step(toGrey, 1, 0, math.MaxFloat64)), after(step(toGrey, 0, 0, math.MaxFloat64))},
	} {
		checkPrunedIs(t, x.nodes, x.want)
		checkPruned(t, x.nodes)
		checkAlikeIs(t, x.nodes, x.want, true)
		checkParts(t, x.nodes, tones{tone(0.1, -2, 3), even(noughtBelow), tone(noNumber, 1, endless)})
	}
}

func TestSameGraphOrdinary(t *testing.T) {
	base := graph{sourceNode(), step(gain, 0, 0, 2), step(lift, 0, 0, 3), step(mix, 1, 2, 0.5), step(toGrey, 3, 0, 0.25)}
	with := func(at int, x impl.Node) graph {
		out := slices.Clone(base)
		out[at] = x
		return out
	}
	for _, x := range []struct {
		a, b graph
		want bool
	}{
		{base, slices.Clone(base), true},
		{graph{sourceNode()}, graph{sourceNode()}, true},
		{diamond(), diamond(), true},
		// The same only when they are pruned.
		{graph{sourceNode()}, after(sourceNode()), true},
		{graph{sourceNode()}, after(step(gain, 0, 0, 2), sourceNode()), true},
		{diamond(), impl.Pruned(diamond()), true},
		{after(step(gain, 0, 0, 2)), after(sourceNode(), step(gain, 1, 0, 2)), true},
		{after(step(gain, 0, 0, 2)), after(step(invert, 0, 0, 0), step(gain, 0, 0, 2)), true},
		{after(sourceNode(), step(gain, 1, 0, 2)), after(step(invert, 0, 0, 0), step(gain, 0, 0, 2)), true},
		{after(step(gain, 0, 0, 7), step(lift, 0, 0, 2)), after(step(gain, 0, 0, 8), step(lift, 0, 0, 2)), true},
		// As many nodes as they stand, not when they are pruned; and the other way round.
		{after(step(gain, 0, 0, 2), step(lift, 1, 0, 2)), after(step(gain, 0, 0, 2), step(lift, 0, 0, 2)), false},
		{after(step(gain, 0, 0, 2)), graph{sourceNode()}, false},
		{after(step(gain, 0, 0, 2)), after(step(gain, 0, 0, 2), step(gain, 1, 0, 2)), false},
		{base, base[:4], false},
		// The same in what they give, but not as they stand.
		{after(sourceNode(), step(mix, 0, 1, 1)), after(step(mix, 0, 0, 1)), false},
		{after(step(gain, 0, 0, 2), step(lift, 0, 0, 3), step(mix, 1, 2, 1)), after(step(lift, 0, 0, 3), step(gain, 0, 0, 2), step(mix, 2, 1, 1)), false},
		{after(step(gain, 0, 0, 1)), graph{sourceNode()}, false},
		// One thing is unlike.
		{base, with(1, step(lift, 0, 0, 2)), false},
		{base, with(2, step(gain, 0, 0, 3)), false},
		{base, with(2, step(toGrey, 0, 0, 3)), false},
		{base, with(4, step(lift, 3, 0, 0.25)), false},
		{base, with(2, step(lift, 1, 0, 3)), false},
		{base, with(3, step(mix, 0, 2, 0.5)), false},
		{base, with(3, step(mix, 1, 0, 0.5)), false},
		{base, with(3, step(mix, 1, 1, 0.5)), false},
		{base, with(3, step(mix, 2, 1, 0.5)), false},
		{base, with(1, step(gain, 0, 0, -2)), false},
		{base, with(3, step(mix, 1, 2, 0.25)), false},
		{base, with(4, step(toGrey, 3, 0, 0.5)), false},
		{after(step(toClip, 0, 0, 0)), after(step(invert, 0, 0, 0)), false},
		{after(step(gain, 0, 0, 2), step(toClip, 1, 0, 0)), after(step(gain, 0, 0, 2), step(invert, 1, 0, 0)), false},
		// The value of V: its sign where it is a nought, NaN and NaN, and all its 64 bits.
		{after(step(lift, 0, 0, 0)), after(step(lift, 0, 0, noughtBelow)), false},
		{after(step(lift, 0, 0, noughtBelow)), after(step(lift, 0, 0, noughtBelow)), true},
		{after(step(lift, 0, 0, noNumber)), after(step(lift, 0, 0, noNumber)), true},
		{after(step(lift, 0, 0, noNumber)), after(step(lift, 0, 0, math.Float64frombits(0xFFF0000000000001))), true},
		{after(step(lift, 0, 0, noNumber)), after(step(lift, 0, 0, 1)), false},
		{after(step(lift, 0, 0, noNumber)), after(step(lift, 0, 0, 0)), false},
		{after(step(lift, 0, 0, noNumber)), after(step(lift, 0, 0, endless)), false},
		{after(step(lift, 0, 0, endless)), after(step(lift, 0, 0, endless)), true},
		{after(step(lift, 0, 0, endless)), after(step(lift, 0, 0, -endless)), false},
		{after(step(lift, 0, 0, 0.1)), after(step(lift, 0, 0, float64(float32(0.1)))), false},
		{after(step(lift, 0, 0, 1e39)), after(step(lift, 0, 0, endless)), false},
		{after(step(lift, 0, 0, 1)), after(step(lift, 0, 0, 1+0x1p-52)), false},
		// What is left out may be unlike in anything.
		{after(step(lift, 0, 0, noNumber), sourceNode()), after(step(gain, 0, 0, noughtBelow), sourceNode()), true},
	} {
		checkAlikeIs(t, x.a, x.b, x.want)
		checkAlike(t, x.a, x.b)
		checkAll(t, x.a, x.b, tones{tone(0.3, -1, 5), tone(endless, noNumber, noughtBelow)})
	}
}

// allGraphs are all of up to four nodes of these kinds, with one V.
func allGraphs() []graph {
	out := []graph{}
	for n, row := 1, []graph{{sourceNode()}}; n <= 4; n++ {
		out = append(out, row...)
		next := []graph{}
		for _, nodes := range row {
			more := graph{sourceNode()}
			for in := range int64(n) {
				more = append(more, step(gain, in, 0, 3), step(invert, in, 0, 0))
				for in2 := range int64(n) {
					more = append(more, step(mix, in, in2, -2))
				}
			}
			for _, x := range more {
				next = append(next, append(slices.Clone(nodes), x))
			}
		}
		row = next
	}
	return out
}

func TestAllSmallGraphs(t *testing.T) {
	all := allGraphs()
	if len(all) != 1+4+4*9+4*9*16 {
		t.Fatalf("%d small graphs", len(all))
	}
	list := tones{tone(0.1, -2, 3), tone(noughtBelow, endless, noNumber)}
	pruned := []graph{}
	for _, nodes := range all {
		checkGraphIs(t, nodes, true)
		checkPruned(t, nodes)
		checkGradeAll(t, nodes, list)
		checkParts(t, nodes, list)
		pruned = append(pruned, prunedByWords(nodes))
	}
	for i, a := range all {
		for j, b := range all {
			if want := sameNodes(pruned[i], pruned[j]); impl.SameGraph(a, b) != want {
				t.Fatalf("SameGraph of %v and %v: %v", a, b, !want)
			}
		}
	}
}

func randomTone(r *rand.Rand) impl.Tone {
	few := func() float64 { return float64(r.Intn(17)-8) * tiny }
	switch r.Intn(6) {
	case 0:
		return tone(few(), few(), few())
	case 1, 2, 3:
		return tone(r.Float64()*2-0.5, r.Float64(), r.NormFloat64())
	}
	return tone(randomFloat(r), randomFloat(r), randomFloat(r))
}

func randomTones(r *rand.Rand, n int) tones {
	out := tones{}
	for range n {
		out = append(out, randomTone(r))
	}
	return out
}

func randomNode(r *rand.Rand, at int) impl.Node {
	x := step(1+r.Int63n(7), 0, 0, 0)
	if at == 0 {
		x.Kind = source
	}
	_, in, in2, v := names(x.Kind)
	if in {
		x.In = int64(at) - 1 - r.Int63n(min(int64(at), 1+r.Int63n(int64(at))))
	}
	if in2 {
		x.In2 = r.Int63n(int64(at))
	}
	if v && r.Intn(3) == 0 {
		x.V = randomFloat(r)
	} else if v {
		x.V = r.NormFloat64()
	}
	return x
}

func randomGraph(r *rand.Rand, n int) graph {
	out := graph{}
	for i := range n {
		out = append(out, randomNode(r, i))
	}
	return out
}

// padded has one node more, that none uses, at that place; the numbers of those behind it are greater by one.
func padded(r *rand.Rand, nodes graph, at int) graph {
	out := slices.Insert(slices.Clone(nodes), at, randomNode(r, at))
	moved := func(number int64) int64 {
		if number >= int64(at) {
			return number + 1
		}
		return number
	}
	for i := at + 1; i < len(out); i++ {
		_, in, in2, _ := names(out[i].Kind)
		if in {
			out[i].In = moved(out[i].In)
		}
		if in2 {
			out[i].In2 = moved(out[i].In2)
		}
	}
	return out
}

// spoiledGraph changes one thing, so that it may be no graph.
func spoiledGraph(r *rand.Rand, nodes graph) graph {
	out := slices.Clone(nodes)
	x := &out[r.Intn(len(out))]
	switch r.Intn(6) {
	case 0:
		x.Kind = r.Int63n(10) - 1
	case 1:
		x.In = r.Int63n(int64(len(out))+2) - 1
	case 2:
		x.In2 = r.Int63n(int64(len(out))+2) - 1
	case 3:
		x.V = randomFloat(r)
	case 4:
		x.V = -x.V
	case 5:
		x.V = math.Nextafter(x.V, endless)
	}
	return out
}

func TestRandomGraphs(t *testing.T) {
	r := rand.New(rand.NewSource(100))
	right, same := 0, 0
	for range 2500 {
		a := randomGraph(r, 1+r.Intn(1+r.Intn(mostNodes)))
		b := spoiledGraph(r, a)
		checkAll(t, a, b, randomTones(r, r.Intn(4)))
		if impl.GraphOk(b) {
			right++
		}
		if impl.SameGraph(a, b) {
			same++
		}
	}
	if right < 500 || right > 2000 || same < 100 {
		t.Fatalf("%d of 2500 are graphs, %d the same", right, same)
	}
}

// Graphs that are the same when they are pruned give the same, whatever is left out of them.
func TestPaddedGraphs(t *testing.T) {
	r := rand.New(rand.NewSource(101))
	for range 600 {
		a := randomGraph(r, 1+r.Intn(12))
		b := a
		for range 1 + r.Intn(8) {
			b = padded(r, b, r.Intn(len(b)))
		}
		checkGraphIs(t, b, true)
		checkAlikeIs(t, a, b, true)
		checkPrunedIs(t, b, prunedByWords(a))
		checkAll(t, a, b, randomTones(r, 3))
	}
}

// Promise 11: any part of a long list, in any order, tone by tone.
func TestGradeInParts(t *testing.T) {
	r := rand.New(rand.NewSource(102))
	for range 20 {
		nodes := randomGraph(r, 1+r.Intn(mostNodes))
		list := randomTones(r, mostPixels)
		whole := impl.GradeAll(nodes, list)
		pruned := impl.GradeAll(impl.Pruned(nodes), list)
		if len(whole) != mostPixels || !sameTones(whole, pruned) {
			t.Fatalf("%v: pruned it gives others", nodes)
		}
		for range 30 {
			from := r.Intn(mostPixels + 1)
			to := from + r.Intn(mostPixels+1-from)
			if !sameTones(impl.GradeAll(nodes, list[from:to]), whole[from:to]) {
				t.Fatalf("%v: the tones from %d to %d give others", nodes, from, to)
			}
		}
		for i, at := range r.Perm(mostPixels) {
			if got := impl.Grade(nodes, list[at]); !sameTone(got, whole[at]) {
				t.Fatalf("%v: tone %d alone gives %v, want %v", nodes, at, got, whole[at])
			}
			if i < 50 {
				checkGrade(t, nodes, list[at])
			}
		}
	}
}

// Many that grade at once get what each gets alone.
func TestGradeByMany(t *testing.T) {
	r := rand.New(rand.NewSource(103))
	nodes, list := randomGraph(r, mostNodes), randomTones(r, 200)
	want, left := impl.GradeAll(nodes, list), impl.Pruned(nodes)
	wrong := [32]bool{}
	var all sync.WaitGroup
	for i := range wrong {
		all.Go(func() {
			got := impl.GradeAll(nodes, list)
			wrong[i] = !sameTones(got, want) || !sameNodes(impl.Pruned(nodes), left) || !impl.SameGraph(nodes, left)
			spoilAll(got, toneMark)
		})
	}
	all.Wait()
	if slices.Contains(wrong[:], true) {
		t.Fatal("many at once get other tones")
	}
}

// graphFromBytes takes four bytes for each node: most of what it gives is near a graph.
func graphFromBytes(b []byte) graph {
	some := strangeFloats()
	out := graph{}
	for ; len(b) >= 4 && len(out) < mostNodes+2; b = b[4:] {
		x := step(int64(b[0])%10-1, int64(b[1])-1, int64(b[2])-1, 0)
		if b[3] > 0 {
			x.V = some[int(b[3])%len(some)]
		}
		out = append(out, x)
	}
	return out
}

func tonesFromBytes(b []byte) tones {
	out := tones{}
	for ; len(b) >= 24 && len(out) < 4; b = b[24:] {
		at := func(i int) float64 { return math.Float64frombits(binary.LittleEndian.Uint64(b[i:])) }
		out = append(out, tone(at(0), at(8), at(16)))
	}
	return out
}

// FuzzGrade takes four bytes for each node of two graphs, and eight for each number of some tones.
func FuzzGrade(f *testing.F) {
	floats := func(list ...float64) []byte {
		out := []byte{}
		for _, x := range list {
			out = binary.LittleEndian.AppendUint64(out, math.Float64bits(x))
		}
		return out
	}
	f.Add([]byte{2, 1, 1, 0, 3, 1, 1, 7, 5, 1, 2, 9}, []byte{2, 1, 1, 0, 2, 1, 1, 0, 3, 2, 1, 7, 5, 2, 3, 9}, floats(0.1, -2, 3, noughtBelow, endless, noNumber))
	f.Add([]byte{2, 1, 1, 0, 6, 1, 1, 3, 7, 2, 1, 0}, []byte{2, 1, 1, 0, 8, 1, 1, 0, 4, 1, 1, 30}, floats(1e39, 1+0x1p-24, tiny, 4*16777216, 2, -4*16777216))
	f.Fuzz(func(t *testing.T, a, b, c []byte) {
		checkAll(t, graphFromBytes(a), graphFromBytes(b), tonesFromBytes(c))
	})
}
