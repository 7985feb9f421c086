package tests

import (
	"bytes"
	"encoding/binary"
	"math"
	"math/rand"
	"regexp"
	"slices"
	"strings"
	"testing"

	"loop.example/g00066/impl"
)

// The faces of the chapter, held as they were given.
var (
	_ func([]impl.Box) bool                     = impl.BoxesOk
	_ func([]impl.Box) []byte                   = impl.ShowBoxes
	_ func([]byte) ([]impl.Box, impl.BoxFault)  = impl.ReadBoxes
	_ func([]byte) []impl.Box                   = impl.SaveBoxes
	_ func(boxes []impl.Box, path string) int64 = impl.FindBox
	_ struct {
		Kind  string
		Depth int64
		Data  []byte
	} = impl.Box{}
	_ struct{ Code, At int64 } = impl.BoxFault{}
)

func box(kind string, depth int64, data ...byte) impl.Box {
	return impl.Box{Kind: kind, Depth: depth, Data: data}
}

func fault(code, at int64) impl.BoxFault { return impl.BoxFault{Code: code, At: at} }

// raw lays a head and what is in the box together; the number is told, right or wrong.
func raw(size uint32, kind string, inside ...[]byte) []byte {
	b := append(binary.BigEndian.AppendUint32(nil, size), kind...)
	return append(b, bytes.Join(inside, nil)...)
}

// sized is raw with the right number.
func sized(kind string, inside ...[]byte) []byte {
	return raw(uint32(8+len(bytes.Join(inside, nil))), kind, inside...)
}

func times(n int, b []byte) []byte { return bytes.Repeat(b, n) }

func sameBoxes(a, b []impl.Box) bool {
	return slices.EqualFunc(a, b, func(x, y impl.Box) bool {
		return x.Kind == y.Kind && x.Depth == y.Depth && bytes.Equal(x.Data, y.Data)
	})
}

func copyBoxes(list []impl.Box) []impl.Box {
	var out []impl.Box
	for _, x := range list {
		out = append(out, impl.Box{Kind: x.Kind, Depth: x.Depth, Data: bytes.Clone(x.Data)})
	}
	return out
}

// node is a box with what is in it: the chapter's picture, without the list.
type node struct {
	kind string
	data []byte
	in   []*node
}

func (n *node) list(depth int64) []impl.Box {
	out := []impl.Box{{Kind: n.kind, Depth: depth, Data: n.data}}
	for _, m := range n.in {
		out = append(out, m.list(depth+1)...)
	}
	return out
}

func (n *node) bytes() []byte {
	inside := n.data
	for _, m := range n.in {
		inside = append(slices.Clip(inside), m.bytes()...)
	}
	return sized(n.kind, inside)
}

func listOf(film []*node) []impl.Box {
	var out []impl.Box
	for _, n := range film {
		out = append(out, n.list(0)...)
	}
	return out
}

func bytesOf(film []*node) []byte {
	var out []byte
	for _, n := range film {
		out = append(out, n.bytes()...)
	}
	return out
}

// nodesOf hangs each box of a right film on the last one ahead that is a depth further up.
func nodesOf(list []impl.Box) []*node {
	var film []*node
	var open [10]*node
	for _, x := range list {
		n := &node{kind: x.Kind, data: x.Data}
		if x.Depth == 0 {
			film = append(film, n)
		} else {
			open[x.Depth-1].in = append(open[x.Depth-1].in, n)
		}
		open[x.Depth] = n
	}
	return film
}

var someKinds = []string{"MOOV", "trak", "free", "Trak", "ABCD", "0123", "9Zz0", "zzzz", "Z9a0", "aaaa", "AAAA"}

func randomFilm(r *rand.Rand, depth int, left *int) []*node {
	var film []*node
	for n := r.Intn(5); n > 0 && *left > 0; n-- {
		*left--
		x := &node{kind: someKinds[r.Intn(len(someKinds))]}
		if x.kind[0] < 'A' || x.kind[0] > 'Z' {
			x.data = make([]byte, r.Intn(6)*r.Intn(4))
			r.Read(x.data)
		} else if depth < impl.MaxDepth {
			x.in = randomFilm(r, depth+1, left)
		}
		film = append(film, x)
	}
	return film
}

var rightKind = regexp.MustCompile(`\A[A-Za-z0-9]{4}\z`)
var containerKind = regexp.MustCompile(`\A[A-Z]`)

// filmByWords says the chapter's sentence over again.
func filmByWords(list []impl.Box) bool {
	all := 0
	for i, x := range list {
		switch {
		case !rightKind.MatchString(x.Kind), x.Depth < 0, x.Depth > 8, i == 0 && x.Depth != 0,
			containerKind.MatchString(x.Kind) && len(x.Data) != 0:
			return false
		case i > 0 && x.Depth > list[i-1].Depth && (x.Depth != list[i-1].Depth+1 || !containerKind.MatchString(list[i-1].Kind)):
			return false
		}
		all += len(x.Data)
	}
	return len(list) <= 200 && all <= 20000
}

// readByStack reads without going down: it keeps the ends of the boxes that it is in.
func readByStack(b []byte) ([]impl.Box, impl.BoxFault) {
	if len(b) > 40000 {
		return nil, fault(1, 0)
	}
	var out []impl.Box
	ends, at, data := []int{len(b)}, 0, 0
	for {
		for len(ends) > 0 && ends[len(ends)-1] == at {
			ends = ends[:len(ends)-1]
		}
		if len(ends) == 0 {
			return out, impl.BoxFault{}
		}
		left := ends[len(ends)-1] - at
		if left < 8 {
			return out, fault(2, int64(at))
		}
		size := binary.BigEndian.Uint32(b[at:])
		if size < 8 || uint64(size) > uint64(left) {
			return out, fault(3, int64(at))
		}
		x := impl.Box{Kind: string(b[at+4 : at+8]), Depth: int64(len(ends) - 1)}
		holds := containerKind.MatchString(x.Kind)
		if !holds {
			x.Data = bytes.Clone(b[at+8 : at+int(size)])
			data += len(x.Data)
		}
		switch {
		case !rightKind.MatchString(x.Kind):
			return out, fault(4, int64(at))
		case x.Depth > 8:
			return out, fault(5, int64(at))
		case len(out)+1 > 200 || data > 20000:
			return out, fault(6, int64(at))
		}
		out = append(out, x)
		if holds {
			ends = append(ends, at+int(size))
			at += 8
		} else {
			at += int(size)
		}
	}
}

// checkBytes holds ReadBoxes and SaveBoxes against the other reader, and against ShowBoxes.
func checkBytes(t *testing.T, b []byte) {
	t.Helper()
	kept := bytes.Clone(b)
	want, wrong := readByStack(b)
	got, f := impl.ReadBoxes(b)
	saved := impl.SaveBoxes(b)
	if f != wrong || !sameBoxes(saved, want) {
		t.Fatalf("%.80q (%d bytes): fault %v, not %v; saved %d, not %d", b, len(b), f, wrong, len(saved), len(want))
	}
	if wrong != (impl.BoxFault{}) {
		if len(got) != 0 {
			t.Fatalf("%.80q: %d boxes beside a fault", b, len(got))
		}
	} else if !sameBoxes(got, want) || !bytes.Equal(impl.ShowBoxes(got), b) {
		t.Fatalf("%.80q: read %v, not %v", b, got, want)
	}
	if !impl.BoxesOk(saved) {
		t.Fatalf("%.80q: what was saved is no film: %v", b, saved)
	}
	if !bytes.Equal(b, kept) {
		t.Fatalf("%.80q was changed", kept)
	}
}

// checkFilm holds the promise of the chapter for one film.
func checkFilm(t *testing.T, list []impl.Box) {
	t.Helper()
	kept := copyBoxes(list)
	if !impl.BoxesOk(list) {
		t.Fatalf("no film: %v", list)
	}
	shown := impl.ShowBoxes(list)
	if want := bytesOf(nodesOf(list)); !bytes.Equal(shown, want) {
		t.Fatalf("%v: shown as %q, not %q", list, shown, want)
	}
	got, f := impl.ReadBoxes(shown)
	if f != (impl.BoxFault{}) || !sameBoxes(got, list) {
		t.Fatalf("%v: read as %v with %v", list, got, f)
	}
	if !sameBoxes(impl.SaveBoxes(shown), list) {
		t.Fatalf("%v: not all was saved", list)
	}
	if !sameBoxes(list, kept) {
		t.Fatalf("%v was changed", kept)
	}
}

// checkBeginnings: a box of Depth 0 whose end is cut off is lost, and all that is in it.
func checkBeginnings(t *testing.T, list []impl.Box) {
	t.Helper()
	shown := impl.ShowBoxes(list)
	for n := range len(shown) + 1 {
		whole, used := 0, 0
		for _, x := range nodesOf(list) {
			if used += len(x.bytes()); used > n {
				break
			}
			whole += len(x.list(0))
		}
		if saved := impl.SaveBoxes(shown[:n]); !sameBoxes(saved, list[:whole]) {
			t.Fatalf("%v: of %d bytes %v was saved, not the first %d", list, n, saved, whole)
		}
		checkBytes(t, shown[:n])
	}
}

func someFilms() map[string][]impl.Box {
	long := make([]byte, 300)
	for i := range long {
		long[i] = byte(i * 7)
	}
	return map[string][]impl.Box{
		"empty":             {},
		"one":               {box("free", 0, 1, 2, 3)},
		"one without Data":  {box("free", 0)},
		"flat":              {box("free", 0, 1), box("0000", 0), box("mdat", 0, long...), box("free", 0, 255, 0)},
		"nothing in it":     {box("MOOV", 0)},
		"nothing in some":   {box("MOOV", 0), box("MOOV", 0), box("MOOV", 1), box("MOOV", 1), box("free", 0)},
		"boxes in boxes":    {box("MOOV", 0), box("Trak", 1), box("mdia", 2, 1, 2), box("mdia", 2), box("Trak", 1), box("mdia", 2, 3), box("free", 0, 9)},
		"behind at depth":   {box("MOOV", 0), box("Trak", 1), box("mdia", 2, 5), box("mdia", 1, 6), box("mdia", 1, 7)},
		"behind further up": {box("AAAA", 0), box("BBBB", 1), box("CCCC", 2), box("dddd", 3, 4), box("eeee", 1, 5), box("FFFF", 0), box("GGGG", 1), box("HHHH", 2), box("iiii", 0)},
		"as deep as may be": {box("A000", 0), box("B000", 1), box("C000", 2), box("D000", 3), box("E000", 4), box("F000", 5), box("G000", 6), box("H000", 7), box("i000", 8, 1), box("J000", 8), box("k000", 4), box("l000", 0)},
		"bytes like a head": {box("MOOV", 0), box("free", 1, sized("FREE", sized("free"))...), box("free", 0, 0, 0, 0, 8)},
	}
}

func TestBoxConstants(t *testing.T) {
	if impl.MaxBoxes != 200 || impl.MaxDepth != 8 || impl.MaxData != 20000 || impl.MaxWhole != 40000 {
		t.Error("a limit is another one")
	}
	if impl.BxLong != 1 || impl.BxShort != 2 || impl.BxSize != 3 || impl.BxKind != 4 || impl.BxDeep != 5 || impl.BxMany != 6 {
		t.Error("a code is another one")
	}
}

func TestBoxesOrdinary(t *testing.T) {
	for name, list := range someFilms() {
		t.Run(name, func(t *testing.T) {
			checkFilm(t, list)
			checkBeginnings(t, list)
		})
	}
	if !impl.BoxesOk(nil) || len(impl.ShowBoxes(nil)) != 0 {
		t.Error("no boxes are a film without bytes")
	}
	for _, b := range [][]byte{nil, {}} {
		if list, f := impl.ReadBoxes(b); len(list) != 0 || f != (impl.BoxFault{}) {
			t.Error("no bytes are a film without boxes")
		}
	}
}

func TestShowBoxesBytes(t *testing.T) {
	list := []impl.Box{box("MOOV", 0), box("Trak", 1), box("free", 2, 7, 8), box("AAAA", 1), box("mdat", 0, make([]byte, 300)...)}
	want := "\x00\x00\x00\x22MOOV\x00\x00\x00\x12Trak\x00\x00\x00\x0afree\x07\x08\x00\x00\x00\x08AAAA\x00\x00\x01\x34mdat" + strings.Repeat("\x00", 300)
	if got := string(impl.ShowBoxes(list)); got != want {
		t.Errorf("%q", got)
	}
}

func TestBoxKinds(t *testing.T) {
	for c := range 256 {
		for at := range 4 {
			kind := []byte("mdat")
			kind[at] = byte(c)
			list := []impl.Box{box(string(kind), 0)}
			if got := impl.BoxesOk(list); got != rightKind.Match(kind) {
				t.Fatalf("%q: %v", kind, got)
			}
			checkBytes(t, sized(string(kind)))
			checkBytes(t, sized(string(kind), []byte{1}))
			// Only a first byte of A to Z makes a container: nothing else may hold a box or lacks Data.
			holds := containerKind.Match(kind)
			if got := impl.BoxesOk([]impl.Box{list[0], box("free", 1)}); got != holds {
				t.Fatalf("%q with a box in it: %v", kind, got)
			}
			if got := impl.BoxesOk([]impl.Box{box(string(kind), 0, 1)}); got != (rightKind.Match(kind) && !holds) {
				t.Fatalf("%q with Data: %v", kind, got)
			}
		}
	}
	for _, kind := range []string{"", "a", "abc", "abcde", "ABCDE", "abcdabcd", "\u00e9ab", "ab\u00e9", "\u00e9\u00e9", "\u00e9\u00e9ab", "a b ", "ab/c", "mdat\n", "mda\x00"} {
		list := []impl.Box{box("free", 0, 1), box(kind, 0)}
		if impl.BoxesOk(list) || len(impl.ShowBoxes(list)) != 0 || impl.FindBox(list, "free") != -1 || impl.FindBox(list, kind) != -1 {
			t.Errorf("%q is no Kind", kind)
		}
	}
}

func TestBoxesThatAreNoFilm(t *testing.T) {
	deep := someFilms()["as deep as may be"][:8]
	wrong := map[string][]impl.Box{
		"first Depth":             {box("free", 1)},
		"first Depth of a box":    {box("MOOV", 1), box("free", 1)},
		"Depth below 0":           {box("free", -1)},
		"Depth below 0 later":     {box("MOOV", 0), box("free", -1)},
		"far below 0":             {box("free", 0), box("free", math.MinInt64)},
		"far above":               {box("MOOV", 0), box("free", math.MaxInt64)},
		"in no container":         {box("free", 0), box("free", 1)},
		"in none though ahead":    {box("MOOV", 0), box("free", 1), box("free", 2)},
		"in none, behind one":     {box("MOOV", 0), box("free", 0), box("free", 1)},
		"two deeper":              {box("MOOV", 0), box("free", 2)},
		"two deeper, in one":      {box("MOOV", 0), box("MOOV", 1), box("free", 3)},
		"a container with Data":   {box("MOOV", 0, 1)},
		"one in it with Data":     {box("MOOV", 0), box("MOOV", 1, 0)},
		"below MaxDepth":          append(slices.Clip(deep), box("Free", 8), box("free", 9)),
		"a container below it":    append(slices.Clip(deep), box("Free", 8), box("Free", 9)),
		"2^32 deep":               {box("MOOV", 0), box("free", 1<<32)},
		"an empty Kind":           {{}},
		"an empty Kind in others": {box("free", 0), {}, box("free", 0)},
	}
	for name, list := range wrong {
		kept := copyBoxes(list)
		if impl.BoxesOk(list) || filmByWords(list) {
			t.Errorf("%s: a film", name)
		}
		if len(impl.ShowBoxes(list)) != 0 {
			t.Errorf("%s: shown", name)
		}
		for _, x := range list {
			if impl.FindBox(list, x.Kind) != -1 {
				t.Errorf("%s: %s was found", name, x.Kind)
			}
		}
		if !sameBoxes(list, kept) {
			t.Errorf("%s: changed", name)
		}
	}
}

// Every list of up to three boxes of these shapes, held against the chapter's words.
func TestBoxesOfAllShapes(t *testing.T) {
	var shapes []impl.Box
	for _, kind := range []string{"MOOV", "free", "9ABC", "a_bc"} {
		for depth := int64(-1); depth <= 3; depth++ {
			shapes = append(shapes, box(kind, depth), box(kind, depth, 1))
		}
	}
	var lists func(list []impl.Box)
	lists = func(list []impl.Box) {
		ok := filmByWords(list)
		if impl.BoxesOk(list) != ok {
			t.Fatalf("%v: a film: %v", list, !ok)
		}
		if ok {
			checkFilm(t, list)
		} else if len(impl.ShowBoxes(list)) != 0 {
			t.Fatalf("%v was shown", list)
		}
		if len(list) < 3 {
			for _, x := range shapes {
				lists(append(slices.Clip(list), x))
			}
		}
	}
	lists(nil)
}

func flat(n int) []impl.Box {
	var list []impl.Box
	for i := range n {
		list = append(list, box("free", 0, byte(i)))
	}
	return list
}

func TestMaxBoxes(t *testing.T) {
	checkFilm(t, flat(200))
	b := times(201, sized("free"))
	for _, list := range [][]impl.Box{flat(201), flat(400), append([]impl.Box{box("MOOV", 0)}, flat(200)...)} {
		if impl.BoxesOk(list) || len(impl.ShowBoxes(list)) != 0 || impl.FindBox(list, "free") != -1 {
			t.Errorf("%d boxes are too many", len(list))
		}
	}
	if list, f := impl.ReadBoxes(b[:1600]); len(list) != 200 || f != (impl.BoxFault{}) {
		t.Error(len(list), f)
	}
	if list, f := impl.ReadBoxes(b); len(list) != 0 || f != fault(impl.BxMany, 1600) || len(impl.SaveBoxes(b)) != 200 {
		t.Error(len(list), f)
	}
	// Containers count, and what is in them.
	for _, n := range []int{198, 199, 200, 201} {
		checkBytes(t, sized("MOOV", times(n, sized("free"))))
		checkBytes(t, times(n, sized("MOOV")))
		checkBytes(t, append(sized("MOOV", times(n-1, sized("TRAK"))), sized("free")...))
	}
	in := sized("MOOV", times(200, sized("free")))
	if _, f := impl.ReadBoxes(in); f != fault(impl.BxMany, 8+199*8) || len(impl.SaveBoxes(in)) != 200 {
		t.Error(f)
	}
}

func nest(depth int, inside []byte) []byte {
	for range depth {
		inside = sized("MOOV", inside)
	}
	return inside
}

func TestMaxDepth(t *testing.T) {
	for depth := range 31 {
		want := impl.BoxFault{}
		if depth > 8 {
			want = fault(impl.BxDeep, 72)
		}
		for _, kind := range []string{"free", "FREE"} {
			b := nest(depth, sized(kind))
			list, f := impl.ReadBoxes(b)
			if f != want || depth <= 8 && (len(list) != depth+1 || list[depth].Depth != int64(depth)) {
				t.Errorf("depth %d: %v %v", depth, list, f)
			}
			checkBytes(t, b)
			checkBytes(t, append(slices.Clip(b), sized("free")...))
		}
	}
	// All nine that the fault is in stay.
	if saved := impl.SaveBoxes(nest(9, sized("free"))); len(saved) != 9 || saved[8].Depth != 8 || saved[8].Kind != "MOOV" {
		t.Error(saved)
	}
}

func TestMaxData(t *testing.T) {
	for _, sizes := range [][]int{{20000}, {10000, 10000}, {19999, 0, 1}, {20000, 0, 0}, {0, 20000}, {1, 19998, 1}} {
		var list []impl.Box
		for _, n := range sizes {
			list = append(list, box("mdat", 0, make([]byte, n)...))
		}
		checkFilm(t, list)
		last := len(list) - 1
		// Containers with nothing in them still fit.
		checkFilm(t, append(slices.Clip(list), box("MOOV", 0), box("free", 1)))
		b := impl.ShowBoxes(append(copyBoxes(list), box("MOOV", 0)))
		more := append(b, sized("free", []byte{1})...)
		if list, f := impl.ReadBoxes(more); len(list) != 0 || f != fault(impl.BxMany, int64(len(b))) || len(impl.SaveBoxes(more)) != last+2 {
			t.Errorf("%v: %v", sizes, f)
		}
		checkBytes(t, sized("MOOV", b))
		checkBytes(t, sized("MOOV", more))
		list[last].Data = append(list[last].Data, 0)
		if impl.BoxesOk(list) || len(impl.ShowBoxes(list)) != 0 || impl.FindBox(list, "mdat") != -1 {
			t.Errorf("%v and one more is a film", sizes)
		}
	}
	if _, f := impl.ReadBoxes(sized("mdat", make([]byte, 20001))); f != fault(impl.BxMany, 0) {
		t.Error(f)
	}
	// What a container has in it is no Data of its own.
	if list, f := impl.ReadBoxes(sized("MOOV", sized("mdat", make([]byte, 20000)))); f != (impl.BoxFault{}) || len(list) != 2 {
		t.Error(f)
	}
	if _, f := impl.ReadBoxes(sized("MOOV", make([]byte, 20001))); f != fault(impl.BxSize, 8) {
		t.Error(f)
	}
}

func TestMaxWhole(t *testing.T) {
	good := append(sized("free", []byte{1}), sized("MOOV", sized("free"))...)
	for _, rest := range []byte{0, 8, 'a', 'A', 255} {
		b := append(slices.Clip(good), times(40000-len(good), []byte{rest})...)
		if list, f := impl.ReadBoxes(b); len(list) != 0 || f != fault(impl.BxSize, int64(len(good))) {
			t.Error(len(list), f)
		}
		if saved := impl.SaveBoxes(b); len(saved) != 3 {
			t.Error(len(saved))
		}
		for _, n := range []int{1, 2, 100000} {
			long := append(slices.Clip(b), make([]byte, n)...)
			if list, f := impl.ReadBoxes(long); len(list) != 0 || f != fault(impl.BxLong, 0) {
				t.Error(len(list), f)
			}
			if saved := impl.SaveBoxes(long); len(saved) != 0 {
				t.Error(len(saved))
			}
		}
	}
	// Forty thousand bytes are read: the fault is another one, and is told where it is.
	for _, c := range []struct {
		b    []byte
		want impl.BoxFault
	}{
		{sized("mdat", make([]byte, 39992)), fault(impl.BxMany, 0)},
		{sized("MDAT", sized("mdat", make([]byte, 39984))), fault(impl.BxMany, 8)},
		{times(5000, sized("MOOV")), fault(impl.BxMany, 1600)},
		{sized("md t", make([]byte, 39992)), fault(impl.BxKind, 0)},
	} {
		if _, f := impl.ReadBoxes(c.b); len(c.b) != 40000 || f != c.want {
			t.Error(len(c.b), f, c.want)
		}
		if _, f := impl.ReadBoxes(append(c.b, 0)); f != fault(impl.BxLong, 0) {
			t.Error(f)
		}
	}
}

func TestBoxFaults(t *testing.T) {
	free := sized("free", []byte{1, 2})
	full := times(200, sized("free"))
	for name, c := range map[string]struct {
		b     []byte
		want  impl.BoxFault
		saved int
	}{
		"short at the front":        {[]byte{0, 0, 0, 8, 'f', 'r', 'e'}, fault(impl.BxShort, 0), 0},
		"one byte":                  {[]byte{0}, fault(impl.BxShort, 0), 0},
		"short behind":              {append(slices.Clip(free), 1, 2, 3), fault(impl.BxShort, 10), 1},
		"short in a box":            {sized("MOOV", []byte{1}), fault(impl.BxShort, 8), 1},
		"short in, more behind":     {append(sized("MOOV", free, make([]byte, 7)), free...), fault(impl.BxShort, 18), 2},
		"short two down":            {sized("MOOV", free, sized("TRAK", free, []byte("short"))), fault(impl.BxShort, 36), 4},
		"size 0":                    {raw(0, "free"), fault(impl.BxSize, 0), 0},
		"size 1":                    {raw(1, "free", make([]byte, 20)), fault(impl.BxSize, 0), 0},
		"size 7":                    {raw(7, "free"), fault(impl.BxSize, 0), 0},
		"size past the end":         {raw(9, "free"), fault(impl.BxSize, 0), 0},
		"size past the end, later":  {append(slices.Clip(free), raw(9, "free")...), fault(impl.BxSize, 10), 1},
		"size past what it is in":   {append(sized("MOOV", raw(9, "free")), free...), fault(impl.BxSize, 8), 1},
		"container past its own":    {append(sized("MOOV", raw(9, "FREE")), free...), fault(impl.BxSize, 8), 1},
		"size 2^31-1":               {raw(1<<31-1, "free"), fault(impl.BxSize, 0), 0},
		"size 2^31":                 {raw(1<<31, "free"), fault(impl.BxSize, 0), 0},
		"size 2^32-1":               {raw(1<<32-1, "free"), fault(impl.BxSize, 0), 0},
		"size 2^32-8":               {raw(1<<32-8, "free"), fault(impl.BxSize, 0), 0},
		"size of the low bytes":     {raw(8+1<<16, "free"), fault(impl.BxSize, 0), 0},
		"size great, in a box":      {sized("MOOV", free, raw(1<<32-1, "MOOV")), fault(impl.BxSize, 18), 2},
		"kind":                      {sized("fr e"), fault(impl.BxKind, 0), 0},
		"kind in a box":             {sized("MOOV", free, sized("\x00\x00\x00\x08")), fault(impl.BxKind, 18), 2},
		"kind of capital and blank": {sized("F   ", free), fault(impl.BxKind, 0), 0},
		"deep":                      {nest(9, free), fault(impl.BxDeep, 72), 9},
		"deep behind another":       {nest(8, append(slices.Clip(free), sized("MOOV", free)...)), fault(impl.BxDeep, 82), 10},
		"many":                      {append(slices.Clip(full), free...), fault(impl.BxMany, 1600), 200},
		"many by Data":              {sized("MOOV", free, sized("mdat", make([]byte, 19999))), fault(impl.BxMany, 18), 2},
		// The one named first, where one box has several.
		"short, at the end of many":    {append(slices.Clip(full), free[:7]...), fault(impl.BxShort, 1600), 200},
		"short, too deep":              {nest(9, []byte{255}), fault(impl.BxShort, 72), 9},
		"size ahead of kind":           {raw(7, "    "), fault(impl.BxSize, 0), 0},
		"great size ahead of kind":     {raw(1<<31, "    "), fault(impl.BxSize, 0), 0},
		"size ahead of deep":           {nest(9, raw(9, "free")), fault(impl.BxSize, 72), 9},
		"size ahead of many":           {append(slices.Clip(full), raw(7, "free")...), fault(impl.BxSize, 1600), 200},
		"kind ahead of deep":           {nest(9, sized("fr-e")), fault(impl.BxKind, 72), 9},
		"kind ahead of many":           {append(slices.Clip(full), sized("fr-e")...), fault(impl.BxKind, 1600), 200},
		"kind ahead of Data":           {sized("fr-e", make([]byte, 20001)), fault(impl.BxKind, 0), 0},
		"deep ahead of Data":           {nest(9, sized("free", make([]byte, 20001))), fault(impl.BxDeep, 72), 9},
		"deep ahead of many":           {append(times(191, sized("free")), nest(9, free)...), fault(impl.BxDeep, 191*8+72), 200},
		"many in number ahead of deep": {append(times(192, sized("free")), nest(9, free)...), fault(impl.BxMany, 192*8+64), 200},
		// The least At, where several boxes have one.
		"kind at the front, short behind":    {append(sized("fr-e"), 1), fault(impl.BxKind, 0), 0},
		"kind of what the short one is in":   {sized("F--E", []byte{1}), fault(impl.BxKind, 0), 0},
		"many at the front, size behind":     {append(sized("free", make([]byte, 20001)), raw(3, "free")...), fault(impl.BxMany, 0), 0},
		"deep in the first, size in another": {append(nest(9, free), raw(0, "free")...), fault(impl.BxDeep, 72), 9},
		"size of the outer, size of inner":   {raw(17, "MOOV", raw(3, "free")), fault(impl.BxSize, 0), 0},
		"kind in, short behind":              {append(sized("MOOV", sized("   x"), []byte{3}), 4), fault(impl.BxKind, 8), 1},
	} {
		list, f := impl.ReadBoxes(c.b)
		if f != c.want || len(list) != 0 {
			t.Errorf("%s: %v and %d boxes, not %v", name, f, len(list), c.want)
		}
		if saved := impl.SaveBoxes(c.b); len(saved) != c.saved || !impl.BoxesOk(saved) {
			t.Errorf("%s: saved %v, not %d", name, saved, c.saved)
		}
		checkBytes(t, c.b)
	}
}

// Any number in the four bytes, of a box that is alone, behind another, and in one with room behind it.
func TestBoxNumbers(t *testing.T) {
	var numbers []uint32
	for n := range uint32(64) {
		numbers = append(numbers, n, n<<8, n<<16, n<<24, 1<<31+n, math.MaxUint32-n)
	}
	for _, n := range numbers {
		for _, kind := range []string{"free", "FREE", "fr e"} {
			for _, inside := range [][]byte{nil, make([]byte, 7), sized("free"), make([]byte, 20)} {
				b := raw(n, kind, inside)
				checkBytes(t, b)
				checkBytes(t, append(sized("mdat", []byte{1}), b...))
				checkBytes(t, append(sized("MOOV", sized("mdat"), b), sized("free", make([]byte, 20))...))
			}
		}
	}
}

func TestSaveBoxesBehindFaults(t *testing.T) {
	wrong := [][]byte{{0, 0, 0}, raw(7, "free"), raw(1<<31, "free"), sized("fr/e"), nest(9, nil), sized("free", make([]byte, 20001))}
	for _, list := range someFilms() {
		shown := impl.ShowBoxes(list)
		for _, bad := range wrong {
			b := append(slices.Clip(shown), bad...)
			if saved := impl.SaveBoxes(b); len(saved) < len(list) || !sameBoxes(saved[:len(list)], list) {
				t.Fatalf("%v: saved %v", list, saved)
			}
			checkBytes(t, b)
			checkBytes(t, sized("MOOV", b))
			checkBytes(t, append(sized("MOOV", b), shown...))
		}
	}
}

func TestBoxesAtRandom(t *testing.T) {
	r := rand.New(rand.NewSource(2))
	for range 300 {
		left := 40
		film := randomFilm(r, 0, &left)
		list := listOf(film)
		checkFilm(t, list)
		checkBeginnings(t, list)
		shown := impl.ShowBoxes(list)
		if !bytes.Equal(shown, bytesOf(film)) {
			t.Fatal(list)
		}
		for range 200 {
			if len(shown) == 0 {
				break
			}
			b := bytes.Clone(shown)
			for range 1 + r.Intn(3) {
				b[r.Intn(len(b))] = []byte{0, 1, 7, 8, 9, 16, 'A', 'z', '/', 255, byte(r.Intn(256))}[r.Intn(11)]
			}
			checkBytes(t, b)
			at := r.Intn(len(b))
			checkBytes(t, append(slices.Clip(b[:at]), b[at+r.Intn(len(b)-at):]...))
		}
		checkPaths(t, list)
	}
}

// findInNodes follows the path from box to box, the first one of each Kind alone.
func findInNodes(film []*node, kinds []string) int64 {
	place := int64(0)
	for _, n := range film {
		if n.kind != kinds[0] {
			place += int64(len(n.list(0)))
			continue
		}
		if len(kinds) == 1 {
			return place
		}
		if in := findInNodes(n.in, kinds[1:]); in >= 0 {
			return place + 1 + in
		}
		return -1
	}
	return -1
}

// checkPaths asks for every box by its own path, and by paths beside it.
func checkPaths(t *testing.T, list []impl.Box) {
	t.Helper()
	film := nodesOf(list)
	kept := copyBoxes(list)
	var trail [10]string
	for _, x := range list {
		trail[x.Depth] = x.Kind
		path := strings.Join(trail[:x.Depth+1], "/")
		for _, p := range []string{path, path + "/free", path + "/", "/" + path, x.Kind, x.Kind + "/" + path, path + "/" + x.Kind, path[1:], path[:len(path)-1], strings.ReplaceAll(path, "/", "//"), strings.ToLower(path), strings.ToUpper(path)} {
			if got, want := impl.FindBox(list, p), findInNodes(film, strings.Split(p, "/")); got != want {
				t.Fatalf("%v: %q is at %d, not %d", list, p, got, want)
			}
		}
	}
	if !sameBoxes(list, kept) {
		t.Fatalf("%v was changed", kept)
	}
}

func TestFindBox(t *testing.T) {
	list := []impl.Box{
		box("free", 0), box("MOOV", 0), box("trak", 1, 1), box("Mdia", 1), box("free", 2), box("trak", 1, 2),
		box("MOOV", 0), box("Mdia", 1), box("stbl", 2, 7), box("MOOV", 1), box("MOOV", 2), box("last", 3),
		box("Edit", 0), box("Edit", 1), box("Edit", 2), box("Edit", 1), box("list", 2), box("free", 0),
	}
	if !impl.BoxesOk(list) {
		t.Fatal("no film")
	}
	for path, want := range map[string]int64{
		"free": 0, "MOOV": 1, "Edit": 12,
		"MOOV/trak": 2, "MOOV/Mdia": 3, "MOOV/Mdia/free": 4, "Edit/Edit": 13, "Edit/Edit/Edit": 14,
		// Only in it, not further down, up or behind.
		"trak": -1, "Mdia": -1, "MOOV/free": -1, "Mdia/free": -1, "free/MOOV": -1, "free/free": -1, "MOOV/trak/free": -1, "MOOV/Edit": -1, "Edit/free": -1, "Edit/Edit/Edit/Edit": -1,
		// A second one of the Kind has it, the first one has not.
		"MOOV/Mdia/stbl": -1, "MOOV/MOOV": -1, "MOOV/MOOV/MOOV": -1, "MOOV/MOOV/MOOV/last": -1, "Edit/Edit/list": -1,
		// Kinds that are none, or not there.
		"": -1, "/": -1, "//": -1, "/MOOV": -1, "MOOV/": -1, "MOOV//trak": -1, "MOOV/trak/": -1, "/MOOV/trak": -1, "moov": -1, "MOOV/TRAK": -1, "MOO": -1, "MOOVE": -1, "OOV": -1, "none": -1, "MOOV/none": -1, "MOOV trak": -1, "MOOV/trak\n": -1, " MOOV": -1, "\x00": -1, "MOOV.trak": -1, "MOOV\\trak": -1,
	} {
		if got := impl.FindBox(list, path); got != want {
			t.Errorf("%q: %d, not %d", path, got, want)
		}
		if got := impl.FindBox(nil, path); got != -1 {
			t.Errorf("%q in nothing: %d", path, got)
		}
	}
	if got := impl.FindBox(list, strings.Repeat("MOOV/", 100000)); got != -1 {
		t.Error(got)
	}
	for _, list := range someFilms() {
		checkPaths(t, list)
	}
	deep := someFilms()["as deep as may be"]
	if got := impl.FindBox(deep, "A000/B000/C000/D000/E000/F000/G000/H000/J000"); got != 9 {
		t.Error(got)
	}
	// The same list, no film by its last box alone.
	for _, last := range []impl.Box{box("fre", 0), box("free", 1), box("free", -1), box("FREE", 0, 1)} {
		if got := impl.FindBox(append(slices.Clip(list), last), "MOOV"); got != -1 {
			t.Errorf("%v: %d", last, got)
		}
	}
}

// roomy has the same bytes with room behind them, in which a writer would leave its marks.
func roomy(b []byte) []byte {
	return append(append(make([]byte, 0, len(b)+64), b...), times(64, []byte{0xee})...)[:len(b)]
}

func roomyBoxes(list []impl.Box) []impl.Box {
	out := make([]impl.Box, 0, len(list)+8)
	for _, x := range list {
		out = append(out, impl.Box{Kind: x.Kind, Depth: x.Depth, Data: roomy(x.Data)})
	}
	for range 8 {
		out = append(out, box("mark", 77, 0xee))
	}
	return out[:len(list)]
}

func checkRoom(t *testing.T, list []impl.Box, kept []impl.Box) {
	t.Helper()
	if !sameBoxes(list, kept) {
		t.Fatal("an argument was changed")
	}
	for _, x := range list {
		if !bytes.Equal(x.Data[len(x.Data):cap(x.Data)], times(64, []byte{0xee})) {
			t.Fatal("the room behind Data was written into")
		}
	}
	for _, x := range list[len(list):cap(list)] {
		if !sameBoxes([]impl.Box{x}, []impl.Box{box("mark", 77, 0xee)}) {
			t.Fatal("the room behind the boxes was written into")
		}
	}
}

// spoil writes over all of an answer, and over the room behind it.
func spoil(b []byte) {
	b = b[:cap(b)]
	for i := range b {
		b[i] ^= 0xa5
	}
}

func spoilBoxes(list []impl.Box) {
	list = list[:cap(list)]
	for i := range list {
		spoil(list[i].Data)
		list[i] = box("gone", -1)
	}
}

func TestBoxMemory(t *testing.T) {
	for name, film := range someFilms() {
		t.Run(name, func(t *testing.T) {
			list := roomyBoxes(film)
			shown := impl.ShowBoxes(list)
			again := impl.ShowBoxes(list)
			impl.BoxesOk(list)
			impl.FindBox(list, "MOOV/Trak/mdia")
			checkRoom(t, list, film)
			spoil(shown)
			checkRoom(t, list, film)
			spoilBoxes(list)
			if !bytes.Equal(again, bytesOf(nodesOf(film))) {
				t.Fatal("two answers, or an answer and an argument, share memory")
			}
			for _, read := range []func([]byte) []impl.Box{impl.SaveBoxes, func(b []byte) []impl.Box { l, _ := impl.ReadBoxes(b); return l }} {
				checkReadMemory(t, film, read)
			}
		})
	}
}

func checkReadMemory(t *testing.T, film []impl.Box, read func([]byte) []impl.Box) {
	t.Helper()
	kept := bytesOf(nodesOf(film))
	b := roomy(kept)
	first, second := read(b), read(b)
	if !bytes.Equal(b[:cap(b)], roomy(kept)[:cap(b)]) {
		t.Fatal("the bytes, or the room behind them, were written into")
	}
	spoilBoxes(first)
	if !bytes.Equal(b[:cap(b)], roomy(kept)[:cap(b)]) {
		t.Fatal("an answer and the bytes share memory")
	}
	spoil(b)
	if !sameBoxes(second, film) {
		t.Fatal("two answers, or an answer and the bytes, share memory")
	}
	for i := range second {
		// Room behind one Data that another one lies in would show here.
		spoil(second[i].Data)
		second[i].Data = film[i].Data
		if !sameBoxes(second, film) {
			t.Fatal("two Data of one answer share memory")
		}
	}
}

// What was saved ahead of a fault is new memory as well, and the bytes of a faulty film stay.
func TestBoxMemoryBehindFaults(t *testing.T) {
	for _, film := range someFilms() {
		kept := append(bytesOf(nodesOf(film)), 1, 2, 3)
		b := roomy(kept)
		list, _ := impl.ReadBoxes(b)
		saved := impl.SaveBoxes(b)
		if len(list) != 0 || !bytes.Equal(b[:cap(b)], roomy(kept)[:cap(b)]) {
			t.Fatal("the bytes were written into")
		}
		spoil(b)
		if !sameBoxes(saved, film) {
			t.Fatal("what was saved shares memory with the bytes")
		}
	}
}

func FuzzReadBoxes(f *testing.F) {
	for _, list := range someFilms() {
		f.Add(impl.ShowBoxes(list), "MOOV/Trak")
	}
	f.Add(nest(9, nil), "MOOV/MOOV/MOOV/MOOV/MOOV/MOOV/MOOV/MOOV/MOOV")
	f.Fuzz(func(t *testing.T, b []byte, path string) {
		checkBytes(t, b)
		saved := impl.SaveBoxes(b)
		checkFilm(t, saved)
		if got, want := impl.FindBox(saved, path), findInNodes(nodesOf(saved), strings.Split(path, "/")); got != want {
			t.Fatalf("%q: %d, not %d", path, got, want)
		}
	})
}
