package tests

import (
	"cmp"
	"encoding/binary"
	"fmt"
	"go/ast"
	"go/parser"
	"go/token"
	"math"
	"math/rand"
	"reflect"
	"runtime"
	"slices"
	"strings"
	"sync"
	"testing"
	"time"
	"unsafe"

	"loop.example/g00066/impl"
)

// houseCall is a function of the program, and arguments for it.
type houseCall struct {
	name string
	do   reflect.Value
	args []reflect.Value
}

func calling(name string, do any, args ...any) houseCall {
	c := houseCall{name: name, do: reflect.ValueOf(do)}
	for i, arg := range args {
		c.args = append(c.args, argument(arg, c.do.Type().In(i)))
	}
	return c
}

// argument takes nil for an empty list, and a plain number for one of the kind that is asked for.
func argument(arg any, kind reflect.Type) reflect.Value {
	if arg == nil {
		return reflect.Zero(kind)
	}
	return reflect.ValueOf(arg).Convert(kind)
}

func (c houseCall) String() string {
	words := []string{}
	for _, arg := range c.args {
		text := fmt.Sprintf("%#v", arg.Interface())
		if len(text) > 300 {
			text = fmt.Sprintf("%s .. (%d bytes)", text[:300], len(text))
		}
		words = append(words, text)
	}
	return c.name + "(" + strings.Join(words, ", ") + ")"
}

func callsOfTime() []houseCall {
	film, ntsc, fast := rate(24, 1), drop(30000, 1001), rate(120, 1)
	return []houseCall{
		calling("RateOk", impl.RateOk, ntsc),
		calling("Base", impl.Base, ntsc),
		calling("TimeText", impl.TimeText, ntsc, 17982),
		calling("TimeText", impl.TimeText, fast, 7654321),
		calling("TimeRead", impl.TimeRead, ntsc, "00:10:00;00"),
		calling("TimeRead", impl.TimeRead, film, "01:02:03:04"),
		calling("Instant", impl.Instant, ntsc, lastFrame, 1000000),
		calling("FrameIn", impl.FrameIn, film, ntsc, 12345),
	}
}

func callsOfBoxes() []houseCall {
	film := someFilms()["boxes in boxes"]
	b := impl.ShowBoxes(film)
	return []houseCall{
		calling("BoxesOk", impl.BoxesOk, film),
		calling("ShowBoxes", impl.ShowBoxes, film),
		calling("ReadBoxes", impl.ReadBoxes, b),
		calling("ReadBoxes", impl.ReadBoxes, b[:len(b)-3]),
		calling("SaveBoxes", impl.SaveBoxes, b),
		calling("SaveBoxes", impl.SaveBoxes, b[:len(b)-3]),
		calling("FindBox", impl.FindBox, film, "MOOV/Trak/mdia"),
	}
}

func callsOfWaves() []houseCall {
	a, b := cx(1, 2), cx(-0.1, 1e-30)
	four := []impl.Cx{a, b, cx(3, 0), cx(0.25, -7)}
	peak, behind := sound{0, 0, 5, 0}, sound{0, 0, 0, 0, 5, 0}
	return []houseCall{
		calling("Product", impl.Product, a, b),
		calling("NarrowProduct", impl.NarrowProduct, a, b),
		calling("Waves", impl.Waves, four),
		calling("Back", impl.Back, four),
		calling("Power", impl.Power, four),
		calling("Agree", impl.Agree, peak, behind, 2),
		calling("Sync", impl.Sync, peak, behind, 64),
	}
}

func callsOfCuts() []houseCall {
	list, c := someTrack(), clip(3, 7, 4)
	trims := track{clip(1, 10, 20), clip(2, 5, 10), clip(3, 2, 5)}
	many := manyClips(mostClips)
	return []houseCall{
		calling("TrackOk", impl.TrackOk, list),
		calling("Length", impl.Length, list),
		calling("FrameAt", impl.FrameAt, list, 1),
		calling("Joined", impl.Joined, list),
		calling("Joined", impl.Joined, many),
		calling("Insert", impl.Insert, list, 3, c),
		calling("Extract", impl.Extract, list, 3, 4),
		calling("Lift", impl.Lift, list, 3, 4),
		calling("Overwrite", impl.Overwrite, list, 18, c),
		calling("Roll", impl.Roll, trims, 0, 3),
		calling("Slip", impl.Slip, trims, 1, -2),
		calling("Slip", impl.Slip, many, 4, 0),
		calling("Slide", impl.Slide, trims, 1, 2),
		calling("Ripple", impl.Ripple, trims, 2, 9),
	}
}

func callsOfChanges() []houseCall {
	a, b := someTrack(), track{clip(1, 10, 5), clip(9, 3, 8), gap(1), clip(500, lastFrame-6, 6)}
	list := impl.Changes(a, b)
	return []houseCall{
		calling("Changes", impl.Changes, a, b),
		calling("Changes", impl.Changes, nil, b),
		calling("Apply", impl.Apply, a, list),
		calling("Turned", impl.Turned, a, list),
		calling("Shift", impl.Shift, list, 15),
	}
}

func callsOfLists() []houseCall {
	pal := rate(25, 1)
	list := track{clip(1, 10, 5), gap(4), clip(2, 0, 2), clip(500, 20, 3)}
	text := impl.ShowList(pal, list)
	return []houseCall{
		calling("ShowList", impl.ShowList, pal, list),
		calling("ReadList", impl.ReadList, pal, text),
		calling("ReadList", impl.ReadList, pal, text[:len(text)-2]+"\n"),
	}
}

func callsOfConforming() []houseCall {
	tracks := []track{someTrack(), {clip(1, 12, 30), gap(2), clip(7, 0, 1)}}
	needs, have := reels{reel(3, 4, 9), reel(1, 0, 50), reel(1, 40, 60)}, reels{reel(1, 20, 30), reel(3, 0, 100)}
	return []houseCall{
		calling("Needs", impl.Needs, tracks, 5),
		calling("Missing", impl.Missing, needs, have),
		calling("Covered", impl.Covered, have, have),
		calling("Relink", impl.Relink, someTrack(), 1, 2, 100),
	}
}

func callsOfSpeed() []houseCall {
	bend := keys{key(0, 10), key(4, 4), key(9, 400)}
	return []houseCall{
		calling("KeysOk", impl.KeysOk, bend),
		calling("SpeedAt", impl.SpeedAt, bend, 6),
		calling("Retime", impl.Retime, bend, 3, 12),
		calling("Reverse", impl.Reverse, someTrack()),
		calling("Blend", impl.Blend, bend, 6),
	}
}

func callsOfColours() []houseCall {
	c := rgb(100, 65535, 7)
	return []houseCall{
		calling("Matrix", impl.Matrix, numbers{2048, 2048, 0, 0, 8192, 0, 0, 77, -4096}, c),
		calling("Curve", impl.Curve, numbers{0, 1000, 70}, 16384),
		calling("Cube", impl.Cube, 3, impl.PlainCube(3), c),
		calling("PlainCube", impl.PlainCube, 2),
		calling("PlainCube", impl.PlainCube, 9),
		calling("Scope", impl.Scope, colours{c, grey(65535), grey(0)}),
		calling("KeyMask", impl.KeyMask, rgb(150, 0, 0), rgb(50, 0, 0), 50, 150),
	}
}

func callsOfGrades() []houseCall {
	nodes := after(step(gain, 0, 0, 2), step(invert, 0, 0, 0), step(mix, 0, 1, 0.5), step(toClip, 3, 0, 0))
	return []houseCall{
		calling("GraphOk", impl.GraphOk, nodes),
		calling("Grade", impl.Grade, nodes, tone(0.5, -1, noNumber)),
		calling("GradeAll", impl.GradeAll, nodes, tones{tone(0.1, 0.2, 0.3), even(endless), even(noNumber)}),
		calling("Pruned", impl.Pruned, nodes),
		calling("Pruned", impl.Pruned, after(step(toGrey, 0, 0, noNumber), step(lift, 1, 0, -0.1))),
		calling("SameGraph", impl.SameGraph, nodes, impl.Pruned(nodes)),
	}
}

func callsOfLayers() []houseCall {
	red, green := px(100, 0, 0, 128), px(0, 200, 0, 255)
	near, far := samples{deep(7, red), deep(1, green)}, samples{deep(7, green), deep(0, red), deep(lastFrame, px(1, 2, 3, 4))}
	return []houseCall{
		calling("PxOk", impl.PxOk, red),
		calling("Over", impl.Over, red, green),
		calling("Inside", impl.Inside, green, red),
		calling("Outside", impl.Outside, green, red),
		calling("Added", impl.Added, red, green),
		calling("Plain", impl.Plain, red),
		calling("Premul", impl.Premul, px(200, 100, 50, 70)),
		calling("Flat", impl.Flat, far),
		calling("Merge", impl.Merge, near, far),
		calling("Merge", impl.Merge, nil, far),
		calling("Moved", impl.Moved, 2, 3, pixels{red, green, red, green, green, red}, 1, -1),
		calling("Moved", impl.Moved, 1, 2, pixels{red, green}, 0, 0),
	}
}

func callsOfTitles() []houseCall {
	list := titles{title(1500, 2000, "Guten\nTag"), title(2050, 9000, "xy"), title(9000, lastMilli, "\xc3\xa4")}
	text := impl.ShowTitles(list)
	return []houseCall{
		calling("TitlesOk", impl.TitlesOk, list),
		calling("Unread", impl.Unread, list, style(1000, 80, 15, 1, 2)),
		calling("ShowTitles", impl.ShowTitles, list),
		calling("ReadTitles", impl.ReadTitles, text),
		calling("ReadTitles", impl.ReadTitles, text[:len(text)-1]),
		calling("Delay", impl.Delay, list, -1500),
	}
}

func callsOfSounds() []houseCall {
	a, b := sound{1, 2, -0.1, 4}, sound{0.5, noNumber, endless}
	return []houseCall{
		calling("Mix", impl.Mix, a, b, 2.0, 0.1),
		calling("Mix", impl.Mix, a, nil, 1.0, 1.0),
		calling("Mix", impl.Mix, nil, a, 1.0, 1.0),
		calling("Pan", impl.Pan, a, 0.3),
		calling("Convolve", impl.Convolve, a, b),
		calling("Convolve", impl.Convolve, a, sound{1}),
		calling("Squares", impl.Squares, a, 2),
		calling("Loud", impl.Loud, a, 0.0, 0.5),
		calling("Fader", impl.Fader, a, 1, 3),
	}
}

func callsOfCoding() []houseCall {
	old := unlike(8, 4)
	now := shifted(old, 1, 0)
	now.Px[3] = 200
	b, _ := impl.Encode(old, now, 3)
	block := numbers{1, 2, 4, 8, -5, 0, 0, 0, lastFrame, 0, 0, 0, 0, 0, 0, -lastFrame}
	return []houseCall{
		calling("PictureOk", impl.PictureOk, old),
		calling("Turn", impl.Turn, block),
		calling("Motion", impl.Motion, old, shifted(old, 1, 0), 0),
		calling("Encode", impl.Encode, old, now, 3),
		calling("Decode", impl.Decode, old, b, 3),
		calling("Buffer", impl.Buffer, numbers{5, 9, 1}, 2, 8),
	}
}

func callsOfPackages() []houseCall {
	names, all := texts{"b.mxf", "a.mxf", "a_1"}, bodies{{1}, {2, 3}, {}}
	list, _ := impl.Pack(names, all)
	other, _ := impl.Pack(texts{"a.mxf", "c.mxf", "a_1"}, bodies{{2, 4}, {7}, {}})
	return []houseCall{
		calling("Digest", impl.Digest, []byte("reel")),
		calling("PackOk", impl.PackOk, list),
		calling("Pack", impl.Pack, names, all),
		calling("Verify", impl.Verify, list, names[1:], bodies{{2, 4}, {9}}),
		calling("Update", impl.Update, list, other),
		calling("Update", impl.Update, list, nil),
		calling("Seal", impl.Seal, []byte("reel"), 77),
		calling("Open", impl.Open, lock(5, 9, 77), 9, []byte("leer")),
	}
}

func callsOfFarms() []houseCall {
	list := job{task(1, 0, 5), task(2, 7, 3), task(3, 0, 2, 0, 1), task(4, lastFrame, 4), task(9, 1, 1, 2, 3)}
	other := withTask(list, 1, task(2, 8, 3))
	return []houseCall{
		calling("JobOk", impl.JobOk, list),
		calling("Results", impl.Results, list),
		calling("Results", impl.Results, manyTasks(mostTasks)),
		calling("Farm", impl.Farm, list, 2),
		calling("Span", impl.Span, impl.Farm(list, 2)),
		calling("Reused", impl.Reused, list, other),
		calling("Critical", impl.Critical, list),
		calling("Dirty", impl.Dirty, list, numbers{3, 1}),
	}
}

func callsOfBenches() []houseCall {
	return []houseCall{
		calling("Bench", impl.Bench, withEnds(trimmedTrack)+withEnds(benchRows)),
		calling("Bench", impl.Bench, "insert 0 1 5 10\n\nlift 2 3\nshow\nat 3\nat 10\nundo\nat 03\nroll 0 1\nchanges\nsum 1\nshow"),
	}
}

// houseCalls has each function of the program, with arguments as its chapter wants them.
func houseCalls() []houseCall {
	return slices.Concat(
		callsOfTime(), callsOfBoxes(), callsOfWaves(), callsOfCuts(), callsOfChanges(), callsOfLists(), callsOfConforming(), callsOfSpeed(), callsOfColours(),
		callsOfGrades(), callsOfLayers(), callsOfTitles(), callsOfSounds(), callsOfCoding(), callsOfPackages(), callsOfFarms(), callsOfBenches(),
	)
}

func exportedFunctions(t *testing.T) []string {
	names, set := []string{}, token.NewFileSet()
	for _, name := range programFiles(t) {
		file, err := parser.ParseFile(set, name, nil, 0)
		if err != nil {
			t.Fatal(err)
		}
		for _, d := range file.Decls {
			if f, ok := d.(*ast.FuncDecl); ok && f.Recv == nil && f.Name.IsExported() {
				names = append(names, f.Name.Name)
			}
		}
	}
	slices.Sort(names)
	return names
}

// markOf is a value that stands in no argument and no answer.
func markOf(kind reflect.Type) reflect.Value {
	v := reflect.New(kind).Elem()
	switch kind.Kind() {
	case reflect.Int64:
		v.SetInt(-909090)
	case reflect.Float64:
		v.SetFloat(-90.90625)
	case reflect.Uint8:
		v.SetUint(byteMark)
	case reflect.Bool:
		v.SetBool(true)
	case reflect.String:
		v.SetString(nameMark)
	case reflect.Slice:
		v.Set(reflect.Append(v, markOf(kind.Elem())))
	case reflect.Struct:
		for i := range v.NumField() {
			v.Field(i).Set(markOf(v.Field(i).Type()))
		}
	}
	return v
}

// lendValue copies all that the value is made of, with so much room behind each list; without room an empty list is nil.
func lendValue(v reflect.Value, room int) reflect.Value {
	out := reflect.New(v.Type()).Elem()
	switch v.Kind() {
	case reflect.String:
		out.SetString(strings.Clone(v.String()))
	case reflect.Slice:
		if v.Len()+room > 0 {
			out.Set(reflect.MakeSlice(v.Type(), v.Len()+room, v.Len()+room))
		}
		for i := range out.Len() {
			if i < v.Len() {
				out.Index(i).Set(lendValue(v.Index(i), room))
			} else {
				out.Index(i).Set(markOf(v.Type().Elem()))
			}
		}
		out.SetLen(v.Len())
	case reflect.Struct:
		for i := range v.NumField() {
			out.Field(i).Set(lendValue(v.Field(i), room))
		}
	default:
		out.Set(v)
	}
	return out
}

func lendAll(values []reflect.Value, room int) []reflect.Value {
	out := []reflect.Value{}
	for _, v := range values {
		out = append(out, lendValue(v, room))
	}
	return out
}

func wholeSlice(v reflect.Value) reflect.Value {
	if v.Cap() == 0 {
		return v
	}
	return v.Slice3(0, v.Cap(), v.Cap())
}

// appendValue tells a value as bytes: what it is, or, where all is asked for, the room behind lists and where each of it lies too.
func appendValue(b []byte, v reflect.Value, all bool) []byte {
	word := func(n uint64) { b = binary.LittleEndian.AppendUint64(b, n) }
	switch v.Kind() {
	case reflect.Int64:
		word(uint64(v.Int()))
	case reflect.Uint8:
		b = append(b, byte(v.Uint()))
	case reflect.Bool:
		b = fmt.Append(b, v.Bool())
	case reflect.Float64:
		if x := v.Float(); math.IsNaN(x) && !all {
			word(math.Float64bits(noNumber))
		} else {
			word(math.Float64bits(x))
		}
	case reflect.String:
		word(uint64(v.Len()))
		if all {
			word(uint64(uintptr(unsafe.Pointer(unsafe.StringData(v.String())))))
		}
		b = append(b, v.String()...)
	case reflect.Slice:
		word(uint64(v.Len()))
		if all {
			word(uint64(v.Pointer()))
			v = wholeSlice(v)
			word(uint64(v.Len()))
		}
		for i := range v.Len() {
			b = appendValue(b, v.Index(i), all)
		}
	case reflect.Struct:
		for i := range v.NumField() {
			b = appendValue(b, v.Field(i), all)
		}
	default:
		panic(v.Kind())
	}
	return b
}

// toldOf is the same text for values that are the same.
func toldOf(values []reflect.Value) string {
	b := []byte{}
	for _, v := range values {
		b = appendValue(b, v, false)
	}
	return string(b)
}

// memoryOf is another text as soon as anything is written into.
func memoryOf(values []reflect.Value) string {
	b := []byte{}
	for _, v := range values {
		b = appendValue(b, v, true)
	}
	return string(b)
}

// spoilValue writes into all memory that can be reached.
func spoilValue(v reflect.Value) {
	switch v.Kind() {
	case reflect.Slice:
		v = wholeSlice(v)
		for i := range v.Len() {
			spoilValue(v.Index(i))
			v.Index(i).Set(markOf(v.Type().Elem()))
		}
	case reflect.Struct:
		for i := range v.NumField() {
			spoilValue(v.Field(i))
		}
	}
}

func spoilValues(values []reflect.Value) {
	for _, v := range values {
		spoilValue(v)
	}
}

// stretch is memory from one place up to another, and who has it.
type stretch struct {
	from, to uintptr
	owner    string
}

func appendStretches(list []stretch, v reflect.Value, owner string) []stretch {
	switch v.Kind() {
	case reflect.String:
		if text := v.String(); text != "" {
			from := uintptr(unsafe.Pointer(unsafe.StringData(text)))
			list = append(list, stretch{from, from + uintptr(len(text)), owner})
		}
	case reflect.Slice:
		v = wholeSlice(v)
		if size := uintptr(v.Len()) * v.Type().Elem().Size(); size > 0 {
			list = append(list, stretch{v.Pointer(), v.Pointer() + size, owner})
		}
		if kind := v.Type().Elem().Kind(); kind == reflect.Int64 || kind == reflect.Float64 || kind == reflect.Uint8 {
			return list
		}
		for i := range v.Len() {
			list = appendStretches(list, v.Index(i), owner)
		}
	case reflect.Struct:
		for i := range v.NumField() {
			list = appendStretches(list, v.Field(i), owner)
		}
	}
	return list
}

// sharedBy names two who have the same memory: two answers, an answer and an argument, or two lists or texts of one answer.
func sharedBy(args []reflect.Value, answers ...[]reflect.Value) string {
	list := []stretch{}
	for _, v := range args {
		list = appendStretches(list, v, "an argument")
	}
	for i, out := range answers {
		for _, v := range out {
			list = appendStretches(list, v, fmt.Sprintf("answer %d", i+1))
		}
	}
	slices.SortFunc(list, func(a, b stretch) int { return cmp.Compare(a.from, b.from) })
	for i := 1; i < len(list); i++ {
		a, b := list[i-1], list[i]
		if b.from < a.to && !(a.owner == "an argument" && b.owner == "an argument") {
			return a.owner + " and " + b.owner
		}
	}
	return ""
}

func (c houseCall) ask(t *testing.T, args []reflect.Value) []reflect.Value {
	t.Helper()
	defer func() {
		if what := recover(); what != nil {
			t.Fatalf("%v: panic: %v", c, what)
		}
	}()
	return c.do.Call(args)
}

// checkCall holds promise 19 of one call, and tells what is answered.
func checkCall(t *testing.T, c houseCall) string {
	t.Helper()
	args := lendAll(c.args, 3)
	kept := memoryOf(args)
	out, again := c.ask(t, args), c.ask(t, args)
	told := toldOf(out)
	if memoryOf(args) != kept {
		t.Fatalf("%v: an argument, or the room behind it, was written into", c)
	}
	if toldOf(again) != told {
		t.Fatalf("%v: two answers are not the same", c)
	}
	if who := sharedBy(args, out, again); who != "" {
		t.Fatalf("%v: %s share memory", c, who)
	}
	spoilValues(out)
	if memoryOf(args) != kept || toldOf(again) != told {
		t.Fatalf("%v: what is written into an answer is seen in an argument or in another answer", c)
	}
	spoilValues(args)
	if toldOf(again) != told {
		t.Fatalf("%v: what is written into an argument is seen in an answer", c)
	}
	// Neither what was done to the answers is kept, nor does the room behind a list matter.
	if toldOf(c.ask(t, lendAll(c.args, 0))) != told {
		t.Fatalf("%v: with arguments in other memory the answer is another one", c)
	}
	return told
}

// Each function of the program is asked for, and answers something other than what it answers to what is wrong.
func TestAllFunctionsAreAsked(t *testing.T) {
	asked, full := []string{}, map[string]bool{}
	for _, c := range houseCalls() {
		if c.do.Type().NumIn() != len(c.args) {
			t.Fatalf("%s takes %d arguments", c.name, c.do.Type().NumIn())
		}
		asked = append(asked, c.name)
		for _, v := range c.ask(t, c.args) {
			if !v.IsZero() && (v.Kind() != reflect.Slice || v.Len() > 0) {
				full[c.name] = true
			}
		}
		if !full[c.name] {
			t.Errorf("%v answers nothing", c)
		}
	}
	slices.Sort(asked)
	if asked, all := slices.Compact(asked), exportedFunctions(t); !slices.Equal(asked, all) || len(all) != 98 {
		t.Errorf("%d functions are asked: %v\nthere are %d: %v", len(asked), asked, len(all), all)
	}
}

func TestAllFunctionsAnswer(t *testing.T) {
	for _, c := range houseCalls() {
		checkCall(t, c)
	}
}

// limits are numbers at which, or next to which, some chapter has an end.
var limits = numbers{2, 4, 8, 9, 10, 16, 40, 50, 64, 99, 100, 120, 200, 255, 256, 257, 300, 500, 1000, 1001, 2000, 4096, 16384, 20000, 24, 25, 30000, 60000, 40000, 65535, 65536, 240000, lastFrame, lastMilli, lastMinute, sumCount}

func strangeNumber(r *rand.Rand) int64 {
	switch r.Intn(4) {
	case 0:
		some := strangeNumbers()
		return some[r.Intn(len(some))]
	case 1:
		n := limits[r.Intn(len(limits))] + r.Int63n(3) - 1
		if r.Intn(4) == 0 {
			return -n
		}
		return n
	}
	return r.Int63n(12) - 2
}

func strangeText(r *rand.Rand) string {
	some := texts{"", "x", "MOOV", "MOOV/trak", "/", "00:00:00:01", "00:00:00;01", "001 BL C", "1\n00:00:00,000 --> 00:00:00,001\nx\n\n", "show\n", "insert 0 1 2 3\nshow", "\n", " ", "\x00", "\xff\xfe", "\u00e4", "a.mxf"}
	text := some[r.Intn(len(some))]
	if r.Intn(6) == 0 {
		return strings.Repeat(text, 1+r.Intn(20))
	}
	return text
}

// strangeValue is anything that the kind can have.
func strangeValue(r *rand.Rand, kind reflect.Type) reflect.Value {
	v := reflect.New(kind).Elem()
	switch kind.Kind() {
	case reflect.Int64:
		v.SetInt(strangeNumber(r))
	case reflect.Float64:
		some := strangeFloats()
		v.SetFloat(some[r.Intn(len(some))])
	case reflect.Uint8:
		v.SetUint(uint64(r.Intn(256)))
	case reflect.Bool:
		v.SetBool(r.Intn(2) == 0)
	case reflect.String:
		v.SetString(strangeText(r))
	case reflect.Slice:
		for range r.Intn(6) {
			v.Set(reflect.Append(v, strangeValue(r, kind.Elem())))
		}
	case reflect.Struct:
		for i := range v.NumField() {
			v.Field(i).Set(strangeValue(r, v.Field(i).Type()))
		}
	}
	return v
}

// lengths of lists that some chapter has an end at, or next to it.
var lengths = []int{0, 1, 2, 3, 7, 8, 9, 15, 16, 17, 27, 39, 40, 41, 50, 51, 99, 100, 101, 199, 200, 201, 256, 257, 258, 299, 300, 301}

// turnValue changes one thing of a value, mostly deep in it.
func turnValue(r *rand.Rand, v reflect.Value) {
	switch v.Kind() {
	case reflect.String:
		turnText(r, v)
	case reflect.Struct:
		turnValue(r, v.Field(r.Intn(v.NumField())))
	case reflect.Slice:
		turnSlice(r, v)
	default:
		v.Set(strangeValue(r, v.Type()))
	}
}

func turnText(r *rand.Rand, v reflect.Value) {
	text := v.String()
	at := r.Intn(len(text) + 1)
	switch r.Intn(5) {
	case 0:
		v.SetString(text[:at])
	case 1:
		v.SetString(text[:at] + text[min(at+1, len(text)):])
	case 2:
		v.SetString(text[:at] + string([]byte{byte(r.Intn(256))}) + text[at:])
	case 3:
		v.SetString(text[:at] + strings.Repeat(text[at:], 1+r.Intn(4)))
	default:
		v.SetString(strangeText(r))
	}
}

func turnSlice(r *rand.Rand, v reflect.Value) {
	n := v.Len()
	if n == 0 {
		v.Set(strangeValue(r, v.Type()))
		return
	}
	at, other := r.Intn(n), r.Intn(n)
	switch r.Intn(9) {
	case 0:
		v.Set(reflect.AppendSlice(v.Slice3(0, at, at), v.Slice(at+1, n)))
	case 1:
		v.Set(reflect.Append(v, lendValue(v.Index(at), 0)))
	case 2:
		one := lendValue(v.Index(at), 0)
		v.Index(at).Set(v.Index(other))
		v.Index(other).Set(one)
	case 3:
		v.SetLen(at)
	case 4:
		long := reflect.MakeSlice(v.Type(), 0, 0)
		for range lengths[r.Intn(len(lengths))] {
			long = reflect.Append(long, lendValue(v.Index(r.Intn(n)), 0))
		}
		v.Set(long)
	case 5:
		v.Index(at).Set(strangeValue(r, v.Type().Elem()))
	default:
		turnValue(r, v.Index(at))
	}
}

func (c houseCall) turned(r *rand.Rand, times int) houseCall {
	c.args = lendAll(c.args, 0)
	for range times {
		turnValue(r, c.args[r.Intn(len(c.args))])
	}
	return c
}

// Arguments in which something is not as the chapter wants it: mostly one thing, then more.
func TestAllFunctionsOfTurnedArguments(t *testing.T) {
	r := rand.New(rand.NewSource(191))
	for _, c := range houseCalls() {
		answers := map[string]bool{checkCall(t, c): true}
		for n := range 400 {
			answers[checkCall(t, c.turned(r, 1+n/200+n/300))] = true
		}
		if len(answers) < 2 {
			t.Errorf("%v is answered the same whatever is turned", c)
		}
	}
}

// Any arguments at all.
func TestAllFunctionsOfAnyArguments(t *testing.T) {
	r := rand.New(rand.NewSource(192))
	for _, c := range houseCalls() {
		for range 300 {
			for i := range c.args {
				c.args[i] = strangeValue(r, c.do.Type().In(i))
			}
			checkCall(t, c)
		}
	}
}

// What has nothing in it, in the place of one argument and of all.
func TestAllFunctionsOfNothing(t *testing.T) {
	for _, c := range houseCalls() {
		none := c
		none.args = nil
		for i := range c.args {
			none.args = append(none.args, reflect.Zero(c.do.Type().In(i)))
			one := c
			one.args = slices.Clone(c.args)
			one.args[i] = none.args[i]
			checkCall(t, one)
		}
		checkCall(t, none)
	}
}

// longerThanAny is a list or a text that is longer than any chapter lets it be; of a list of lists a little is enough.
func longerThanAny(r *rand.Rand, v reflect.Value) (reflect.Value, bool) {
	if v.Kind() == reflect.String {
		return reflect.ValueOf(strings.Repeat(v.String()+"\n", mostWhole/(v.Len()+1)+1)), true
	}
	if v.Kind() != reflect.Slice {
		return v, false
	}
	most := 4097
	switch v.Type().Elem().Kind() {
	case reflect.Uint8:
		most = mostWhole + 1
	case reflect.Slice:
		most = 300
	}
	long := reflect.MakeSlice(v.Type(), most, most)
	for i := range most {
		if v.Len() > 0 {
			long.Index(i).Set(v.Index(r.Intn(v.Len())))
		}
	}
	return long, true
}

func TestAllFunctionsOfLongArguments(t *testing.T) {
	r := rand.New(rand.NewSource(193))
	for _, c := range houseCalls() {
		for i, arg := range c.args {
			if long, ok := longerThanAny(r, arg); ok {
				one := c
				one.args = slices.Clone(c.args)
				one.args[i] = long
				checkCall(t, one)
			}
		}
	}
}

// A list that is handed in twice is no reason to answer in another way, or to share.
func TestAllFunctionsOfOneListTwice(t *testing.T) {
	for _, c := range houseCalls() {
		for i := range c.args {
			for j := range i {
				if c.args[i].Kind() != reflect.Slice || c.args[i].Type() != c.args[j].Type() {
					continue
				}
				apart := c
				apart.args = slices.Clone(c.args)
				apart.args[j] = lendValue(c.args[i], 0)
				want := checkCall(t, apart)
				same := lendAll(apart.args, 3)
				same[j] = same[i]
				kept := memoryOf(same)
				out := c.ask(t, same)
				if toldOf(out) != want || memoryOf(same) != kept || sharedBy(same, out) != "" {
					t.Fatalf("%v with one list twice: another answer, or one that shares memory", apart)
				}
			}
		}
	}
}

// What is answered hangs on no call ahead of it.
func TestAllFunctionsBehindOthers(t *testing.T) {
	r := rand.New(rand.NewSource(194))
	calls := houseCalls()
	wants := []string{}
	for _, c := range calls {
		wants = append(wants, toldOf(c.ask(t, c.args)))
	}
	for range 40 {
		for _, i := range r.Perm(len(calls)) {
			out := calls[i].ask(t, calls[i].args)
			if toldOf(out) != wants[i] {
				t.Fatalf("%v is answered in another way behind other calls", calls[i])
			}
			spoilValues(out)
			turned := calls[i].turned(r, 1)
			spoilValues(turned.ask(t, turned.args))
		}
	}
}

// Many ask at once, with the same arguments: each gets the same answer in memory of its own, the arguments stay, and no one is left at work.
func TestAllFunctionsAtOnce(t *testing.T) {
	before := runtime.NumGoroutine()
	was := runtime.GOMAXPROCS(0)
	defer runtime.GOMAXPROCS(was)
	calls := houseCalls()
	wants, kept := []string{}, []string{}
	for i, c := range calls {
		calls[i].args = lendAll(c.args, 3)
		wants = append(wants, toldOf(c.ask(t, c.args)))
		kept = append(kept, memoryOf(calls[i].args))
	}
	for _, hands := range []int{1, 2, 16} {
		runtime.GOMAXPROCS(hands)
		wrong := make([]string, 24)
		group := sync.WaitGroup{}
		for n := range wrong {
			group.Go(func() {
				for turn := range 3 * len(calls) {
					// Some ask in the same order, so that they meet; some in another.
					i := (turn*(1+n%3) + n/3*11) % len(calls)
					out := calls[i].do.Call(calls[i].args)
					if toldOf(out) != wants[i] {
						wrong[n] = calls[i].name
					}
					spoilValues(out)
				}
			})
		}
		group.Wait()
		if slices.ContainsFunc(wrong, func(name string) bool { return name != "" }) {
			t.Fatalf("answered in another way where many ask: %q", wrong)
		}
	}
	for i, c := range calls {
		if memoryOf(c.args) != kept[i] {
			t.Fatalf("%v: an argument, or the room behind it, was written into", c)
		}
	}
	for range 1000 {
		if runtime.NumGoroutine() <= before {
			return
		}
		time.Sleep(5 * time.Millisecond)
	}
	t.Fatalf("%d goroutines, %d ahead of the calls", runtime.NumGoroutine(), before)
}
