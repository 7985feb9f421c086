package tests

import (
	"cmp"
	"math"
	"math/big"
	"math/rand"
	"runtime"
	"slices"
	"sync"
	"testing"
	"time"

	"loop.example/g00066/impl"
)

// The faces of the chapter, held as they were given.
var (
	_ func(job []impl.Task) bool                      = impl.JobOk
	_ func(job []impl.Task) []int64                   = impl.Results
	_ func(job []impl.Task, workers int64) []impl.Run = impl.Farm
	_ func(runs []impl.Run) int64                     = impl.Span
	_ func(old, new []impl.Task) []int64              = impl.Reused
	_ func(job []impl.Task) int64                     = impl.Critical
	_ func(job []impl.Task, changed []int64) []int64  = impl.Dirty
	_ struct{ Task, Worker, From, To int64 }          = impl.Run{}
	_ struct {
		Kind, Value int64
		Needs       []int64
		Cost        int64
	} = impl.Task{}
	_ [impl.MaxTasks - 200]struct{} = [0]struct{}{}
)

const (
	mostTasks   = 200
	mostNeeds   = 10
	lastKind    = 9
	dearest     = 1000
	mostWorkers = 50
	numberMark  = -77
)

type (
	job  = []impl.Task
	runs = []impl.Run
)

var (
	taskMark = task(-91, -92, -94, -93)
	runMark  = run(-95, -96, -97, -98)
)

func task(kind, value, cost int64, needs ...int64) impl.Task {
	return impl.Task{Kind: kind, Value: value, Cost: cost, Needs: needs}
}

// costs is a task of which only the Cost and what it needs matter.
func costs(cost int64, needs ...int64) impl.Task { return task(0, 0, cost, needs...) }

func run(number, worker, from, to int64) impl.Run {
	return impl.Run{Task: number, Worker: worker, From: from, To: to}
}

func copyJob(list job) job {
	out := job{}
	for _, one := range list {
		one.Needs = slices.Clone(one.Needs)
		out = append(out, one)
	}
	return out
}

func withTask(list job, at int, one impl.Task) job {
	list = copyJob(list)
	list[at] = one
	return list
}

func jobByWords(list job) bool {
	for i, one := range list {
		rising := slices.Compact(slices.Sorted(slices.Values(one.Needs)))
		if one.Kind < 0 || one.Kind > 9 || one.Value < 0 || one.Value > lastFrame || one.Cost < 1 || one.Cost > 1000 || len(one.Needs) > 10 || !slices.Equal(one.Needs, rising) {
			return false
		}
		if slices.ContainsFunc(one.Needs, func(need int64) bool { return need < 0 || need >= int64(i) }) {
			return false
		}
	}
	return len(list) <= mostTasks
}

// resultsByWords takes the modulus once for each task, of a whole sum: the first number, and each result, with a power of 257.
func resultsByWords(list job) numbers {
	if !jobByWords(list) {
		return nil
	}
	out, factor, modulus := numbers{}, big.NewInt(257), big.NewInt(sumCount)
	for _, one := range list {
		power := new(big.Int).Exp(factor, big.NewInt(int64(len(one.Needs))), nil)
		sum := new(big.Int).Mul(power, big.NewInt(one.Kind*1000003+one.Value))
		for _, need := range one.Needs {
			power.Div(power, factor)
			sum.Add(sum, new(big.Int).Mul(power, big.NewInt(out[need]+1)))
		}
		out = append(out, sum.Mod(sum, modulus).Int64())
	}
	return out
}

// farmByWords lets the time go on by one, and looks at who ends then.
func farmByWords(list job, workers int64) runs {
	if !jobByWords(list) || workers < 1 || workers > mostWorkers {
		return nil
	}
	out, ending := runs{}, map[int64]runs{}
	busy, taken, ended := make([]bool, workers), make([]bool, len(list)), make([]bool, len(list))
	for now := int64(0); len(out) < len(list); now++ {
		for _, r := range ending[now] {
			busy[r.Worker], ended[r.Task] = false, true
		}
		if now > 0 && len(ending[now]) == 0 {
			continue
		}
		for worker := range busy {
			for i, one := range list {
				if !busy[worker] && !taken[i] && !slices.ContainsFunc(one.Needs, func(need int64) bool { return !ended[need] }) {
					busy[worker], taken[i] = true, true
					r := run(int64(i), int64(worker), now, now+one.Cost)
					out, ending[r.To] = append(out, r), append(ending[r.To], r)
				}
			}
		}
	}
	slices.SortFunc(out, func(a, b impl.Run) int {
		return cmp.Or(cmp.Compare(a.From, b.From), cmp.Compare(a.Worker, b.Worker))
	})
	return out
}

func spanByWords(list runs) int64 {
	ends := numbers{}
	for _, r := range list {
		ends = append(ends, r.To)
	}
	slices.Sort(ends)
	if len(ends) == 0 || len(ends) > mostTasks {
		return 0
	}
	return ends[len(ends)-1]
}

func reusedByWords(old, now job) numbers {
	if !jobByWords(old) || !jobByWords(now) {
		return nil
	}
	had := map[int64]bool{}
	for _, result := range resultsByWords(old) {
		had[result] = true
	}
	out := numbers{}
	for i, result := range resultsByWords(now) {
		if had[result] {
			out = append(out, 0)
		} else {
			out = append(out, now[i].Cost)
		}
	}
	return out
}

// needing has for each task those that need it at once.
func needing(list job) []numbers {
	out := make([]numbers, len(list))
	for i, one := range list {
		for _, need := range one.Needs {
			out[need] = append(out[need], int64(i))
		}
	}
	return out
}

// criticalByWords goes from the last task to the first: the greatest sum from each on.
func criticalByWords(list job) int64 {
	if !jobByWords(list) {
		return -1
	}
	sums, after, most := make(numbers, len(list)), needing(list), int64(0)
	for i := len(list) - 1; i >= 0; i-- {
		for _, next := range after[i] {
			sums[i] = max(sums[i], sums[next])
		}
		sums[i] += list[i].Cost
		most = max(most, sums[i])
	}
	return most
}

// dirtyByWords goes on from each that is changed to those that need it.
func dirtyByWords(list job, changed numbers) numbers {
	if !jobByWords(list) || len(changed) > mostTasks {
		return nil
	}
	after, seen := needing(list), map[int64]bool{}
	for left := slices.Clone(changed); len(left) > 0; left = left[1:] {
		if left[0] < 0 || left[0] >= int64(len(list)) {
			return nil
		}
		if !seen[left[0]] {
			seen[left[0]] = true
			left = append(left, after[left[0]]...)
		}
	}
	out := numbers{}
	for i := range list {
		if seen[int64(i)] {
			out = append(out, int64(i))
		}
	}
	return out
}

// lentJob is a job in memory of its own, with room behind the list and behind the Needs of each task.
type lentJob struct {
	list, whole, kept     job
	wholeNeeds, keptNeeds []numbers
}

func lend(list job) *lentJob {
	l := &lentJob{}
	own := job{}
	for _, one := range list {
		short, whole := withRoom(one.Needs, numberMark)
		one.Needs = short
		own = append(own, one)
		l.wholeNeeds = append(l.wholeNeeds, whole)
		l.keptNeeds = append(l.keptNeeds, slices.Clone(whole))
	}
	l.list, l.whole = withRoom(own, taskMark)
	l.kept = slices.Clone(l.whole)
	return l
}

// isSameTask asks for Needs in the same place as well.
func isSameTask(a, b impl.Task) bool {
	return a.Kind == b.Kind && a.Value == b.Value && a.Cost == b.Cost && len(a.Needs) == len(b.Needs) && cap(a.Needs) == cap(b.Needs) && &a.Needs[:1][0] == &b.Needs[:1][0]
}

func (l *lentJob) stands() bool {
	return slices.EqualFunc(l.whole, l.kept, isSameTask) && slices.EqualFunc(l.wholeNeeds, l.keptNeeds, slices.Equal) && slices.Equal(taskMark.Needs, numbers{-93})
}

func (l *lentJob) spoil() {
	spoilAll(l.whole, taskMark)
	for _, whole := range l.wholeNeeds {
		spoilAll(whole, numberMark)
	}
}

func shortJobs(jobs []job) []any {
	out := []any{}
	for _, list := range jobs {
		out = append(out, few(list))
	}
	return out
}

// watchJobs asks twice, holds both answers against what is wanted, and watches the arguments, their room, and the answers' memory.
func watchJobs[T comparable](t *testing.T, name string, ask func(jobs []job, list numbers) []T, mark T, want []T, list numbers, jobs ...job) {
	t.Helper()
	lent, given := []*lentJob{}, []job{}
	for _, one := range jobs {
		l := lend(one)
		lent, given = append(lent, l), append(given, l.list)
	}
	short, whole := withRoom(list, numberMark)
	kept := slices.Clone(whole)
	got, again := ask(given, short), ask(given, short)
	if !slices.Equal(got, want) {
		t.Fatalf("%s of %v with %v: %v, want %v", name, shortJobs(jobs), few(list), few(got), few(want))
	}
	spoilAll(got, mark)
	if !slices.Equal(whole, kept) || slices.ContainsFunc(lent, func(l *lentJob) bool { return !l.stands() }) {
		t.Fatalf("%s of %v with %v: an argument, or its room, was written into, or shares memory with the answer", name, shortJobs(jobs), few(list))
	}
	spoilAll(whole, numberMark)
	for _, l := range lent {
		l.spoil()
	}
	if !slices.Equal(again, want) {
		t.Fatalf("%s of %v with %v: the second answer shares memory, or is another one: %v", name, shortJobs(jobs), few(list), few(again))
	}
}

func checkJobOkIs(t *testing.T, list job, want bool) {
	t.Helper()
	ask := func(jobs []job, _ numbers) []bool { return []bool{impl.JobOk(jobs[0])} }
	watchJobs(t, "JobOk", ask, false, []bool{want}, nil, list)
	if jobByWords(list) != want {
		t.Fatalf("the words say another thing of %v", few(list))
	}
}

func checkResultsIs(t *testing.T, list job, want numbers) {
	t.Helper()
	ask := func(jobs []job, _ numbers) numbers { return impl.Results(jobs[0]) }
	watchJobs(t, "Results", ask, numberMark, want, nil, list)
}

func checkFarmIs(t *testing.T, list job, workers int64, want runs) {
	t.Helper()
	ask := func(jobs []job, list numbers) runs { return impl.Farm(jobs[0], list[0]) }
	watchJobs(t, "Farm", ask, runMark, want, numbers{workers}, list)
}

func checkSpanIs(t *testing.T, list runs, want int64) {
	t.Helper()
	watchList(t, "Span", list, runMark, len(list), impl.Span, want)
}

func checkReusedIs(t *testing.T, old, now job, want numbers) {
	t.Helper()
	ask := func(jobs []job, _ numbers) numbers { return impl.Reused(jobs[0], jobs[1]) }
	watchJobs(t, "Reused", ask, numberMark, want, nil, old, now)
}

func checkCriticalIs(t *testing.T, list job, want int64) {
	t.Helper()
	ask := func(jobs []job, _ numbers) numbers { return numbers{impl.Critical(jobs[0])} }
	watchJobs(t, "Critical", ask, numberMark, numbers{want}, nil, list)
}

func checkDirtyIs(t *testing.T, list job, changed, want numbers) {
	t.Helper()
	ask := func(jobs []job, changed numbers) numbers { return impl.Dirty(jobs[0], changed) }
	watchJobs(t, "Dirty", ask, numberMark, want, changed, list)
}

// checkJob holds all that is told of one job against the words, and promise 17 for those workers.
func checkJob(t *testing.T, list job, workers ...int64) {
	t.Helper()
	checkJobOkIs(t, list, jobByWords(list))
	checkResultsIs(t, list, resultsByWords(list))
	checkCriticalIs(t, list, criticalByWords(list))
	if jobByWords(list) {
		checkReusedIs(t, list, list, make(numbers, len(list)))
	}
	for _, n := range workers {
		checkFarm(t, list, n)
	}
}

func checkFarm(t *testing.T, list job, workers int64) {
	t.Helper()
	want := farmByWords(list, workers)
	checkFarmIs(t, list, workers, want)
	checkSpanIs(t, want, spanByWords(want))
	if jobByWords(list) && workers >= 1 && workers <= mostWorkers {
		checkWorked(t, list, workers)
	}
}

// checkWorked holds promise 17 of what Farm tells, without asking how it came to it.
func checkWorked(t *testing.T, list job, workers int64) {
	t.Helper()
	told, alone := impl.Farm(list, workers), impl.Farm(list, 1)
	begins, ends, before := make(numbers, len(list)), make(numbers, len(list)), make(numbers, len(list))
	for _, r := range alone {
		before[r.Task] = r.From
	}
	last, sum, times := map[int64]int64{}, int64(0), make([]int, len(list))
	for i, r := range told {
		times[r.Task]++
		begins[r.Task], ends[r.Task] = r.From, r.To
		sum += list[r.Task].Cost
		if r.To != r.From+list[r.Task].Cost || r.Worker < 0 || r.Worker >= workers || r.From < last[r.Worker] || r.From > before[r.Task] {
			t.Fatalf("Farm of %v by %d: %v does two things at once, is no worker, or begins later than alone", few(list), workers, r)
		}
		last[r.Worker] = r.To
		if i > 0 && (told[i-1].From > r.From || told[i-1].From == r.From && told[i-1].Worker >= r.Worker) {
			t.Fatalf("Farm of %v by %d: %v and %v are not in order", few(list), workers, told[i-1], r)
		}
	}
	for i, one := range list {
		if times[i] != 1 {
			t.Fatalf("Farm of %v by %d: task %d runs %d times", few(list), workers, i, times[i])
		}
		for _, need := range one.Needs {
			if begins[i] < ends[need] {
				t.Fatalf("Farm of %v by %d: %d begins at %d, ahead of the end of %d at %d", few(list), workers, i, begins[i], need, ends[need])
			}
		}
	}
	span, critical := impl.Span(told), impl.Critical(list)
	if span < critical || span > sum || workers == 1 && span != sum || workers >= int64(len(list)) && span != critical {
		t.Fatalf("Farm of %v by %d takes %d, alone %d, at least %d", few(list), workers, span, sum, critical)
	}
}

// checkReused holds promise 17 of each task: it is to be worked out just where none of old has its result.
func checkReused(t *testing.T, old, now job) {
	t.Helper()
	want := reusedByWords(old, now)
	checkReusedIs(t, old, now, want)
	if !jobByWords(old) || !jobByWords(now) {
		return
	}
	had, results := impl.Results(old), impl.Results(now)
	for i, left := range impl.Reused(old, now) {
		if (left == 0) != slices.Contains(had, results[i]) || left != 0 && left != now[i].Cost {
			t.Fatalf("Reused of %v and %v: %d of task %d, whose result is %d", few(old), few(now), left, i, results[i])
		}
	}
}

// checkDirty holds that nothing but what is changed, and what needs what is dirty, is so.
func checkDirty(t *testing.T, list job, changed numbers) {
	t.Helper()
	want := dirtyByWords(list, changed)
	checkDirtyIs(t, list, changed, want)
	if !jobByWords(list) || len(changed) > mostTasks || slices.ContainsFunc(changed, func(n int64) bool { return n < 0 || n >= int64(len(list)) }) {
		return
	}
	dirty := impl.Dirty(list, changed)
	for i, one := range list {
		through := slices.ContainsFunc(one.Needs, func(need int64) bool { return slices.Contains(dirty, need) })
		if slices.Contains(dirty, int64(i)) != (through || slices.Contains(changed, int64(i))) {
			t.Fatalf("Dirty of %v with %v: %v is wrong at %d", few(list), few(changed), few(dirty), i)
		}
	}
	checkUntouched(t, list, changed, dirty)
}

// checkUntouched turns what is changed: what is not dirty has its result still, and need not be worked out again.
func checkUntouched(t *testing.T, list job, changed, dirty numbers) {
	t.Helper()
	now := copyJob(list)
	for _, number := range changed {
		now[number].Value = lastFrame - now[number].Value
		now[number].Kind = lastKind - now[number].Kind
	}
	was, is, left := impl.Results(list), impl.Results(now), impl.Reused(list, now)
	for i := range list {
		if !slices.Contains(dirty, int64(i)) && (was[i] != is[i] || left[i] != 0) {
			t.Fatalf("%v with %v changed: task %d is not dirty, and has another result", few(list), few(changed), i)
		}
	}
}

// manyTasks need some of the ten ahead of them, and are unlike.
func manyTasks(n int) job {
	out := job{}
	for i := range int64(n) {
		needs := numbers{}
		for need := max(0, i-10); need < i; need++ {
			if (need*7+i*3)%4 == 0 {
				needs = append(needs, need)
			}
		}
		out = append(out, task(i%10, i*12345%(lastFrame+1), 1+i*37%1000, needs...))
	}
	return out
}

// chain is tasks that each need the one ahead.
func chain(n int, cost int64) job {
	out := job{}
	for i := range int64(n) {
		one := task(1, i, cost)
		if i > 0 {
			one.Needs = numbers{i - 1}
		}
		out = append(out, one)
	}
	return out
}

// loose is tasks that need nothing.
func loose(n int, cost int64) job {
	out := job{}
	for i := range int64(n) {
		out = append(out, task(i%10, i, cost))
	}
	return out
}

// full10 is tasks that each need the ten ahead, as far as there are.
func full10(n int) job {
	out := job{}
	for i := range int64(n) {
		needs := numbers{}
		for need := max(0, i-10); need < i; need++ {
			needs = append(needs, need)
		}
		out = append(out, task(i%10, lastFrame-i, 1+i%1000, needs...))
	}
	return out
}

func firstNumbers(n int) numbers {
	out := numbers{}
	for i := range int64(n) {
		out = append(out, i)
	}
	return out
}

// wrongTasks are none at that place of a job of that length.
func wrongTasks(at, length int64) job {
	out := job{{}, taskMark}
	for _, n := range append(strangeNumbers(), 10, 11, 265, 256) {
		out = append(out, task(n, 1, 1))
	}
	for _, n := range strangeNumbers() {
		out = append(out, task(1, n, 1), task(1, 1, n))
		out = append(out, task(1, 1, 1, n), task(1, 1, 1, 0, n))
	}
	for _, n := range []int64{0, -1000, 1001, 1002, 1256, 65537} {
		out = append(out, task(1, 1, n))
	}
	for _, need := range []int64{at, at + 1, length - 1, length, length + 1, mostTasks, 1 << 32} {
		if need >= at {
			out = append(out, task(1, 1, 1, need))
		}
	}
	out = append(out, task(1, 1, 1, 0, 0), task(1, 1, 1, at-1, at-1), task(1, 1, 1, 1, 0), task(1, 1, 1, at-1, at-2), task(1, 1, 1, at-1, at), task(1, 1, 1, 0, 1, 1), task(1, 1, 1, 0, 2, 1), task(1, 1, 1, -1, 0))
	return append(out, task(1, 1, 1, firstNumbers(11)...), task(1, 1, 1, firstNumbers(12)...), task(1, 1, 1, make(numbers, 11)...))
}

// noJobs have something wrong in the first, a middle or the last place.
func noJobs() []job {
	out := []job{manyTasks(mostTasks + 1), loose(mostTasks+1, 1), chain(mostTasks+1, 1), loose(mostTasks+2, 1), loose(256, 1), loose(456, 1)}
	right := manyTasks(21)
	for _, at := range []int{0, 1, 15, 20} {
		for _, one := range wrongTasks(int64(at), 21) {
			out = append(out, withTask(right, at, one))
		}
	}
	for _, one := range wrongTasks(0, 1) {
		out = append(out, job{one})
	}
	return out
}

func TestJobOkCases(t *testing.T) {
	a, b, c := task(1, 2, 3), task(2, 3, 4), task(3, 4, 5)
	for _, row := range []struct {
		list job
		want bool
	}{
		{nil, true},
		{job{}, true},
		{job{a}, true},
		{job{a, a}, true},
		{job{a, b, c}, true},
		{job{{}}, false},
		{job{{Cost: 1}}, true},
		{job{{Cost: 1, Needs: numbers{}}}, true},
		{job{task(-1, 0, 1)}, false},
		{job{task(0, 0, 1)}, true},
		{job{task(9, 0, 1)}, true},
		{job{task(10, 0, 1)}, false},
		{job{task(math.MinInt64, 0, 1)}, false},
		{job{task(math.MaxInt64, 0, 1)}, false},
		{job{task(0, -1, 1)}, false},
		{job{task(0, lastFrame, 1)}, true},
		{job{task(0, lastFrame+1, 1)}, false},
		{job{task(0, math.MinInt64, 1)}, false},
		{job{task(0, math.MaxInt64, 1)}, false},
		{job{task(9, lastFrame, 1000)}, true},
		{job{task(0, 0, 0)}, false},
		{job{task(0, 0, -1)}, false},
		{job{task(0, 0, 1000)}, true},
		{job{task(0, 0, 1001)}, false},
		{job{task(0, 0, math.MinInt64)}, false},
		{job{task(0, 0, math.MaxInt64)}, false},
		// Needs: its own number, one behind it, one past the end, one below.
		{job{costs(1, 0)}, false},
		{job{costs(1, -1)}, false},
		{job{costs(1, 1)}, false},
		{job{a, costs(1, 0)}, true},
		{job{a, costs(1, 1)}, false},
		{job{a, costs(1, 2)}, false},
		{job{a, costs(1, -1)}, false},
		{job{a, costs(1, math.MinInt64)}, false},
		{job{a, costs(1, math.MaxInt64)}, false},
		{job{costs(1, 1), a}, false},
		{job{a, costs(1, 2), b}, false},
		{job{a, b, costs(1, 0)}, true},
		{job{a, b, costs(1, 1)}, true},
		{job{a, b, costs(1, 0, 1)}, true},
		{job{a, b, costs(1, 1, 0)}, false},
		{job{a, b, costs(1, 0, 0)}, false},
		{job{a, b, costs(1, 1, 1)}, false},
		{job{a, b, costs(1, 0, 2)}, false},
		{job{a, b, costs(1, -1, 0)}, false},
		{job{a, b, c, costs(1, 0, 1, 2)}, true},
		{job{a, b, c, costs(1, 0, 2)}, true},
		{job{a, b, c, costs(1, 0, 2, 1)}, false},
		{job{a, b, c, costs(1, 1, 0, 2)}, false},
		{job{a, b, c, costs(1, 0, 1, 1)}, false},
		{job{a, b, c, costs(1, 0, 1, 3)}, false},
		// The place of what is wrong does not matter.
		{job{a, b, task(0, 0, 0)}, false},
		{job{a, task(0, 0, 0), b}, false},
		{job{task(0, 0, 0), a, b}, false},
	} {
		checkJobOkIs(t, row.list, row.want)
	}
}

func TestJobOkLimits(t *testing.T) {
	for _, n := range []int{1, 2, 11, 12, 100, mostTasks - 1, mostTasks} {
		for _, list := range []job{manyTasks(n), loose(n, 1), loose(n, dearest), chain(n, 7), full10(n)} {
			checkJobOkIs(t, list, true)
			for _, at := range []int{0, n / 2, n - 1} {
				for kind := range int64(10) {
					checkJobOkIs(t, withTask(list, at, task(kind, 5, 5)), true)
				}
				for _, value := range []int64{0, 1, lastFrame - 1, lastFrame} {
					checkJobOkIs(t, withTask(list, at, task(5, value, 5)), true)
				}
				for _, cost := range []int64{1, 2, 999, 1000} {
					checkJobOkIs(t, withTask(list, at, task(5, 5, cost)), true)
				}
				for need := range int64(at) {
					checkJobOkIs(t, withTask(list, at, costs(5, need)), true)
				}
			}
		}
	}
	for _, n := range []int{mostTasks + 1, mostTasks + 2, 255, 256, 257, 456, 1000} {
		checkJobOkIs(t, manyTasks(n), false)
		checkJobOkIs(t, loose(n, 1), false)
	}
	for _, list := range noJobs() {
		checkJobOkIs(t, list, false)
	}
}

func TestJobOkNeeds(t *testing.T) {
	right := loose(30, 1)
	for n := range 30 {
		checkJobOkIs(t, withTask(right, 29, costs(1, firstNumbers(n)...)), n <= mostNeeds)
		// As many as there may be, but not all ahead of it.
		needs := firstNumbers(min(n, mostNeeds))
		checkJobOkIs(t, withTask(right, n, costs(1, needs...)), true)
		checkJobOkIs(t, withTask(right, max(len(needs)-1, 0), costs(1, needs...)), len(needs) == 0)
	}
	// All pairs and all threes.
	for a := int64(-1); a < 5; a++ {
		for b := int64(-1); b < 5; b++ {
			checkJobOkIs(t, withTask(right[:5], 3, costs(1, a, b)), 0 <= a && a < b && b < 3)
			for c := int64(-1); c < 5; c++ {
				checkJobOkIs(t, withTask(right[:6], 4, costs(1, a, b, c)), 0 <= a && a < b && b < c && c < 4)
			}
		}
	}
}

func TestResultsCases(t *testing.T) {
	for _, row := range []struct {
		list job
		want numbers
	}{
		{nil, nil},
		{job{}, nil},
		{job{task(0, 0, 1)}, numbers{0}},
		{job{task(0, 1, 1)}, numbers{1}},
		{job{task(1, 0, 1)}, numbers{1000003}},
		{job{task(1, 7, 1)}, numbers{1000010}},
		{job{task(9, 0, 1)}, numbers{9000027}},
		{job{task(0, lastFrame, 1)}, numbers{lastFrame}},
		{job{task(9, lastFrame, 1)}, numbers{19000027}},
		// Unlike tasks of one result.
		{job{task(1, 0, 1), task(0, 1000003, 1)}, numbers{1000003, 1000003}},
		// The Cost is no part of it.
		{job{task(3, 4, 1), task(3, 4, 1000)}, numbers{3000013, 3000013}},
		// A result of nought counts too, by the 1.
		{job{task(0, 0, 1), task(0, 0, 1, 0)}, numbers{0, 1}},
		{job{task(0, 5, 1), task(0, 7, 1, 0)}, numbers{5, 7*257 + 6}},
		{job{task(0, 5, 1), task(0, 9, 1), task(0, 7, 1, 0)}, numbers{5, 9, 7*257 + 6}},
		{job{task(0, 5, 1), task(0, 9, 1), task(0, 7, 1, 1)}, numbers{5, 9, 7*257 + 10}},
		// The lesser number goes in first.
		{job{task(0, 5, 1), task(0, 9, 1), task(0, 7, 1, 0, 1)}, numbers{5, 9, (7*257+6)*257 + 10}},
		{job{task(0, 9, 1), task(0, 5, 1), task(0, 7, 1, 0, 1)}, numbers{9, 5, (7*257+10)*257 + 6}},
		// Through others.
		{job{task(0, 5, 1), task(0, 7, 1, 0), task(0, 2, 1, 1)}, numbers{5, 1805, 2*257 + 1806}},
		{job{task(0, 5, 1), task(0, 7, 1, 0), task(0, 2, 1, 0, 1)}, numbers{5, 1805, (2*257+6)*257 + 1806}},
		{job{task(0, 0, 1), task(0, 0, 1, 0), task(0, 0, 1, 0, 1), task(0, 0, 1, 0, 1, 2)}, numbers{0, 1, 259, (257+2)*257 + 260}},
		// Past the modulus, and just at it.
		{job{task(9, lastFrame, 1), task(9, lastFrame, 1, 0)}, numbers{19000027, 902006939}},
		{job{task(9, lastFrame, 1), task(9, lastFrame, 1, 0), task(9, lastFrame, 1, 0, 1)}, numbers{19000027, 902006939, 717788639}},
		{job{task(0, 155, 1), task(0, 3891050, 1, 0)}, numbers{155, lastSum}},
		{job{task(0, 156, 1), task(0, 3891050, 1, 0)}, numbers{156, 0}},
		{job{task(0, 157, 1), task(0, 3891050, 1, 0)}, numbers{157, 1}},
		{job{task(0, 155, 1), task(0, 3891050, 1, 0), task(0, 0, 1, 1), task(0, 1, 1, 1)}, numbers{155, lastSum, 0, 257}},
		// What is no job.
		{job{{}}, nil},
		{job{task(1, 1, 1), task(1, 1, 1, 1)}, nil},
		{job{task(1, 1, 1), task(10, 1, 1)}, nil},
		{job{task(1, 1, 1), task(1, 1, 1001)}, nil},
	} {
		checkResultsIs(t, row.list, row.want)
		checkJob(t, row.list)
	}
}

func TestResultsLimits(t *testing.T) {
	for _, n := range []int{1, 2, 10, 11, 12, mostTasks - 1, mostTasks} {
		for _, list := range []job{manyTasks(n), loose(n, 1), chain(n, 1000), full10(n)} {
			checkResultsIs(t, list, resultsByWords(list))
			if got := impl.Results(list); len(got) != n {
				t.Fatal(n, got)
			}
		}
	}
	for kind := range int64(10) {
		for _, value := range []int64{0, 1, 2, 9999999, lastFrame} {
			checkResultsIs(t, job{task(kind, value, 1)}, numbers{kind*1000003 + value})
			list := job{task(kind, value, 1), task(lastKind-kind, value, 1, 0), task(kind, lastFrame-value, 1, 0, 1)}
			checkResultsIs(t, list, resultsByWords(list))
		}
	}
	for _, list := range noJobs() {
		checkResultsIs(t, list, nil)
	}
}

// graham takes longer by four than by three: who is free takes the first that is ready, not the best.
func graham() job {
	return job{costs(3), costs(2), costs(2), costs(2), costs(4, 3), costs(4, 3), costs(4, 3), costs(4, 3), costs(9, 0)}
}

func TestFarmCases(t *testing.T) {
	for _, row := range []struct {
		list    job
		workers int64
		want    runs
	}{
		{nil, 1, nil},
		{job{}, 50, nil},
		{job{costs(5)}, 1, runs{run(0, 0, 0, 5)}},
		{job{costs(5)}, 2, runs{run(0, 0, 0, 5)}},
		{job{costs(1000)}, 50, runs{run(0, 0, 0, 1000)}},
		// One alone goes through the job from the front.
		{job{costs(5), costs(3), costs(2, 0, 1), costs(4)}, 1, runs{run(0, 0, 0, 5), run(1, 0, 5, 8), run(2, 0, 8, 10), run(3, 0, 10, 14)}},
		// The first that is ready is taken, though one ahead of it is left.
		{job{costs(5), costs(3), costs(2, 0, 1), costs(4)}, 2, runs{run(0, 0, 0, 5), run(1, 1, 0, 3), run(3, 1, 3, 7), run(2, 0, 5, 7)}},
		{job{costs(5), costs(3), costs(2, 0, 1), costs(4)}, 3, runs{run(0, 0, 0, 5), run(1, 1, 0, 3), run(3, 2, 0, 4), run(2, 0, 5, 7)}},
		// More workers than tasks.
		{job{costs(2), costs(2), costs(1)}, 7, runs{run(0, 0, 0, 2), run(1, 1, 0, 2), run(2, 2, 0, 1)}},
		// Several end at one time: the least number takes first.
		{job{costs(2), costs(2), costs(3), costs(3)}, 2, runs{run(0, 0, 0, 2), run(1, 1, 0, 2), run(2, 0, 2, 5), run(3, 1, 2, 5)}},
		{job{costs(4), costs(2), costs(2), costs(1), costs(1)}, 2, runs{run(0, 0, 0, 4), run(1, 1, 0, 2), run(2, 1, 2, 4), run(3, 0, 4, 5), run(4, 1, 4, 5)}},
		// By From and then Worker: not by the task.
		{job{costs(3), costs(1), costs(2, 1), costs(2, 1), costs(9)}, 3, runs{run(0, 0, 0, 3), run(1, 1, 0, 1), run(4, 2, 0, 9), run(2, 1, 1, 3), run(3, 0, 3, 5)}},
		{job{costs(1), costs(2), costs(1, 1), costs(1)}, 2, runs{run(0, 0, 0, 1), run(1, 1, 0, 2), run(3, 0, 1, 2), run(2, 0, 2, 3)}},
		// All wait for one: the others stay free.
		{job{costs(5), costs(1, 0), costs(1, 0), costs(1, 0)}, 2, runs{run(0, 0, 0, 5), run(1, 0, 5, 6), run(2, 1, 5, 6), run(3, 0, 6, 7)}},
		{job{costs(5), costs(1, 0), costs(1, 1), costs(1, 2)}, 3, runs{run(0, 0, 0, 5), run(1, 0, 5, 6), run(2, 0, 6, 7), run(3, 0, 7, 8)}},
		// One that was free all the while, and has the lesser number, takes ahead of the one who made it ready.
		{job{costs(1), costs(4), costs(1, 1)}, 2, runs{run(0, 0, 0, 1), run(1, 1, 0, 4), run(2, 0, 4, 5)}},
		{job{costs(1), costs(4), costs(1, 1), costs(1, 1)}, 3, runs{run(0, 0, 0, 1), run(1, 1, 0, 4), run(2, 0, 4, 5), run(3, 1, 4, 5)}},
		// What it needs must have ended, not only the one behind.
		{job{costs(9), costs(1), costs(1, 0, 1), costs(1, 1)}, 2, runs{run(0, 0, 0, 9), run(1, 1, 0, 1), run(3, 1, 1, 2), run(2, 0, 9, 10)}},
		// By three and by four.
		{graham(), 3, runs{run(0, 0, 0, 3), run(1, 1, 0, 2), run(2, 2, 0, 2), run(3, 1, 2, 4), run(8, 0, 3, 12), run(4, 1, 4, 8), run(5, 2, 4, 8), run(6, 1, 8, 12), run(7, 2, 8, 12)}},
		{graham(), 4, runs{run(0, 0, 0, 3), run(1, 1, 0, 2), run(2, 2, 0, 2), run(3, 3, 0, 2), run(4, 1, 2, 6), run(5, 2, 2, 6), run(6, 3, 2, 6), run(7, 0, 3, 7), run(8, 1, 6, 15)}},
		// Kind and Value do not matter.
		{job{task(9, lastFrame, 5), task(3, 4, 3)}, 2, runs{run(0, 0, 0, 5), run(1, 1, 0, 3)}},
		// What is no job.
		{job{{}}, 1, nil},
		{job{costs(1), costs(1, 1)}, 1, nil},
		{job{costs(1), costs(1001)}, 2, nil},
		{job{costs(1), costs(0)}, 2, nil},
	} {
		checkFarmIs(t, row.list, row.workers, row.want)
		checkFarm(t, row.list, row.workers)
	}
	if three, four := impl.Span(impl.Farm(graham(), 3)), impl.Span(impl.Farm(graham(), 4)); three != 12 || four != 15 {
		t.Fatal(three, four)
	}
}

func TestFarmWorkers(t *testing.T) {
	one := job{costs(2), costs(3)}
	for _, row := range []struct {
		workers int64
		want    runs
	}{
		{0, nil},
		{-1, nil},
		{-2, nil},
		{-50, nil},
		{1, runs{run(0, 0, 0, 2), run(1, 0, 2, 5)}},
		{2, runs{run(0, 0, 0, 2), run(1, 1, 0, 3)}},
		{3, runs{run(0, 0, 0, 2), run(1, 1, 0, 3)}},
		{49, runs{run(0, 0, 0, 2), run(1, 1, 0, 3)}},
		{50, runs{run(0, 0, 0, 2), run(1, 1, 0, 3)}},
		{51, nil},
		{52, nil},
		{200, nil},
		{1<<32 + 1, nil},
		{1 << 32, nil},
		{-1<<32 + 1, nil},
		{math.MaxInt64, nil},
		{math.MaxInt64 - 1, nil},
		{math.MinInt64, nil},
		{math.MinInt64 + 1, nil},
	} {
		checkFarmIs(t, one, row.workers, row.want)
		checkFarmIs(t, nil, row.workers, nil)
	}
	// Each of fifty is at work, and none beyond.
	for n := int64(1); n <= mostWorkers; n++ {
		want := runs{}
		for i := range int64(mostTasks) {
			want = append(want, run(i, i%n, i/n*7, i/n*7+7))
		}
		checkFarmIs(t, loose(mostTasks, 7), n, want)
		checkWorked(t, loose(mostTasks, 7), n)
	}
}

func TestFarmLimits(t *testing.T) {
	for _, n := range []int{1, 2, 12, 49, 50, 51, mostTasks - 1, mostTasks} {
		for _, list := range []job{manyTasks(n), loose(n, 1), loose(n, dearest), chain(n, dearest), full10(n)} {
			for _, workers := range []int64{1, 2, 3, 7, 49, 50, 51, 0, -1} {
				checkFarm(t, list, workers)
			}
		}
	}
	// The greatest time that there is.
	if span := impl.Span(impl.Farm(chain(mostTasks, dearest), 50)); span != mostTasks*dearest || impl.Critical(chain(mostTasks, dearest)) != span {
		t.Fatal(span)
	}
	for _, list := range noJobs() {
		for _, workers := range []int64{1, 2, 50} {
			checkFarmIs(t, list, workers, nil)
		}
	}
}

func TestSpanCases(t *testing.T) {
	for _, row := range []struct {
		list runs
		want int64
	}{
		{nil, 0},
		{runs{}, 0},
		{runs{{}}, 0},
		{runs{run(1, 2, 3, 4)}, 4},
		{runs{run(1, 2, 9, 4)}, 4},
		{runs{run(0, 0, 0, 5), run(1, 1, 0, 7), run(2, 0, 5, 6)}, 7},
		{runs{run(0, 0, 0, 9), run(1, 1, 0, 7), run(2, 0, 5, 6)}, 9},
		{runs{run(0, 0, 0, 1), run(1, 1, 0, 7), run(2, 0, 5, 8)}, 8},
		{runs{run(0, 0, 0, 8), run(1, 1, 0, 8)}, 8},
		// Below 0 the greatest is the greatest still.
		{runs{run(0, 0, 0, -5)}, -5},
		{runs{run(0, 0, 0, -5), run(0, 0, 0, -3), run(0, 0, 0, -9)}, -3},
		{runs{run(0, 0, 0, -5), run(0, 0, 0, 0)}, 0},
		{runs{run(0, 0, 0, -1)}, -1},
		{runs{run(0, 0, 0, math.MinInt64)}, math.MinInt64},
		{runs{run(0, 0, 0, math.MinInt64), run(0, 0, 0, math.MinInt64+1)}, math.MinInt64 + 1},
		{runs{run(0, 0, 0, math.MaxInt64)}, math.MaxInt64},
		{runs{run(0, 0, 0, math.MinInt64), run(0, 0, 0, math.MaxInt64)}, math.MaxInt64},
		{runs{run(0, 0, 0, math.MaxInt64), run(0, 0, 0, math.MinInt64)}, math.MaxInt64},
		{runs{run(math.MaxInt64, math.MaxInt64, math.MaxInt64, 3)}, 3},
		{runs{run(math.MinInt64, -1, -1, 3)}, 3},
	} {
		checkSpanIs(t, row.list, row.want)
		checkSpanIs(t, row.list, spanByWords(row.list))
	}
}

func TestSpanLimits(t *testing.T) {
	for _, n := range []int{1, 2, 100, mostTasks - 1, mostTasks, mostTasks + 1, mostTasks + 2, 256, 257, 400, 1000} {
		for _, most := range []int64{9, -9, math.MaxInt64, math.MinInt64 + 1} {
			for _, at := range []int{0, n / 2, n - 1} {
				list := slices.Repeat(runs{run(0, 0, 0, min(most-1, 8))}, n)
				list[at].To = most
				want := most
				if n > mostTasks {
					want = 0
				}
				checkSpanIs(t, list, want)
				checkSpanIs(t, list, spanByWords(list))
			}
		}
	}
}

func TestReusedCases(t *testing.T) {
	old := job{task(1, 10, 5), task(2, 20, 3), task(3, 30, 2, 0, 1), task(4, 40, 4), task(5, 50, 6, 2)}
	none := numbers{0, 0, 0, 0, 0}
	for _, row := range []struct {
		name string
		old  job
		now  job
		want numbers
	}{
		{"itself", old, old, none},
		{"none", nil, nil, nil},
		{"against none", nil, old, numbers{5, 3, 2, 4, 6}},
		{"of none", old, nil, nil},
		{"Kind", old, withTask(old, 3, task(5, 40, 4)), numbers{0, 0, 0, 4, 0}},
		{"Value", old, withTask(old, 3, task(4, 41, 4)), numbers{0, 0, 0, 4, 0}},
		{"Cost alone", old, withTask(old, 3, task(4, 40, 900)), none},
		{"Cost of what is needed", old, withTask(old, 0, task(1, 10, 900)), none},
		{"fewer Needs", old, withTask(old, 2, task(3, 30, 2, 0)), numbers{0, 0, 2, 0, 6}},
		{"no Needs", old, withTask(old, 2, task(3, 30, 2)), numbers{0, 0, 2, 0, 6}},
		{"more Needs", old, withTask(old, 3, task(4, 40, 4, 2)), numbers{0, 0, 0, 4, 0}},
		{"other Needs", old, withTask(old, 4, task(5, 50, 6, 3)), numbers{0, 0, 0, 0, 6}},
		{"through one", old, withTask(old, 2, task(3, 31, 2, 0, 1)), numbers{0, 0, 2, 0, 6}},
		{"through two", old, withTask(old, 0, task(1, 11, 5)), numbers{5, 0, 2, 0, 6}},
		{"through the second", old, withTask(old, 1, task(2, 21, 3)), numbers{0, 3, 2, 0, 6}},
		{"the last alone", old, withTask(old, 4, task(5, 51, 6, 2)), numbers{0, 0, 0, 0, 6}},
		{"a beginning", old, old[:3], numbers{0, 0, 0}},
		{"one more", old[:4], old, numbers{0, 0, 0, 0, 6}},
		// Where it stands, and how often, does not matter.
		{"other places", old, job{task(4, 40, 4), task(2, 20, 3), task(1, 10, 5), task(3, 30, 2, 1, 2)}, numbers{0, 0, 0, 2}},
		{"moved", old, job{task(7, 7, 7), task(1, 10, 5), task(2, 20, 3), task(3, 30, 2, 1, 2), task(5, 50, 6, 3)}, numbers{7, 0, 0, 0, 0}},
		{"often", old[:1], job{task(1, 10, 5), task(1, 10, 6), task(1, 10, 7)}, numbers{0, 0, 0}},
		{"often, but not in old", old[:1], job{task(9, 9, 5), task(9, 9, 6), task(1, 10, 7)}, numbers{5, 6, 0}},
		// It is the result that counts, however it came about.
		{"one result", job{task(1, 0, 5)}, job{task(0, 1000003, 7)}, numbers{0}},
		{"one result, of needs", job{task(0, 5, 1), task(0, 7, 1, 0)}, job{task(0, 1805, 4)}, numbers{0}},
		{"needs of one result", job{task(1, 0, 5), task(1, 0, 5), task(3, 3, 3, 0)}, job{task(0, 1000003, 5), task(1, 0, 5), task(3, 3, 3, 1)}, numbers{0, 0, 0}},
		{"two needs of one result", job{task(1, 0, 5), task(3, 3, 3, 0)}, job{task(1, 0, 5), task(1, 0, 5), task(3, 3, 3, 0, 1)}, numbers{0, 0, 3}},
		{"nought", job{task(0, 0, 5)}, job{task(0, 0, 7), task(0, 0, 8, 0), task(0, 1, 9)}, numbers{0, 8, 9}},
		{"Cost at both ends", nil, job{task(1, 1, 1), task(2, 2, 1000)}, numbers{1, 1000}},
		// What is no job, on either side and on both.
		{"old is none", job{{}}, old, nil},
		{"new is none", old, job{{}}, nil},
		{"both are none", job{{}}, job{{}}, nil},
		{"old is none, for nothing", job{{}}, nil, nil},
		{"new is none, of nothing", nil, job{costs(1, 0)}, nil},
	} {
		t.Run(row.name, func(t *testing.T) {
			checkReusedIs(t, row.old, row.now, row.want)
			checkReused(t, row.old, row.now)
		})
	}
}

func TestReusedLimits(t *testing.T) {
	for _, n := range []int{1, 2, 100, mostTasks - 1, mostTasks} {
		for _, list := range []job{manyTasks(n), loose(n, 9), chain(n, 3), full10(n)} {
			checkReusedIs(t, list, list, make(numbers, n))
			checkReused(t, list, manyTasks(mostTasks))
			checkReused(t, manyTasks(n/2), list)
			checkReused(t, nil, list)
			checkReusedIs(t, list, nil, nil)
			for _, at := range []int{0, n / 2, n - 1} {
				other := copyJob(list)
				other[at].Value = (other[at].Value + 1) % (lastFrame + 1)
				checkReused(t, list, other)
				checkReused(t, other, list)
			}
		}
	}
	right := manyTasks(21)
	for _, list := range noJobs() {
		checkReusedIs(t, list, right, nil)
		checkReusedIs(t, right, list, nil)
		checkReusedIs(t, list, list, nil)
		checkReusedIs(t, list, nil, nil)
		checkReusedIs(t, nil, list, nil)
	}
}

// One job may be given on both sides in the same memory, and tasks may have Needs in common.
func TestReusedOfSharedMemory(t *testing.T) {
	list := lend(manyTasks(50))
	if got := impl.Reused(list.list, list.list); !slices.Equal(got, make(numbers, 50)) || !list.stands() {
		t.Fatal(got)
	}
	if got := impl.Reused(list.list[:20], list.list[:30]); !slices.Equal(got, reusedByWords(list.list[:20], list.list[:30])) || !list.stands() {
		t.Fatal(got)
	}
	needs := numbers{0, 1, 2}
	common := job{costs(1), costs(2), costs(3), costs(4, needs...), costs(5, needs[:2]...), costs(6, needs[1:]...)}
	checkJob(t, common, 1, 2, 3)
	if impl.Dirty(common, needs); !slices.Equal(needs, numbers{0, 1, 2}) {
		t.Fatal(needs)
	}
	if got := impl.Dirty(common, common[5].Needs); !slices.Equal(got, numbers{1, 2, 3, 4, 5}) {
		t.Fatal(got)
	}
}

func TestCriticalCases(t *testing.T) {
	for _, row := range []struct {
		list job
		want int64
	}{
		{nil, 0},
		{job{}, 0},
		{job{costs(1)}, 1},
		{job{costs(1000)}, 1000},
		{job{costs(3), costs(5), costs(4)}, 5},
		{job{costs(5), costs(3), costs(4)}, 5},
		{job{costs(5), costs(3, 0)}, 8},
		{job{costs(5), costs(3, 0), costs(2, 1)}, 10},
		{job{costs(5), costs(3), costs(2, 0, 1), costs(4)}, 7},
		{job{costs(5), costs(3), costs(2, 1), costs(4)}, 5},
		{job{costs(5), costs(3), costs(3, 1), costs(4)}, 6},
		// The greatest is not at the end, nor from the first.
		{job{costs(1), costs(9), costs(1, 0), costs(9, 1), costs(1, 2)}, 18},
		// The longest in tasks is not the greatest in Costs.
		{job{costs(1), costs(1, 0), costs(1, 1), costs(1, 2), costs(100), costs(1, 4)}, 101},
		{job{costs(1), costs(1, 0), costs(1, 1), costs(1, 2), costs(100), costs(1, 3, 4)}, 101},
		{job{costs(1), costs(50, 0), costs(1, 1), costs(1, 2), costs(51), costs(1, 3, 4)}, 54},
		// Ways that part and meet again.
		{job{costs(1), costs(2, 0), costs(7, 0), costs(3, 0), costs(1, 1, 2, 3)}, 9},
		{job{costs(1), costs(2, 0), costs(1, 0, 1), costs(9, 0)}, 10},
		// Both are needed, and only one is on the way.
		{job{costs(6), costs(4), costs(3), costs(1, 0, 1, 2)}, 7},
		{graham(), 12},
		// Kind and Value do not matter.
		{job{task(9, lastFrame, 2), task(9, lastFrame, 3, 0)}, 5},
		// What is no job.
		{job{{}}, -1},
		{job{costs(1), costs(1, 1)}, -1},
		{job{costs(1), costs(1001)}, -1},
		{job{costs(1), costs(0)}, -1},
		{job{costs(1), task(-1, 0, 1)}, -1},
	} {
		checkCriticalIs(t, row.list, row.want)
		checkJob(t, row.list, 1, 2, 3, 50)
	}
}

func TestCriticalLimits(t *testing.T) {
	for _, n := range []int{1, 2, 100, mostTasks - 1, mostTasks} {
		checkCriticalIs(t, chain(n, 1), int64(n))
		checkCriticalIs(t, chain(n, dearest), int64(n)*dearest)
		checkCriticalIs(t, loose(n, dearest), dearest)
		checkCriticalIs(t, manyTasks(n), criticalByWords(manyTasks(n)))
		checkCriticalIs(t, full10(n), criticalByWords(full10(n)))
		sum := int64(0)
		for _, one := range full10(n) {
			sum += one.Cost
		}
		checkCriticalIs(t, full10(n), sum)
	}
	for _, list := range noJobs() {
		checkCriticalIs(t, list, -1)
	}
}

func TestDirtyCases(t *testing.T) {
	list := job{costs(1), costs(1), costs(1, 0, 1), costs(1), costs(1, 2), costs(1, 3), costs(1, 4, 5), costs(1, 1)}
	for _, row := range []struct {
		changed numbers
		want    numbers
	}{
		{nil, nil},
		{numbers{}, nil},
		{numbers{0}, numbers{0, 2, 4, 6}},
		{numbers{1}, numbers{1, 2, 4, 6, 7}},
		{numbers{2}, numbers{2, 4, 6}},
		{numbers{3}, numbers{3, 5, 6}},
		{numbers{4}, numbers{4, 6}},
		{numbers{5}, numbers{5, 6}},
		{numbers{6}, numbers{6}},
		{numbers{7}, numbers{7}},
		{numbers{0, 3}, numbers{0, 2, 3, 4, 5, 6}},
		{numbers{3, 0}, numbers{0, 2, 3, 4, 5, 6}},
		{numbers{7, 6, 5}, numbers{5, 6, 7}},
		{numbers{6, 7}, numbers{6, 7}},
		{numbers{0, 1, 2, 3, 4, 5, 6, 7}, numbers{0, 1, 2, 3, 4, 5, 6, 7}},
		{numbers{7, 6, 5, 4, 3, 2, 1, 0}, numbers{0, 1, 2, 3, 4, 5, 6, 7}},
		// Twice.
		{numbers{7, 7}, numbers{7}},
		{numbers{3, 3, 3}, numbers{3, 5, 6}},
		{numbers{3, 0, 3, 0}, numbers{0, 2, 3, 4, 5, 6}},
		// One is no task, alone or among others.
		{numbers{-1}, nil},
		{numbers{8}, nil},
		{numbers{9}, nil},
		{numbers{0, 8}, nil},
		{numbers{8, 0}, nil},
		{numbers{0, -1}, nil},
		{numbers{-1, 0}, nil},
		{numbers{0, -1, 1}, nil},
		{numbers{math.MaxInt64}, nil},
		{numbers{math.MinInt64}, nil},
		{numbers{0, math.MinInt64}, nil},
		{numbers{0, math.MaxInt64}, nil},
		{numbers{1 << 32}, nil},
		{numbers{-1 << 32}, nil},
	} {
		checkDirtyIs(t, list, row.changed, row.want)
		checkDirty(t, list, row.changed)
	}
	for _, row := range []struct {
		list    job
		changed numbers
		want    numbers
	}{
		{nil, nil, nil},
		{nil, numbers{0}, nil},
		{nil, numbers{-1}, nil},
		{job{costs(1)}, nil, nil},
		{job{costs(1)}, numbers{0}, numbers{0}},
		{job{costs(1)}, numbers{1}, nil},
		{job{costs(1)}, numbers{0, 0}, numbers{0}},
		{job{{}}, nil, nil},
		{job{{}}, numbers{0}, nil},
		{job{costs(1), costs(1, 1)}, numbers{0}, nil},
		{job{costs(1), costs(1001)}, numbers{0}, nil},
		{job{costs(1), task(10, 0, 1)}, numbers{0}, nil},
	} {
		checkDirtyIs(t, row.list, row.changed, row.want)
		checkDirty(t, row.list, row.changed)
	}
}

func TestDirtyLimits(t *testing.T) {
	for _, n := range []int{1, 2, 100, mostTasks - 1, mostTasks} {
		for _, list := range []job{manyTasks(n), loose(n, 9), chain(n, 3), full10(n)} {
			last := int64(n - 1)
			for _, changed := range []numbers{nil, {0}, {last}, {last / 2}, {last, 0}, {last, last}, {0, last / 2, last}, {-1}, {last + 1}, {0, last + 1}, {last, -1}, firstNumbers(n)} {
				checkDirty(t, list, changed)
			}
			checkDirtyIs(t, list, numbers{last}, numbers{last})
			checkDirtyIs(t, list, firstNumbers(n), firstNumbers(n))
			for _, many := range []int{mostTasks - 1, mostTasks} {
				checkDirtyIs(t, list, slices.Repeat(numbers{last}, many), numbers{last})
			}
			for _, many := range []int{mostTasks + 1, mostTasks + 2, 256, 257, 400} {
				checkDirtyIs(t, list, slices.Repeat(numbers{last}, many), nil)
			}
			// The last of as many as there may be is looked at too.
			checkDirtyIs(t, list, append(slices.Repeat(numbers{last}, mostTasks-1), last+1), nil)
			checkDirtyIs(t, list, append(slices.Repeat(numbers{last}, mostTasks-1), 0), dirtyByWords(list, numbers{0, last}))
		}
		checkDirtyIs(t, chain(n, 1), numbers{0}, firstNumbers(n))
		checkDirtyIs(t, loose(n, 1), numbers{0}, numbers{0})
	}
	for _, list := range noJobs() {
		for _, changed := range []numbers{nil, {0}, {1}, {0, 1}} {
			checkDirtyIs(t, list, changed, nil)
		}
	}
}

// eachJob goes through all jobs of n tasks that need any of those ahead, with those Costs in turn.
func eachJob(n int, prices []numbers, see func(list job)) {
	for shape := range 1 << (n * (n - 1) / 2) {
		for _, price := range prices {
			list, left := job{}, shape
			for i := range n {
				needs := numbers{}
				for need := range i {
					if left&1 == 1 {
						needs = append(needs, int64(need))
					}
					left >>= 1
				}
				list = append(list, task(int64(i%2), int64(i/2), price[i], needs...))
			}
			see(list)
		}
	}
}

// allPrices has all Costs of n tasks up to that one.
func allPrices(n int, most int64) []numbers {
	if n == 0 {
		return []numbers{{}}
	}
	out := []numbers{}
	for _, price := range allPrices(n-1, most) {
		for cost := int64(1); cost <= most; cost++ {
			out = append(out, append(slices.Clone(price), cost))
		}
	}
	return out
}

func TestFarmsOfAllShapes(t *testing.T) {
	for n := range 5 {
		eachJob(n, allPrices(n, 3), func(list job) { checkJob(t, list, 1, 2, 3, 4) })
	}
	prices := []numbers{{1, 1, 1, 1, 1}, {5, 4, 3, 2, 1}, {1, 2, 3, 4, 5}, {3, 1, 4, 1, 5}, {2, 7, 1, 8, 2}}
	eachJob(5, prices, func(list job) { checkJob(t, list, 1, 2, 3, 4, 5, 6) })
}

func TestDirtyOfAllShapes(t *testing.T) {
	for n := range 6 {
		eachJob(n, []numbers{slices.Repeat(numbers{1}, n)}, func(list job) {
			for set := range 1 << n {
				changed := numbers{}
				for i := range n {
					if set>>i&1 == 1 {
						changed = append(changed, int64(i))
					}
				}
				checkDirty(t, list, changed)
			}
		})
	}
}

// All pairs of small jobs.
func TestReusedOfAllShapes(t *testing.T) {
	all := []job{{}}
	for n := 1; n < 4; n++ {
		eachJob(n, []numbers{{2, 3, 5}}, func(list job) {
			all = append(all, list)
			for at := range list {
				other := copyJob(list)
				other[at].Value++
				all = append(all, other)
			}
		})
	}
	for _, old := range all {
		for _, now := range all {
			checkReused(t, old, now)
		}
	}
}

func randomJob(r *rand.Rand, most int) job {
	list, share := job{}, 1+r.Intn(8)
	dearer := []int64{1, 3, 20, dearest}[r.Intn(4)]
	for i := range int64(r.Intn(most + 1)) {
		needs := numbers{}
		for need := range i {
			if len(needs) < mostNeeds && r.Intn(share) == 0 && r.Intn(1+int(i)/8) == 0 {
				needs = append(needs, need)
			}
		}
		list = append(list, task(r.Int63n(10), r.Int63n(4), 1+r.Int63n(dearer), needs...))
	}
	return list
}

// spoiltJob turns one thing of a job: it is mostly a job still.
func spoiltJob(r *rand.Rand, list job) job {
	list = copyJob(list)
	if len(list) == 0 {
		return job{task(r.Int63n(12)-1, r.Int63n(3), r.Int63n(3))}
	}
	at := r.Intn(len(list))
	one := &list[at]
	switch r.Intn(9) {
	case 0:
		one.Kind = r.Int63n(12) - 1
	case 1:
		one.Value = []int64{-1, 0, 1, lastFrame, lastFrame + 1}[r.Intn(5)]
	case 2:
		one.Cost = []int64{0, 1, 2, 1000, 1001}[r.Intn(5)]
	case 3:
		one.Needs = append(one.Needs, r.Int63n(int64(len(list))+1))
	case 4:
		one.Needs = one.Needs[:len(one.Needs)/2]
	case 5:
		slices.Reverse(one.Needs)
	case 6:
		other := r.Intn(len(list))
		list[at], list[other] = list[other], list[at]
	case 7:
		list = append(list, task(r.Int63n(10), r.Int63n(4), 1, int64(at)))
	default:
		list = slices.Delete(list, at, at+1)
	}
	return list
}

func TestFarmsAtRandom(t *testing.T) {
	r := rand.New(rand.NewSource(161))
	for n := range 8000 {
		most := 12
		if n%40 == 0 {
			most = mostTasks
		}
		list := randomJob(r, most)
		checkJob(t, list, 1+r.Int63n(4), r.Int63n(53)-1)
		other := spoiltJob(r, list)
		checkJob(t, other, 1+r.Int63n(6))
		checkReused(t, list, other)
		checkReused(t, other, list)
		changed := numbers{}
		for range r.Intn(4) {
			changed = append(changed, r.Int63n(int64(len(list))+1))
		}
		checkDirty(t, list, changed)
		checkDirty(t, other, changed)
	}
}

func TestSpansAtRandom(t *testing.T) {
	r := rand.New(rand.NewSource(162))
	for range 5000 {
		list := runs{}
		for range r.Intn(8) {
			list = append(list, run(r.Int63(), r.Int63(), r.Int63(), int64(r.Uint64())))
		}
		checkSpanIs(t, list, spanByWords(list))
	}
}

// toldOfJob is all that is answered of a job.
type toldOfJob struct {
	results, reused, dirty numbers
	farmed                 runs
	span, critical         int64
	ok                     bool
}

func askAll(list, other job, workers int64, changed numbers) toldOfJob {
	farmed := impl.Farm(list, workers)
	return toldOfJob{
		results:  impl.Results(list),
		reused:   impl.Reused(other, list),
		dirty:    impl.Dirty(list, changed),
		farmed:   farmed,
		span:     impl.Span(farmed),
		critical: impl.Critical(list),
		ok:       impl.JobOk(list),
	}
}

func wordsOfAll(list, other job, workers int64, changed numbers) toldOfJob {
	farmed := farmByWords(list, workers)
	return toldOfJob{
		results:  resultsByWords(list),
		reused:   reusedByWords(other, list),
		dirty:    dirtyByWords(list, changed),
		farmed:   farmed,
		span:     spanByWords(farmed),
		critical: criticalByWords(list),
		ok:       jobByWords(list),
	}
}

func (a toldOfJob) equals(b toldOfJob) bool {
	return slices.Equal(a.results, b.results) && slices.Equal(a.reused, b.reused) && slices.Equal(a.dirty, b.dirty) && slices.Equal(a.farmed, b.farmed) && a.span == b.span && a.critical == b.critical && a.ok == b.ok
}

func (a toldOfJob) spoil() {
	spoilAll(a.results, numberMark)
	spoilAll(a.reused, numberMark)
	spoilAll(a.dirty, numberMark)
	spoilAll(a.farmed, runMark)
}

// likeJobs have tasks of the same numbers that are unlike, or need others: what is kept of one would be wrong for another.
func likeJobs() []job {
	out := []job{{}, {{}}, manyTasks(mostTasks), full10(mostTasks), chain(mostTasks, 2), loose(mostTasks, 3), graham()}
	base := manyTasks(40)
	for at := range base {
		other := copyJob(base)
		other[at].Value++
		other[at].Cost = dearest + 1 - other[at].Cost
		out = append(out, other, withTask(base, at, costs(1)))
	}
	return append(out, base, base[:20], base[20:])
}

// The answers of a job are the same whatever jobs were asked of ahead of it.
func TestFarmsBehindOthers(t *testing.T) {
	all := likeJobs()
	changed := numbers{0, 3}
	wants := []toldOfJob{}
	for i, list := range all {
		wants = append(wants, wordsOfAll(list, all[len(all)-1-i], 3, changed))
	}
	r := rand.New(rand.NewSource(163))
	for range 3000 {
		i := r.Intn(len(all))
		got := askAll(all[i], all[len(all)-1-i], 3, changed)
		if !got.equals(wants[i]) {
			t.Fatalf("job %d is told another way behind others: %v, want %v", i, got, wants[i])
		}
		got.spoil()
	}
}

// Many ask at once, of the same jobs and of others: each gets the same answers, memory of its own, and none who works is left behind.
func TestFarmsAtOnce(t *testing.T) {
	before := runtime.NumGoroutine()
	all := likeJobs()
	changed := numbers{0, 3}
	wants := []toldOfJob{}
	for i, list := range all {
		wants = append(wants, wordsOfAll(list, all[len(all)-1-i], 5, changed))
	}
	group := sync.WaitGroup{}
	wrong := make([]bool, 48)
	for n := range wrong {
		group.Go(func() {
			for turn := range 60 {
				i := (n/4*7 + turn*(n%4+1)) % len(all)
				got := askAll(all[i], all[len(all)-1-i], 5, changed)
				if !got.equals(wants[i]) {
					wrong[n] = true
				}
				got.spoil()
			}
		})
	}
	group.Wait()
	if slices.Contains(wrong, true) {
		t.Fatalf("a job is told another way where many ask: %v", wrong)
	}
	for range 1000 {
		if runtime.NumGoroutine() <= before {
			return
		}
		time.Sleep(5 * time.Millisecond)
	}
	t.Fatalf("%d goroutines, %d ahead of the calls", runtime.NumGoroutine(), before)
}

// The answers are the same each time, however many can work at once.
func TestFarmsByFewAndMany(t *testing.T) {
	was := runtime.GOMAXPROCS(0)
	defer runtime.GOMAXPROCS(was)
	for _, list := range []job{manyTasks(mostTasks), full10(mostTasks), loose(mostTasks, 9), chain(mostTasks, 5)} {
		want := wordsOfAll(list, list[:100], 7, numbers{5})
		for _, hands := range []int{1, 2, 3, 16} {
			runtime.GOMAXPROCS(hands)
			for range 15 {
				if got := askAll(list, list[:100], 7, numbers{5}); !got.equals(want) {
					t.Fatal(hands, got)
				}
			}
		}
	}
}

// jobFromBytes takes two bytes for each task: the first for Kind and Cost, the second for what it needs of the eight ahead.
func jobFromBytes(b []byte) job {
	out := job{}
	for ; len(b) >= 2; b = b[2:] {
		needs, at := numbers{}, int64(len(out))
		for i := range int64(8) {
			if b[1]>>i&1 == 1 && at >= 8-i {
				needs = append(needs, at-8+i)
			}
		}
		out = append(out, task(int64(b[0]%11), int64(b[0]/32), int64(b[0]/11), needs...))
	}
	return out
}

// FuzzFarm takes bytes for two jobs, and numbers for the workers, for a task that is changed, and for one that is another.
func FuzzFarm(f *testing.F) {
	f.Add([]byte{34, 0, 45, 0, 57, 192, 70, 128}, []byte{34, 0, 46, 0, 57, 192}, int64(2), int64(1), int64(3))
	f.Add([]byte{}, []byte{0, 0}, int64(0), int64(0), int64(-1))
	f.Add([]byte{255, 255, 255, 255, 255, 255}, []byte{11, 7}, int64(mostWorkers+1), int64(math.MinInt64), int64(lastFrame+1))
	f.Fuzz(func(t *testing.T, one, other []byte, workers, changed, value int64) {
		list, now := jobFromBytes(one), jobFromBytes(other)
		checkJob(t, list, workers, 1, 3)
		checkReused(t, list, now)
		checkReused(t, now, list)
		checkDirty(t, list, numbers{changed})
		checkDirty(t, list, numbers{int64(len(now)), 0})
		if len(list) > 0 {
			turned := copyJob(list)
			turned[len(list)/2].Value = value
			checkJob(t, turned, workers)
			checkReused(t, list, turned)
			turned[len(list)/2].Needs = append(turned[len(list)/2].Needs, changed)
			checkJob(t, turned, 2)
		}
		checkSpanIs(t, runs{run(0, 0, 0, value), run(0, 0, 0, changed)}, max(value, changed))
	})
}
