package tests

import (
	"fmt"
	"math"
	"slices"
	"testing"

	"loop.example/g01139/impl"
)

// task is a task with what it needs.
func task(port, latency int64, needs ...int64) impl.Task {
	return impl.Task{Port: port, Latency: latency, Needs: needs}
}

// tasksBy are n tasks, each of them made from its index.
func tasksBy(n int, f func(i int64) impl.Task) []impl.Task {
	tasks := make([]impl.Task, n)
	for i := range tasks {
		tasks[i] = f(int64(i))
	}
	return tasks
}

// someTasks are n tasks on so many ports, with latencies up to the greatest one; each task needs each one before it in so many cases of 100.
func someTasks(roll *dice, n int, ports, latencies, chance int64) []impl.Task {
	return tasksBy(n, func(i int64) impl.Task {
		x := task(roll.below(ports), 1+roll.below(latencies))
		for k := range i {
			if roll.below(100) < chance {
				x.Needs = append(x.Needs, k)
			}
		}
		return x
	})
}

// chainedTasks need the one before them, on all ports in turn.
func chainedTasks(n int, latency int64) []impl.Task {
	return tasksBy(n, func(i int64) impl.Task {
		if i == 0 {
			return task(0, latency)
		}
		return task(i%impl.MaxPorts, latency, i-1)
	})
}

// freeTasks need nothing, on ports in turn.
func freeTasks(n int, ports, latency int64) []impl.Task {
	return tasksBy(n, func(i int64) impl.Task { return task(i%ports, latency) })
}

// manyTasks are lists of up to so many tasks: on one port and on several, with the least and the greatest latencies, and with needs from none to all that there can be.
func manyTasks(most int) [][]impl.Task {
	roll, list := dice(17), [][]impl.Task{nil, {}}
	for n := 1; n <= most; n++ {
		for ports := int64(1); ports <= impl.MaxPorts; ports++ {
			for _, latencies := range []int64{1, 3, impl.MaxLatency} {
				for _, chance := range []int64{0, 10, 25, 50, 100} {
					list = append(list, someTasks(&roll, n, ports, latencies, chance), someTasks(&roll, n, ports, latencies, chance))
				}
			}
			list = append(list, freeTasks(n, ports, 1), freeTasks(n, ports, impl.MaxLatency))
		}
		star := tasksBy(n, func(i int64) impl.Task { return task(i%2, 2, identity(int(min(i, 1)))...) })
		funnel := freeTasks(n, 2, 3)
		funnel[n-1].Needs = identity(n - 1)
		list = append(list, chainedTasks(n, 1), chainedTasks(n, impl.MaxLatency), star, funnel)
	}
	return list
}

// smallTasks are all lists of so many tasks on so many ports with such latencies.
func smallTasks(n int, ports, latencies int64) [][]impl.Task {
	list := [][]impl.Task{nil}
	for i := range n {
		var longer [][]impl.Task
		for _, before := range list {
			for needs := range powerOf(int64(i)) {
				for kind := range ports * latencies {
					x := task(kind%ports, 1+kind/ports)
					for k := range int64(i) {
						if needs/powerOf(k)%2 == 1 {
							x.Needs = append(x.Needs, k)
						}
					}
					longer = append(longer, append(slices.Clone(before), x))
				}
			}
		}
		list = longer
	}
	return list
}

// noTasks are lists that are no tasks, most of them for one field of one task.
func noTasks() [][]impl.Task {
	list := [][]impl.Task{freeTasks(impl.MaxTasks+1, 3, 1), freeTasks(impl.MaxTasks+1, 1, 6), freeTasks(impl.MaxTasks+2, 3, 2), chainedTasks(impl.MaxTasks+1, 1), freeTasks(1000, 3, 1)}
	add := func(change func(x *impl.Task, place int64)) {
		for _, n := range []int{1, 3, impl.MaxTasks} {
			for _, place := range []int{0, n / 2, n - 1} {
				tasks := freeTasks(n, impl.MaxPorts, 1)
				change(&tasks[place], int64(place))
				list = append(list, tasks)
			}
		}
	}
	for _, port := range []int64{math.MinInt64, -impl.MaxPorts, -1, impl.MaxPorts, impl.MaxPorts + 1, 64, powerOf(32), math.MaxInt64} {
		add(func(x *impl.Task, place int64) { x.Port = port })
	}
	for _, latency := range []int64{math.MinInt64, -impl.MaxLatency, -1, 0, impl.MaxLatency + 1, impl.MaxLatency + 2, powerOf(32) + 1, math.MaxInt64} {
		add(func(x *impl.Task, place int64) { x.Latency = latency })
	}
	for _, wrong := range []int64{math.MinInt64, -64, -2, -1, impl.MaxTasks, impl.MaxTasks + 1, 32, 64, powerOf(32), math.MaxInt64} {
		add(func(x *impl.Task, place int64) { x.Needs = []int64{wrong} })
		add(func(x *impl.Task, place int64) { x.Needs = append(identity(int(place)), wrong) })
		add(func(x *impl.Task, place int64) { x.Needs = append([]int64{wrong}, identity(int(place))...) })
	}
	for own := range int64(3) {
		add(func(x *impl.Task, place int64) { x.Needs = []int64{place + own} })
		add(func(x *impl.Task, place int64) { x.Needs = identity(int(place + own + 1)) })
	}
	// These do not ascend, or have an index twice.
	for _, needs := range [][]int64{{0, 0}, {1, 0}, {1, 1}, {0, 2, 1}, {0, 1, 1}, {0, 0, 1}, {2, 1, 0}, {0, 1, 2, 3, 4, 5, 5}, {6, 0}, make([]int64, 1000)} {
		tasks := freeTasks(impl.MaxTasks, impl.MaxPorts, 1)
		tasks[impl.MaxTasks-1].Needs = needs
		list = append(list, tasks)
	}
	return list
}

func TestValidTasks(t *testing.T) {
	for _, tasks := range manyTasks(impl.MaxTasks) {
		if !impl.ValidTasks(tasks) {
			t.Errorf("ValidTasks(%v) is false", tasks)
		}
	}
	for port := range int64(impl.MaxPorts) {
		for latency := range int64(impl.MaxLatency) {
			for _, needs := range allSets(impl.MaxTasks - 1) {
				tasks := freeTasks(impl.MaxTasks, 1, 1)
				tasks[impl.MaxTasks-1] = task(port, latency+1, needs...)
				if !impl.ValidTasks(tasks) {
					t.Errorf("ValidTasks(%v) is false", tasks)
				}
			}
		}
	}
	for _, tasks := range noTasks() {
		if impl.ValidTasks(tasks) {
			t.Errorf("ValidTasks(%v) is true", tasks)
		}
	}
}

// allSets are all sets of indices less than n: fewer indices come before more, and as many in lexicographic order.
func allSets(n int) [][]int64 {
	sets := [][]int64{nil}
	for i := range int64(n) {
		for _, set := range slices.Clone(sets) {
			sets = append(sets, append(slices.Clone(set), i))
		}
	}
	slices.SortFunc(sets, func(a, b []int64) int {
		if len(a) != len(b) {
			return len(a) - len(b)
		}
		return slices.Compare(a, b)
	})
	return sets
}

// isScheduleBy is what the document says of times.
func isScheduleBy(tasks []impl.Task, times []int64) bool {
	if len(times) != len(tasks) {
		return false
	}
	for i, x := range tasks {
		if times[i] < 0 || times[i] > 200 {
			return false
		}
		for k, y := range tasks[:i] {
			if x.Port == y.Port && times[i] == times[k] {
				return false
			}
		}
		for _, n := range x.Needs {
			if times[i]-times[n] < tasks[n].Latency {
				return false
			}
		}
	}
	return true
}

// lengthBy is the length of a schedule.
func lengthBy(tasks []impl.Task, times []int64) int64 {
	length := int64(0)
	for i, x := range tasks {
		length = max(length, times[i]+x.Latency)
	}
	return length
}

// checkTimes holds IsSchedule and LengthOf against the document.
func checkTimes(t *testing.T, tasks []impl.Task, times []int64) {
	t.Helper()
	want, length := isScheduleBy(tasks, times), int64(0)
	if want {
		length = lengthBy(tasks, times)
	}
	got, ok := impl.LengthOf(tasks, times)
	if impl.IsSchedule(tasks, times) != want || ok != want || got != length {
		t.Fatalf("%v are a schedule of %v: %v, with the length %d, %v, want %v, %d", times, tasks, impl.IsSchedule(tasks, times), got, ok, want, length)
	}
}

func TestIsSchedule(t *testing.T) {
	for _, tasks := range smallTasks(3, 2, 2) {
		for _, times := range allLists(3, 4) {
			checkTimes(t, tasks, times)
		}
	}
	roll := dice(3)
	for _, tasks := range manyTasks(impl.MaxTasks) {
		// In the first list, no task is too early; the others change the time of one task, and the last ones are anything.
		fine := lanesBy(len(tasks), func(i int) int64 { return int64(i) * impl.MaxLatency })
		checkTimes(t, tasks, fine)
		for i := range fine {
			for _, time := range []int64{math.MinInt64, -1, 0, 1, 5, 6, 7, 41, 42, 43, 195, 199, 200, 201, powerOf(32), math.MaxInt64} {
				times := slices.Clone(fine)
				times[i] = time
				checkTimes(t, tasks, times)
			}
		}
		for range 20 {
			checkTimes(t, tasks, lanesBy(len(tasks), func(int) int64 { return roll.below(30) }))
		}
		for _, times := range [][]int64{append(slices.Clone(fine), 100), append(slices.Clone(fine), 100, 101), fine[:max(len(fine), 1)-1], make([]int64, 1000)} {
			checkTimes(t, tasks, times)
		}
	}
}

func TestIsScheduleByHand(t *testing.T) {
	two, apart := []impl.Task{task(1, 3), task(1, 1)}, []impl.Task{task(1, 3), task(2, 1)}
	chain, both := []impl.Task{task(0, 6), task(1, 1, 0)}, []impl.Task{task(0, 2), task(1, 4), task(2, 1, 0, 1)}
	cases := []struct {
		tasks  []impl.Task
		times  []int64
		want   bool
		length int64
	}{
		{nil, nil, true, 0}, {nil, []int64{}, true, 0}, {nil, []int64{0}, false, 0},
		{two[:1], []int64{0}, true, 3}, {two[:1], []int64{200}, true, 203}, {two[:1], []int64{201}, false, 0}, {two[:1], []int64{-1}, false, 0}, {two[:1], nil, false, 0}, {two[:1], []int64{0, 1}, false, 0},
		{freeTasks(1, 1, 6), []int64{200}, true, 206},
		// One time stands twice on one port, and on different ones.
		{two, []int64{0, 1}, true, 3}, {two, []int64{0, 0}, false, 0}, {two, []int64{1, 0}, true, 4}, {two, []int64{200, 200}, false, 0}, {two, []int64{199, 200}, true, 202},
		{apart, []int64{0, 0}, true, 3}, {apart, []int64{200, 200}, true, 203}, {apart, []int64{0, 2}, true, 3}, {apart, []int64{0, 3}, true, 4},
		// A time is just the end of a needed task, and one before it.
		{chain, []int64{0, 6}, true, 7}, {chain, []int64{0, 5}, false, 0}, {chain, []int64{1, 6}, false, 0}, {chain, []int64{194, 200}, true, 201}, {chain, []int64{195, 200}, false, 0}, {chain, []int64{195, 201}, false, 0}, {chain, []int64{6, 0}, false, 0}, {chain, []int64{0, 0}, false, 0},
		{both, []int64{0, 0, 4}, true, 5}, {both, []int64{0, 0, 3}, false, 0}, {both, []int64{2, 0, 4}, true, 5}, {both, []int64{3, 0, 4}, false, 0},
		// Only the task with the needed one's index counts, and not each one before.
		{[]impl.Task{task(0, 6), task(1, 1), task(2, 1, 1)}, []int64{0, 0, 1}, true, 6},
		{freeTasks(8, 1, 1), []int64{7, 6, 5, 4, 3, 2, 1, 0}, true, 8}, {freeTasks(8, 1, 1), []int64{7, 6, 5, 4, 3, 2, 1, 7}, false, 0},
		{freeTasks(8, 1, 1), identity(7), false, 0}, {freeTasks(8, 1, 1), identity(9), false, 0},
	}
	for _, c := range cases {
		length, ok := impl.LengthOf(c.tasks, c.times)
		if impl.IsSchedule(c.tasks, c.times) != c.want || ok != c.want || length != c.length {
			t.Errorf("%v are a schedule of %v: %v, with the length %d, %v, want %v, %d", c.times, c.tasks, impl.IsSchedule(c.tasks, c.times), length, ok, c.want, c.length)
		}
	}
}

// heightBy is the height of a task as the document words it.
func heightBy(tasks []impl.Task, i int) int64 {
	most := int64(0)
	for k, x := range tasks {
		if slices.Contains(x.Needs, int64(i)) {
			most = max(most, heightBy(tasks, k))
		}
	}
	return tasks[i].Latency + most
}

func heightsBy(tasks []impl.Task) []int64 {
	return lanesBy(len(tasks), func(i int) int64 { return heightBy(tasks, i) })
}

// portBy is the greatest bound of a port that has tasks.
func portBy(tasks []impl.Task) int64 {
	most := int64(0)
	for port := range int64(3) {
		var latencies []int64
		for _, x := range tasks {
			if x.Port == port {
				latencies = append(latencies, x.Latency)
			}
		}
		if len(latencies) > 0 {
			most = max(most, int64(len(latencies))+slices.Min(latencies)-1)
		}
	}
	return most
}

func TestBounds(t *testing.T) {
	for _, tasks := range slices.Concat(manyTasks(impl.MaxTasks), smallTasks(3, 3, 2)) {
		want := heightsBy(tasks)
		heights, ok := impl.HeightsOf(tasks)
		wantList(t, fmt.Sprintf("HeightsOf(%v)", tasks), heights, ok, want)
		path, ok := impl.PathBound(tasks)
		if !ok || path != slices.Max(append(want, 0)) {
			t.Errorf("PathBound(%v) = %d, %v", tasks, path, ok)
		}
		port, ok := impl.PortBound(tasks)
		if !ok || port != portBy(tasks) {
			t.Errorf("PortBound(%v) = %d, %v, want %d", tasks, port, ok, portBy(tasks))
		}
	}
}

func TestBoundsByHand(t *testing.T) {
	cases := []struct {
		tasks      []impl.Task
		heights    []int64
		path, port int64
	}{
		{nil, nil, 0, 0}, {freeTasks(1, 1, 1), []int64{1}, 1, 1}, {[]impl.Task{task(2, 6)}, []int64{6}, 6, 6},
		// The bound of a port is greater than the longest path, and the other way round.
		{freeTasks(8, 1, 1), []int64{1, 1, 1, 1, 1, 1, 1, 1}, 1, 8}, {freeTasks(8, 1, 6), []int64{6, 6, 6, 6, 6, 6, 6, 6}, 6, 13}, {freeTasks(8, 3, 6), []int64{6, 6, 6, 6, 6, 6, 6, 6}, 6, 8},
		{chainedTasks(8, 6), []int64{48, 42, 36, 30, 24, 18, 12, 6}, 48, 8}, {chainedTasks(8, 1), []int64{8, 7, 6, 5, 4, 3, 2, 1}, 8, 3},
		// The least latency of a port counts, wherever it stands, and each port by itself.
		{[]impl.Task{task(0, 3), task(0, 1)}, []int64{3, 1}, 3, 2}, {[]impl.Task{task(0, 2), task(0, 5), task(1, 1)}, []int64{2, 5, 1}, 5, 3}, {[]impl.Task{task(1, 1), task(2, 5), task(2, 4), task(2, 6)}, []int64{1, 5, 4, 6}, 6, 6},
		// The height of a task follows the highest of those that need it, also over others.
		{[]impl.Task{task(0, 1), task(0, 1), task(0, 2, 1)}, []int64{1, 3, 2}, 3, 3}, {[]impl.Task{task(0, 2), task(1, 1, 0), task(2, 5, 0), task(0, 3, 1)}, []int64{7, 4, 5, 3}, 7, 5},
		{[]impl.Task{task(0, 1), task(1, 4), task(2, 2, 0, 1)}, []int64{3, 6, 2}, 6, 4}, {[]impl.Task{task(0, 1), task(1, 1, 0), task(1, 6, 0, 1)}, []int64{8, 7, 6}, 8, 2},
	}
	for _, c := range cases {
		heights, ok := impl.HeightsOf(c.tasks)
		wantList(t, fmt.Sprintf("HeightsOf(%v)", c.tasks), heights, ok, c.heights)
		path, one := impl.PathBound(c.tasks)
		port, two := impl.PortBound(c.tasks)
		if !one || !two || path != c.path || port != c.port {
			t.Errorf("the bounds of %v are %d, %v and %d, %v, want %d and %d", c.tasks, path, one, port, two, c.path, c.port)
		}
	}
}

// listBy gives times as the document words it, from 0 on.
func listBy(tasks []impl.Task) []int64 {
	times := lanesBy(len(tasks), func(int) int64 { return -1 })
	for time := int64(0); slices.Contains(times, -1); time++ {
		for port := range int64(3) {
			chosen := -1
			for i, x := range tasks {
				waits := x.Port != port || times[i] >= 0
				for _, n := range x.Needs {
					waits = waits || times[n] < 0 || times[n]+tasks[n].Latency > time
				}
				if !waits && (chosen < 0 || heightBy(tasks, i) > heightBy(tasks, chosen)) {
					chosen = i
				}
			}
			if chosen >= 0 {
				times[chosen] = time
			}
		}
	}
	return times
}

// firstBy is the lexicographically least schedule that is no longer than a length: all times are tried in order, those of the first task last.
func firstBy(tasks []impl.Task, length int64) ([]int64, bool) {
	heights, times := heightsBy(tasks), []int64{}
	var extend func() bool
	extend = func() bool {
		i := len(times)
		if i == len(tasks) {
			return true
		}
		for time := int64(0); time+heights[i] <= length; time++ {
			times = append(times, time)
			if isScheduleBy(tasks[:i+1], times) && extend() {
				return true
			}
			times = times[:i]
		}
		return false
	}
	found := extend()
	return times, found
}

// bestBy tries all lengths from 0 on.
func bestBy(tasks []impl.Task) ([]int64, int64) {
	for length := int64(0); ; length++ {
		if times, ok := firstBy(tasks, length); ok {
			return times, length
		}
	}
}

// checkSchedules holds both schedules against the document, and against each other and the bounds.
func checkSchedules(t *testing.T, tasks []impl.Task) {
	t.Helper()
	list, ok := impl.ListSchedule(tasks)
	wantList(t, fmt.Sprintf("ListSchedule(%v)", tasks), list, ok, listBy(tasks))
	times, length := bestBy(tasks)
	best, least, ok := impl.BestSchedule(tasks)
	wantList(t, fmt.Sprintf("BestSchedule(%v)", tasks), best, ok, times)
	path, _ := impl.PathBound(tasks)
	port, _ := impl.PortBound(tasks)
	most, fine := impl.LengthOf(tasks, list)
	got, exact := impl.LengthOf(tasks, best)
	if least != length || !exact || got != length || !fine || most < length || path > length || port > length {
		t.Fatalf("BestSchedule(%v) has the length %d, want %d; LengthOf is %d, %v, that of the other schedule %d, %v, and the bounds are %d and %d", tasks, least, length, got, exact, most, fine, path, port)
	}
}

func TestSchedules(t *testing.T) {
	for _, tasks := range slices.Concat(manyTasks(impl.MaxTasks), smallTasks(2, 3, 6), smallTasks(3, 3, 3), smallTasks(4, 2, 2)) {
		checkSchedules(t, tasks)
	}
}

// TestScheduleOrder gives tasks in which the best schedule is lexicographically less than the one by heights, or shorter.
func TestScheduleOrder(t *testing.T) {
	roll, lesser, shorter := dice(23), 0, 0
	for range 1500 {
		tasks := someTasks(&roll, 5+int(roll.below(4)), 2+roll.below(2), 1+roll.below(3), 20+roll.below(20))
		checkSchedules(t, tasks)
		list, _ := impl.ListSchedule(tasks)
		best, length, _ := impl.BestSchedule(tasks)
		if most, _ := impl.LengthOf(tasks, list); most > length {
			shorter++
		} else if slices.Compare(best, list) < 0 {
			lesser++
		}
	}
	if lesser < 100 || shorter < 10 {
		t.Errorf("only %d best schedules are less, and %d shorter", lesser, shorter)
	}
}

func TestSchedulesByHand(t *testing.T) {
	cases := []struct {
		tasks      []impl.Task
		list, best []int64
		length     int64
	}{
		{nil, nil, nil, 0}, {freeTasks(1, 1, 6), []int64{0}, []int64{0}, 6},
		{[]impl.Task{task(0, 3), task(0, 1)}, []int64{0, 1}, []int64{0, 1}, 3}, {[]impl.Task{task(0, 1), task(0, 3)}, []int64{1, 0}, []int64{1, 0}, 3},
		{[]impl.Task{task(0, 1), task(0, 1), task(0, 2, 1)}, []int64{2, 0, 1}, []int64{2, 0, 1}, 3},
		// Ports do not wait for one another, but their tasks for what they need.
		{freeTasks(3, 3, 2), []int64{0, 0, 0}, []int64{0, 0, 0}, 2}, {freeTasks(8, 3, 1), []int64{0, 0, 0, 1, 1, 1, 2, 2}, []int64{0, 0, 0, 1, 1, 1, 2, 2}, 3}, {freeTasks(8, 1, 6), identity(8), identity(8), 13},
		{chainedTasks(8, 6), []int64{0, 6, 12, 18, 24, 30, 36, 42}, []int64{0, 6, 12, 18, 24, 30, 36, 42}, 48}, {chainedTasks(8, 1), identity(8), identity(8), 8},
		{[]impl.Task{task(0, 2), task(1, 4), task(2, 1, 0, 1)}, []int64{0, 0, 4}, []int64{0, 0, 4}, 5}, {[]impl.Task{task(0, 2), task(0, 4), task(0, 1, 0, 1)}, []int64{1, 0, 4}, []int64{1, 0, 4}, 5},
		// Of tasks with the same height, the first one comes first.
		{[]impl.Task{task(1, 2), task(1, 1), task(1, 2), task(1, 1)}, []int64{0, 2, 1, 3}, []int64{0, 1, 2, 3}, 4}, {[]impl.Task{task(1, 2), task(1, 1), task(1, 1, 1)}, []int64{0, 1, 2}, []int64{0, 1, 2}, 3},
		// A low task that is first in the list need not come later in the best schedule, as long as another port takes longer.
		{[]impl.Task{task(0, 1), task(0, 2), task(1, 6)}, []int64{1, 0, 0}, []int64{0, 1, 0}, 6}, {[]impl.Task{task(0, 1), task(0, 2), task(1, 2)}, []int64{1, 0, 0}, []int64{1, 0, 0}, 2},
		{[]impl.Task{task(0, 1), task(0, 2), task(1, 4), task(1, 1)}, []int64{1, 0, 0, 1}, []int64{0, 1, 0, 1}, 4},
		// The second task is needed by two on one port: it should come first, although both first ones have the same height.
		{[]impl.Task{task(0, 1), task(0, 1), task(2, 1, 0), task(1, 1, 1), task(1, 1, 1)}, []int64{0, 1, 1, 2, 3}, []int64{1, 0, 2, 1, 2}, 3},
		// While the last one waits for its need, a port has nothing to do.
		{[]impl.Task{task(0, 5), task(0, 1), task(0, 1, 0)}, []int64{0, 1, 5}, []int64{0, 1, 5}, 6}, {[]impl.Task{task(0, 1), task(0, 6), task(0, 1, 1)}, []int64{1, 0, 6}, []int64{1, 0, 6}, 7},
	}
	for _, c := range cases {
		list, ok := impl.ListSchedule(c.tasks)
		wantList(t, fmt.Sprintf("ListSchedule(%v)", c.tasks), list, ok, c.list)
		best, length, ok := impl.BestSchedule(c.tasks)
		wantList(t, fmt.Sprintf("BestSchedule(%v)", c.tasks), best, ok, c.best)
		if length != c.length {
			t.Errorf("BestSchedule(%v) has the length %d, want %d", c.tasks, length, c.length)
		}
	}
}

// isOrderBy is what the document says of an order.
func isOrderBy(tasks []impl.Task, order []int64) bool {
	sorted := slices.Clone(order)
	slices.Sort(sorted)
	if !slices.Equal(sorted, identity(len(tasks))) {
		return false
	}
	for i, x := range tasks {
		for _, n := range x.Needs {
			if slices.Index(order, int64(i)) < slices.Index(order, n) {
				return false
			}
		}
	}
	return true
}

// pressureBy counts, behind each task, the values of those up to it that a later one needs.
func pressureBy(tasks []impl.Task, order []int64) int64 {
	most := int64(0)
	for k := range order {
		live := int64(0)
		for _, maker := range order[:k+1] {
			if slices.ContainsFunc(order[k+1:], func(later int64) bool { return slices.Contains(tasks[later].Needs, maker) }) {
				live++
			}
		}
		most = max(most, live)
	}
	return most
}

// checkPressures holds the functions with orders against all lists of the indices of tasks.
func checkPressures(t *testing.T, tasks []impl.Task) {
	t.Helper()
	var best []int64
	least := int64(math.MaxInt64)
	permutations(len(tasks), func(order []int64) {
		want, pressure := isOrderBy(tasks, order), int64(0)
		if want {
			pressure = pressureBy(tasks, order)
			// Lists come in lexicographic order, so the first one with a pressure is the least.
			if pressure < least {
				best, least = order, pressure
			}
		}
		got, ok := impl.PressureOf(tasks, order)
		if impl.IsTaskOrder(tasks, order) != want || ok != want || got != pressure {
			t.Fatalf("%v is an order of %v: %v, with the pressure %d, %v, want %v, %d", order, tasks, impl.IsTaskOrder(tasks, order), got, ok, want, pressure)
		}
	})
	order, pressure, ok := impl.LeastPressure(tasks)
	wantList(t, fmt.Sprintf("LeastPressure(%v)", tasks), order, ok, best)
	if pressure != least {
		t.Fatalf("LeastPressure(%v) is %d, want %d", tasks, pressure, least)
	}
}

func TestPressures(t *testing.T) {
	for _, tasks := range slices.Concat(manyTasks(5), smallTasks(5, 1, 1)) {
		checkPressures(t, tasks)
	}
	roll := dice(29)
	for _, chance := range []int64{20, 35, 50} {
		for range 10 {
			checkPressures(t, someTasks(&roll, 6, 1, 1, chance))
			checkPressures(t, someTasks(&roll, 7, 1, 1, chance))
		}
		checkPressures(t, someTasks(&roll, impl.MaxTasks, impl.MaxPorts, impl.MaxLatency, chance))
	}
}

func TestPressuresByHand(t *testing.T) {
	needing := func(needs ...[]int64) []impl.Task {
		return tasksBy(len(needs), func(i int64) impl.Task { return task(0, 1, needs[i]...) })
	}
	funnel := freeTasks(impl.MaxTasks, 3, 2)
	funnel[7].Needs = identity(7)
	three := needing(nil, nil, nil, []int64{0}, []int64{1}, []int64{2})
	cases := []struct {
		tasks    []impl.Task
		pressure int64
		order    []int64
		least    int64
	}{
		// The pressure is that of the order of the list itself.
		{nil, 0, nil, 0}, {freeTasks(1, 1, 1), 0, []int64{0}, 0}, {freeTasks(8, 3, 2), 0, identity(8), 0}, {chainedTasks(8, 1), 1, identity(8), 1}, {chainedTasks(2, 6), 1, identity(2), 1},
		{funnel, 7, identity(8), 7}, {three, 3, []int64{0, 3, 1, 4, 2, 5}, 1},
		{needing(nil, nil, []int64{0}, []int64{1}, []int64{2, 3}), 2, identity(5), 2},
		// A value that several need is one value, live until the last of them.
		{needing(nil, []int64{0}, []int64{0}, []int64{0}), 1, identity(4), 1}, {needing(nil, []int64{0}, []int64{0}, []int64{1}, []int64{2}), 2, identity(5), 2},
		{needing(nil, []int64{0}, nil, []int64{0, 2}), 2, identity(4), 2}, {needing(nil, nil, nil, []int64{0, 1}, []int64{2, 3}), 3, []int64{0, 1, 3, 2, 4}, 2},
		// A value that no task needs is never live; an order may have it anywhere.
		{needing(nil, nil, []int64{0}), 1, identity(3), 1}, {needing(nil, nil, []int64{1}, nil), 1, identity(4), 1}, {needing(nil, nil, []int64{0}, []int64{1}, nil), 2, []int64{0, 2, 1, 3, 4}, 1},
		// The value of a task and the last one that it needs are not live at once.
		{needing(nil, []int64{0}, []int64{1}), 1, identity(3), 1}, {needing(nil, nil, []int64{0, 1}, []int64{2}), 2, identity(4), 2},
	}
	for _, c := range cases {
		pressure, ok := impl.PressureOf(c.tasks, identity(len(c.tasks)))
		if !ok || pressure != c.pressure {
			t.Errorf("PressureOf(%v) is %d, %v, want %d", c.tasks, pressure, ok, c.pressure)
		}
		order, least, ok := impl.LeastPressure(c.tasks)
		wantList(t, fmt.Sprintf("LeastPressure(%v)", c.tasks), order, ok, c.order)
		if least != c.least {
			t.Errorf("LeastPressure(%v) is %d, want %d", c.tasks, least, c.least)
		}
	}
}

func TestNoTaskOrders(t *testing.T) {
	two, three := freeTasks(2, 1, 1), []impl.Task{task(0, 1), task(1, 1, 0), task(0, 2)}
	for _, order := range [][]int64{{0, 1, 2}, {0, 2, 1}, {2, 0, 1}} {
		if pressure, ok := impl.PressureOf(three, order); !impl.IsTaskOrder(three, order) || !ok || pressure != 1 {
			t.Errorf("IsTaskOrder(%v, %v) is false, or the pressure is %d, %v", three, order, pressure, ok)
		}
	}
	cases := []struct {
		tasks []impl.Task
		order []int64
	}{
		{nil, []int64{0}}, {two, nil}, {two, []int64{0}}, {two, []int64{1}}, {two, []int64{0, 0}}, {two, []int64{1, 1}}, {two, []int64{0, 1, 1}}, {two, []int64{0, 1, 2}}, {two, []int64{0, 1, 0}},
		{two, []int64{0, 2}}, {two, []int64{2, 1}}, {two, []int64{-1, 0}}, {two, []int64{0, -1}}, {two, []int64{0, math.MinInt64}}, {two, []int64{math.MaxInt64, 1}}, {two, []int64{powerOf(32), 1}}, {two, []int64{64, 65}}, {two, make([]int64, 1000)},
		{three, []int64{1, 0, 2}}, {three, []int64{1, 2, 0}}, {three, []int64{2, 1, 0}}, {three, []int64{0, 1}}, {three, []int64{0, 1, 3}}, {three, []int64{0, 1, 1}}, {three, []int64{0, 0, 1}},
		{chainedTasks(8, 1), append(identity(7), 6)}, {chainedTasks(8, 1), identity(7)}, {chainedTasks(8, 1), identity(9)}, {chainedTasks(8, 1), []int64{0, 1, 2, 3, 4, 5, 7, 6}},
	}
	for _, c := range cases {
		if pressure, ok := impl.PressureOf(c.tasks, c.order); impl.IsTaskOrder(c.tasks, c.order) || ok || pressure != 0 {
			t.Errorf("%v is an order of %v, or PressureOf is %d, %v", c.order, c.tasks, pressure, ok)
		}
	}
}

// life is a range.
func life(from, to int64) impl.Range { return impl.Range{From: from, To: to} }

// rangesBy are n ranges, each of them made from its index.
func rangesBy(n int, f func(i int64) impl.Range) []impl.Range {
	ranges := make([]impl.Range, n)
	for i := range ranges {
		ranges[i] = f(int64(i))
	}
	return ranges
}

// manyRanges are lists of up to so many ranges: within few times and within all, and some in which all ranges stand in some way to the others.
func manyRanges(most int) [][]impl.Range {
	roll, list := dice(31), [][]impl.Range{nil, {}}
	for n := 1; n <= most; n++ {
		for _, times := range []int64{2, 4, 7, 12, 30, impl.MaxTime} {
			for _, longest := range []int64{2, 5, times} {
				list = append(list, rangesBy(n, func(int64) impl.Range {
					from := roll.below(times)
					return life(from, min(from+1+roll.below(longest), times))
				}))
			}
		}
		list = append(list,
			// They only touch, meet in one time, are the same, lie in one another, have the same From, or the same To.
			rangesBy(n, func(i int64) impl.Range { return life(5*i, 5*i+5) }), rangesBy(n, func(i int64) impl.Range { return life(55-5*i, 60-5*i) }),
			rangesBy(n, func(i int64) impl.Range { return life(5*i, 5*i+6) }), rangesBy(n, func(i int64) impl.Range { return life(55-5*i, 61-5*i) }),
			rangesBy(n, func(int64) impl.Range { return life(0, impl.MaxTime) }), rangesBy(n, func(int64) impl.Range { return life(199, impl.MaxTime) }),
			rangesBy(n, func(i int64) impl.Range { return life(i, 100-i) }), rangesBy(n, func(i int64) impl.Range { return life(20-i, 30+i) }),
			rangesBy(n, func(i int64) impl.Range { return life(7, 8+i) }), rangesBy(n, func(i int64) impl.Range { return life(7, 30-i) }), rangesBy(n, func(i int64) impl.Range { return life(i*5%12, 30) }),
		)
	}
	return list
}

// noRanges are lists that are no ranges, most of them for one range.
func noRanges() [][]impl.Range {
	same := func(n int) []impl.Range { return rangesBy(n, func(i int64) impl.Range { return life(i%200, i%200+1) }) }
	list := [][]impl.Range{same(impl.MaxRanges + 1), same(impl.MaxRanges + 2), same(1000)}
	wrong := []impl.Range{
		{}, life(2, 2), life(impl.MaxTime, impl.MaxTime), life(3, 2), life(200, 0), life(1, 0), life(-1, 3), life(-1, 0), life(-2, -1), life(0, -1), life(0, impl.MaxTime+1), life(impl.MaxTime, impl.MaxTime+1), life(impl.MaxTime+1, impl.MaxTime+2), life(impl.MaxTime+1, impl.MaxTime),
		life(math.MinInt64, 1), life(0, math.MaxInt64), life(math.MinInt64, math.MaxInt64), life(math.MaxInt64, math.MinInt64), life(math.MinInt64, math.MinInt64), life(powerOf(32), powerOf(32)+5), life(0, powerOf(32)+5),
	}
	for _, x := range wrong {
		for _, n := range []int{1, 3, impl.MaxRanges} {
			for _, place := range []int{0, n / 2, n - 1} {
				ranges := same(n)
				ranges[place] = x
				list = append(list, ranges)
			}
		}
	}
	return list
}

var noRegisterCounts = []int64{math.MinInt64, -12, -1, impl.MaxRanges + 1, impl.MaxRanges + 2, 32, 64, powerOf(32), powerOf(32) + 1, math.MaxInt64}

func TestValidRanges(t *testing.T) {
	for _, ranges := range append(manyRanges(impl.MaxRanges), []impl.Range{life(0, 1)}, []impl.Range{life(0, 200)}, []impl.Range{life(199, 200)}, []impl.Range{life(1, 199)}) {
		if !impl.ValidRanges(ranges) {
			t.Errorf("ValidRanges(%v) is false", ranges)
		}
	}
	for _, ranges := range noRanges() {
		if impl.ValidRanges(ranges) {
			t.Errorf("ValidRanges(%v) is true", ranges)
		}
	}
}

// widthBy counts the ranges at all times.
func widthBy(ranges []impl.Range) int64 {
	most := int64(0)
	for time := range int64(impl.MaxTime + 1) {
		count := int64(0)
		for _, r := range ranges {
			if r.From <= time && time < r.To {
				count++
			}
		}
		most = max(most, count)
	}
	return most
}

// registersBy gives registers as the document words it; it fails if there is none for some range.
func registersBy(ranges []impl.Range, registers int64) ([]int64, bool) {
	given := lanesBy(len(ranges), func(int) int64 { return -1 })
	for from := range int64(impl.MaxTime) {
		for i, r := range ranges {
			if r.From != from {
				continue
			}
			for given[i] = 0; slices.ContainsFunc(identity(len(ranges)), func(k int64) bool {
				s := ranges[k]
				return int(k) != i && given[k] == given[i] && r.From < r.To && r.From < s.To && s.From < r.To && s.From < s.To
			}); given[i]++ {
			}
			if given[i] >= registers {
				return nil, false
			}
		}
	}
	return given, true
}

// spillsBy is the first of all sets, fewer ranges before more, without which the width is low enough.
func spillsBy(ranges []impl.Range, sets [][]int64, registers int64) []int64 {
	for _, set := range sets {
		var kept []impl.Range
		for i, r := range ranges {
			if !slices.Contains(set, int64(i)) {
				kept = append(kept, r)
			}
		}
		if widthBy(kept) <= registers {
			return set
		}
	}
	return nil
}

// TestRegisters is promise 7 for ranges: with each number of registers, they suffice exactly if the width says so.
func TestRegisters(t *testing.T) {
	for _, ranges := range manyRanges(impl.MaxRanges) {
		want := widthBy(ranges)
		width, ok := impl.WidthOf(ranges)
		if !ok || width != want {
			t.Fatalf("WidthOf(%v) = %d, %v, want %d", ranges, width, ok, want)
		}
		for registers := range int64(impl.MaxRanges + 1) {
			list, ok := impl.AssignRegisters(ranges, registers)
			given, suffice := registersBy(ranges, registers)
			if ok != suffice || suffice != (want <= registers) || !slices.Equal(list, given) {
				t.Fatalf("AssignRegisters(%v, %d) = %v, %v, want %v, %v, with the width %d", ranges, registers, list, ok, given, suffice, want)
			}
			spills, ok := impl.FewestSpills(ranges, registers)
			if !ok || (len(spills) == 0) != suffice || registers == 0 && !slices.Equal(spills, identity(len(ranges))) {
				t.Fatalf("FewestSpills(%v, %d) = %v, %v, with the width %d", ranges, registers, spills, ok, want)
			}
		}
	}
}

// TestFewestSpills tries all sets of ranges.
func TestFewestSpills(t *testing.T) {
	for n := range impl.MaxRanges + 1 {
		sets, roll := allSets(n), dice(n)
		tries := min(60, 3000/len(sets))
		for range max(tries, 1) {
			times := 3 + roll.below(12)
			ranges := rangesBy(n, func(int64) impl.Range {
				from := roll.below(times)
				return life(from, from+1+roll.below(times))
			})
			for registers := range widthBy(ranges) + 1 {
				spills, ok := impl.FewestSpills(ranges, registers)
				wantList(t, fmt.Sprintf("FewestSpills(%v, %d)", ranges, registers), spills, ok, spillsBy(ranges, sets, registers))
			}
		}
	}
}

func TestRangesByHand(t *testing.T) {
	same := rangesBy(impl.MaxRanges, func(int64) impl.Range { return life(0, impl.MaxTime) })
	cases := []struct {
		ranges   []impl.Range
		width    int64
		assigned []int64
		// spills are those with no register, with one, with two and so on.
		spills [][]int64
	}{
		{nil, 0, nil, [][]int64{nil, nil}}, {[]impl.Range{life(0, 200)}, 1, []int64{0}, [][]int64{{0}, nil}}, {[]impl.Range{life(199, 200)}, 1, []int64{0}, [][]int64{{0}, nil}},
		{[]impl.Range{life(0, 2), life(1, 3), life(2, 4)}, 2, []int64{0, 1, 0}, [][]int64{{0, 1, 2}, {1}, nil}},
		// Two that only touch, and two that meet in one time.
		{[]impl.Range{life(0, 2), life(2, 4)}, 1, []int64{0, 0}, [][]int64{{0, 1}, nil}}, {[]impl.Range{life(2, 4), life(0, 2)}, 1, []int64{0, 0}, [][]int64{{0, 1}, nil}},
		{[]impl.Range{life(0, 3), life(2, 4)}, 2, []int64{0, 1}, [][]int64{{0, 1}, {0}, nil}}, {[]impl.Range{life(2, 4), life(0, 3)}, 2, []int64{1, 0}, [][]int64{{0, 1}, {0}, nil}},
		{[]impl.Range{life(0, 1), life(2, 3)}, 1, []int64{0, 0}, [][]int64{{0, 1}, nil}},
		// The same From, in the order of the list; and the same ranges.
		{[]impl.Range{life(1, 5), life(1, 2), life(0, 1)}, 2, []int64{0, 1, 0}, [][]int64{{0, 1, 2}, {0}, nil}}, {[]impl.Range{life(1, 2), life(1, 5), life(0, 3)}, 3, []int64{1, 2, 0}, [][]int64{{0, 1, 2}, {0, 1}, {0}, nil}},
		{[]impl.Range{life(4, 9), life(4, 9), life(4, 9)}, 3, []int64{0, 1, 2}, [][]int64{{0, 1, 2}, {0, 1}, {0}, nil}},
		// The long one meets all others, two of which touch.
		{[]impl.Range{life(0, 10), life(1, 3), life(2, 4), life(3, 5)}, 3, []int64{0, 1, 2, 1}, [][]int64{{0, 1, 2, 3}, {0, 2}, {0}, nil}},
		{[]impl.Range{life(3, 5), life(2, 4), life(1, 3), life(0, 10)}, 3, []int64{1, 2, 1, 0}, [][]int64{{0, 1, 2, 3}, {1, 3}, {1}, nil}},
		// A register is free again where its range ends, and the least free one is taken.
		{[]impl.Range{life(0, 2), life(0, 9), life(0, 3), life(2, 5), life(3, 4)}, 3, []int64{0, 1, 2, 0, 2}, [][]int64{{0, 1, 2, 3, 4}, {0, 1, 3}, {1}, nil}},
		{same, 12, identity(12), [][]int64{identity(12), identity(11), identity(10), identity(9), identity(8), identity(7), identity(6), identity(5), identity(4), identity(3), identity(2), identity(1), nil}},
	}
	for _, c := range cases {
		if width, ok := impl.WidthOf(c.ranges); !ok || width != c.width {
			t.Errorf("WidthOf(%v) = %d, %v, want %d", c.ranges, width, ok, c.width)
		}
		for _, registers := range []int64{c.width, impl.MaxRanges} {
			list, ok := impl.AssignRegisters(c.ranges, registers)
			wantList(t, fmt.Sprintf("AssignRegisters(%v, %d)", c.ranges, registers), list, ok, c.assigned)
		}
		for registers := range c.width {
			if list, ok := impl.AssignRegisters(c.ranges, registers); ok || len(list) != 0 {
				t.Errorf("AssignRegisters(%v, %d) = %v, %v", c.ranges, registers, list, ok)
			}
		}
		for registers, want := range c.spills {
			spills, ok := impl.FewestSpills(c.ranges, int64(registers))
			wantList(t, fmt.Sprintf("FewestSpills(%v, %d)", c.ranges, registers), spills, ok, want)
		}
	}
}

// scheduleArgs are arguments for all functions of the chapter, which take those that they have.
type scheduleArgs struct {
	tasks        []impl.Task
	times, order []int64
	ranges       []impl.Range
	registers    int64
}

// scheduleCall is a function of the chapter; what it takes besides tasks or ranges is times, an order or registers.
type scheduleCall struct {
	name, takes string
	run         func(x scheduleArgs) (list []int64, number int64, ok bool)
}

func onlyList(list []int64, ok bool) ([]int64, int64, bool) { return list, 0, ok }

func onlyNumber(n int64, ok bool) ([]int64, int64, bool) { return nil, n, ok }

var scheduleCalls = []scheduleCall{
	{"ValidTasks", "tasks", func(x scheduleArgs) ([]int64, int64, bool) { return nil, 0, impl.ValidTasks(x.tasks) }},
	{"IsSchedule", "tasks times", func(x scheduleArgs) ([]int64, int64, bool) { return nil, 0, impl.IsSchedule(x.tasks, x.times) }},
	{"LengthOf", "tasks times", func(x scheduleArgs) ([]int64, int64, bool) { return onlyNumber(impl.LengthOf(x.tasks, x.times)) }},
	{"PathBound", "tasks", func(x scheduleArgs) ([]int64, int64, bool) { return onlyNumber(impl.PathBound(x.tasks)) }},
	{"PortBound", "tasks", func(x scheduleArgs) ([]int64, int64, bool) { return onlyNumber(impl.PortBound(x.tasks)) }},
	{"HeightsOf", "tasks", func(x scheduleArgs) ([]int64, int64, bool) { return onlyList(impl.HeightsOf(x.tasks)) }},
	{"ListSchedule", "tasks", func(x scheduleArgs) ([]int64, int64, bool) { return onlyList(impl.ListSchedule(x.tasks)) }},
	{"BestSchedule", "tasks", func(x scheduleArgs) ([]int64, int64, bool) { return impl.BestSchedule(x.tasks) }},
	{"IsTaskOrder", "tasks order", func(x scheduleArgs) ([]int64, int64, bool) { return nil, 0, impl.IsTaskOrder(x.tasks, x.order) }},
	{"PressureOf", "tasks order", func(x scheduleArgs) ([]int64, int64, bool) { return onlyNumber(impl.PressureOf(x.tasks, x.order)) }},
	{"LeastPressure", "tasks", func(x scheduleArgs) ([]int64, int64, bool) { return impl.LeastPressure(x.tasks) }},
	{"ValidRanges", "ranges", func(x scheduleArgs) ([]int64, int64, bool) { return nil, 0, impl.ValidRanges(x.ranges) }},
	{"WidthOf", "ranges", func(x scheduleArgs) ([]int64, int64, bool) { return onlyNumber(impl.WidthOf(x.ranges)) }},
	{"AssignRegisters", "ranges registers", func(x scheduleArgs) ([]int64, int64, bool) {
		return onlyList(impl.AssignRegisters(x.ranges, x.registers))
	}},
	{"FewestSpills", "ranges registers", func(x scheduleArgs) ([]int64, int64, bool) { return onlyList(impl.FewestSpills(x.ranges, x.registers)) }},
}

// fittingSchedule has times and an order for so many tasks, if nothing but their number is wrong.
func fittingSchedule(tasks []impl.Task, ranges []impl.Range) scheduleArgs {
	times := lanesBy(len(tasks), func(i int) int64 { return int64(i) * 8 })
	return scheduleArgs{tasks, times, identity(len(tasks)), ranges, impl.MaxRanges}
}

// TestSchedulesFail changes one argument after another: other results must be zero values then.
func TestSchedulesFail(t *testing.T) {
	fineTasks, fineRanges := []impl.Task{task(0, 2), task(0, 3, 0), task(1, 4, 0)}, []impl.Range{life(0, 5), life(3, 9)}
	for _, c := range scheduleCalls {
		refuse := func(x scheduleArgs) {
			t.Helper()
			if list, number, ok := c.run(x); ok || len(list) != 0 || number != 0 {
				t.Errorf("%s of %v is %v, %d, %v", c.name, x, list, number, ok)
			}
		}
		if list, number, ok := c.run(fittingSchedule(fineTasks, fineRanges)); !ok {
			t.Fatalf("%s of fitting arguments is %v, %d, %v", c.name, list, number, ok)
		}
		if c.takes[0] == 't' {
			for _, tasks := range noTasks() {
				refuse(fittingSchedule(tasks, fineRanges))
			}
		} else {
			for _, ranges := range noRanges() {
				refuse(fittingSchedule(fineTasks, ranges))
			}
		}
		switch c.takes {
		case "tasks times":
			for _, times := range [][]int64{nil, {0}, {0, 2}, {0, 2, 2, 2}, {0, 2, 2, 300}, {-1, 2, 2}, {0, 2, -1}, {0, 2, 201}, {0, 2, math.MaxInt64}, {math.MinInt64, 2, 2}, {math.MaxInt64, 2, 2}, {0, 0, 2}, {0, 1, 2}, {0, 2, 1}, make([]int64, 1000)} {
				refuse(scheduleArgs{tasks: fineTasks, times: times})
			}
		case "tasks order":
			for _, order := range append(noIndices(3, 3), nil, []int64{0, 1}, []int64{0, 1, 2, 3}, []int64{0, 1, 2, 2}, []int64{0, 1, 1}, []int64{1, 0, 2}, make([]int64, 1000)) {
				refuse(scheduleArgs{tasks: fineTasks, order: order})
			}
		case "ranges registers":
			for _, registers := range noRegisterCounts {
				refuse(scheduleArgs{ranges: fineRanges, registers: registers})
				refuse(scheduleArgs{registers: registers})
			}
		}
	}
	for registers := range int64(2) {
		if list, ok := impl.AssignRegisters(fineRanges, registers); ok || len(list) != 0 {
			t.Errorf("AssignRegisters(%v, %d) = %v, %v", fineRanges, registers, list, ok)
		}
	}
}

// roomyTasks returns tasks with unused capacity, which their needs have, too, and what looks at all of their memory.
func roomyTasks(tasks []impl.Task) ([]impl.Task, func() string) {
	all, needs := make([]impl.Task, 0, len(tasks)+9), [][]int64{}
	for _, x := range tasks {
		var memory []int64
		x.Needs, memory = roomy(x.Needs)
		all, needs = append(all, x), append(needs, memory)
	}
	all = append(all, slices.Repeat([]impl.Task{task(7, 77, 777)}, 9)...)
	return all[:len(tasks)], func() string { return fmt.Sprint(all, needs) }
}

// TestSchedulesStayEqual is promise 1 for this chapter: no call changes an argument, and no result shares memory with an argument or another result.
func TestSchedulesStayEqual(t *testing.T) {
	shapes := [][]impl.Task{nil, freeTasks(1, 1, 1), chainedTasks(8, 6), freeTasks(8, 2, 3), {task(0, 1), task(0, 1), task(2, 1, 0), task(1, 1, 1), task(1, 1, 1)}, {task(0, 1), task(0, 2), task(1, 6)}}
	ranges := append(rangesBy(11, func(i int64) impl.Range { return life(30-i, 40+i*i) }), life(0, 7))
	for _, shape := range shapes {
		for _, c := range scheduleCalls {
			x := fittingSchedule(shape, nil)
			var look func() string
			var kept [2][]int64
			x.tasks, look = roomyTasks(x.tasks)
			x.times, kept[0] = roomy(x.times)
			x.order, kept[1] = roomy(x.order)
			all := append(slices.Clone(ranges), slices.Repeat([]impl.Range{life(9, 99)}, 20)...)
			x.ranges = all[:len(ranges)]
			before := look() + fmt.Sprint(kept, all)
			first, number, ok := c.run(x)
			want := fmt.Sprint(first)
			second, again, fine := c.run(x)
			if !ok || !fine || number != again || fmt.Sprint(second) != want {
				t.Fatalf("%s of %v returns %v, %d, %v and then %v, %d, %v", c.name, x, want, number, ok, second, again, fine)
			}
			overwrite(first)
			third, _, _ := c.run(x)
			if fmt.Sprint(second) != want || fmt.Sprint(third) != want {
				t.Errorf("%s of %v: results share memory: %v and %v, want %s", c.name, x, second, third, want)
			}
			if after := look() + fmt.Sprint(kept, all); after != before {
				t.Errorf("%s changes its arguments from %s to %s", c.name, before, after)
			}
		}
	}
}

func TestScheduleConstants(t *testing.T) {
	got := []int64{impl.MaxTasks, impl.MaxPorts, impl.MaxLatency, impl.MaxRanges, impl.MaxTime}
	if want := []int64{8, 3, 6, 12, 200}; !slices.Equal(got, want) {
		t.Errorf("the constants are %v, want %v", got, want)
	}
}
