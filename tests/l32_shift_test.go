package tests

import (
	"math"
	"math/rand"
	"slices"
	"testing"

	"loop.example/g00991/impl"
)

// shifts takes the guard, From and To by turns.
func shifts(numbers ...int) []impl.Shift {
	var list []impl.Shift
	for i := 0; i+2 < len(numbers); i += 3 {
		list = append(list, impl.Shift{Guard: numbers[i], From: numbers[i+1], To: numbers[i+2]})
	}
	return list
}

// times are shifts of the guard 0; they take From and To by turns.
func times(numbers ...int) []impl.Shift {
	var list []impl.Shift
	for i := 0; i+1 < len(numbers); i += 2 {
		list = append(list, impl.Shift{From: numbers[i], To: numbers[i+1]})
	}
	return list
}

func badShifts() []impl.Shift {
	bad := shifts(0, 0, 0, 3, 5, 5, 3, 6, 5, 0, 10000, 10000, 20, 10000, 0)
	for _, n := range outside(0, 20) {
		bad = append(bad, impl.Shift{Guard: n, From: 3, To: 5})
	}
	for _, n := range outside(0, 10000) {
		bad = append(bad, shifts(3, n, 10000, 3, 0, n, 3, n, n, 3, n, n+1)...)
	}
	return bad
}

func isShift(s impl.Shift) bool {
	isMoment := func(n int) bool { return n == min(max(n, 0), 10000) }
	return s.Guard == min(max(s.Guard, 0), 20) && isMoment(s.From) && isMoment(s.To) && max(s.From, s.To-1) == s.To-1
}

func areShifts(list []impl.Shift) bool {
	for _, s := range list {
		if len(list) > 20 || !isShift(s) {
			return false
		}
	}
	return true
}

// doRest marks the moments of each guard, with the rest behind each shift; the program compares the ends.
func doRest(list []impl.Shift, rest int) bool {
	if !areShifts(list) || rest != min(max(rest, 0), 1000) {
		return false
	}
	taken := map[[2]int]bool{}
	for _, s := range list {
		for moment := s.From; moment < s.To+rest; moment++ {
			if taken[[2]int{s.Guard, moment}] {
				return false
			}
			taken[[2]int{s.Guard, moment}] = true
		}
	}
	return true
}

// filledBy goes from moment to moment, and looks at all shifts that a guard has so far; the program sorts the shifts.
func filledBy(list []impl.Shift, rest int) []int {
	if !areShifts(list) || rest != min(max(rest, 0), 1000) {
		return nil
	}
	guards := slices.Repeat([]int{-1}, len(list))
	for moment := 0; moment <= 10000; moment++ {
		for k, s := range list {
			for s.From == moment && guards[k] < 0 {
				guard := 0
				for i := 0; i < len(list); i++ {
					if guards[i] == guard && list[i].To+rest > moment {
						guard, i = guard+1, -1
					}
				}
				guards[k] = guard
			}
		}
	}
	return guards
}

// mostAtOnce returns how many shifts, each with the rest behind it, there are at most at one moment.
func mostAtOnce(list []impl.Shift, rest int) int {
	most := 0
	for _, s := range list {
		count := 0
		for _, other := range list {
			if other.From <= s.From && s.From < other.To+rest {
				count++
			}
		}
		most = max(most, count)
	}
	return most
}

func withGuards(list []impl.Shift, guards []int) []impl.Shift {
	list = slices.Clone(list)
	for k, guard := range guards {
		list[k].Guard = guard
	}
	return list
}

func TestShiftOk(t *testing.T) {
	for _, s := range shifts(0, 0, 1, 20, 0, 10000, 0, 9999, 10000, 7, 3, 4) {
		if !impl.ShiftOk(s) || !isShift(s) {
			t.Errorf("ShiftOk(%v) = false", s)
		}
	}
	for _, s := range badShifts() {
		if impl.ShiftOk(s) || isShift(s) {
			t.Errorf("ShiftOk(%v) = true", s)
		}
	}
}

func TestShiftsOk(t *testing.T) {
	row := times()
	for k := range 21 {
		row = append(row, impl.Shift{From: 10 * k, To: 10*k + 10})
	}
	for _, c := range []struct {
		name string
		list []impl.Shift
		rest int
		want bool
	}{
		{"no shifts", nil, 5, true},
		{"no shifts, but memory", []impl.Shift{}, 0, true},
		{"one shift", times(3, 9), 1000, true},
		{"two that touch, no rest", times(3, 9, 9, 12), 0, true},
		{"two that touch, rest 1", times(3, 9, 9, 12), 1, false},
		{"two that touch, the later one first", times(9, 12, 3, 9), 0, true},
		{"two that touch, the later one first, rest 1", times(9, 12, 3, 9), 1, false},
		{"just the rest between", times(3, 9, 14, 15), 5, true},
		{"one moment more of rest", times(3, 9, 14, 15), 6, false},
		{"just the rest between, the later one first", times(14, 15, 3, 9), 5, true},
		{"one moment more of rest, the later one first", times(14, 15, 3, 9), 6, false},
		{"two that overlap", times(3, 9, 8, 12), 0, false},
		{"one within the other", times(3, 9, 4, 5), 0, false},
		{"around the other", times(4, 5, 3, 9), 0, false},
		{"the same shift twice", times(3, 9, 3, 9), 0, false},
		{"two that begin together", times(3, 9, 3, 4), 0, false},
		{"two that end together", times(3, 9, 8, 9), 0, false},
		{"the same shift of two guards", shifts(0, 3, 9, 1, 3, 9), 1000, true},
		{"the first and the third one overlap", shifts(0, 3, 9, 1, 3, 9, 0, 8, 10), 0, false},
		{"the last two overlap", shifts(1, 3, 9, 0, 3, 9, 0, 8, 10), 0, false},
		{"rest 0", times(3, 9, 20, 30), 0, true},
		{"rest below 0", times(3, 9, 20, 30), -1, false},
		{"rest below 0, no shifts", nil, -1, false},
		{"rest 1000", times(0, 1, 1001, 1002), 1000, true},
		{"rest 1000, one moment fewer", times(0, 1, 1000, 1002), 1000, false},
		{"rest 1001", times(0, 1, 5000, 5001), 1001, false},
		{"the greatest rest", times(0, 1), math.MaxInt, false},
		{"the least rest", times(0, 1), math.MinInt, false},
		{"the whole time", times(0, 10000), 1000, true},
		{"20 shifts", row[:20], 0, true},
		{"21 shifts", row, 0, false},
		{"a shift that is not valid", times(3, 9, 12, 12), 0, false},
		{"a shift that is not valid, first", times(5, 4, 12, 13), 0, false},
	} {
		if got := impl.ShiftsOk(c.list, c.rest); got != c.want || doRest(c.list, c.rest) != c.want && len(c.list) > 0 {
			t.Errorf("%s: ShiftsOk(%v, %d) = %v", c.name, c.list, c.rest, got)
		}
	}
}

func TestOnDuty(t *testing.T) {
	three := shifts(0, 3, 9, 0, 5, 10000, 1, 0, 6)
	for _, c := range []struct {
		name   string
		list   []impl.Shift
		moment int
		want   int
	}{
		{"no shifts", nil, 0, 0},
		{"at From", three, 3, 2},
		{"before From", three, 2, 1},
		{"before To", three, 8, 2},
		{"at To", three, 9, 1},
		{"all of them", three, 5, 3},
		{"the moment 0", three, 0, 1},
		{"before the moment 0", three, -1, 0},
		{"the last moment", three, 9999, 1},
		{"the moment 10000", three, 10000, 0},
		{"the greatest moment", three, math.MaxInt, 0},
		{"the least moment", three, math.MinInt, 0},
		{"the same guard three times", times(3, 9, 3, 9, 3, 9), 4, 3},
		{"shifts that are not valid", shifts(21, 3, 9, 0, -1, 9, 0, 3, 10001, 0, 3, 9), 4, 1},
		{"a shift that ends before it begins", shifts(0, 9, 3, 0, 5, 5), 5, 0},
		{"all moments, which is not valid", times(math.MinInt, math.MaxInt), 5, 0},
		{"21 shifts", slices.Repeat(times(3, 9), 21), 4, 21},
		{"many shifts", slices.Repeat(three, 1000), 4, 2000},
	} {
		if got := impl.OnDuty(c.list, c.moment); got != c.want {
			t.Errorf("%s: OnDuty(%v, %d) = %d; want %d", c.name, c.list, c.moment, got, c.want)
		}
	}
}

func TestLeastOnDuty(t *testing.T) {
	three := shifts(0, 3, 9, 0, 5, 10000, 1, 0, 6)
	for _, c := range []struct {
		name     string
		list     []impl.Shift
		from, to int
		want     int
	}{
		{"no shifts", nil, 0, 10000, 0},
		{"no shifts, one moment", nil, 10, 11, 0},
		{"the whole time", three, 0, 10000, 1},
		{"one moment", three, 5, 6, 3},
		{"one moment more", three, 5, 7, 2},
		{"one moment earlier", three, 4, 6, 2},
		{"to is not looked at", three, 3, 9, 2},
		{"a moment after it is", three, 3, 10, 1},
		{"from is looked at", three, 2, 6, 1},
		{"the last moment", three, 9999, 10000, 1},
		{"the last moment, nobody", times(0, 9999), 9998, 10000, 0},
		{"the first moment", three, 0, 1, 1},
		{"a gap", times(0, 4, 5, 10), 0, 10, 0},
		{"a gap that ends before", times(0, 4, 5, 10), 5, 10, 1},
		{"a gap that begins at to", times(0, 4, 5, 10), 0, 4, 1},
		{"from is to", three, 5, 5, -1},
		{"from is greater than to", three, 6, 5, -1},
		{"from below 0", three, -1, 5, -1},
		{"to beyond 10000", three, 5, 10001, -1},
		{"from and to beyond 10000", three, 10001, 10002, -1},
		{"from and to below 0", three, -2, -1, -1},
		{"from 10000", three, 10000, 10001, -1},
		{"the least from", three, math.MinInt, 5, -1},
		{"the greatest to", three, 5, math.MaxInt, -1},
		{"the greatest from and the least to", three, math.MaxInt, math.MinInt, -1},
		{"20 shifts", slices.Repeat(times(3, 9), 20), 4, 6, 20},
		{"21 shifts", slices.Repeat(times(3, 9), 21), 4, 6, -1},
		{"a shift that is not valid", append(slices.Clone(three), impl.Shift{}), 4, 6, -1},
		{"a shift that is not valid, first", append(times(5, 5), three...), 4, 6, -1},
	} {
		if got := impl.LeastOnDuty(c.list, c.from, c.to); got != c.want {
			t.Errorf("%s: LeastOnDuty(%v, %d, %d) = %d; want %d", c.name, c.list, c.from, c.to, got, c.want)
		}
	}
}

func TestFillShifts(t *testing.T) {
	for _, c := range []struct {
		name  string
		list  []impl.Shift
		rest  int
		want  []int
		count int
	}{
		{"no shifts", nil, 0, nil, 0},
		{"no shifts, but memory", []impl.Shift{}, 1000, nil, 0},
		{"one shift", times(3, 9), 0, []int{0}, 1},
		{"two that touch, no rest", times(0, 5, 5, 9), 0, []int{0, 0}, 1},
		{"two that touch, rest 1", times(0, 5, 5, 9), 1, []int{0, 1}, 2},
		{"just the rest between", times(0, 5, 8, 9), 3, []int{0, 0}, 1},
		{"one moment more of rest", times(0, 5, 8, 9), 4, []int{0, 1}, 2},
		{"shifts that begin together", times(4, 9, 4, 6, 4, 5), 0, []int{0, 1, 2}, 3},
		{"shifts that begin together, and one behind", times(6, 8, 4, 9, 4, 6, 4, 5), 0, []int{1, 0, 1, 2}, 3},
		{"two that begin together, the second one of the list is free first", times(4, 9, 4, 6, 6, 7), 0, []int{0, 1, 1}, 2},
		{"not in the order of From", times(9, 12, 5, 9, 0, 5), 0, []int{0, 0, 0}, 1},
		{"not in the order of From, and they overlap", times(5, 9, 0, 6, 7, 8), 0, []int{1, 0, 0}, 2},
		{"the guard with the least number", times(0, 10, 1, 2, 3, 4, 10, 11), 0, []int{0, 1, 1, 0}, 2},
		{"a later shift of a guard counts too", times(0, 2, 3, 9, 8, 10), 0, []int{0, 0, 1}, 2},
		{"the guard of the list is not used", shifts(7, 0, 5, 20, 5, 9, 7, 0, 3), 0, []int{0, 0, 1}, 2},
		{"rest 1000", times(0, 1, 1001, 1002, 1000, 1001), 1000, []int{0, 0, 1}, 2},
		{"rest 1001", times(0, 1), 1001, nil, 0},
		{"rest below 0", times(0, 1), -1, nil, 0},
		{"the greatest rest", times(0, 1), math.MaxInt, nil, 0},
		{"the least rest", times(0, 1), math.MinInt, nil, 0},
		{"the moments 0 and 10000", times(9999, 10000, 0, 9999), 0, []int{0, 0}, 1},
		{"20 shifts", slices.Repeat(times(3, 9), 20), 0, slices.Collect(countTo(20)), 20},
		{"21 shifts", slices.Repeat(times(3, 9), 21), 0, nil, 0},
		{"a shift that is not valid", times(0, 1, 5, 5), 0, nil, 0},
		{"a guard that is not valid", shifts(0, 0, 1, 21, 5, 6), 0, nil, 0},
	} {
		if got := impl.FillShifts(c.list, c.rest); !slices.Equal(got, c.want) || !slices.Equal(filledBy(c.list, c.rest), c.want) {
			t.Errorf("%s: FillShifts(%v, %d) = %v; want %v", c.name, c.list, c.rest, got, c.want)
		}
		if got := impl.CountFill(c.list, c.rest); got != c.count {
			t.Errorf("%s: CountFill(%v, %d) = %d; want %d", c.name, c.list, c.rest, got, c.count)
		}
	}
}

// Promise 32: shifts that are filled keep the rest.
func TestShiftsMany(t *testing.T) {
	source, counts := rand.New(rand.NewSource(132)), map[string]int{}
	for range 600 {
		var list []impl.Shift
		for range source.Intn(22) {
			from := source.Intn(30)
			list = append(list, impl.Shift{Guard: source.Intn(6), From: from, To: from + 1 + source.Intn(8)})
		}
		rest := source.Intn(7) - 1
		guards := impl.FillShifts(list, rest)
		if want := filledBy(list, rest); !slices.Equal(guards, want) {
			t.Fatalf("FillShifts(%v, %d) = %v; want %v", list, rest, guards, want)
		}
		few := list[:min(len(list), source.Intn(6))]
		if got := impl.ShiftsOk(few, rest); got != (doRest(few, rest) && rest >= 0) {
			t.Fatalf("ShiftsOk(%v, %d) = %v", few, rest, got)
		} else if got {
			counts["rested"]++
		} else {
			counts["not rested"]++
		}
		checkDuty(t, source, list)
		if guards == nil {
			continue
		}
		counts["filled"]++
		if filled := withGuards(list, guards); !impl.ShiftsOk(filled, rest) || !doRest(filled, rest) {
			t.Fatalf("FillShifts(%v, %d) = %v: ShiftsOk = false", list, rest, guards)
		}
		// No shifts need more guards than overlap.
		if got := impl.CountFill(list, rest); got != mostAtOnce(list, rest) {
			t.Fatalf("CountFill(%v, %d) = %d; want %d", list, rest, got, mostAtOnce(list, rest))
		}
	}
	if counts["filled"] < 300 || counts["rested"] < 150 || counts["not rested"] < 150 {
		t.Errorf("too few shifts are filled, or keep the rest, or not: %v", counts)
	}
}

// checkDuty takes shifts that are valid.
func checkDuty(t *testing.T, source *rand.Rand, list []impl.Shift) {
	t.Helper()
	var onDuty [40]int
	for _, s := range list {
		for moment := s.From; moment < s.To; moment++ {
			onDuty[moment]++
		}
	}
	for moment, want := range onDuty {
		if got := impl.OnDuty(list, moment); got != want {
			t.Fatalf("OnDuty(%v, %d) = %d; want %d", list, moment, got, want)
		}
	}
	from, to := source.Intn(20), source.Intn(41)
	want := -1
	if from < to && len(list) <= 20 {
		want = slices.Min(onDuty[from:to])
	}
	if got := impl.LeastOnDuty(list, from, to); got != want {
		t.Fatalf("LeastOnDuty(%v, %d, %d) = %d; want %d", list, from, to, got, want)
	}
}

func TestShiftsInvalid(t *testing.T) {
	for _, bad := range badShifts() {
		for k := range 3 {
			list := slices.Insert(shifts(0, 0, 1, 1, 0, 1), k, bad)
			if impl.ShiftsOk(list, 0) || impl.LeastOnDuty(list, 0, 1) != -1 || len(impl.FillShifts(list, 0)) != 0 || impl.CountFill(list, 0) != 0 {
				t.Errorf("ShiftsOk(%v) = %v, LeastOnDuty = %d, FillShifts = %v", list, impl.ShiftsOk(list, 0), impl.LeastOnDuty(list, 0, 1), impl.FillShifts(list, 0))
			}
			for _, moment := range []int{0, 4, bad.From, bad.To - 1, math.MaxInt, math.MinInt} {
				want := 0
				if moment == 0 {
					want = 2
				}
				if got := impl.OnDuty(list, moment); got != want {
					t.Errorf("OnDuty(%v, %d) = %d; want %d", list, moment, got, want)
				}
			}
		}
	}
	good := times(3, 9, 20, 30)
	for _, n := range outside(0, 1000) {
		if impl.ShiftsOk(good, n) || len(impl.FillShifts(good, n)) != 0 || impl.CountFill(good, n) != 0 {
			t.Errorf("ShiftsOk with the rest %d = true, or FillShifts = %v", n, impl.FillShifts(good, n))
		}
	}
	for _, n := range outside(0, 10000) {
		if impl.LeastOnDuty(good, n, 10000) != -1 || impl.LeastOnDuty(good, 0, n) != -1 || impl.LeastOnDuty(good, n, n+1) != -1 || impl.LeastOnDuty(good, n-1, n) != -1 {
			t.Errorf("LeastOnDuty with %d is not -1", n)
		}
	}
}

func TestShiftArguments(t *testing.T) {
	all := shifts(0, 3, 9, 1, 0, 5, 2, 4, 6, 0, 9, 10, 3, 0, 1)
	before := slices.Clone(all)
	for n := range len(all) {
		list := all[:n]
		impl.ShiftsOk(list, 0)
		impl.OnDuty(list, 4)
		impl.LeastOnDuty(list, 0, 10)
		impl.CountFill(list, 1)
		checkNumbersNew(t, func() []int { return impl.FillShifts(list, 1) })
	}
	if !slices.Equal(all, before) {
		t.Errorf("a function changes its shifts: %v", all)
	}
}
