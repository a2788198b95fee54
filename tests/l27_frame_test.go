package tests

import (
	"math"
	"math/rand"
	"slices"
	"testing"

	"loop.example/g00991/impl"
)

// frames takes Number, Moment and Print by turns.
func frames(numbers ...int) []impl.Frame {
	var list []impl.Frame
	for i := 0; i+2 < len(numbers); i += 3 {
		list = append(list, impl.Frame{Number: numbers[i], Moment: numbers[i+1], Print: numbers[i+2]})
	}
	return list
}

// numbered has frames with these numbers, one moment after the other.
func numbered(numbers ...int) []impl.Frame {
	var list []impl.Frame
	for k, number := range numbers {
		list = append(list, impl.Frame{Number: number, Moment: k, Print: k})
	}
	return list
}

// printed has frames with these prints, in order.
func printed(prints ...int) []impl.Frame {
	var list []impl.Frame
	for k, print := range prints {
		list = append(list, impl.Frame{Number: k, Moment: 2 * k, Print: print})
	}
	return list
}

func badFrames() []impl.Frame {
	bad := frames(-1, 0, 0, 100001, 0, 0, 0, -1, 0, 0, 1000001, 0, 0, 0, -1, 0, 0, 1000000, -1, -1, -1)
	for _, n := range append(badNumbers(), 1<<40, -1<<40) {
		if n < 0 || n > 1000001 {
			bad = append(bad, frames(n, 0, 0, 0, n, 0, 0, 0, n, n, n, n)...)
		}
	}
	return bad
}

func isFrame(f impl.Frame) bool {
	return f.Number == min(max(f.Number, 0), 100000) && f.Moment == min(max(f.Moment, 0), 1000000) && f.Print == min(max(f.Print, 0), 999999)
}

func TestFrameOk(t *testing.T) {
	for _, f := range frames(0, 0, 0, 100000, 0, 0, 0, 1000000, 0, 0, 0, 999999, 100000, 1000000, 999999, 17, 230, 5, 1, 100001, 100001) {
		if !impl.FrameOk(f) || !isFrame(f) {
			t.Errorf("FrameOk(%v) = false", f)
		}
	}
	for _, f := range badFrames() {
		if impl.FrameOk(f) || isFrame(f) {
			t.Errorf("FrameOk(%v) = true", f)
		}
	}
}

// missingFrom asks for each number up to the greatest one whether it comes after a frame and has none.
func missingFrom(list []impl.Frame) []int {
	least, greatest := math.MaxInt, -1
	for _, f := range list {
		least, greatest = min(least, f.Number), max(greatest, f.Number)
		if !isFrame(f) {
			return nil
		}
	}
	if len(list) > 60 || len(list) > 0 && greatest > least+500 {
		return nil
	}
	var missing []int
	for number := range greatest + 1 {
		has := func(f impl.Frame) bool { return f.Number == number }
		if number > least && !slices.ContainsFunc(list, has) {
			missing = append(missing, number)
		}
	}
	return missing
}

func TestMissingFrames(t *testing.T) {
	sixty := slices.Collect(countTo(60))
	for _, c := range []struct {
		name string
		list []impl.Frame
		want []int
	}{
		{"no frames", nil, nil},
		{"no frames, but memory", []impl.Frame{}, nil},
		{"one frame", numbered(7), nil},
		{"two frames in a row", numbered(7, 8), nil},
		{"one is missing", numbered(7, 9), []int{8}},
		{"several are missing", numbered(3, 5, 6, 9), []int{4, 7, 8}},
		{"out of order", numbered(9, 3, 6, 5), []int{4, 7, 8}},
		{"backwards", numbered(9, 6, 5, 3), []int{4, 7, 8}},
		{"a number that several frames have", numbered(3, 5, 5, 3, 6, 5), []int{4}},
		{"the least number twice", numbered(3, 3, 5), []int{4}},
		{"the greatest number twice", numbered(3, 5, 5), []int{4}},
		{"one number", numbered(4, 4, 4, 4), nil},
		{"from 0 on", numbered(0, 2), []int{1}},
		{"up to the limit", numbered(100000, 99997), []int{99998, 99999}},
		{"500 apart", numbered(10, 510), slices.Collect(countTo(511))[11:510]},
		{"500 apart, backwards", numbered(510, 10, 11), slices.Collect(countTo(510))[12:]},
		{"501 apart", numbered(10, 511), nil},
		{"501 apart, with others between", numbered(300, 10, 200, 511, 400), nil},
		{"far apart", numbered(0, 100000), nil},
		{"60 frames", numbered(append(sixty[1:], 62)...), []int{60, 61}},
		{"61 frames", numbered(append(sixty, 62)...), nil},
		{"61 frames with two numbers", numbered(append(slices.Repeat([]int{4}, 60), 6)...), nil},
		{"60 frames with two numbers", numbered(append(slices.Repeat([]int{4}, 59), 6)...), []int{5}},
		{"many frames", numbered(slices.Repeat([]int{4, 6}, 1000)...), nil},
		{"the same moment and print", frames(4, 1, 1, 6, 1, 1), []int{5}},
	} {
		if got := impl.MissingFrames(c.list); !slices.Equal(got, c.want) || !slices.Equal(missingFrom(c.list), c.want) {
			t.Errorf("%s: MissingFrames(%v) = %v; want %v", c.name, c.list, got, c.want)
		}
	}
}

func TestMissingFramesMany(t *testing.T) {
	source, counts := rand.New(rand.NewSource(121)), map[bool]int{}
	for i := range 3000 {
		first, side := source.Intn(3000), []int{3, 20, 100, 503}[i%4]
		var numbers []int
		for range source.Intn(63) {
			numbers = append(numbers, first+source.Intn(side))
		}
		list := numbered(numbers...)
		want := missingFrom(list)
		counts[len(want) > 0]++
		if got := impl.MissingFrames(list); !slices.Equal(got, want) {
			t.Fatalf("MissingFrames(%v) = %v; want %v", list, got, want)
		}
	}
	if counts[true] < 500 || counts[false] < 500 {
		t.Errorf("too few lists lack a number, or none: %v", counts)
	}
}

// replayedIn compares each two frames in a row with all pairs before.
func replayedIn(list []impl.Frame) int {
	for k := 1; k < len(list); k++ {
		for i := 0; i+1 < k-1; i++ {
			if list[i].Print == list[k-1].Print && list[i+1].Print == list[k].Print {
				return k
			}
		}
	}
	return -1
}

func TestReplayedAt(t *testing.T) {
	for _, c := range []struct {
		name   string
		prints []int
		want   int
	}{
		{"no frames", nil, -1},
		{"one frame", []int{5}, -1},
		{"two frames", []int{5, 6}, -1},
		{"two equal frames", []int{5, 5}, -1},
		{"three equal frames", []int{5, 5, 5}, -1},
		{"four equal frames", []int{5, 5, 5, 5}, 3},
		{"five equal frames", []int{5, 5, 5, 5, 5}, 3},
		{"three equal frames, and later two", []int{5, 5, 5, 6, 5, 5}, 5},
		{"three equal frames behind others", []int{1, 2, 5, 5, 5}, -1},
		{"four equal frames behind others", []int{1, 2, 5, 5, 5, 5}, 5},
		{"five equal frames behind others", []int{1, 2, 5, 5, 5, 5, 5}, 5},
		{"a pair again at once", []int{5, 6, 5, 6}, 3},
		{"a pair again later", []int{5, 6, 7, 5, 6}, 4},
		{"a pair again much later", []int{1, 5, 6, 2, 3, 4, 7, 8, 5, 6, 9}, 9},
		{"a pair backwards", []int{5, 6, 6, 5}, -1},
		{"a pair backwards, later", []int{5, 6, 7, 6, 5}, -1},
		{"pairs that share a frame", []int{5, 6, 5, 7, 6, 7}, -1},
		{"the same frames, but not in a row", []int{5, 6, 5, 7, 6}, -1},
		{"each frame again, never two", []int{1, 2, 3, 1, 3, 2, 1}, -1},
		{"the second pair of several", []int{1, 2, 3, 4, 3, 2, 3, 9}, 6},
		{"the first of several", []int{1, 2, 1, 2, 1, 2}, 3},
		{"two pairs, the later one first", []int{1, 2, 3, 4, 3, 4, 1, 2}, 5},
		{"all different", []int{1, 2, 3, 4, 5, 6, 7, 8}, -1},
		{"prints 0", []int{0, 0, 0}, -1},
		{"prints 0, four times", []int{0, 0, 0, 0}, 3},
		// Frames need not be valid.
		{"prints that are not valid", []int{math.MinInt, math.MaxInt, math.MinInt, math.MaxInt}, 3},
		{"prints that are equal in fewer bits", []int{5, 6, 5 + 1<<32, 6 + 1<<32, 5 - 1<<32, 6 - 1<<32}, -1},
	} {
		list := printed(c.prints...)
		if got := impl.ReplayedAt(list); got != c.want || replayedIn(list) != c.want {
			t.Errorf("%s: ReplayedAt(%v) = %d; want %d", c.name, c.prints, got, c.want)
		}
		// Numbers and moments do not count.
		for k := range list {
			list[k].Number, list[k].Moment = -k*k, math.MaxInt-k%2
		}
		if got := impl.ReplayedAt(list); got != c.want {
			t.Errorf("%s: ReplayedAt(%v) = %d; want %d", c.name, list, got, c.want)
		}
	}
}

// Promise 27: pictures that are shown again are noticed.
func TestReplayedAtMany(t *testing.T) {
	source, counts := rand.New(rand.NewSource(122)), map[bool]int{}
	for i := range 4000 {
		var prints []int
		for range source.Intn(25) {
			prints = append(prints, source.Intn(2+i%20))
		}
		list := printed(prints...)
		want := replayedIn(list)
		counts[want >= 0]++
		if got := impl.ReplayedAt(list); got != want {
			t.Fatalf("ReplayedAt(%v) = %d; want %d", prints, got, want)
		}
		if len(list) < 2 {
			continue
		}
		k := source.Intn(len(list) - 1)
		again := append(slices.Clone(list), list[k], list[k+1])
		if got := impl.ReplayedAt(again); got != replayedIn(again) || got < 0 {
			t.Fatalf("ReplayedAt(%v) = %d", again, got)
		}
	}
	if counts[true] < 500 || counts[false] < 500 {
		t.Errorf("too few pictures are shown again, or not: %v", counts)
	}
}

// All lists of up to seven prints of three.
func TestReplayedAtSmall(t *testing.T) {
	for n := range 8 {
		for number := range int(math.Pow(3, float64(n))) {
			var prints []int
			for rest := number; len(prints) < n; rest /= 3 {
				prints = append(prints, rest%3)
			}
			list := printed(prints...)
			if got := impl.ReplayedAt(list); got != replayedIn(list) {
				t.Fatalf("ReplayedAt(%v) = %d; want %d", prints, got, replayedIn(list))
			}
		}
	}
}

func TestReplayedAtLong(t *testing.T) {
	var prints []int
	for k := range 100000 {
		prints = append(prints, k)
	}
	if got := impl.ReplayedAt(printed(prints...)); got != -1 {
		t.Errorf("ReplayedAt = %d; want -1", got)
	}
	if got := impl.ReplayedAt(printed(append(prints, 0, 1)...)); got != 100001 {
		t.Errorf("ReplayedAt = %d; want 100001", got)
	}
}

func lateIn(list []impl.Frame, every int, grace int) []int {
	var late []int
	for k, f := range list {
		if !isFrame(f) || len(list) > 60 || every != min(max(every, 1), 1000) || grace != min(max(grace, 0), 1000) {
			return nil
		}
		if f.Moment-grace-list[0].Moment > (f.Number-list[0].Number)*every {
			late = append(late, k)
		}
	}
	return late
}

func TestLateFrames(t *testing.T) {
	row, slow := frames(1, 2, 5, 2, 10, 6, 4, 20, 5, 5, 30, 6), frames(1, 2, 5, 2, 1000000, 6)
	sixty := make([]impl.Frame, 61)
	for k := range sixty {
		sixty[k] = impl.Frame{Number: k, Moment: 5*k + k%2}
	}
	for _, c := range []struct {
		name         string
		list         []impl.Frame
		every, grace int
		want         []int
	}{
		{"no frames", nil, 5, 0, nil},
		{"no frames, but memory", []impl.Frame{}, 5, 0, nil},
		{"one frame", frames(7, 900, 3), 1, 0, nil},
		{"all but the first one", row, 5, 0, []int{1, 2, 3}},
		{"none is late", row, 8, 0, nil},
		{"one step more for each", row, 7, 0, []int{1}},
		{"late by one", frames(1, 2, 5, 2, 8, 6), 5, 0, []int{1}},
		{"just in time", frames(1, 2, 5, 2, 7, 6), 5, 0, nil},
		{"early", frames(1, 2, 5, 2, 6, 6), 5, 0, nil},
		{"late by one, with a grace", frames(1, 2, 5, 2, 11, 6), 5, 3, []int{1}},
		{"just in time, with a grace", frames(1, 2, 5, 2, 10, 6), 5, 3, nil},
		{"late, and then in time", frames(0, 0, 0, 1, 9, 0, 2, 10, 0), 5, 0, []int{1}},
		{"in time, late, in time, late", frames(0, 0, 0, 1, 5, 0, 2, 11, 0, 3, 15, 0, 4, 30, 0), 5, 0, []int{2, 4}},
		{"numbers that are missing", frames(10, 100, 0, 20, 150, 0, 30, 201, 0), 5, 0, []int{2}},
		{"the number of the first frame again", frames(3, 10, 0, 3, 10, 0, 3, 11, 0, 3, 9, 0), 5, 0, []int{2}},
		{"numbers below that of the first frame", frames(5, 50, 0, 4, 45, 0, 3, 41, 0, 2, 36, 0, 1, 30, 0), 5, 0, []int{2, 3}},
		{"numbers below that of the first frame, with a grace", frames(5, 50, 0, 4, 47, 0, 3, 43, 0, 2, 37, 0, 0, 28, 0), 5, 2, []int{2, 4}},
		{"a number below, due before moment 0", frames(9, 5, 0, 0, 0, 0), 10, 0, []int{1}},
		{"out of order", frames(5, 50, 0, 8, 65, 0, 6, 56, 0, 7, 61, 0), 5, 0, []int{2, 3}},
		{"every 1", frames(0, 0, 0, 9, 9, 0, 10, 11, 0), 1, 0, []int{2}},
		{"every 1000", frames(0, 0, 0, 9, 9000, 0, 10, 10001, 0), 1000, 0, []int{2}},
		{"grace 1000", frames(0, 0, 0, 1, 1005, 0, 2, 1011, 0), 5, 1000, []int{2}},
		{"all at the limits", frames(0, 0, 0, 100000, 1000000, 999999), 10, 0, nil},
		{"all at the limits, late", frames(0, 1, 0, 99999, 1000000, 999999), 10, 8, []int{1}},
		{"a number at the limit, every 1000", frames(0, 0, 0, 100000, 1000000, 0), 1000, 1000, nil},
		{"all at the limits, and much too late", slow, 1000, 1000, []int{1}},
		{"every 0", slow, 0, 0, nil},
		{"every below 0", slow, -1, 0, nil},
		{"every 1001", slow, 1001, 0, nil},
		{"every the greatest int", slow, math.MaxInt, 0, nil},
		{"every the least int", slow, math.MinInt, 0, nil},
		{"grace below 0", slow, 5, -1, nil},
		{"grace 1001", slow, 5, 1001, nil},
		{"grace the greatest int", slow, 5, math.MaxInt, nil},
		{"grace the least int", slow, 5, math.MinInt, nil},
		{"60 frames", sixty[:60], 5, 0, slices.DeleteFunc(slices.Collect(countTo(60)), func(k int) bool { return k%2 == 0 })},
		{"61 frames", sixty, 5, 0, nil},
		{"the last one is not valid", append(slices.Clone(row), impl.Frame{Number: -1}), 5, 0, nil},
		{"the first one is not valid", append(frames(0, -1, 0), row...), 5, 0, nil},
	} {
		if got := impl.LateFrames(c.list, c.every, c.grace); !slices.Equal(got, c.want) || !slices.Equal(lateIn(c.list, c.every, c.grace), c.want) {
			t.Errorf("%s: LateFrames(%v, %d, %d) = %v; want %v", c.name, c.list, c.every, c.grace, got, c.want)
		}
	}
}

func TestLateFramesMany(t *testing.T) {
	source, counts := rand.New(rand.NewSource(123)), map[int]int{}
	for range 4000 {
		every, grace := source.Intn(12), source.Intn(9)-1
		var list []impl.Frame
		for k := range source.Intn(12) {
			list = append(list, impl.Frame{Number: 20 + k + source.Intn(5) - 2, Moment: 300 + k*every + source.Intn(25), Print: k})
		}
		want := lateIn(list, every, grace)
		counts[len(want)]++
		if got := impl.LateFrames(list, every, grace); !slices.Equal(got, want) {
			t.Fatalf("LateFrames(%v, %d, %d) = %v; want %v", list, every, grace, got, want)
		}
	}
	for n := range 9 {
		if counts[n] < 50 {
			t.Errorf("only %d lists have %d late frames", counts[n], n)
		}
	}
}

func TestIsOrdered(t *testing.T) {
	for _, c := range []struct {
		name string
		list []impl.Frame
		want bool
	}{
		{"no frames", nil, true},
		{"no frames, but memory", []impl.Frame{}, true},
		{"one frame", frames(3, 4, 5), true},
		{"two frames", frames(3, 4, 5, 4, 5, 0), true},
		{"the same number", frames(3, 4, 5, 3, 5, 0), false},
		{"the same moment", frames(3, 4, 5, 4, 4, 0), false},
		{"the same frame twice", frames(3, 4, 5, 3, 4, 5), false},
		{"a lower number", frames(3, 4, 5, 2, 5, 6), false},
		{"an earlier moment", frames(3, 4, 5, 4, 3, 6), false},
		{"a lower number and an earlier moment", frames(3, 4, 5, 2, 3, 6), false},
		{"numbers that are missing", frames(3, 4, 5, 9, 50, 6, 900, 51, 6), true},
		{"the last two are not", frames(3, 4, 5, 9, 50, 6, 9, 51, 6), false},
		{"the first two are not", frames(9, 4, 5, 9, 50, 6, 10, 51, 6), false},
		{"greater than the first one, not than the one before", frames(1, 1, 0, 5, 5, 0, 3, 3, 0), false},
		{"61 frames", printed(slices.Collect(countTo(61))...), true},
		{"many frames", printed(slices.Collect(countTo(10000))...), true},
		{"many frames, the last one twice", append(printed(slices.Collect(countTo(10000))...), impl.Frame{Number: 9999, Moment: 19998}), false},
		// Frames need not be valid.
		{"frames that are not valid", frames(math.MinInt, math.MinInt, -1, -1, -5, -1, math.MaxInt, math.MaxInt, -1), true},
		{"frames that are not valid, out of order", frames(math.MaxInt, math.MinInt, 0, math.MinInt, math.MaxInt, 0), false},
		{"frames that are not valid, the same moment", frames(math.MinInt, math.MaxInt, 0, math.MaxInt, math.MaxInt, 0), false},
		{"the greatest and the least moment", frames(0, math.MaxInt, 0, 1, math.MinInt, 0), false},
	} {
		if got := impl.IsOrdered(c.list); got != c.want {
			t.Errorf("%s: IsOrdered(%v) = %v", c.name, c.list, got)
		}
	}
}

func TestIsOrderedMany(t *testing.T) {
	source, counts := rand.New(rand.NewSource(124)), map[bool]int{}
	for range 3000 {
		var list []impl.Frame
		number, moment := 0, 0
		for range source.Intn(6) {
			number, moment = number+source.Intn(5), moment+source.Intn(6)
			list = append(list, impl.Frame{Number: number, Moment: moment})
		}
		byNumber := func(f impl.Frame, g impl.Frame) int { return f.Number - g.Number }
		byMoment := func(f impl.Frame, g impl.Frame) int { return f.Moment - g.Moment }
		isSame := func(order func(f impl.Frame, g impl.Frame) int) bool {
			return len(slices.CompactFunc(slices.Clone(list), func(f impl.Frame, g impl.Frame) bool { return order(f, g) == 0 })) == len(list)
		}
		want := isSame(byNumber) && isSame(byMoment)
		counts[want]++
		if got := impl.IsOrdered(list); got != want {
			t.Fatalf("IsOrdered(%v) = %v", list, got)
		}
		slices.Reverse(list)
		if got := impl.IsOrdered(list); got != (len(list) < 2) {
			t.Fatalf("IsOrdered(%v) = %v", list, got)
		}
	}
	if counts[true] < 500 || counts[false] < 500 {
		t.Errorf("too few lists are ordered, or not: %v", counts)
	}
}

func TestFramesInvalid(t *testing.T) {
	for _, bad := range badFrames() {
		for _, good := range [][]impl.Frame{nil, numbered(3), numbered(3, 5), numbered(3, 5, 9, 12)} {
			for k := range len(good) + 1 {
				list := slices.Insert(slices.Clone(good), k, bad)
				if missing, late := impl.MissingFrames(list), impl.LateFrames(list, 5, 0); len(missing) != 0 || len(late) != 0 {
					t.Errorf("MissingFrames(%v) = %v, LateFrames = %v", list, missing, late)
				}
			}
		}
	}
	row := frames(1, 2, 5, 2, 1000000, 6)
	for _, n := range append(badNumbers(), 0, 1001, 1002, -1) {
		if n >= 1 && n <= 1000 {
			continue
		}
		if got := impl.LateFrames(row, n, 0); len(got) != 0 {
			t.Errorf("LateFrames(%v, %d, 0) = %v", row, n, got)
		}
		if n != 0 {
			if got := impl.LateFrames(row, 1, n); len(got) != 0 {
				t.Errorf("LateFrames(%v, 1, %d) = %v", row, n, got)
			}
		}
	}
}

func TestFrameArguments(t *testing.T) {
	all := frames(1, 2, 5, 2, 10, 6, 4, 20, 5, 5, 30, 6, 7, 8, 9, 3, 2, 1)
	before := slices.Clone(all)
	for n := range len(all) {
		list := all[:n]
		impl.MissingFrames(list)
		impl.ReplayedAt(list)
		impl.LateFrames(list, 5, 0)
		impl.IsOrdered(list)
		checkNumbersNew(t, func() []int { return impl.MissingFrames(list) })
		checkNumbersNew(t, func() []int { return impl.LateFrames(list, 5, 0) })
	}
	if !slices.Equal(all, before) {
		t.Errorf("a function changes its frames: %v", all)
	}
}
