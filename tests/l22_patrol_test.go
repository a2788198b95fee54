package tests

import (
	"math/rand"
	"slices"
	"testing"

	"loop.example/g00991/impl"
)

func isPatrol(r impl.Room, patrol []impl.Point) bool {
	return len(patrol) > 0 && isWalk(r, patrol) && doSee(r, patrol[0], patrol[len(patrol)-1])
}

func seenOn(r impl.Room, patrol []impl.Point, p impl.Point) []int {
	var list []int
	for k, q := range patrol {
		if doSee(r, p, q) {
			list = append(list, k)
		}
	}
	return list
}

// gapOf goes along with a guard who sees a point at some of n moments, for three rounds; the program computes with one.
func gapOf(n int, seen []int) int {
	last, longest := -1, -1
	for moment := range 3 * n {
		if !slices.Contains(seen, moment%n) {
			continue
		}
		if last >= 0 {
			longest = max(longest, moment-last)
		}
		last = moment
	}
	return longest
}

func checkSeenOn(t *testing.T, r impl.Room, patrol []impl.Point, p impl.Point, seen []int, gap int) {
	t.Helper()
	if got := impl.SeenOn(r, patrol, p); !slices.Equal(got, seen) {
		t.Fatalf("SeenOn(%v, %v, %v) = %v; want %v", r, patrol, p, got, seen)
	}
	if got := impl.LongestGap(r, patrol, p); got != gap {
		t.Fatalf("LongestGap(%v, %v, %v) = %d; want %d", r, patrol, p, got, gap)
	}
}

func checkNoPatrol(t *testing.T, name string, r impl.Room, patrol []impl.Point, p impl.Point) {
	t.Helper()
	if impl.PatrolOk(r, patrol) || impl.WatchesAll(r, patrol) || impl.WorstGap(r, patrol) != -1 {
		t.Errorf("%s: PatrolOk(%v, %v) = %v, WatchesAll = %v, WorstGap = %d", name, r, patrol, impl.PatrolOk(r, patrol), impl.WatchesAll(r, patrol), impl.WorstGap(r, patrol))
	}
	checkSeenOn(t, r, patrol, p, nil, -1)
}

func TestPatrolOk(t *testing.T) {
	square, bent := room(0, 0, 4, 0, 4, 4, 0, 4), room(0, 0, 6, 0, 6, 2, 2, 2, 2, 6, 0, 6)
	for _, c := range []struct {
		name   string
		r      impl.Room
		patrol []impl.Point
		want   bool
	}{
		{"no points", square, nil, false},
		{"no points, but memory", square, []impl.Point{}, false},
		{"one point", square, []impl.Point{at(1, 1)}, true},
		{"one corner", bent, []impl.Point{at(2, 2)}, true},
		{"one point outside", bent, []impl.Point{at(3, 3)}, false},
		{"two points", bent, []impl.Point{at(6, 0), at(0, 0)}, true},
		{"two points that do not see each other", bent, []impl.Point{at(6, 0), at(0, 6)}, false},
		{"the last one does not see the first one", bent, []impl.Point{at(6, 0), at(0, 0), at(0, 6)}, false},
		{"the same with a way back", bent, []impl.Point{at(6, 0), at(0, 0), at(0, 6), at(0, 0)}, true},
		{"a step through a corner", bent, []impl.Point{at(0, 0), at(6, 0), at(0, 6)}, false},
		{"a point twice in a row", bent, []impl.Point{at(6, 0), at(6, 0), at(0, 0)}, true},
		{"the first point at the end again", bent, []impl.Point{at(6, 0), at(0, 0), at(6, 0)}, true},
		{"the last one outside", square, []impl.Point{at(1, 1), at(5, 1)}, false},
		{"all around a square", square, square.Corners, true},
		{"all around a bent room", bent, bent.Corners, true},
		{"40 points", square, ring(square, 40), true},
		{"41 points", square, ring(square, 41), false},
		{"40 equal points", square, slices.Repeat([]impl.Point{at(4, 4)}, 40), true},
		{"41 equal points", square, slices.Repeat([]impl.Point{at(4, 4)}, 41), false},
	} {
		if got := impl.PatrolOk(c.r, c.patrol); got != c.want || isPatrol(c.r, c.patrol) != c.want {
			t.Errorf("%s: PatrolOk(%v, %v) = %v", c.name, c.r, c.patrol, got)
		}
		if !c.want {
			checkNoPatrol(t, c.name, c.r, c.patrol, at(1, 1))
		}
	}
}

func TestSeenOn(t *testing.T) {
	bent := room(0, 0, 6, 0, 6, 2, 2, 2, 2, 6, 0, 6)
	around := []impl.Point{at(6, 0), at(0, 0), at(0, 6), at(0, 0)}
	for _, c := range []struct {
		name   string
		patrol []impl.Point
		p      impl.Point
		seen   []int
		gap    int
	}{
		{"seen at all moments but one", around, at(6, 2), []int{0, 1, 3}, 2},
		{"always seen", around, at(1, 1), []int{0, 1, 2, 3}, 1},
		{"seen at the end and at the beginning", around, at(6, 1), []int{0, 1, 3}, 2},
		{"seen by a patrol of one point", []impl.Point{at(1, 1)}, at(0, 5), []int{0}, 1},
		{"the point of a patrol of one point", []impl.Point{at(6, 1)}, at(6, 1), []int{0}, 1},
		{"not seen by a patrol of one point", []impl.Point{at(6, 1)}, at(1, 6), nil, -1},
		{"seen by two of two points", []impl.Point{at(0, 0), at(1, 1)}, at(1, 6), []int{0, 1}, 1},
		{"seen by the first of two points", []impl.Point{at(0, 0), at(6, 1)}, at(1, 6), []int{0}, 2},
		{"seen by the second of two points", []impl.Point{at(6, 1), at(0, 0)}, at(1, 6), []int{1}, 2},
		{"never seen", []impl.Point{at(6, 1), at(5, 1), at(6, 2)}, at(1, 6), nil, -1},
		{"seen once, at first", []impl.Point{at(0, 0), at(6, 1), at(5, 1), at(6, 0)}, at(1, 6), []int{0}, 4},
		{"seen once, in the middle", []impl.Point{at(6, 1), at(5, 1), at(0, 0), at(6, 0)}, at(1, 6), []int{2}, 4},
		{"seen once, at last", []impl.Point{at(6, 1), at(5, 1), at(6, 0), at(0, 0)}, at(1, 6), []int{3}, 4},
		{"a gap from the end to the beginning", []impl.Point{at(6, 0), at(6, 1), at(0, 0), at(0, 1), at(1, 1), at(5, 1)}, at(0, 6), []int{2, 3, 4}, 4},
		{"a gap from the last point to the first one", []impl.Point{at(0, 0), at(0, 1), at(0, 2), at(1, 1)}, at(6, 2), []int{0, 1, 2, 3}, 1},
		{"two gaps, the first one is longer", []impl.Point{at(0, 0), at(6, 0), at(6, 1), at(0, 0), at(6, 2)}, at(0, 6), []int{0, 3}, 3},
		{"two gaps, the second one is longer", []impl.Point{at(0, 0), at(6, 0), at(0, 0), at(6, 1), at(6, 2)}, at(0, 6), []int{0, 2}, 3},
		{"a guard who stays", []impl.Point{at(0, 0), at(6, 1), at(6, 1), at(6, 1)}, at(0, 6), []int{0}, 4},
		{"a guard who stays and sees", []impl.Point{at(0, 0), at(0, 0), at(0, 0), at(6, 1)}, at(0, 6), []int{0, 1, 2}, 2},
		{"a guard who always stays", slices.Repeat([]impl.Point{at(2, 2)}, 40), at(0, 6), slices.Collect(countTo(40)), 1},
		{"once in 40 moments", append(slices.Repeat([]impl.Point{at(6, 1)}, 39), at(0, 0)), at(0, 6), []int{39}, 40},
		{"outside", around, at(3, 3), nil, -1},
		{"far outside", around, at(99, 0), nil, -1},
	} {
		if !impl.PatrolOk(bent, c.patrol) {
			t.Errorf("%s: PatrolOk(%v) = false", c.name, c.patrol)
		}
		checkSeenOn(t, bent, c.patrol, c.p, c.seen, c.gap)
	}
}

func countTo(n int) func(yield func(k int) bool) {
	return func(yield func(k int) bool) {
		for k := range n {
			if !yield(k) {
				return
			}
		}
	}
}

func TestWatchesAll(t *testing.T) {
	square, bent, notch := room(0, 0, 4, 0, 4, 4, 0, 4), room(0, 0, 6, 0, 6, 2, 2, 2, 2, 6, 0, 6), room(0, 0, 8, 0, 8, 6, 4, 2, 0, 6)
	for _, c := range []struct {
		name   string
		r      impl.Room
		patrol []impl.Point
		gap    int
	}{
		{"one point of a square", square, []impl.Point{at(1, 1)}, 1},
		{"around a square", square, square.Corners, 1},
		{"one point of a bent room", bent, []impl.Point{at(2, 2)}, 1},
		{"one point that does not see all", bent, []impl.Point{at(3, 2)}, -1},
		{"around a bent room", bent, []impl.Point{at(6, 0), at(0, 0), at(0, 6), at(0, 0)}, 2},
		{"all corners of a bent room", bent, bent.Corners, 3},
		{"only at the end all is seen", bent, []impl.Point{at(6, 1), at(6, 0), at(6, 2), at(0, 0)}, 4},
		{"a part of a notch", notch, []impl.Point{at(8, 6)}, -1},
		{"all of a notch, from two points", notch, []impl.Point{at(8, 0), at(0, 0)}, 2},
		{"all but one corner of a notch", notch, []impl.Point{at(8, 0), at(8, 1)}, -1},
		{"40 moments", bent, append(slices.Repeat([]impl.Point{at(6, 1)}, 39), at(0, 0)), 40},
		{"the largest room", room(-40, -40, 40, -40, 40, 40, -40, 40), ring(room(-40, -40, 40, -40, 40, 40, -40, 40), 40), 1},
	} {
		if got := impl.WorstGap(c.r, c.patrol); got != c.gap {
			t.Errorf("%s: WorstGap(%v, %v) = %d; want %d", c.name, c.r, c.patrol, got, c.gap)
		}
		if got := impl.WatchesAll(c.r, c.patrol); got != (c.gap > 0) {
			t.Errorf("%s: WatchesAll(%v, %v) = %v", c.name, c.r, c.patrol, got)
		}
		if !impl.PatrolOk(c.r, c.patrol) {
			t.Errorf("%s: PatrolOk(%v, %v) = false", c.name, c.r, c.patrol)
		}
	}
}

// somePatrol goes from a point to a point that it sees, and stops where it sees the first one.
func somePatrol(source *rand.Rand, r impl.Room, floor []impl.Point) []impl.Point {
	patrol := []impl.Point{floor[source.Intn(len(floor))]}
	for range 4 * source.Intn(9) {
		p := floor[source.Intn(len(floor))]
		if source.Intn(2) == 0 {
			p = r.Corners[source.Intn(len(r.Corners))]
		}
		if doSee(r, patrol[len(patrol)-1], p) {
			patrol = append(patrol, p)
		}
	}
	return patrol
}

// Promise 22: a patrol is as good from whichever point it begins.
func TestPatrolsMany(t *testing.T) {
	source, counts := rand.New(rand.NewSource(71)), map[string]int{}
	for _, r := range guardRooms(72, 60) {
		floor := smallFloorOf(r)
		if len(floor) > 120 {
			continue
		}
		for range 12 {
			patrol := somePatrol(source, r, floor)
			isGood := isPatrol(r, patrol)
			if got := impl.PatrolOk(r, patrol); got != isGood {
				t.Fatalf("PatrolOk(%v, %v) = %v", r, patrol, got)
			}
			if !isGood {
				counts["no patrol"]++
				checkNoPatrol(t, "does not come back", r, patrol, floor[0])
				continue
			}
			worst := 0
			for _, p := range floor {
				seen := seenOn(r, patrol, p)
				gap := gapOf(len(patrol), seen)
				checkSeenOn(t, r, patrol, p, seen, gap)
				if gap < 0 || worst >= 0 && gap > worst {
					worst = gap
				}
			}
			if impl.WorstGap(r, patrol) != worst || impl.WatchesAll(r, patrol) != (worst > 0) {
				t.Fatalf("WorstGap(%v, %v) = %d, WatchesAll = %v; want %d", r, patrol, impl.WorstGap(r, patrol), impl.WatchesAll(r, patrol), worst)
			}
			switch {
			case worst < 0:
				counts["blind"]++
			case worst < 3:
				counts["watchful"]++
			default:
				counts["slow"]++
			}
			checkOtherBeginnings(t, r, patrol, floor)
		}
	}
	if counts["no patrol"] < 50 || counts["blind"] < 50 || counts["watchful"] < 20 || counts["slow"] < 20 {
		t.Errorf("too few patrols of some kind: %v", counts)
	}
}

func checkOtherBeginnings(t *testing.T, r impl.Room, patrol []impl.Point, floor []impl.Point) {
	t.Helper()
	worst, isWatched := impl.WorstGap(r, patrol), impl.WatchesAll(r, patrol)
	for k := 0; k < len(patrol); k += 1 + len(patrol)/4 {
		x := rotations(impl.Room{Corners: patrol})[k]
		if !impl.PatrolOk(r, x.Corners) || impl.WorstGap(r, x.Corners) != worst || impl.WatchesAll(r, x.Corners) != isWatched {
			t.Fatalf("in %v, the patrol %v is another one than %v", r, x.Corners, patrol)
		}
		for _, p := range []impl.Point{floor[0], floor[len(floor)/2], r.Corners[1]} {
			if impl.LongestGap(r, x.Corners, p) != impl.LongestGap(r, patrol, p) || len(impl.SeenOn(r, x.Corners, p)) != len(impl.SeenOn(r, patrol, p)) {
				t.Fatalf("in %v, the patrol %v sees %v in another way than %v", r, x.Corners, p, patrol)
			}
		}
	}
}

func TestPatrolOutside(t *testing.T) {
	for _, r := range guardRooms(73, 20) {
		for _, p := range pointsAround(r) {
			if placed(r, 1, p) == impl.InOutside {
				checkSeenOn(t, r, []impl.Point{r.Corners[0]}, p, nil, -1)
				checkNoPatrol(t, "outside", r, []impl.Point{p}, r.Corners[0])
				checkNoPatrol(t, "outside", r, []impl.Point{r.Corners[0], p}, r.Corners[0])
			}
		}
	}
}

func TestPatrolInvalid(t *testing.T) {
	for name, r := range badRooms() {
		for _, p := range badPlaces(r) {
			checkNoPatrol(t, name, r, []impl.Point{p}, p)
			checkNoPatrol(t, name, r, []impl.Point{at(1, 1), p}, at(1, 1))
		}
		checkNoPatrol(t, name, r, nil, at(1, 1))
	}
	for _, r := range goodRooms() {
		first, second := r.Corners[0], r.Corners[1]
		for _, p := range badPoints() {
			for _, patrol := range [][]impl.Point{{p}, {p, first}, {first, p}, {first, p, second}, {p, first, p}} {
				checkNoPatrol(t, "a bad point", r, patrol, first)
			}
			checkSeenOn(t, r, []impl.Point{first, second}, p, nil, -1)
		}
	}
}

func TestPatrolArguments(t *testing.T) {
	checkRoomsKept(t, func(r impl.Room) {
		if len(impl.FloorPoints(r)) > 1000 {
			return
		}
		impl.PatrolOk(r, r.Corners)
		impl.SeenOn(r, r.Corners, impl.CornerAt(r, 0))
		impl.LongestGap(r, r.Corners, impl.CornerAt(r, 0))
		impl.WatchesAll(r, r.Corners)
		impl.WorstGap(r, r.Corners)
	})
	checkNew(t, -99, func(r impl.Room) []int { return impl.SeenOn(r, r.Corners, impl.CornerAt(r, 0)) })
}
