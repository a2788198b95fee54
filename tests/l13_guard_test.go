package tests

import (
	"math"
	"math/rand"
	"slices"
	"testing"

	"loop.example/g00991/impl"
)

// guardRooms have few points, so that all sights between them can be looked at.
func guardRooms(seed int64, count int) []impl.Room {
	var list []impl.Room
	for _, r := range append(cutRooms(), movedRooms(seed, count)...) {
		if len(pointsAround(r)) < 300 {
			list = append(list, r)
		}
	}
	return list
}

func areInside(r impl.Room, list []impl.Point) bool {
	return !slices.ContainsFunc(list, func(p impl.Point) bool { return placed(r, 1, p) == impl.InOutside })
}

// smallFloorOf goes through the points around a room, from below and from the left.
func smallFloorOf(r impl.Room) []impl.Point {
	floor := slices.DeleteFunc(pointsAround(r), func(p impl.Point) bool { return placed(r, 1, p) == impl.InOutside })
	slices.SortFunc(floor, func(p impl.Point, q impl.Point) int { return (p.Y-q.Y)*1000 + p.X - q.X })
	return floor
}

func hiddenFrom(r impl.Room, floor []impl.Point, guards []impl.Point) []impl.Point {
	var list []impl.Point
	for _, p := range floor {
		if !slices.ContainsFunc(guards, func(guard impl.Point) bool { return doSee(r, guard, p) }) {
			list = append(list, p)
		}
	}
	return list
}

func nearestOf(r impl.Room, guards []impl.Point, p impl.Point) int {
	nearest, least := -1, math.MaxInt
	for k, guard := range guards {
		x, y := guard.X-p.X, guard.Y-p.Y
		if doSee(r, p, guard) && x*x+y*y < least {
			nearest, least = k, x*x+y*y
		}
	}
	return nearest
}

func checkGuards(t *testing.T, r impl.Room, guards []impl.Point, want []impl.Point) {
	t.Helper()
	if got := impl.UnseenBy(r, guards); !slices.Equal(got, want) {
		t.Fatalf("UnseenBy(%v, %v) = %v; want %v", r, guards, got, want)
	}
	if got := impl.SeesAll(r, guards); got != (len(want) == 0) {
		t.Fatalf("SeesAll(%v, %v) = %v", r, guards, got)
	}
}

// checkNoGuards takes guards of whom one is outside, or a room that is not valid.
func checkNoGuards(t *testing.T, name string, r impl.Room, guards []impl.Point) {
	t.Helper()
	if impl.SeesAll(r, guards) || len(impl.UnseenBy(r, guards)) != 0 {
		t.Errorf("%s: SeesAll(%v, %v) = %v, UnseenBy = %v", name, r, guards, impl.SeesAll(r, guards), impl.UnseenBy(r, guards))
	}
	for _, p := range append(slices.Clone(guards), at(1, 1), at(0, 0), at(2, 1)) {
		if got := impl.NearestGuard(r, guards, p); got != -1 {
			t.Errorf("%s: NearestGuard(%v, %v, %v) = %d", name, r, guards, p, got)
		}
	}
}

func TestGuards(t *testing.T) {
	square := room(0, 0, 4, 0, 4, 4, 0, 4)
	bent := room(0, 0, 2, 0, 2, 1, 1, 1, 1, 2, 0, 2)
	notch := room(0, 0, 4, 0, 4, 3, 2, 1, 0, 3)
	for _, c := range []struct {
		name   string
		r      impl.Room
		guards []impl.Point
		unseen []impl.Point
	}{
		{"inside a square", square, []impl.Point{at(1, 2)}, nil},
		{"in the corner of a square", square, []impl.Point{at(4, 4)}, nil},
		{"on the wall of a square", square, []impl.Point{at(0, 3)}, nil},
		{"several", square, []impl.Point{at(0, 3), at(1, 1), at(4, 4)}, nil},
		{"no guards", bent, nil, room(0, 0, 1, 0, 2, 0, 0, 1, 1, 1, 2, 1, 0, 2, 1, 2).Corners},
		{"no guards, but a list", bent, []impl.Point{}, room(0, 0, 1, 0, 2, 0, 0, 1, 1, 1, 2, 1, 0, 2, 1, 2).Corners},
		{"in the middle", bent, []impl.Point{at(1, 1)}, nil},
		{"at one end", bent, []impl.Point{at(2, 1)}, room(0, 2, 1, 2).Corners},
		{"at the other end", bent, []impl.Point{at(1, 2)}, room(2, 0, 2, 1).Corners},
		{"at both ends", bent, []impl.Point{at(1, 2), at(2, 1)}, nil},
		{"the same guard twice", bent, []impl.Point{at(2, 1), at(2, 1)}, room(0, 2, 1, 2).Corners},
		{"the same guard twice, and another one", bent, []impl.Point{at(2, 1), at(1, 2), at(2, 1)}, nil},
		{"on a wall", bent, []impl.Point{at(1, 0)}, nil},
		{"beside a notch", notch, []impl.Point{at(0, 1)}, room(3, 2, 4, 2, 4, 3).Corners},
		{"under a notch", notch, []impl.Point{at(2, 1)}, nil},
		{"at both sides of a notch", notch, []impl.Point{at(4, 3), at(0, 3)}, nil},
		{"on one side of a notch", notch, []impl.Point{at(4, 3)}, room(0, 0, 0, 1, 1, 1, 0, 2, 1, 2, 0, 3).Corners},
		{"on one side of a notch, lower", notch, []impl.Point{at(4, 2)}, room(0, 1, 1, 1, 0, 2, 1, 2, 0, 3).Corners},
	} {
		checkGuards(t, c.r, c.guards, c.unseen)
	}
}

func TestGuardsOutside(t *testing.T) {
	notch := room(0, 0, 8, 0, 8, 6, 4, 2, 0, 6)
	checkGuards(t, notch, []impl.Point{at(4, 2), at(0, 6)}, nil)
	for _, out := range append(badPoints(), at(4, 3), at(9, 0), at(-1, 0), at(4, 6), at(5, 4), at(0, 7)) {
		for _, guards := range [][]impl.Point{{out}, {out, out}, {at(4, 2), out}, {out, at(4, 2)}, {at(4, 2), out, at(0, 6)}, {at(1, 1), at(4, 2), at(8, 6), out}} {
			checkNoGuards(t, "a guard is outside", notch, guards)
		}
	}
}

func TestGuardsMany(t *testing.T) {
	source := rand.New(rand.NewSource(24))
	counts := map[bool]int{}
	for _, r := range guardRooms(24, 80) {
		floor := smallFloorOf(r)
		for number := range 8 {
			var guards []impl.Point
			for range number % 4 {
				guards = append(guards, floor[source.Intn(len(floor))])
			}
			if number == 6 {
				guards = append(guards, guards[0])
			}
			want := hiddenFrom(r, floor, guards)
			counts[len(want) == 0]++
			checkGuards(t, r, guards, want)
		}
		for _, p := range r.Corners {
			checkGuards(t, r, []impl.Point{p}, hiddenFrom(r, floor, []impl.Point{p}))
		}
		checkGuards(t, r, r.Corners, nil)
		checkGuards(t, r, floor, nil)
	}
	if counts[true] < 50 || counts[false] < 50 {
		t.Errorf("too few guards see all or too many: %v", counts)
	}
}

// A long list has the same guard again and again.
func TestGuardsLongList(t *testing.T) {
	r := room(-40, -40, 40, -40, 40, 40, 0, -39, -40, 40)
	guards := slices.Repeat([]impl.Point{at(-40, -40), at(-40, 40), at(-40, 0)}, 20000)
	checkGuards(t, r, guards, impl.UnseenBy(r, guards[:3]))
	checkGuards(t, r, append(guards, at(0, -39)), nil)
	guards = append(guards, at(0, -38))
	if impl.SeesAll(r, guards) || len(impl.UnseenBy(r, guards)) != 0 || impl.NearestGuard(r, guards, at(0, -40)) != -1 {
		t.Error("the last guard is outside, but that changes nothing")
	}
}

// Promise 13: a third of the corners sees everything.
func TestColorGuards(t *testing.T) {
	for _, c := range []struct {
		r    impl.Room
		want []int
	}{
		{room(0, 0, 4, 0, 0, 4), []int{0}},
		{room(0, 0, 4, 0, 4, 4, 0, 4), []int{1}},
		{room(0, 0, 5, 1, 1, 1, 1, 5), []int{0}},
		{manyCorners(5), []int{4}},
		{room(0, 0, 8, 0, 8, 6, 4, 2, 0, 6), []int{3}},
		{room(0, 0, 6, 0, 6, 2, 2, 2, 2, 6, 0, 6), []int{1, 3}},
		{lean(), []int{1, 4}},
		{comb(), []int{0, 2, 5}},
	} {
		if got := impl.ColorGuards(c.r); !slices.Equal(got, c.want) {
			t.Errorf("ColorGuards(%v) = %v; want %v", c.r, got, c.want)
		}
	}
	for _, r := range append(cutRooms(), movedRooms(25, 200)...) {
		for _, x := range append(rotations(r), mirrored(r)) {
			colors := coloredBy(x, dividedBy(x))
			var want []int
			for k, color := range colors {
				if color == rarestOf(countsOf(colors)) {
					want = append(want, k)
				}
			}
			if got := impl.ColorGuards(x); !slices.Equal(got, want) || len(got) > len(x.Corners)/3 {
				t.Fatalf("ColorGuards(%v) = %v; want %v", x, got, want)
			}
			if !impl.SeesAll(x, impl.PointsOf(x, want)) {
				t.Fatalf("the corners %v of %v don't see all", want, x)
			}
		}
	}
	for _, r := range guardRooms(26, 60) {
		if got := hiddenFrom(r, smallFloorOf(r), impl.PointsOf(r, impl.ColorGuards(r))); len(got) != 0 {
			t.Errorf("ColorGuards(%v) = %v don't see %v", r, impl.ColorGuards(r), got)
		}
	}
}

func TestPointsOf(t *testing.T) {
	notch := room(0, 0, 8, 0, 8, 6, 4, 2, 0, 6)
	for _, c := range []struct {
		corners []int
		want    []impl.Point
	}{
		{[]int{0}, []impl.Point{at(0, 0)}},
		{[]int{4}, []impl.Point{at(0, 6)}},
		{[]int{1, 3}, []impl.Point{at(8, 0), at(4, 2)}},
		{[]int{3, 1}, []impl.Point{at(4, 2), at(8, 0)}},
		{[]int{4, 3, 2, 1, 0}, reversed(notch).Corners},
		{[]int{0, 1, 2, 3, 4}, notch.Corners},
		{[]int{2, 2}, []impl.Point{at(8, 6), at(8, 6)}},
		{[]int{2, 0, 2, 0, 2, 0, 2}, []impl.Point{at(8, 6), at(0, 0), at(8, 6), at(0, 0), at(8, 6), at(0, 0), at(8, 6)}},
		{nil, nil},
		{[]int{}, nil},
	} {
		if got := impl.PointsOf(notch, c.corners); !slices.Equal(got, c.want) {
			t.Errorf("PointsOf(%v, %v) = %v; want %v", notch, c.corners, got, c.want)
		}
	}
	for _, r := range append(goodRooms(), bump()) {
		n := len(r.Corners)
		for _, far := range farIndexes(n) {
			if far >= 0 && far < n {
				continue
			}
			for _, corners := range [][]int{{far}, {far, 0}, {0, far}, {0, 1, far, 2}, {n - 1, far}, {far, far}} {
				if got := impl.PointsOf(r, corners); len(got) != 0 {
					t.Errorf("PointsOf(%v, %v) = %v", r, corners, got)
				}
			}
		}
	}
}

func TestNearestGuard(t *testing.T) {
	square := room(0, 0, 4, 0, 4, 4, 0, 4)
	bent := room(0, 0, 6, 0, 6, 2, 2, 2, 2, 6, 0, 6)
	for _, c := range []struct {
		name   string
		r      impl.Room
		guards []impl.Point
		p      impl.Point
		want   int
	}{
		{"one", square, []impl.Point{at(0, 0)}, at(3, 3), 0},
		{"the second one", square, []impl.Point{at(0, 0), at(4, 4)}, at(3, 3), 1},
		{"the first one", square, []impl.Point{at(4, 4), at(0, 0)}, at(3, 3), 0},
		{"the one between", square, []impl.Point{at(4, 4), at(0, 1), at(4, 0)}, at(1, 1), 1},
		{"the last one", square, []impl.Point{at(4, 4), at(3, 3), at(2, 2), at(1, 1)}, at(0, 0), 3},
		{"the guard is there", square, []impl.Point{at(1, 2), at(2, 2), at(3, 2)}, at(2, 2), 1},
		{"no guards", square, nil, at(3, 3), -1},
		{"no guards, but a list", square, []impl.Point{}, at(3, 3), -1},
		{"the same distance", square, []impl.Point{at(4, 0), at(1, 1), at(3, 3)}, at(2, 2), 1},
		{"the same distance, in the other order", square, []impl.Point{at(4, 0), at(3, 3), at(1, 1)}, at(2, 2), 1},
		{"the same distance, but not the same steps", room(-40, -40, 40, -40, 40, 40, -40, 40), []impl.Point{at(5, 0), at(3, 4), at(0, -5), at(-4, 3)}, at(0, 0), 0},
		{"fewer steps, but farther", square, []impl.Point{at(4, 0), at(3, 3)}, at(0, 0), 0},
		{"the same guard twice", square, []impl.Point{at(4, 4), at(1, 1), at(1, 1)}, at(0, 0), 1},
		{"a nearer one sees nothing", bent, []impl.Point{at(6, 2), at(0, 0)}, at(2, 6), 1},
		{"a nearer one sees nothing, the other order", bent, []impl.Point{at(0, 0), at(6, 2)}, at(2, 6), 0},
		{"a nearer one sees nothing, nor the nearest", bent, []impl.Point{at(6, 2), at(0, 0), at(4, 2)}, at(2, 6), 1},
		{"none sees it", bent, []impl.Point{at(6, 2), at(6, 0), at(4, 2)}, at(1, 6), -1},
		{"as far, but one sees nothing", bent, []impl.Point{at(2, 6), at(1, 0), at(1, 4)}, at(5, 2), 1},
		{"on a wall and at a corner", bent, []impl.Point{at(0, 6), at(2, 4)}, at(2, 2), 1},
		// The point is outside.
		{"in the corner of a bent room", bent, []impl.Point{at(2, 2)}, at(3, 3), -1},
		{"beside a square", square, []impl.Point{at(4, 4)}, at(5, 4), -1},
		{"past the limit", room(-40, -40, 40, -40, 40, 40, -40, 40), []impl.Point{at(40, 40)}, at(41, 40), -1},
		{"far outside", square, []impl.Point{at(4, 4)}, at(math.MaxInt, math.MinInt), -1},
	} {
		if got := impl.NearestGuard(c.r, c.guards, c.p); got != c.want {
			t.Errorf("%s: NearestGuard(%v, %v, %v) = %d; want %d", c.name, c.r, c.guards, c.p, got, c.want)
		}
	}
	for _, out := range append(badPoints(), at(5, 5), at(5, 2), at(-1, 2)) {
		for _, guards := range [][]impl.Point{{out}, {at(1, 1), out}, {out, at(1, 1)}, {at(1, 1), at(2, 2), out, at(3, 3)}} {
			if got := impl.NearestGuard(square, guards, at(1, 1)); got != -1 {
				t.Errorf("NearestGuard(%v, %v, 1,1) = %d", square, guards, got)
			}
		}
		if got := impl.NearestGuard(square, []impl.Point{at(1, 1), at(2, 2)}, out); got != -1 {
			t.Errorf("NearestGuard(%v, 1,1 and 2,2, %v) = %d", square, out, got)
		}
	}
}

func TestNearestGuardMany(t *testing.T) {
	source := rand.New(rand.NewSource(27))
	counts := map[bool]int{}
	for _, r := range guardRooms(27, 80) {
		points := pointsAround(r)
		for number := range 60 {
			var guards []impl.Point
			for len(guards) < number%6 {
				if p := points[source.Intn(len(points))]; placed(r, 1, p) != impl.InOutside || source.Intn(40) == 0 {
					guards = append(guards, p)
				}
			}
			p, want := points[source.Intn(len(points))], -1
			if areInside(r, guards) {
				want = nearestOf(r, guards, p)
			}
			counts[want >= 0]++
			if got := impl.NearestGuard(r, guards, p); got != want {
				t.Fatalf("NearestGuard(%v, %v, %v) = %d; want %d", r, guards, p, got, want)
			}
		}
	}
	if counts[true] < 500 || counts[false] < 500 {
		t.Errorf("too few points are seen or too many: %v", counts)
	}
}

func TestGuardInvalid(t *testing.T) {
	for name, r := range badRooms() {
		if got := impl.ColorGuards(r); len(got) != 0 {
			t.Errorf("ColorGuards of %s = %v", name, got)
		}
		for _, guards := range [][]impl.Point{nil, {}, {at(0, 0)}, {at(1, 1)}, {at(1, 1), at(2, 1)}, r.Corners} {
			checkNoGuards(t, name, r, guards)
		}
		for _, corners := range [][]int{nil, {}, {0}, {0, 1}, {-1}, {2, 1, 0}, {math.MaxInt}} {
			if got := impl.PointsOf(r, corners); len(got) != 0 {
				t.Errorf("PointsOf of %s, %v = %v", name, corners, got)
			}
		}
	}
}

func TestGuardArguments(t *testing.T) {
	checkRoomsKept(t, func(r impl.Room) {
		impl.SeesAll(r, r.Corners)
		impl.ColorGuards(r)
		spoil(impl.PointsOf(r, []int{0, 1, 2}), at(99, -99))
		impl.UnseenBy(r, r.Corners)
		impl.NearestGuard(r, r.Corners, impl.CornerAt(r, 0))
	})
	checkNew(t, -99, impl.ColorGuards)
	checkNew(t, at(99, -99), func(r impl.Room) []impl.Point { return impl.PointsOf(r, []int{0, 2, 1}) })
	checkNew(t, at(99, -99), func(r impl.Room) []impl.Point { return impl.UnseenBy(r, nil) })
	checkNew(t, at(99, -99), func(r impl.Room) []impl.Point { return impl.UnseenBy(r, r.Corners[:1]) })
	corners := []int{2, 0, 1, 77, 78}
	impl.PointsOf(room(0, 0, 4, 0, 0, 4), corners[:3])
	impl.PointsOf(room(0, 0, 4, 0, 0, 4), corners[:4])
	if !slices.Equal(corners, []int{2, 0, 1, 77, 78}) {
		t.Errorf("PointsOf changes its list: %v", corners)
	}
}
