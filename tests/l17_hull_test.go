package tests

import (
	"math"
	"math/rand"
	"slices"
	"testing"

	"loop.example/g00991/impl"
)

// isHullSide reports whether no point is to the right of the line from a to b, and none is on it but between them.
func isHullSide(list []impl.Point, a impl.Point, b impl.Point) bool {
	return a != b && !slices.ContainsFunc(list, func(p impl.Point) bool {
		turn := areaBelow([]impl.Point{a, b, p})
		return turn < 0 || turn == 0 && !isOn(impl.Wall{A: a, B: b}, p)
	})
}

// hullOf looks at all pairs of points; the program goes from corner to corner.
func hullOf(list []impl.Point) []impl.Point {
	next := map[impl.Point]impl.Point{}
	for _, a := range list {
		for _, b := range list {
			if isHullSide(list, a, b) {
				next[a] = b
			}
		}
	}
	if len(next) < 3 || len(list) > 30 {
		return nil
	}
	start := slices.MinFunc(list, func(p impl.Point, q impl.Point) int { return (p.Y-q.Y)*1000 + p.X - q.X })
	hull := []impl.Point{start}
	for p := next[start]; p != start; p = next[p] {
		hull = append(hull, p)
	}
	return hull
}

func checkHull(t *testing.T, name string, list []impl.Point, want []impl.Point) {
	t.Helper()
	if got := impl.HullOf(list); !slices.Equal(got, want) {
		t.Fatalf("%s: HullOf(%v) = %v; want %v", name, list, got, want)
	}
}

// ring has as many points as there are corners in a room, each of them several times, and in no order.
func ring(r impl.Room, n int) []impl.Point {
	var list []impl.Point
	for k := range n {
		list = append(list, r.Corners[k*7%len(r.Corners)])
	}
	return list
}

func TestHullOf(t *testing.T) {
	square, ten := room(0, 0, 4, 0, 4, 4, 0, 4).Corners, manyCorners(10)
	for _, c := range []struct {
		name string
		list []impl.Point
		want []impl.Point
	}{
		{"a triangle", room(0, 0, 4, 0, 0, 4).Corners, room(0, 0, 4, 0, 0, 4).Corners},
		{"a triangle in the other order", room(0, 0, 0, 4, 4, 0).Corners, room(0, 0, 4, 0, 0, 4).Corners},
		{"a triangle that begins above", room(1, 5, 0, 0, 4, 1).Corners, room(0, 0, 4, 1, 1, 5).Corners},
		{"a small triangle", room(0, 0, 1, 0, 0, 1).Corners, room(0, 0, 1, 0, 0, 1).Corners},
		{"a flat triangle", room(-40, -40, 40, 40, 39, 40).Corners, room(-40, -40, 40, 40, 39, 40).Corners},
		{"a point inside", append(slices.Clone(square), at(1, 2)), square},
		{"the first point inside", append([]impl.Point{at(1, 2)}, square...), square},
		{"points on all sides", append(room(2, 0, 4, 1, 3, 4, 0, 2, 1, 0, 4, 3).Corners, square...), square},
		{"points on all sides, behind the corners", append(slices.Clone(square), room(2, 0, 4, 1, 3, 4, 0, 2, 1, 0, 4, 3).Corners...), square},
		{"one point beside a line", room(0, 0, 1, 0, 2, 0, 3, 0, 4, 0, 2, 1).Corners, room(0, 0, 4, 0, 2, 1).Corners},
		{"one point under a line", room(0, 0, 1, 1, 2, 2, 3, 3, 4, 3).Corners, room(0, 0, 4, 3, 3, 3).Corners},
		{"each point twice", append(slices.Clone(square), square...), square},
		{"one point again and again", append(room(0, 0, 0, 0, 0, 0, 0, 0).Corners, square...), square},
		{"two equal points of four", room(3, 1, 0, 0, 3, 1, 2, 5).Corners, room(0, 0, 3, 1, 2, 5).Corners},
		{"the least Y three times", room(5, -2, 3, -2, 9, -2, 4, 4).Corners, room(3, -2, 9, -2, 4, 4).Corners},
		{"the least X is higher", room(5, -2, -7, -1, 9, 3).Corners, room(5, -2, 9, 3, -7, -1).Corners},
		{"the least Y and the least X are equal for two", room(2, 7, 2, 3, 2, 3, 2, 7, 5, 5).Corners, room(2, 3, 5, 5, 2, 7).Corners},
		{"ten corners, backwards", reversed(ten).Corners, ten.Corners},
		{"a bent room", room(0, 0, 6, 0, 6, 2, 2, 2, 2, 6, 0, 6).Corners, room(0, 0, 6, 0, 6, 2, 2, 6, 0, 6).Corners},
		{"a star", room(0, 5, -1, 1, -5, 0, -1, -1, 0, -5, 1, -1, 5, 0).Corners, room(0, -5, 5, 0, 0, 5, -5, 0).Corners},
		{"walls that cross", room(0, 0, 4, 4, 4, 0, 0, 4).Corners, square},
		{"the limits", room(40, 40, -40, 40, 0, 0, 40, -40, -40, -40).Corners, room(-40, -40, 40, -40, 40, 40, -40, 40).Corners},
		{"twelve corners", manyCorners(12).Corners, manyCorners(12).Corners},
		{"30 points", ring(ten, 30), ten.Corners},
		{"31 points", ring(ten, 31), nil},
		{"31 points, all but three equal", append(ring(room(1, 1), 28), room(0, 0, 4, 0, 0, 4).Corners...), nil},
		{"30 points, all but three equal", append(ring(room(1, 1), 27), room(0, 0, 4, 0, 0, 4).Corners...), room(0, 0, 4, 0, 0, 4).Corners},
		{"many points", ring(ten, 1000), nil},
		{"no points", nil, nil},
		{"no points, but memory", []impl.Point{}, nil},
		{"one point", room(0, 0).Corners, nil},
		{"two points", room(0, 0, 4, 1).Corners, nil},
		{"two points, four times", room(0, 0, 4, 1, 0, 0, 4, 1).Corners, nil},
		{"three equal points", room(2, 3, 2, 3, 2, 3).Corners, nil},
		{"three points, two of them equal", room(2, 3, 2, 3, 5, 9).Corners, nil},
		{"a level line", room(3, 1, 1, 1, 2, 1).Corners, nil},
		{"an upright line", room(1, 3, 1, 1, 1, 2, 1, -9).Corners, nil},
		{"a line upwards", room(0, 0, 1, 1, 2, 2).Corners, nil},
		{"a line downwards", room(0, 0, -2, 1, 2, -1, 4, -2).Corners, nil},
		{"30 points on a line", ring(room(0, 0, 1, 2, 2, 4, 3, 6, 4, 8), 30), nil},
		{"30 equal points", ring(room(-40, 40), 30), nil},
	} {
		checkHull(t, c.name, c.list, c.want)
		backwards := slices.Clone(c.list)
		slices.Reverse(backwards)
		checkHull(t, c.name+", backwards", backwards, c.want)
	}
}

// Promise 17: a hull is convex and holds all points.
func TestHullOfMany(t *testing.T) {
	source, counts := rand.New(rand.NewSource(41)), map[int]int{}
	for i := range 6000 {
		side := 2 + source.Intn(1+i%80)
		var list []impl.Point
		for range 1 + source.Intn(30) {
			list = append(list, at(source.Intn(side)-side/2, source.Intn(side)-side/2))
		}
		want := hullOf(list)
		checkHull(t, "at random", list, want)
		counts[len(want)]++
		for k := range want {
			a, b, c := want[k], want[(k+1)%len(want)], want[(k+2)%len(want)]
			if impl.TurnOf(a, b, c) <= 0 {
				t.Fatalf("HullOf(%v) = %v doesn't turn left at %v", list, want, b)
			}
			for _, p := range list {
				if impl.TurnOf(a, b, p) < 0 {
					t.Fatalf("HullOf(%v) = %v doesn't hold %v", list, want, p)
				}
			}
		}
	}
	for n := range 11 {
		if n != 1 && n != 2 && counts[n] < 50 {
			t.Errorf("only %d hulls have %d corners", counts[n], n)
		}
	}
}

// All lists of up to four points of a square with 3 times 3 points, equal ones and lines among them.
func TestHullOfSmallLists(t *testing.T) {
	lists := [][]impl.Point{nil}
	for len(lists[0]) < 4 {
		var longer [][]impl.Point
		for _, list := range lists {
			for k := range 9 {
				longer = append(longer, append(slices.Clone(list), at(k%3, k/3)))
			}
		}
		lists = longer
		for _, list := range lists {
			checkHull(t, "a small list", list, hullOf(list))
		}
	}
}

func TestHullOfInvalid(t *testing.T) {
	for _, good := range [][]impl.Point{room(0, 0, 4, 0, 0, 4).Corners, manyCorners(10).Corners, ring(manyCorners(10), 29)} {
		for _, p := range append(badPoints(), at(41, 0), at(0, -41), at(math.MaxInt, math.MaxInt)) {
			for k := range len(good) + 1 {
				checkHull(t, "with a bad point", slices.Insert(slices.Clone(good), k, p), nil)
				if k < len(good) {
					checkHull(t, "with a bad point in place of another one", withCorner(impl.Room{Corners: good}, k, p).Corners, nil)
				}
			}
		}
	}
}

// threePockets has two pockets of one corner each, and one of two.
func threePockets() impl.Room {
	return room(0, 0, 5, 2, 10, 0, 9, 5, 10, 9, 7, 8, 3, 8, 0, 9)
}

func TestHullRoom(t *testing.T) {
	for _, c := range []struct {
		name    string
		r       impl.Room
		want    impl.Room
		pockets int
		area    int
	}{
		{"a triangle", room(0, 0, 4, 0, 0, 4), room(0, 0, 4, 0, 0, 4), 0, 0},
		{"a square", room(0, 0, 4, 0, 4, 4, 0, 4), room(0, 0, 4, 0, 4, 4, 0, 4), 0, 0},
		{"ten corners that stick out", manyCorners(10), manyCorners(10), 0, 0},
		{"the limits", room(-40, -40, 40, -40, 40, 40, -40, 40), room(-40, -40, 40, -40, 40, 40, -40, 40), 0, 0},
		{"a bent room", room(0, 0, 6, 0, 6, 2, 2, 2, 2, 6, 0, 6), room(0, 0, 6, 0, 6, 2, 2, 6, 0, 6), 1, 16},
		{"an arrow", room(0, 0, 5, 1, 1, 1, 1, 5), room(0, 0, 5, 1, 1, 5), 1, 16},
		{"a notch", room(0, 0, 8, 0, 8, 6, 4, 2, 0, 6), room(0, 0, 8, 0, 8, 6, 0, 6), 1, 32},
		{"a gap", horns(), room(0, 0, 9, 0, 9, 5, 0, 5), 1, 18},
		{"four corners in a gap", room(0, 0, 20, 0, 20, 9, 15, 3, 12, 2, 8, 2, 5, 3, 0, 9), room(0, 0, 20, 0, 20, 9, 0, 9), 1, 194},
		{"three pockets", threePockets(), room(0, 0, 10, 0, 10, 9, 0, 9), 3, 43},
		{"three pockets of a triangle", hollowTriangle(), room(0, 0, 12, 0, 6, 12), 3, 60},
		// The corner 6,6 is on the side of the hull, so that two pockets are one.
		{"peaks", peaks(), room(0, 0, 12, 0, 12, 6, 0, 6), 1, 36},
		{"valleys", valleys(), room(0, 0, 12, 0, 12, 6, 0, 6), 1, 36},
		{"teeth", teeth(), room(0, 0, 8, 0, 8, 6, 0, 6), 1, 24},
		// The side of the hull goes along two walls, with a pocket between them.
		{"corners on the side of the hull", room(0, 0, 2, 0, 3, 1, 4, 0, 6, 0, 3, 6), room(0, 0, 6, 0, 3, 6), 1, 2},
	} {
		for _, x := range rotations(c.r) {
			if got := impl.HullRoom(x); !slices.Equal(got.Corners, c.want.Corners) {
				t.Errorf("%s: HullRoom(%v) = %v; want %v", c.name, x, got, c.want)
			}
			if impl.CountPockets(x) != c.pockets || impl.PocketArea(x) != c.area {
				t.Errorf("%s: %v has %d pockets with the area %d; want %d, %d", c.name, x, impl.CountPockets(x), impl.PocketArea(x), c.pockets, c.area)
			}
		}
	}
}

// pocketsOf counts the sides of a hull that are no walls.
func pocketsOf(r impl.Room, hull []impl.Point) int {
	walls := map[impl.Wall]bool{}
	for k := range r.Corners {
		walls[enlargedWall(r, k, 1)] = true
	}
	count := 0
	for k := range hull {
		if !walls[enlargedWall(impl.Room{Corners: hull}, k, 1)] {
			count++
		}
	}
	return count
}

func TestHullRoomMany(t *testing.T) {
	counts := map[int]int{}
	rooms := append(cornerRooms(), cutRooms()...)
	for _, r := range append(rooms, smallRooms(5)...) {
		want := hullOf(r.Corners)
		got, pockets := impl.HullRoom(r), pocketsOf(r, want)
		if !slices.Equal(got.Corners, want) || !impl.IsConvex(got) || !impl.RoomOk(got) || impl.LowestCorner(got) != 0 {
			t.Fatalf("HullRoom(%v) = %v; want %v", r, got, want)
		}
		if impl.CountPockets(r) != pockets || impl.PocketArea(r) != areaBelow(want)-areaBelow(r.Corners) {
			t.Fatalf("%v has %d pockets, with the area %d; want %d", r, impl.CountPockets(r), impl.PocketArea(r), pockets)
		}
		if (pockets == 0) != impl.IsConvex(r) || (impl.PocketArea(r) == 0) != impl.IsConvex(r) {
			t.Fatalf("%v has %d pockets, with the area %d, and is convex: %v", r, pockets, impl.PocketArea(r), impl.IsConvex(r))
		}
		counts[pockets]++
	}
	for pockets := range 4 {
		if counts[pockets] < 20 {
			t.Errorf("only %d rooms have %d pockets", counts[pockets], pockets)
		}
	}
}

func TestHullRoomInvalid(t *testing.T) {
	for name, r := range badRooms() {
		if got := impl.HullRoom(r); len(got.Corners) != 0 || impl.CountPockets(r) != 0 || impl.PocketArea(r) != 0 {
			t.Errorf("%s: HullRoom = %v, CountPockets = %d, PocketArea = %d", name, got, impl.CountPockets(r), impl.PocketArea(r))
		}
	}
}

func TestHullArguments(t *testing.T) {
	checkRoomsKept(t, func(r impl.Room) {
		impl.HullOf(r.Corners)
		impl.HullRoom(r)
		impl.CountPockets(r)
		impl.PocketArea(r)
	})
	checkNew(t, at(99, -99), func(r impl.Room) []impl.Point { return impl.HullOf(r.Corners) })
	checkNew(t, at(99, -99), func(r impl.Room) []impl.Point { return impl.HullRoom(r).Corners })
}
