package tests

import (
	"fmt"
	"math/rand"
	"slices"
	"testing"

	"loop.example/g00991/impl"
)

// areaBelow adds up the areas between the walls and the line of X; the program adds up triangles.
func areaBelow(corners []impl.Point) int {
	sum := 0
	for k, a := range corners {
		b := corners[(k+1)%len(corners)]
		sum += (a.X - b.X) * (a.Y + b.Y)
	}
	return sum
}

// An emptyRoom has no point with whole coordinates inside.
type emptyRoom struct {
	r    impl.Room
	area int
	edge int
}

func emptyRooms() []emptyRoom {
	return []emptyRoom{
		{room(0, 0, 1, 0, 0, 1), 1, 3},
		{room(0, 0, 2, 1, 1, 1), 1, 3},
		{room(3, -2, 5, 3, 4, 1), 1, 3},
		{room(0, 0, 2, 0, 0, 2), 4, 6},
		{room(0, 0, 1, 0, 1, 1, 0, 1), 2, 4},
		{room(0, 0, 9, 0, 9, 1, 0, 1), 18, 20},
		{room(-40, -40, 40, 39, 39, 39), 79, 81},
		{room(-40, -40, 40, -40, 40, -39), 80, 82},
		{room(39, -40, 40, -40, 40, 40, 39, 40), 160, 162},
		{room(0, 0, 3, 0, 3, 1, 1, 1, 1, 3, 0, 3), 10, 12},
		{room(0, 0, 1, 1, 2, 0, 3, 1, 4, 0, 4, 1, 3, 2, 2, 1, 1, 2, 0, 1), 8, 10},
	}
}

// movedRooms are rooms of which one corner after the other was put somewhere near.
func movedRooms(seed int64, count int) []impl.Room {
	source := rand.New(rand.NewSource(seed))
	var list []impl.Room
	for i := range count {
		r := goodRooms()[i%len(goodRooms())]
		for range 15 {
			k := source.Intn(len(r.Corners))
			near := at(r.Corners[k].X+source.Intn(7)-3, r.Corners[k].Y+source.Intn(7)-3)
			if x := withCorner(r, k, near); impl.PointOk(near) && isRoom(x.Corners) {
				r = x
			}
		}
		list = append(list, r)
	}
	return list
}

// manyRooms have all numbers of corners, with few points and with many, with inner points and without.
func manyRooms() []impl.Room {
	list := append(goodRooms(), movedRooms(5, 60)...)
	for n := 3; n <= impl.MaxCorners; n++ {
		list = append(list, manyCorners(n))
	}
	for _, c := range emptyRooms() {
		list = append(list, c.r)
	}
	return list
}

// floorOf goes through all valid points, from below and from the left.
func floorOf(r impl.Room) (floor []impl.Point, edge int, inner int) {
	for y := -impl.MaxCoordinate; y <= impl.MaxCoordinate; y++ {
		for x := -impl.MaxCoordinate; x <= impl.MaxCoordinate; x++ {
			switch placed(r, 1, at(x, y)) {
			case impl.InWall:
				edge++
			case impl.InInside:
				inner++
			default:
				continue
			}
			floor = append(floor, at(x, y))
		}
	}
	return floor, edge, inner
}

func TestDoubleArea(t *testing.T) {
	for _, c := range []struct {
		r    impl.Room
		want int
	}{
		// No corner, one and two.
		{room(), 0},
		{impl.Room{Corners: []impl.Point{}}, 0},
		{room(3, 4), 0},
		{room(-40, 40), 0},
		{room(3, 4, 5, -7), 0},
		{room(40, 0, 0, 40), 0},
		{room(0, 0, 1, 0, 0, 1), 1},
		{room(0, 0, 0, 1, 1, 0), -1},
		{room(0, 0, 5, 0, 0, 3), 15},
		{room(2, 1, 7, 2, 3, 5), 19},
		{room(-3, -5, -1, -1, -7, -2), 22},
		{room(0, 0, 4, 0, 4, 4, 0, 4), 32},
		{room(0, 0, 0, 4, 4, 4, 4, 0), -32},
		{room(0, 0, 6, 0, 6, 2, 2, 2, 2, 6, 0, 6), 40},
		{room(0, 0, 8, 0, 8, 6, 4, 2, 0, 6), 64},
		{room(0, 6, 4, 2, 8, 6, 8, 0, 0, 0), -64},
		{room(-40, -40, 40, -40, 40, 40, -40, 40), 12800},
		{room(-40, 40, 40, 40, 40, -40, -40, -40), -12800},
		// These are no rooms, but the sum is the same.
		{room(1, 1, 1, 1, 1, 1), 0},
		{room(0, 0, 2, 2, 4, 4), 0},
		{room(1, 2, 3, 5, 5, 8), 0},
		{room(0, 0, 2, 0, 4, 0, 0, 4), 16},
		{room(0, 0, 4, 4, 4, 0, 0, 4), 0},
		{room(0, 0, 6, 0, 6, 6, 3, -1, 0, 6), 30},
		{room(0, 0, 4, 0, 4, 4, 0, 4, 0, 0, 4, 0, 4, 4, 0, 4), 64},
		{room(0, 0, 4, 0, 4, 4, 0, 4, 0, 0, 0, 4, 4, 4, 4, 0), 0},
	} {
		if got := impl.DoubleArea(c.r.Corners); got != c.want {
			t.Errorf("DoubleArea(%v) = %d; want %d", c.r.Corners, got, c.want)
		}
	}
	for _, c := range emptyRooms() {
		if got := impl.DoubleArea(c.r.Corners); got != c.area {
			t.Errorf("DoubleArea(%v) = %d; want %d", c.r.Corners, got, c.area)
		}
	}
}

// The lists are no rooms, but for a few.
func TestDoubleAreaMany(t *testing.T) {
	source := rand.New(rand.NewSource(5))
	for range 2000 {
		var r impl.Room
		for range source.Intn(impl.MaxCorners + 1) {
			r.Corners = append(r.Corners, at(source.Intn(81)-40, source.Intn(81)-40))
		}
		want := areaBelow(r.Corners)
		for _, x := range append(rotations(r), r) {
			if got := impl.DoubleArea(x.Corners); got != want {
				t.Fatalf("DoubleArea(%v) = %d; want %d", x.Corners, got, want)
			}
			if got := impl.DoubleArea(reversed(x).Corners); got != -want {
				t.Fatalf("DoubleArea(%v) = %d; want %d", reversed(x).Corners, got, -want)
			}
		}
	}
}

func TestDoubleAreaInvalid(t *testing.T) {
	if areaBelow(manyCorners(impl.MaxCorners).Corners) != impl.DoubleArea(manyCorners(impl.MaxCorners).Corners) {
		t.Error("DoubleArea of MaxCorners corners differs")
	}
	long := slices.Repeat(room(0, 0, 4, 0, 0, 4).Corners, 1000)
	for _, corners := range [][]impl.Point{
		manyCorners(11).Corners, manyCorners(12).Corners, reversed(manyCorners(11)).Corners, long[:12], long,
	} {
		if got := impl.DoubleArea(corners); got != 0 || areaBelow(corners) == 0 {
			t.Errorf("DoubleArea of %d corners = %d; want 0", len(corners), got)
		}
	}
	list := append(goodRooms(), room(0, 0), room(3, 4, 5, -7), room(0, 0, 0, 4, 4, 4, 4, 0), manyCorners(11))
	for _, r := range list {
		for k := range r.Corners {
			for _, p := range badPoints() {
				if got := impl.DoubleArea(withCorner(r, k, p).Corners); got != 0 {
					t.Errorf("DoubleArea(%v) = %d; want 0", withCorner(r, k, p).Corners, got)
				}
			}
		}
	}
}

func TestEdgePoints(t *testing.T) {
	for _, c := range []struct {
		r    impl.Room
		want int
	}{
		{room(0, 0, 4, 0, 4, 4, 0, 4), 16},
		{room(0, 0, 6, 0, 6, 2, 2, 2, 2, 6, 0, 6), 24},
		{room(0, 0, 8, 0, 8, 6, 4, 2, 0, 6), 28},
		{room(0, 0, 5, 0, 0, 3), 9},
		{room(0, 0, 6, 0, 0, 4), 12},
		{room(-40, -40, 40, -40, 40, 40, -40, 40), 320},
	} {
		if got := impl.EdgePoints(c.r); got != c.want {
			t.Errorf("EdgePoints(%v) = %d; want %d", c.r, got, c.want)
		}
	}
	for _, c := range emptyRooms() {
		if got := impl.EdgePoints(c.r); got != c.edge {
			t.Errorf("EdgePoints(%v) = %d; want %d", c.r, got, c.edge)
		}
	}
	for _, r := range manyRooms() {
		points := map[impl.Point]bool{}
		for k, p := range r.Corners {
			for _, q := range pointsBetween(p, r.Corners[(k+1)%len(r.Corners)]) {
				points[q] = true
			}
		}
		if got := impl.EdgePoints(r); got != len(points) {
			t.Errorf("EdgePoints(%v) = %d; want %d", r, got, len(points))
		}
	}
}

func TestInnerPoints(t *testing.T) {
	for _, c := range []struct {
		r    impl.Room
		want int
	}{
		{room(0, 0, 4, 0, 4, 4, 0, 4), 9},
		{room(0, 0, 6, 0, 6, 2, 2, 2, 2, 6, 0, 6), 9},
		{room(0, 0, 8, 0, 8, 6, 4, 2, 0, 6), 19},
		{room(0, 0, 3, 0, 0, 3), 1},
		{room(0, 0, 5, 0, 0, 3), 4},
		{room(0, 0, 2, 1, 1, 2), 1},
		{room(-40, -40, 40, -40, 40, 40, -40, 40), 6241},
	} {
		if got := impl.InnerPoints(c.r); got != c.want {
			t.Errorf("InnerPoints(%v) = %d; want %d", c.r, got, c.want)
		}
	}
	for _, c := range emptyRooms() {
		if got := impl.InnerPoints(c.r); got != 0 {
			t.Errorf("InnerPoints(%v) = %d; want 0", c.r, got)
		}
		if got := impl.FloorPoints(c.r); len(got) != c.edge {
			t.Errorf("FloorPoints(%v) has %d points; want %d", c.r, len(got), c.edge)
		}
	}
}

func TestFloorPoints(t *testing.T) {
	for _, c := range []struct {
		r    impl.Room
		want []impl.Point
	}{
		{room(0, 0, 1, 0, 0, 1), room(0, 0, 1, 0, 0, 1).Corners},
		{room(5, 7, 3, 6, 4, 6), room(3, 6, 4, 6, 5, 7).Corners},
		{room(-1, 2, -2, 0, 0, 1), room(-2, 0, -1, 1, 0, 1, -1, 2).Corners},
		{room(1, 0, 2, 1, 1, 2, 0, 1), room(1, 0, 0, 1, 1, 1, 2, 1, 1, 2).Corners},
		{room(0, 0, 2, 0, 2, 1, 1, 1, 1, 2, 0, 2), room(0, 0, 1, 0, 2, 0, 0, 1, 1, 1, 2, 1, 0, 2, 1, 2).Corners},
		// The last row has a gap.
		{room(0, 0, 3, 0, 3, 2, 2, 1, 1, 1, 0, 2), room(0, 0, 1, 0, 2, 0, 3, 0, 0, 1, 1, 1, 2, 1, 3, 1, 0, 2, 3, 2).Corners},
		{room(40, 40, 39, 40, 40, 39), room(40, 39, 39, 40, 40, 40).Corners},
		{room(-40, -40, -39, -40, -40, -39), room(-40, -40, -39, -40, -40, -39).Corners},
	} {
		for _, x := range rotations(c.r) {
			if got := impl.FloorPoints(x); !slices.Equal(got, c.want) {
				t.Errorf("FloorPoints(%v) = %v; want %v", x, got, c.want)
			}
		}
	}
}

// Promise 5: area and whole points of a room belong together.
func TestAreaAndPoints(t *testing.T) {
	for _, r := range manyRooms() {
		floor, edge, inner := floorOf(r)
		area := areaBelow(r.Corners)
		if area != 2*inner+edge-2 {
			t.Fatalf("the points of %v are not counted well", r)
		}
		for _, x := range rotations(r) {
			if impl.DoubleArea(x.Corners) != area || impl.EdgePoints(x) != edge || impl.InnerPoints(x) != inner {
				t.Errorf("%v has the area %d with %d and %d points; want %d, %d and %d", x,
					impl.DoubleArea(x.Corners), impl.EdgePoints(x), impl.InnerPoints(x), area, edge, inner)
			}
		}
		if got := impl.FloorPoints(r); !slices.Equal(got, floor) {
			t.Errorf("FloorPoints(%v) = %v; want %v", r, got, floor)
		}
	}
}

func TestAreaInvalid(t *testing.T) {
	for name, r := range badRooms() {
		for _, x := range append(rotations(r), r) {
			if got := impl.EdgePoints(x); got != 0 {
				t.Errorf("EdgePoints of %s = %d; want 0", name, got)
			}
			if got := impl.InnerPoints(x); got != -1 {
				t.Errorf("InnerPoints of %s = %d; want -1", name, got)
			}
			if got := impl.FloorPoints(x); len(got) != 0 {
				t.Errorf("FloorPoints of %s = %v; want none", name, got)
			}
		}
	}
}

func TestIsLarger(t *testing.T) {
	square := room(0, 0, 4, 0, 4, 4, 0, 4)
	for _, c := range []struct {
		a, b impl.Room
		want bool
	}{
		{room(0, 0, 6, 0, 6, 2, 2, 2, 2, 6, 0, 6), square, true},
		{square, room(0, 0, 6, 0, 6, 2, 2, 2, 2, 6, 0, 6), false},
		{room(0, 0, 4, 0, 5, 5, 0, 4), square, true},
		// Twice the areas are 33 and 32.
		{room(0, 0, 11, 0, 0, 3), square, true},
		{square, room(0, 0, 11, 0, 0, 3), false},
		// Equal areas.
		{square, square, false},
		{square, room(4, 4, 0, 4, 0, 0, 4, 0), false},
		{square, room(-9, -9, -1, -9, -1, -7, -9, -7), false},
		{square, room(0, 0, 32, 0, 40, 1), false},
		{room(0, 0, 32, 0, 40, 1), square, false},
		// More points, but not more area.
		{room(0, 0, 15, 0, 15, 1, 0, 1), square, false},
		{square, room(0, 0, 15, 0, 15, 1, 0, 1), true},
	} {
		if got := impl.IsLarger(c.a, c.b); got != c.want {
			t.Errorf("IsLarger(%v, %v) = %v", c.a, c.b, got)
		}
	}
	for _, a := range manyRooms() {
		for _, b := range manyRooms() {
			if got := impl.IsLarger(a, b); got != (areaBelow(a.Corners) > areaBelow(b.Corners)) {
				t.Errorf("IsLarger(%v, %v) = %v", a, b, got)
			}
		}
	}
}

func TestIsLargerInvalid(t *testing.T) {
	large, small := room(-40, -40, 40, -40, 40, 40, -40, 40), room(0, 0, 1, 0, 0, 1)
	for name, bad := range badRooms() {
		for _, c := range [][2]impl.Room{{bad, small}, {bad, large}, {small, bad}, {large, bad}, {bad, bad}, {bad, {}}, {{}, bad}} {
			if impl.IsLarger(c[0], c[1]) {
				t.Errorf("IsLarger with %s = true: %v", name, c)
			}
		}
	}
}

// checkRoomsKept calls a function with rooms, valid and not, that have other points behind their corners.
func checkRoomsKept(t *testing.T, call func(r impl.Room)) {
	t.Helper()
	list := manyRooms()
	for _, r := range badRooms() {
		list = append(list, r)
	}
	for _, original := range list {
		r, all := withSpare(original)
		before := slices.Clone(all)
		call(r)
		if !slices.Equal(all, before) {
			t.Fatalf("a function changes its room: %v; was %v", all, before)
		}
	}
}

// checkNew calls a function twice, writes over the first result and what is behind it, and looks at the arguments and at the second one.
func checkNew[E comparable](t *testing.T, other E, call func(r impl.Room) []E) {
	t.Helper()
	for i, original := range manyRooms() {
		r, all := withSpare(original)
		before := slices.Clone(all)
		first, second := call(r), call(r)
		want := slices.Clone(first)
		first = first[:cap(first)]
		for k := range first {
			first[k] = other
		}
		if !slices.Equal(all, before) {
			t.Fatal(fmt.Sprint("a result shares memory with room ", i))
		}
		for k := range all {
			all[k] = at(-99, 99)
		}
		if !slices.Equal(second, want) {
			t.Fatal(fmt.Sprint("a result shares memory with room ", i, " or with another result"))
		}
	}
}

func TestAreaArguments(t *testing.T) {
	small := room(0, 0, 1, 0, 0, 1)
	checkRoomsKept(t, func(r impl.Room) {
		impl.DoubleArea(r.Corners)
		impl.EdgePoints(r)
		impl.InnerPoints(r)
		impl.FloorPoints(r)
		impl.IsLarger(r, small)
		impl.IsLarger(small, r)
		impl.IsLarger(r, r)
	})
	checkNew(t, at(99, -99), impl.FloorPoints)
}
