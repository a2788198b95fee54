package tests

import (
	"math"
	"slices"
	"testing"

	"loop.example/g00991/impl"
)

func triangle(a int, b int, c int) impl.Triangle {
	return impl.Triangle{A: a, B: b, C: c}
}

func cornersOf(r impl.Room, t impl.Triangle) impl.Room {
	return impl.Room{Corners: []impl.Point{r.Corners[t.A], r.Corners[t.B], r.Corners[t.C]}}
}

func areNext(r impl.Room, i int, k int) bool {
	return (i-k)*(i-k) == 1 || (i-k)*(i-k) == (len(r.Corners)-1)*(len(r.Corners)-1)
}

// dividedAt follows the document word for word for one corner of a list: the corners before and behind it, the turn, and the others that are left.
func dividedAt(r impl.Room, left []int, at int) (impl.Triangle, bool) {
	n := len(left)
	a, b, c := left[(at+n-1)%n], left[at], left[(at+1)%n]
	three := cornersOf(r, triangle(a, b, c))
	if !isCut(r, a, c) && !areNext(r, a, c) || areaBelow(three.Corners) <= 0 {
		return impl.Triangle{}, false
	}
	for _, k := range left {
		if k != a && k != b && k != c && placed(three, 1, r.Corners[k]) != impl.InOutside {
			return impl.Triangle{}, false
		}
	}
	return triangle(min(a, b, c), a+b+c-min(a, b, c)-max(a, b, c), max(a, b, c)), true
}

func dividedBy(r impl.Room) []impl.Triangle {
	var left []int
	for k := range r.Corners {
		left = append(left, k)
	}
	var list []impl.Triangle
	for len(left) > 3 {
		found := len(list)
		for at := range left {
			if t, ok := dividedAt(r, left, at); ok {
				list, left = append(list, t), slices.Delete(left, at, at+1)
				break
			}
		}
		if len(list) == found {
			return nil
		}
	}
	return append(list, triangle(left[0], left[1], left[2]))
}

func TestTrianglesOf(t *testing.T) {
	for _, c := range []struct {
		name string
		r    impl.Room
		want []impl.Triangle
	}{
		{"a triangle", room(0, 0, 4, 0, 0, 4), []impl.Triangle{triangle(0, 1, 2)}},
		{"a square", room(0, 0, 4, 0, 4, 4, 0, 4), []impl.Triangle{triangle(0, 1, 3), triangle(1, 2, 3)}},
		{"an arrow", room(0, 0, 5, 1, 1, 1, 1, 5), []impl.Triangle{triangle(0, 1, 2), triangle(0, 2, 3)}},
		{"an arrow from another corner", room(5, 1, 1, 1, 1, 5, 0, 0), []impl.Triangle{triangle(0, 1, 3), triangle(1, 2, 3)}},
		{"five corners that stick out", manyCorners(5), []impl.Triangle{triangle(0, 1, 4), triangle(1, 2, 4), triangle(2, 3, 4)}},
		{"a notch", room(0, 0, 8, 0, 8, 6, 4, 2, 0, 6), []impl.Triangle{triangle(1, 2, 3), triangle(0, 1, 3), triangle(0, 3, 4)}},
		{"a bent room", room(0, 0, 6, 0, 6, 2, 2, 2, 2, 6, 0, 6), []impl.Triangle{triangle(0, 1, 2), triangle(0, 2, 3), triangle(0, 3, 5), triangle(3, 4, 5)}},
		// Corners on one line: while they are left, no way leads along them past one of them.
		{"on one line behind a cut", lean(), []impl.Triangle{triangle(0, 1, 6), triangle(1, 2, 3), triangle(1, 3, 6), triangle(3, 4, 6), triangle(4, 5, 6)}},
		{"four on one line", bump(), []impl.Triangle{triangle(0, 1, 6), triangle(1, 2, 3), triangle(1, 3, 4), triangle(1, 4, 5), triangle(1, 5, 6)}},
		{"four on one line, cut off at first", room(4, 7, 2, 4, 0, 4, 0, 0, 8, 0, 8, 4, 6, 4), []impl.Triangle{triangle(0, 1, 6), triangle(1, 2, 3), triangle(1, 3, 6), triangle(3, 4, 6), triangle(4, 5, 6)}},
		{"an end on one line", room(0, 0, 9, 0, 6, 3, 5, 7, 3, 6), []impl.Triangle{triangle(0, 1, 2), triangle(0, 2, 4), triangle(2, 3, 4)}},
	} {
		if got := impl.TrianglesOf(c.r); !slices.Equal(got, c.want) {
			t.Errorf("%s: TrianglesOf(%v) = %v; want %v", c.name, c.r, got, c.want)
		}
	}
}

// Promise 11: a room with n corners is divided into n - 2 triangles that fill it.
func checkTriangles(t *testing.T, r impl.Room) {
	t.Helper()
	list := impl.TrianglesOf(r)
	if want := dividedBy(r); want == nil || !slices.Equal(list, want) {
		t.Fatalf("TrianglesOf(%v) = %v; want %v", r, list, want)
	}
	sum := 0
	for _, x := range list {
		area := impl.TriangleArea(r, x)
		if area <= 0 || area != areaBelow(cornersOf(r, x).Corners) {
			t.Fatalf("TriangleArea(%v, %v) = %d", r, x, area)
		}
		sum += area
	}
	if len(list) != len(r.Corners)-2 || sum != areaBelow(r.Corners) {
		t.Fatalf("%v is not filled by %v", r, list)
	}
}

func TestTrianglesOfMany(t *testing.T) {
	for _, r := range append(cutRooms(), movedRooms(20, 300)...) {
		for _, x := range append(rotations(r), mirrored(r)) {
			checkTriangles(t, x)
		}
	}
	for n := 3; n <= 6; n++ {
		for _, r := range smallRooms(n) {
			checkTriangles(t, r)
		}
	}
}

func TestTriangleArea(t *testing.T) {
	for _, c := range []struct {
		r    impl.Room
		t    impl.Triangle
		want int
	}{
		{room(0, 0, 4, 0, 0, 4), triangle(0, 1, 2), 16},
		{room(0, 0, 1, 0, 0, 1), triangle(0, 1, 2), 1},
		{room(0, 0, 4, 0, 4, 4, 0, 4), triangle(0, 1, 3), 16},
		{room(0, 0, 4, 0, 4, 4, 0, 4), triangle(1, 2, 3), 16},
		{room(-40, -40, 40, -40, 40, 40, -40, 40), triangle(0, 2, 3), 6400},
		// Outside, and on one line.
		{room(0, 0, 8, 0, 8, 6, 4, 2, 0, 6), triangle(2, 3, 4), -32},
		{room(0, 0, 6, 0, 6, 2, 2, 2, 2, 6, 0, 6), triangle(2, 3, 4), -16},
		{room(0, 0, 6, 0, 6, 2, 2, 2, 2, 6, 0, 6), triangle(1, 3, 5), -12},
		{lean(), triangle(2, 3, 6), 0},
		{bump(), triangle(2, 3, 5), 0},
		{bump(), triangle(3, 5, 6), 0},
		// Not in ascending order.
		{room(0, 0, 4, 0, 0, 4), triangle(1, 2, 0), 0},
		{room(0, 0, 4, 0, 0, 4), triangle(2, 0, 1), 0},
		{room(0, 0, 4, 0, 0, 4), triangle(0, 2, 1), 0},
		{room(0, 0, 4, 0, 0, 4), triangle(2, 1, 0), 0},
		{room(0, 0, 4, 0, 0, 4), triangle(1, 0, 2), 0},
		{room(0, 0, 4, 0, 0, 4), triangle(0, 0, 2), 0},
		{room(0, 0, 4, 0, 0, 4), triangle(0, 2, 2), 0},
		{room(0, 0, 4, 0, 0, 4), triangle(0, 1, 0), 0},
		{room(0, 0, 4, 0, 0, 4), impl.Triangle{}, 0},
		// No indexes.
		{room(0, 0, 4, 0, 0, 4), triangle(-1, 0, 1), 0},
		{room(0, 0, 4, 0, 0, 4), triangle(0, 1, 3), 0},
		{room(0, 0, 4, 0, 0, 4), triangle(-2, -1, 0), 0},
		{room(0, 0, 4, 0, 0, 4), triangle(3, 4, 5), 0},
		{room(0, 0, 4, 0, 0, 4), triangle(0, 1, math.MaxInt), 0},
		{room(0, 0, 4, 0, 0, 4), triangle(math.MinInt, 1, 2), 0},
		{room(0, 0, 4, 0, 0, 4), triangle(math.MinInt, 0, math.MaxInt), 0},
	} {
		if got := impl.TriangleArea(c.r, c.t); got != c.want {
			t.Errorf("TriangleArea(%v, %v) = %d; want %d", c.r, c.t, got, c.want)
		}
	}
}

// checkInTriangle tries triangles that are none, too.
func checkInTriangle(t *testing.T, r impl.Room, points []impl.Point) {
	t.Helper()
	n := len(r.Corners)
	for a := -1; a <= n; a++ {
		for b := -1; b <= n; b++ {
			for c := -1; c <= n; c++ {
				x, area := triangle(a, b, c), 0
				if a >= 0 && a < b && b < c && c < n {
					area = areaBelow(cornersOf(r, x).Corners)
				}
				if got := impl.TriangleArea(r, x); got != area {
					t.Fatalf("TriangleArea(%v, %v) = %d; want %d", r, x, got, area)
				}
				for _, p := range points {
					want := area > 0 && placed(cornersOf(r, x), 1, p) != impl.InOutside
					if got := impl.InTriangle(r, x, p); got != want {
						t.Fatalf("InTriangle(%v, %v, %v) = %v", r, x, p, got)
					}
				}
			}
		}
	}
}

func TestInTriangle(t *testing.T) {
	square, notch := room(0, 0, 4, 0, 4, 4, 0, 4), room(0, 0, 8, 0, 8, 6, 4, 2, 0, 6)
	for _, c := range []struct {
		name string
		r    impl.Room
		t    impl.Triangle
		p    impl.Point
		want bool
	}{
		{"inside", square, triangle(0, 1, 3), at(1, 1), true},
		{"on the first side", square, triangle(0, 1, 3), at(2, 0), true},
		{"on the second side", square, triangle(0, 1, 3), at(1, 3), true},
		{"on the third side", square, triangle(0, 1, 3), at(0, 2), true},
		{"the first corner", square, triangle(0, 1, 3), at(0, 0), true},
		{"the second corner", square, triangle(0, 1, 3), at(4, 0), true},
		{"the third corner", square, triangle(0, 1, 3), at(0, 4), true},
		{"past the first side", square, triangle(0, 1, 3), at(2, -1), false},
		{"past the second side", square, triangle(0, 1, 3), at(3, 2), false},
		{"past the third side", square, triangle(0, 1, 3), at(-1, 2), false},
		{"on the line of the first side", square, triangle(0, 1, 3), at(5, 0), false},
		{"on the line of the second side", square, triangle(0, 1, 3), at(5, -1), false},
		{"on the line of the third side", square, triangle(0, 1, 3), at(0, -1), false},
		{"not in ascending order", square, triangle(1, 3, 0), at(1, 1), false},
		{"no index", square, triangle(0, 1, 4), at(1, 1), false},
		{"outside the room", notch, triangle(2, 3, 4), at(4, 4), false},
		{"at its corner", notch, triangle(2, 3, 4), at(4, 2), false},
		{"partly outside the room", notch, triangle(0, 1, 2), at(4, 3), true},
		{"on one line", bump(), triangle(2, 3, 5), at(5, 4), false},
		{"on one line, at a corner", bump(), triangle(2, 3, 5), at(6, 4), false},
		{"at the limits", room(-40, -40, 40, -40, 40, 40, -40, 40), triangle(0, 1, 2), at(40, 40), true},
	} {
		if got := impl.InTriangle(c.r, c.t, c.p); got != c.want {
			t.Errorf("%s: InTriangle(%v, %v, %v) = %v", c.name, c.r, c.t, c.p, got)
		}
	}
	for _, r := range []impl.Room{square, notch, lean(), bump(), star(), room(0, 0, 5, 1, 1, 1, 1, 5), room(0, 0, 1, 0, 0, 1)} {
		checkInTriangle(t, r, pointsAround(r))
	}
	for _, r := range movedRooms(21, 30) {
		checkInTriangle(t, r, r.Corners)
	}
}

func checkTriangleOf(t *testing.T, r impl.Room, points []impl.Point) {
	t.Helper()
	list := dividedBy(r)
	for _, p := range points {
		want := slices.IndexFunc(list, func(x impl.Triangle) bool { return placed(cornersOf(r, x), 1, p) != impl.InOutside })
		// The triangles fill the room, and nothing else.
		if (want >= 0) != (placed(r, 1, p) != impl.InOutside) {
			t.Fatalf("the triangles %v and %v differ at %v", list, r, p)
		}
		if got := impl.TriangleOf(r, p); got != want {
			t.Fatalf("TriangleOf(%v, %v) = %d; want %d", r, p, got, want)
		}
	}
}

func TestTriangleOf(t *testing.T) {
	square := room(0, 0, 4, 0, 4, 4, 0, 4)
	for _, c := range []struct {
		p    impl.Point
		want int
	}{
		{at(1, 1), 0}, {at(3, 3), 1}, {at(0, 0), 0}, {at(4, 4), 1},
		// On the way between both, and at its ends.
		{at(2, 2), 0}, {at(3, 1), 0}, {at(4, 0), 0}, {at(0, 4), 0},
		{at(5, 2), -1}, {at(-1, 0), -1}, {at(9, 9), -1},
	} {
		if got := impl.TriangleOf(square, c.p); got != c.want {
			t.Errorf("TriangleOf(%v, %v) = %d; want %d", square, c.p, got, c.want)
		}
	}
	for _, r := range append(cutRooms(), movedRooms(22, 60)...) {
		if points := pointsAround(r); len(points) < 300 {
			checkTriangleOf(t, r, points)
		}
		checkTriangleOf(t, r, r.Corners)
	}
}

func TestTriangleInvalid(t *testing.T) {
	for name, r := range badRooms() {
		if got := impl.TrianglesOf(r); len(got) != 0 {
			t.Errorf("TrianglesOf of %s = %v", name, got)
		}
		for _, x := range []impl.Triangle{{}, triangle(0, 1, 2), triangle(0, 2, 3), triangle(1, 2, 3), triangle(0, 1, 3), triangle(-1, 0, 1), triangle(math.MinInt, 0, math.MaxInt)} {
			if got := impl.TriangleArea(r, x); got != 0 {
				t.Errorf("TriangleArea of %s, %v = %d", name, x, got)
			}
			for _, p := range append(badPlaces(r)[21:29], r.Corners...) {
				if impl.InTriangle(r, x, p) {
					t.Errorf("InTriangle of %s, %v, %v = true", name, x, p)
				}
			}
		}
		for _, p := range append(badPlaces(r)[21:29], r.Corners...) {
			if got := impl.TriangleOf(r, p); got != -1 {
				t.Errorf("TriangleOf of %s, %v = %d", name, p, got)
			}
		}
	}
}

func TestTriangleInvalidPoints(t *testing.T) {
	for _, r := range append(goodRooms(), bump(), manyCorners(10)) {
		for _, p := range append(badPoints(), at(-41, -41), at(41, 41), at(41, 40), at(-40, 41)) {
			for _, x := range impl.TrianglesOf(r) {
				if impl.InTriangle(r, x, p) {
					t.Errorf("InTriangle(%v, %v, %v) = true", r, x, p)
				}
			}
			if got := impl.TriangleOf(r, p); got != -1 {
				t.Errorf("TriangleOf(%v, %v) = %d", r, p, got)
			}
		}
	}
}

func TestTriangleArguments(t *testing.T) {
	checkRoomsKept(t, func(r impl.Room) {
		spoil(impl.TrianglesOf(r), triangle(99, -99, 99))
		impl.TriangleArea(r, triangle(0, 1, 2))
		impl.InTriangle(r, triangle(0, 1, 2), at(1, 1))
		impl.TriangleOf(r, at(1, 1))
	})
	checkNew(t, triangle(99, -99, 99), impl.TrianglesOf)
}
