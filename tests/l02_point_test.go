package tests

import (
	"fmt"
	"math"
	"testing"

	"loop.example/g00991/impl"
)

func at(x int, y int) impl.Point {
	return impl.Point{X: x, Y: y}
}

// badNumbers are one past each limit, the greatest and the least int, and numbers that are small in fewer bits.
func badNumbers() []int {
	return []int{
		impl.MaxCoordinate + 1, -impl.MaxCoordinate - 1, 100, -100,
		math.MaxInt, math.MinInt, math.MaxInt - 1, math.MinInt + 1,
		256, -256, 1 << 16, 1<<16 + 1, 1 << 32, 1<<32 + 3, -1 << 32, -1<<32 - 3, 1 << 62, -1 << 62,
	}
}

func badPoints() []impl.Point {
	var list []impl.Point
	for _, n := range badNumbers() {
		list = append(list, at(n, 0), at(0, n), at(n, 5), at(-5, n), at(n, n), at(n, impl.MaxCoordinate), at(-impl.MaxCoordinate, n))
	}
	return append(list, at(math.MaxInt, math.MinInt), at(math.MinInt, math.MaxInt))
}

// somePoints are valid points: all of a small square, and some that are far apart.
func somePoints() []impl.Point {
	const end = impl.MaxCoordinate
	list := []impl.Point{
		at(end, end), at(end, -end), at(-end, end), at(-end, -end), at(end, 0), at(0, -end),
		at(end-1, end), at(-end, 1-end), at(20, 20), at(-20, 20), at(7, -11), at(-13, 5),
	}
	for x := -2; x <= 2; x++ {
		for y := -2; y <= 2; y++ {
			list = append(list, at(x, y))
		}
	}
	return list
}

func signOf(n int) int {
	switch {
	case n > 0:
		return 1
	case n < 0:
		return -1
	}
	return 0
}

// commonDivisor is found by trial, not by Euclid's rule as in the program; it is 0 if both numbers are 0.
func commonDivisor(a int, b int) int {
	best := 0
	for d := 1; d <= 2*impl.MaxCoordinate; d++ {
		if (a != 0 || b != 0) && a%d == 0 && b%d == 0 {
			best = d
		}
	}
	return best
}

// pointsBetween goes from a to b over all points with whole coordinates.
func pointsBetween(a impl.Point, b impl.Point) []impl.Point {
	list := []impl.Point{a}
	parts := commonDivisor(b.X-a.X, b.Y-a.Y)
	for i := 1; i <= parts; i++ {
		list = append(list, at(a.X+i*(b.X-a.X)/parts, a.Y+i*(b.Y-a.Y)/parts))
	}
	return list
}

func TestPointLimit(t *testing.T) {
	if impl.MaxCoordinate != 40 {
		t.Error("MaxCoordinate differs from the document")
	}
}

func TestPointOk(t *testing.T) {
	for x := -45; x <= 45; x++ {
		for y := -45; y <= 45; y++ {
			want := x >= -40 && x <= 40 && y >= -40 && y <= 40
			if got := impl.PointOk(at(x, y)); got != want {
				t.Errorf("PointOk(%d, %d) = %v", x, y, got)
			}
		}
	}
	for _, p := range badPoints() {
		if impl.PointOk(p) {
			t.Errorf("PointOk(%v) = true", p)
		}
	}
}

func TestTurnOf(t *testing.T) {
	for _, c := range []struct {
		a, b, c impl.Point
		want    int
	}{
		{at(0, 0), at(2, 0), at(2, 2), 4},
		{at(0, 0), at(2, 2), at(2, 0), -4},
		{at(0, 0), at(1, 0), at(0, 1), 1},
		{at(0, 0), at(0, 1), at(1, 0), -1},
		{at(0, 0), at(5, 0), at(0, 3), 15},
		{at(1, 2), at(4, 3), at(2, 6), 11},
		{at(-3, -2), at(1, -4), at(0, 5), 34},
		// On one line, in both directions.
		{at(0, 0), at(1, 1), at(2, 2), 0},
		{at(2, 2), at(1, 1), at(0, 0), 0},
		{at(0, 0), at(2, 2), at(1, 1), 0},
		{at(1, 1), at(0, 0), at(2, 2), 0},
		{at(-4, 2), at(0, 0), at(4, -2), 0},
		{at(3, -1), at(3, 5), at(3, 9), 0},
		{at(3, 9), at(3, 5), at(3, -1), 0},
		{at(-1, 7), at(4, 7), at(9, 7), 0},
		{at(9, 7), at(-1, 7), at(4, 7), 0},
		// Equal points.
		{at(1, 2), at(1, 2), at(1, 2), 0},
		{at(1, 2), at(1, 2), at(5, 7), 0},
		{at(1, 2), at(5, 7), at(1, 2), 0},
		{at(5, 7), at(1, 2), at(1, 2), 0},
		// Near a line, and at the limits.
		{at(-40, -40), at(40, 40), at(40, 39), -80},
		{at(-40, -40), at(40, 40), at(39, 40), 80},
		{at(-40, -40), at(40, 39), at(39, 38), -1},
		{at(-40, -40), at(40, -40), at(40, 40), 6400},
		{at(-40, -40), at(40, -40), at(-40, 40), 6400},
		{at(-40, 40), at(40, 40), at(40, -40), -6400},
		{at(-40, -40), at(0, 0), at(40, 40), 0},
		{at(40, -40), at(0, 0), at(-40, 40), 0},
	} {
		if got := impl.TurnOf(c.a, c.b, c.c); got != c.want {
			t.Errorf("TurnOf(%v, %v, %v) = %d; want %d", c.a, c.b, c.c, got, c.want)
		}
	}
}

// Promise 2: a turn keeps its value if the points are passed on in a circle, and changes its sign if two of them are exchanged.
func TestTurnOrder(t *testing.T) {
	list := somePoints()
	for _, a := range list {
		for _, b := range list {
			for _, c := range list {
				want := a.X*b.Y - a.Y*b.X + b.X*c.Y - b.Y*c.X + c.X*a.Y - c.Y*a.X
				for _, even := range [][3]impl.Point{{a, b, c}, {b, c, a}, {c, a, b}} {
					if got := impl.TurnOf(even[0], even[1], even[2]); got != want {
						t.Fatalf("TurnOf%v = %d; want %d", even, got, want)
					}
				}
				for _, odd := range [][3]impl.Point{{a, c, b}, {c, b, a}, {b, a, c}} {
					if got := impl.TurnOf(odd[0], odd[1], odd[2]); got != -want {
						t.Fatalf("TurnOf%v = %d; want %d", odd, got, -want)
					}
				}
			}
		}
	}
}

func TestTurnOfInvalid(t *testing.T) {
	p, q := at(0, 3), at(-2, -7)
	for _, bad := range badPoints() {
		for _, c := range [][3]impl.Point{
			{bad, p, q}, {p, bad, q}, {p, q, bad}, {bad, bad, p}, {bad, p, bad}, {p, bad, bad}, {bad, bad, bad},
		} {
			if got := impl.TurnOf(c[0], c[1], c[2]); got != 0 {
				t.Errorf("TurnOf%v = %d; want 0", c, got)
			}
		}
	}
}

func TestIsBetween(t *testing.T) {
	for _, c := range []struct {
		p, a, b impl.Point
		want    bool
	}{
		{at(1, 1), at(0, 0), at(2, 2), true},
		{at(1, 1), at(2, 2), at(0, 0), true},
		// An end, and one just past it.
		{at(0, 0), at(0, 0), at(2, 2), true},
		{at(2, 2), at(0, 0), at(2, 2), true},
		{at(3, 3), at(0, 0), at(2, 2), false},
		{at(-1, -1), at(0, 0), at(2, 2), false},
		{at(3, 3), at(2, 2), at(0, 0), false},
		{at(-1, -1), at(2, 2), at(0, 0), false},
		{at(5, 2), at(5, -3), at(5, 2), true},
		{at(5, 3), at(5, -3), at(5, 2), false},
		{at(5, -4), at(5, -3), at(5, 2), false},
		{at(-3, 5), at(-3, 5), at(2, 5), true},
		{at(-4, 5), at(-3, 5), at(2, 5), false},
		{at(3, 5), at(-3, 5), at(2, 5), false},
		{at(0, 2), at(-3, 8), at(3, -4), true},
		// Beside the line, but in the ranges of both.
		{at(1, 0), at(0, 0), at(2, 2), false},
		{at(1, 2), at(0, 0), at(2, 2), false},
		{at(0, 2), at(0, 0), at(2, 2), false},
		// Equal points.
		{at(4, 4), at(4, 4), at(4, 4), true},
		{at(4, 5), at(4, 4), at(4, 4), false},
		{at(5, 4), at(4, 4), at(4, 4), false},
		{at(5, 5), at(4, 4), at(4, 4), false},
		// At the limits.
		{at(0, 0), at(-40, -40), at(40, 40), true},
		{at(40, 40), at(-40, -40), at(40, 40), true},
		{at(40, 40), at(-40, -40), at(39, 39), false},
		{at(39, 38), at(-40, -40), at(40, 39), false},
	} {
		if got := impl.IsBetween(c.p, c.a, c.b); got != c.want {
			t.Errorf("IsBetween(%v, %v, %v) = %v; want %v", c.p, c.a, c.b, got, c.want)
		}
	}
}

func TestIsBetweenAll(t *testing.T) {
	list := somePoints()
	for _, a := range list {
		for _, b := range list {
			between := map[impl.Point]bool{}
			for _, p := range pointsBetween(a, b) {
				between[p] = true
				if !impl.IsBetween(p, a, b) {
					t.Fatalf("IsBetween(%v, %v, %v) = false", p, a, b)
				}
			}
			for _, p := range list {
				if got := impl.IsBetween(p, a, b); got != between[p] {
					t.Fatalf("IsBetween(%v, %v, %v) = %v", p, a, b, got)
				}
			}
		}
	}
}

func TestIsBetweenInvalid(t *testing.T) {
	p, q := at(0, 3), at(-2, -7)
	for _, bad := range badPoints() {
		for _, c := range [][3]impl.Point{
			{bad, p, q}, {p, bad, q}, {p, q, bad}, {p, bad, p}, {p, p, bad}, {bad, bad, p}, {bad, p, bad}, {p, bad, bad}, {bad, bad, bad},
		} {
			if impl.IsBetween(c[0], c[1], c[2]) {
				t.Errorf("IsBetween%v = true", c)
			}
		}
	}
	// These would be between, if their coordinates were valid.
	for _, c := range [][3]impl.Point{
		{at(0, 0), at(-41, 0), at(41, 0)},
		{at(40, 40), at(0, 0), at(41, 41)},
		{at(40, 40), at(41, 41), at(0, 0)},
		{at(0, 0), at(0, math.MinInt), at(0, math.MaxInt)},
		{at(0, 0), at(math.MinInt, 0), at(math.MaxInt, 0)},
		{at(0, 41), at(0, 40), at(0, 42)},
	} {
		if impl.IsBetween(c[0], c[1], c[2]) {
			t.Errorf("IsBetween%v = true", c)
		}
	}
}

func TestSquareOf(t *testing.T) {
	for _, c := range []struct {
		a, b impl.Point
		want int
	}{
		{at(0, 0), at(2, 2), 8},
		{at(0, 0), at(3, 4), 25},
		{at(3, 4), at(0, 0), 25},
		{at(1, 2), at(-3, 7), 41},
		{at(5, 5), at(5, 5), 0},
		{at(5, 5), at(5, 6), 1},
		{at(5, 5), at(4, 5), 1},
		{at(-40, -40), at(40, 40), 12800},
		{at(40, -40), at(-40, 40), 12800},
		{at(-40, 0), at(40, 0), 6400},
		{at(40, 40), at(40, 40), 0},
	} {
		if got := impl.SquareOf(c.a, c.b); got != c.want {
			t.Errorf("SquareOf(%v, %v) = %d; want %d", c.a, c.b, got, c.want)
		}
	}
	for _, a := range somePoints() {
		for _, b := range somePoints() {
			if got := impl.SquareOf(a, b); got != (a.X-b.X)*(a.X-b.X)+(a.Y-b.Y)*(a.Y-b.Y) {
				t.Errorf("SquareOf(%v, %v) = %d", a, b, got)
			}
		}
	}
	for _, bad := range badPoints() {
		for _, c := range [][2]impl.Point{{bad, at(1, 2)}, {at(1, 2), bad}, {bad, bad}, {bad, at(41, 0)}} {
			if got := impl.SquareOf(c[0], c[1]); got != -1 {
				t.Errorf("SquareOf%v = %d; want -1", c, got)
			}
		}
	}
}

func TestIsNearer(t *testing.T) {
	for _, c := range []struct {
		p, a, b impl.Point
		want    bool
	}{
		{at(0, 0), at(2, 0), at(2, 2), true},
		{at(0, 0), at(2, 2), at(2, 0), false},
		{at(0, 0), at(0, 0), at(0, 1), true},
		{at(0, 0), at(0, 1), at(0, 0), false},
		// Equal distances.
		{at(0, 0), at(3, 4), at(-5, 0), false},
		{at(0, 0), at(-5, 0), at(3, 4), false},
		{at(0, 0), at(1, 0), at(1, 0), false},
		{at(7, 7), at(7, 7), at(7, 7), false},
		// The way is straight: 3 and 3 are nearer than 5.
		{at(0, 0), at(3, 3), at(5, 0), true},
		{at(0, 0), at(5, 0), at(3, 3), false},
		{at(40, 40), at(-40, -39), at(-40, -40), true},
		{at(40, 40), at(-40, -40), at(-40, -39), false},
		{at(-40, 40), at(-40, 40), at(40, -40), true},
	} {
		if got := impl.IsNearer(c.p, c.a, c.b); got != c.want {
			t.Errorf("IsNearer(%v, %v, %v) = %v; want %v", c.p, c.a, c.b, got, c.want)
		}
	}
	for _, p := range somePoints() {
		for _, a := range somePoints() {
			for _, b := range somePoints() {
				x, y, u, v := a.X-p.X, a.Y-p.Y, b.X-p.X, b.Y-p.Y
				if got := impl.IsNearer(p, a, b); got != (x*x+y*y < u*u+v*v) {
					t.Fatalf("IsNearer(%v, %v, %v) = %v", p, a, b, got)
				}
			}
		}
	}
}

func TestIsNearerInvalid(t *testing.T) {
	p, q := at(0, 3), at(-2, -7)
	for _, bad := range badPoints() {
		for _, c := range [][3]impl.Point{
			{bad, p, q}, {bad, q, p}, {p, bad, q}, {q, bad, p}, {p, q, bad}, {p, p, bad}, {bad, bad, q}, {bad, q, bad}, {p, bad, bad}, {bad, bad, bad},
		} {
			if impl.IsNearer(c[0], c[1], c[2]) {
				t.Errorf("IsNearer%v = true", c)
			}
		}
	}
}

func TestPointText(t *testing.T) {
	for _, c := range []struct {
		p    impl.Point
		want string
	}{
		{at(-1, 5), "-1,5"},
		{at(5, -1), "5,-1"},
		{at(0, 0), "0,0"},
		{at(10, 20), "10,20"},
		{at(-40, 40), "-40,40"},
		{at(40, -40), "40,-40"},
	} {
		if got := impl.PointText(c.p); got != c.want {
			t.Errorf("PointText(%v) = %q; want %q", c.p, got, c.want)
		}
	}
	for x := -40; x <= 40; x++ {
		for y := -40; y <= 40; y++ {
			if got := impl.PointText(at(x, y)); got != fmt.Sprintf("%d,%d", x, y) {
				t.Errorf("PointText(%d, %d) = %q", x, y, got)
			}
		}
	}
	for _, bad := range badPoints() {
		if got := impl.PointText(bad); got != "" {
			t.Errorf("PointText(%v) = %q; want \"\"", bad, got)
		}
	}
}
