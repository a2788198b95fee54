package tests

import (
	"math"
	"testing"

	"loop.example/g00991/impl"
)

func wall(ax int, ay int, bx int, by int) impl.Wall {
	return impl.Wall{A: at(ax, ay), B: at(bx, by)}
}

func turned(w impl.Wall) impl.Wall {
	return impl.Wall{A: w.B, B: w.A}
}

// badWalls have a point that is not valid at each end and at both, or equal ends.
func badWalls() []impl.Wall {
	list := []impl.Wall{{}, wall(1, 1, 1, 1), wall(40, -40, 40, -40), wall(2, 0, 2, 0)}
	for _, bad := range badPoints() {
		list = append(list, impl.Wall{A: bad, B: at(1, 1)}, impl.Wall{A: at(1, 1), B: bad},
			impl.Wall{A: bad, B: bad}, impl.Wall{A: bad, B: at(-41, 3)})
	}
	return list
}

// someWalls are all walls between points of a square of the given side, in both directions.
func someWalls(side int) []impl.Wall {
	var list []impl.Wall
	for i := range side * side {
		for k := range side * side {
			if i != k {
				list = append(list, wall(i%side, i/side, k%side, k/side))
			}
		}
	}
	return list
}

// farWalls end at the limits or near them, some with a long common piece or a near miss.
func farWalls() []impl.Wall {
	return []impl.Wall{
		wall(-40, -40, 40, 40), wall(-40, 40, 40, -40), wall(-40, -40, 40, 39), wall(-40, -39, 40, 40),
		wall(-39, -39, 39, 39), wall(0, 0, 40, 40), wall(40, 40, 40, -40), wall(40, -39, 40, 39),
		wall(-40, 0, 40, 0), wall(0, -40, 0, 40), wall(0, 1, 0, 40), wall(1, 0, 40, 1), wall(-40, -40, -1, -1),
		wall(39, 38, 40, 39), wall(39, 39, 38, 40), wall(-1, 1, 0, 0), wall(-3, 2, 37, -29), wall(12, 7, -31, -8),
	}
}

// How two walls meet: not at all, at least in one end, or in the inside of both alone.
const (
	apart = iota
	touching
	crossing
)

// meetingOf solves for the point that the lines have in common, along both walls; the program compares turns instead.
func meetingOf(v impl.Wall, w impl.Wall) int {
	vx, vy, wx, wy := v.B.X-v.A.X, v.B.Y-v.A.Y, w.B.X-w.A.X, w.B.Y-w.A.Y
	x, y := w.A.X-v.A.X, w.A.Y-v.A.Y
	d, onV, onW := vx*wy-vy*wx, x*wy-y*wx, x*vy-y*vx
	if d == 0 {
		if x*vy-y*vx != 0 {
			return apart
		}
		first, second := x*vx+y*vy, (w.B.X-v.A.X)*vx+(w.B.Y-v.A.Y)*vy
		if max(first, second) < 0 || min(first, second) > vx*vx+vy*vy {
			return apart
		}
		return touching
	}
	if d < 0 {
		d, onV, onW = -d, -onV, -onW
	}
	switch {
	case onV < 0 || onV > d || onW < 0 || onW > d:
		return apart
	case onV == 0 || onV == d || onW == 0 || onW == d:
		return touching
	}
	return crossing
}

func checkMeeting(t *testing.T, v impl.Wall, w impl.Wall, want int) {
	t.Helper()
	for _, c := range [][2]impl.Wall{{v, w}, {w, v}, {turned(v), w}, {v, turned(w)}, {turned(v), turned(w)}, {turned(w), v}} {
		if got := impl.DoCross(c[0], c[1]); got != (want == crossing) {
			t.Fatalf("DoCross(%v, %v) = %v", c[0], c[1], got)
		}
		if got := impl.DoMeet(c[0], c[1]); got != (want != apart) {
			t.Fatalf("DoMeet(%v, %v) = %v", c[0], c[1], got)
		}
	}
}

func TestWallOk(t *testing.T) {
	for _, w := range append(someWalls(3), farWalls()...) {
		if !impl.WallOk(w) {
			t.Errorf("WallOk(%v) = false", w)
		}
	}
	// One of the coordinates may be equal, and the ends may be mirrored.
	for _, w := range []impl.Wall{wall(3, 4, 3, 5), wall(3, 4, 2, 4), wall(3, 4, 4, 3), wall(0, 0, 0, 1), wall(1, 0, 0, 0), wall(-2, 2, 2, -2)} {
		if !impl.WallOk(w) {
			t.Errorf("WallOk(%v) = false", w)
		}
	}
	for _, w := range badWalls() {
		if impl.WallOk(w) {
			t.Errorf("WallOk(%v) = true", w)
		}
	}
}

func TestIsOnWall(t *testing.T) {
	for _, c := range []struct {
		w    impl.Wall
		p    impl.Point
		want bool
	}{
		{wall(0, 0, 4, 4), at(3, 3), true},
		{wall(4, 4, 0, 0), at(3, 3), true},
		{wall(0, 0, 4, 4), at(0, 0), true},
		{wall(0, 0, 4, 4), at(4, 4), true},
		{wall(0, 0, 4, 4), at(5, 5), false},
		{wall(0, 0, 4, 4), at(-1, -1), false},
		{wall(0, 0, 4, 4), at(3, 2), false},
		{wall(0, 0, 4, 2), at(2, 1), true},
		{wall(0, 0, 4, 2), at(1, 1), false},
		{wall(3, -2, 3, 2), at(3, 0), true},
		{wall(3, -2, 3, 2), at(3, 3), false},
		{wall(3, -2, 3, 2), at(2, 0), false},
		{wall(-40, 40, 40, -40), at(1, -1), true},
		{wall(-40, 40, 39, -39), at(40, -40), false},
	} {
		if got := impl.IsOnWall(c.w, c.p); got != c.want {
			t.Errorf("IsOnWall(%v, %v) = %v; want %v", c.w, c.p, got, c.want)
		}
	}
}

func TestIsOnWallAll(t *testing.T) {
	for _, w := range append(someWalls(4), farWalls()...) {
		on := map[impl.Point]bool{}
		for _, p := range pointsBetween(w.A, w.B) {
			on[p] = true
			if !impl.IsOnWall(w, p) {
				t.Fatalf("IsOnWall(%v, %v) = false", w, p)
			}
		}
		for _, p := range somePoints() {
			if got := impl.IsOnWall(w, p); got != on[p] {
				t.Fatalf("IsOnWall(%v, %v) = %v", w, p, got)
			}
		}
		for _, p := range badPoints() {
			if impl.IsOnWall(w, p) {
				t.Fatalf("IsOnWall(%v, %v) = true", w, p)
			}
		}
	}
}

func TestIsOnWallInvalid(t *testing.T) {
	for _, w := range badWalls() {
		for _, p := range []impl.Point{w.A, w.B, at(0, 0), at(1, 1), at(1, 0), at(40, -40)} {
			if impl.IsOnWall(w, p) {
				t.Errorf("IsOnWall(%v, %v) = true", w, p)
			}
		}
	}
	for _, w := range []impl.Wall{wall(-41, 0, 5, 0), wall(0, 0, 41, 0), wall(math.MinInt, 0, math.MaxInt, 0), wall(-41, 0, 41, 0)} {
		if impl.IsOnWall(w, at(1, 0)) {
			t.Errorf("IsOnWall(%v, 1,0) = true", w)
		}
	}
}

func TestMeetings(t *testing.T) {
	v := wall(0, 0, 4, 4)
	for _, c := range []struct {
		v, w impl.Wall
		want int
	}{
		// In the inside of both.
		{v, wall(0, 4, 4, 0), crossing},
		{v, wall(0, 1, 1, 0), crossing},
		{wall(0, 0, 3, 1), wall(1, 1, 2, 0), crossing},
		{wall(-5, 0, 5, 0), wall(0, -5, 0, 5), crossing},
		{wall(-40, -40, 40, 40), wall(-40, 40, 40, -40), crossing},
		{wall(-40, -40, 40, 39), wall(-40, -39, 40, -40), crossing},
		// At an end of both.
		{v, wall(4, 4, 4, 2), touching},
		{v, wall(0, 0, -3, 1), touching},
		{v, wall(4, 4, 8, 8), touching},
		{v, wall(0, 0, -1, -1), touching},
		// At an end of one, inside the other one.
		{v, wall(2, 2, 4, 0), touching},
		{v, wall(1, 1, 0, 5), touching},
		{wall(-5, 0, 5, 0), wall(0, 0, 0, 7), touching},
		{wall(0, -40, 0, 40), wall(0, 39, 40, 39), touching},
		// Along a piece of one line.
		{v, wall(2, 2, 6, 6), touching},
		{v, wall(1, 1, 2, 2), touching},
		{v, wall(-1, -1, 5, 5), touching},
		{v, wall(0, 0, 2, 2), touching},
		{v, wall(3, 3, 4, 4), touching},
		{wall(2, -1, 2, 3), wall(2, 2, 2, 9), touching},
		// The same wall, in both directions.
		{v, v, touching},
		{wall(-40, 0, 40, 0), wall(40, 0, -40, 0), touching},
		// On one line, but apart.
		{v, wall(5, 5, 7, 7), apart},
		{v, wall(-1, -1, -4, -4), apart},
		{wall(0, 3, 2, 3), wall(3, 3, 9, 3), apart},
		{wall(3, 0, 3, 2), wall(3, -1, 3, -9), apart},
		// Parallel, or one beyond the end of the other one.
		{v, wall(0, 1, 4, 5), apart},
		{v, wall(4, 0, 5, 3), apart},
		{v, wall(5, 5, 9, 0), apart},
		{v, wall(5, 4, 4, 5), apart},
		{v, wall(3, 1, 8, 1), apart},
		{wall(0, 4, 4, 0), wall(4, 4, 4, 2), apart},
		{wall(-40, -40, 40, 40), wall(-40, -39, 39, 40), apart},
		// No point with whole coordinates lies between, but they are apart.
		{wall(-40, -40, 40, 39), wall(39, 39, 40, 40), apart},
	} {
		checkMeeting(t, c.v, c.w, c.want)
	}
}

// Promise 3: walls that cross meet.
func TestMeetingsAll(t *testing.T) {
	counts := map[int]int{}
	for _, list := range [][]impl.Wall{someWalls(4), farWalls()} {
		for _, v := range list {
			for _, w := range list {
				want := meetingOf(v, w)
				counts[want]++
				if got := impl.DoCross(v, w); got != (want == crossing) {
					t.Fatalf("DoCross(%v, %v) = %v", v, w, got)
				}
				if got := impl.DoMeet(v, w); got != (want != apart) {
					t.Fatalf("DoMeet(%v, %v) = %v", v, w, got)
				}
			}
		}
	}
	for _, kind := range []int{apart, touching, crossing} {
		if counts[kind] < 1000 {
			t.Errorf("only %d pairs of kind %d were tried", counts[kind], kind)
		}
	}
}

func TestMeetingsInvalid(t *testing.T) {
	for _, bad := range badWalls() {
		for _, w := range []impl.Wall{wall(0, 0, 4, 4), wall(0, 0, 2, 0), wall(1, 1, 1, 5), wall(40, -40, -40, 40)} {
			checkMeeting(t, bad, w, apart)
		}
		checkMeeting(t, bad, bad, apart)
		checkMeeting(t, bad, wall(1, 1, 1, 1), apart)
	}
	// These would cross or touch, if their points were valid and different.
	w := wall(-5, 0, 5, 0)
	for _, bad := range []impl.Wall{
		wall(0, -41, 0, 5), wall(0, -5, 0, 41), wall(0, math.MinInt, 0, 5), wall(0, -5, 0, math.MaxInt), wall(0, -41, 0, 41),
		wall(0, 0, 0, 41), wall(0, -41, 0, 0), wall(5, 0, 41, 0), wall(5, 0, math.MaxInt, 0), wall(-5, 0, math.MinInt, 0),
		wall(0, 0, 0, 0), wall(5, 0, 5, 0), wall(-5, 0, -5, 0), wall(3, 0, 3, 0),
	} {
		checkMeeting(t, bad, w, apart)
	}
}

func TestLengthSquare(t *testing.T) {
	for _, c := range []struct {
		w    impl.Wall
		want int
	}{
		{wall(0, 0, 4, 2), 20},
		{wall(4, 2, 0, 0), 20},
		{wall(0, 0, 3, 4), 25},
		{wall(-1, 2, 3, -1), 25},
		{wall(2, 2, 2, 3), 1},
		{wall(2, 2, 1, 2), 1},
		{wall(7, -9, 7, 9), 324},
		{wall(-40, -40, 40, 40), 12800},
		{wall(40, -40, -40, -40), 6400},
	} {
		if got := impl.LengthSquare(c.w); got != c.want {
			t.Errorf("LengthSquare(%v) = %d; want %d", c.w, got, c.want)
		}
	}
	for _, w := range append(someWalls(5), farWalls()...) {
		x, y := w.B.X-w.A.X, w.B.Y-w.A.Y
		if got := impl.LengthSquare(w); got != x*x+y*y {
			t.Errorf("LengthSquare(%v) = %d", w, got)
		}
	}
	for _, w := range badWalls() {
		if got := impl.LengthSquare(w); got != -1 {
			t.Errorf("LengthSquare(%v) = %d; want -1", w, got)
		}
	}
}

func TestLatticeSteps(t *testing.T) {
	for _, c := range []struct {
		w    impl.Wall
		want int
	}{
		{wall(0, 0, 4, 2), 2},
		{wall(4, 2, 0, 0), 2},
		{wall(0, 4, 2, 0), 2},
		{wall(6, 0, 0, 9), 3},
		{wall(-3, -3, 9, 15), 6},
		{wall(1, 1, 5, 5), 4},
		// Straight up or across.
		{wall(2, -3, 2, 5), 8},
		{wall(2, 5, 2, -3), 8},
		{wall(-3, 1, 5, 1), 8},
		{wall(5, 1, -3, 1), 8},
		{wall(0, 0, 1, 0), 1},
		{wall(0, 0, 0, -1), 1},
		{wall(-40, 3, 40, 3), 80},
		{wall(3, 40, 3, -40), 80},
		// No common divisor.
		{wall(0, 0, 1, 1), 1},
		{wall(0, 0, 3, 2), 1},
		{wall(3, 2, 0, 0), 1},
		{wall(0, 0, -9, 8), 1},
		{wall(-40, -40, 40, 39), 1},
		{wall(-40, -40, 40, 40), 80},
		{wall(-40, 40, 40, -40), 80},
	} {
		if got := impl.LatticeSteps(c.w); got != c.want {
			t.Errorf("LatticeSteps(%v) = %d; want %d", c.w, got, c.want)
		}
	}
	for x := -40; x <= 40; x++ {
		for y := -40; y <= 40; y++ {
			for _, w := range []impl.Wall{wall(0, 0, x, y), wall(x, y, 0, 0), wall(-x, -y, x, y)} {
				if got := impl.LatticeSteps(w); got != commonDivisor(w.B.X-w.A.X, w.B.Y-w.A.Y) {
					t.Errorf("LatticeSteps(%v) = %d", w, got)
				}
			}
		}
	}
	for _, w := range badWalls() {
		if got := impl.LatticeSteps(w); got != 0 {
			t.Errorf("LatticeSteps(%v) = %d; want 0", w, got)
		}
	}
}
