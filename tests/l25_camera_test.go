package tests

import (
	"math"
	"math/rand"
	"slices"
	"testing"

	"loop.example/g00991/impl"
)

// camera takes the coordinates of At, Right and Left, and the reach.
func camera(ax int, ay int, rx int, ry int, lx int, ly int, reach int) impl.Camera {
	return impl.Camera{At: at(ax, ay), Right: at(rx, ry), Left: at(lx, ly), Reach: reach}
}

// angleFrom is how far a direction is turned to the left of another one, from 0 to less than a full turn. Directions between whole points of the museum are the same or differ by far more than the numbers are inexact.
func angleFrom(a impl.Point, b impl.Point, p impl.Point) float64 {
	angle := math.Atan2(float64(p.Y-a.Y), float64(p.X-a.X)) - math.Atan2(float64(b.Y-a.Y), float64(b.X-a.X))
	if angle < -1e-9 {
		angle += 2 * math.Pi
	}
	return angle
}

func isValid(points ...impl.Point) bool {
	return !slices.ContainsFunc(points, func(p impl.Point) bool {
		return p.X < -40 || p.X > 40 || p.Y < -40 || p.Y > 40
	})
}

func isCamera(c impl.Camera) bool {
	if !isValid(c.At, c.Right, c.Left) || c.At == c.Right || c.At == c.Left || c.Reach < 1 || c.Reach > 100 {
		return false
	}
	angle := angleFrom(c.At, c.Right, c.Left)
	return angle > 1e-9 && angle < math.Pi-1e-9
}

// isInField compares angles; the program compares turns.
func isInField(c impl.Camera, p impl.Point) bool {
	if !isCamera(c) || !isValid(p) {
		return false
	}
	isInReach := math.Hypot(float64(p.X-c.At.X), float64(p.Y-c.At.Y)) <= float64(c.Reach)+1e-9
	return p == c.At || isInReach && angleFrom(c.At, c.Right, p) <= angleFrom(c.At, c.Right, c.Left)+1e-9
}

func goodCameras() []impl.Camera {
	return []impl.Camera{
		camera(0, 0, 1, 0, 0, 1, 3),
		camera(0, 0, 1, 0, -40, 1, 100),
		camera(1, 1, 1, 0, 2, 1, 1),
		camera(2, 2, 6, 0, 0, 6, 9),
		camera(4, 4, 0, 4, 4, 0, 5),
		camera(-3, 5, -7, 8, -9, -1, 6),
		camera(-40, -40, 40, -40, -40, 40, 100),
		camera(40, 40, 39, -40, 40, -40, 2),
		camera(3, 2, 2, 3, 2, 2, 4),
		camera(5, 0, 8, 4, -8, 9, 7),
	}
}

func badCameras() map[string]impl.Camera {
	bad := map[string]impl.Camera{
		"nothing":                              {},
		"reach 0":                              camera(0, 0, 1, 0, 0, 1, 0),
		"reach 101":                            camera(0, 0, 1, 0, 0, 1, 101),
		"a reach below 0":                      camera(0, 0, 1, 0, 0, 1, -1),
		"a reach far below 0":                  camera(0, 0, 1, 0, 0, 1, -100),
		"the greatest reach":                   camera(0, 0, 1, 0, 0, 1, math.MaxInt),
		"the least reach":                      camera(0, 0, 1, 0, 0, 1, math.MinInt),
		"a reach in more bits":                 camera(0, 0, 1, 0, 0, 1, 1<<32+1),
		"both sides in one direction":          camera(0, 0, 2, 1, 4, 2, 5),
		"the same side twice":                  camera(0, 0, 2, 1, 2, 1, 5),
		"sides on one line":                    camera(0, 0, 2, 1, -2, -1, 5),
		"sides on one line, of another length": camera(0, 0, -1, 0, 3, 0, 5),
		"the left side to the right":           camera(0, 0, 0, 1, 1, 0, 5),
		"the left side a bit to the right":     camera(-40, -40, 40, 40, 40, 39, 5),
		"more than half a circle":              camera(0, 0, 1, 0, -1, -1, 5),
		"At is Right":                          camera(1, 1, 1, 1, 0, 2, 5),
		"At is Left":                           camera(1, 1, 2, 1, 1, 1, 5),
		"all points are the same":              camera(1, 1, 1, 1, 1, 1, 5),
	}
	return bad
}

// withPoint returns the camera with another point in one of its three places.
func withPoint(c impl.Camera, place int, p impl.Point) impl.Camera {
	switch place {
	case 0:
		c.At = p
	case 1:
		c.Right = p
	case 2:
		c.Left = p
	}
	return c
}

func checkNoCamera(t *testing.T, name string, c impl.Camera) {
	t.Helper()
	if impl.CameraOk(c) {
		t.Errorf("%s: CameraOk(%v) = true", name, c)
	}
	square := room(0, 0, 4, 0, 4, 4, 0, 4)
	for _, p := range []impl.Point{c.At, c.Right, c.Left, at(0, 0), at(1, 1), at(2, 1), at(math.MaxInt, 0)} {
		if impl.InField(c, p) || impl.Films(square, c, p) {
			t.Errorf("%s: InField(%v, %v) = %v, Films = %v", name, c, p, impl.InField(c, p), impl.Films(square, c, p))
		}
	}
	if got := impl.FilmedBy(square, c); len(got) != 0 {
		t.Errorf("%s: FilmedBy(%v, %v) = %v", name, square, c, got)
	}
	if turned, ok := impl.TurnCamera(c); turned != c || ok {
		t.Errorf("%s: TurnCamera(%v) = %v, %v", name, c, turned, ok)
	}
}

func TestCameraOk(t *testing.T) {
	for _, c := range append(goodCameras(), camera(0, 0, 1, 0, 0, 1, 1), camera(0, 0, 1, 0, 0, 1, 100), camera(-40, -40, 40, 39, 40, 40, 50)) {
		if !impl.CameraOk(c) || !isCamera(c) {
			t.Errorf("CameraOk(%v) = false", c)
		}
		for place := range 3 {
			for _, p := range badPoints() {
				checkNoCamera(t, "a bad point", withPoint(c, place, p))
			}
		}
		for _, reach := range append(badNumbers(), 0, 101) {
			if reach < 1 || reach > 100 {
				other := c
				other.Reach = reach
				checkNoCamera(t, "a bad reach", other)
			}
		}
		checkNoCamera(t, "exchanged sides", impl.Camera{At: c.At, Right: c.Left, Left: c.Right, Reach: c.Reach})
	}
	for name, c := range badCameras() {
		checkNoCamera(t, name, c)
		if isCamera(c) {
			t.Errorf("%s: %v should be no camera", name, c)
		}
	}
}

func TestInField(t *testing.T) {
	quarter, narrow, wide := camera(0, 0, 1, 0, 0, 1, 5), camera(2, 1, 6, 2, 6, 3, 4), camera(0, 0, 9, 1, -9, 1, 3)
	for _, c := range []struct {
		name string
		c    impl.Camera
		p    impl.Point
		want bool
	}{
		{"in the middle", quarter, at(2, 2), true},
		{"At", quarter, at(0, 0), true},
		{"on the right side", quarter, at(3, 0), true},
		{"on the left side", quarter, at(0, 3), true},
		{"Right", quarter, at(1, 0), true},
		{"Left", quarter, at(0, 1), true},
		{"on the right side, at the reach", quarter, at(5, 0), true},
		{"on the left side, at the reach", quarter, at(0, 5), true},
		{"between, at the reach", quarter, at(3, 4), true},
		{"on the right side, past the reach", quarter, at(6, 0), false},
		{"on the left side, past the reach", quarter, at(0, 6), false},
		{"just past the reach", quarter, at(4, 4), false},
		{"to the right of the right side", quarter, at(3, -1), false},
		{"to the left of the left side", quarter, at(-1, 3), false},
		{"behind", quarter, at(-1, -1), false},
		{"behind, on the line of the right side", quarter, at(-2, 0), false},
		{"behind, on the line of the left side", quarter, at(0, -2), false},
		{"a narrow field, in it", narrow, at(5, 2), true},
		{"a narrow field, At", narrow, at(2, 1), true},
		{"a narrow field, Left past the reach", narrow, at(6, 3), false},
		{"a narrow field, Right past the reach", narrow, at(6, 2), false},
		{"a narrow field, on its left side", narrow, at(4, 2), true},
		{"a narrow field, beside it", narrow, at(4, 3), false},
		{"a narrow field, on the other side", narrow, at(4, 1), false},
		{"a narrow field, mirrored at At", narrow, at(-1, 0), false},
		{"a wide field, straight on", wide, at(0, 3), true},
		{"a wide field, to the right", wide, at(2, 1), true},
		{"a wide field, to the left", wide, at(-2, 1), true},
		{"a wide field, level with At", wide, at(2, 0), false},
		{"a wide field, level with At, to the left", wide, at(-2, 0), false},
		{"a wide field, behind", wide, at(0, -1), false},
		{"reach 1", camera(0, 0, 1, 0, 0, 1, 1), at(1, 0), true},
		{"reach 1, one step across", camera(0, 0, 1, 0, 0, 1, 1), at(1, 1), false},
		{"reach 100", camera(-40, -40, 40, -40, -40, 40, 100), at(40, 20), true},
		{"reach 100, past it", camera(-40, -40, 40, -40, -40, 40, 100), at(40, 21), false},
		{"the longest way", camera(-40, -40, 40, -40, -40, 40, 100), at(40, 40), false},
		{"a point past the limits", camera(40, 40, 40, -40, 39, 40, 9), at(40, 41), false},
		{"a point past the limits, ahead", camera(38, 0, 40, -1, 40, 1, 9), at(41, 0), false},
	} {
		if got := impl.InField(c.c, c.p); got != c.want || isInField(c.c, c.p) != c.want {
			t.Errorf("%s: InField(%v, %v) = %v", c.name, c.c, c.p, got)
		}
	}
}

// someCamera may be valid or not.
func someCamera(source *rand.Rand, side int) impl.Camera {
	some := func() int { return source.Intn(2*side+1) - side }
	return camera(some(), some(), some(), some(), some(), some(), 1+source.Intn(2*side))
}

func TestInFieldMany(t *testing.T) {
	source, counts := rand.New(rand.NewSource(101)), map[string]int{}
	for i := range 3000 {
		side := []int{2, 5, 40}[i%3]
		c := someCamera(source, side)
		isGood := isCamera(c)
		if got := impl.CameraOk(c); got != isGood {
			t.Fatalf("CameraOk(%v) = %v", c, got)
		}
		for range 60 {
			p := at(source.Intn(2*side+1)-side, source.Intn(2*side+1)-side)
			want := isInField(c, p)
			if got := impl.InField(c, p); got != want {
				t.Fatalf("InField(%v, %v) = %v", c, p, got)
			}
			switch {
			case !isGood:
				counts["no camera"]++
			case want:
				counts["in"]++
			default:
				counts["out"]++
			}
		}
	}
	if counts["no camera"] < 10000 || counts["in"] < 10000 || counts["out"] < 10000 {
		t.Errorf("too few points of some kind: %v", counts)
	}
}

func TestInFieldBadPoint(t *testing.T) {
	for _, c := range goodCameras() {
		for _, p := range append(badPoints(), at(41, 41), at(math.MinInt, math.MinInt)) {
			if impl.InField(c, p) || impl.Films(room(-40, -40, 40, -40, 40, 40, -40, 40), c, p) {
				t.Errorf("InField(%v, %v) = true", c, p)
			}
		}
	}
}

// doesFilm and filmedBy ask for angles and for the points between.
func doesFilm(r impl.Room, c impl.Camera, p impl.Point) bool {
	return isInField(c, p) && doSee(r, c.At, p)
}

func filmedBy(r impl.Room, floor []impl.Point, c impl.Camera) []impl.Point {
	var list []impl.Point
	for _, p := range floor {
		if doesFilm(r, c, p) {
			list = append(list, p)
		}
	}
	return list
}

func TestFilms(t *testing.T) {
	square, bent := room(0, 0, 4, 0, 4, 4, 0, 4), room(0, 0, 6, 0, 6, 2, 2, 2, 2, 6, 0, 6)
	for _, c := range []struct {
		name string
		r    impl.Room
		c    impl.Camera
		p    impl.Point
		want bool
	}{
		{"in the field", square, camera(0, 0, 1, 0, 0, 1, 3), at(1, 2), true},
		{"on a wall", square, camera(0, 0, 1, 0, 0, 1, 3), at(0, 3), true},
		{"a corner", square, camera(0, 0, 1, 0, 0, 1, 4), at(4, 0), true},
		{"At", square, camera(1, 1, 2, 1, 1, 2, 4), at(1, 1), true},
		{"past the reach", square, camera(0, 0, 1, 0, 0, 1, 3), at(0, 4), false},
		{"past a side", square, camera(1, 1, 2, 1, 1, 2, 4), at(1, 0), false},
		{"in the field, outside", square, camera(0, 0, 1, 0, 0, 1, 9), at(5, 1), false},
		{"in the field, behind a wall", bent, camera(6, 2, 6, 6, 0, 0, 9), at(1, 6), false},
		{"in the field, past the corner", bent, camera(4, 0, 4, 6, 0, 0, 9), at(0, 4), true},
		{"in the field, across a gap", horns(), camera(1, 5, 5, 3, 5, 5, 9), at(8, 5), false},
		{"in the field, under a gap", horns(), camera(1, 2, 5, 1, 5, 5, 9), at(8, 2), true},
		{"a camera on a wall", bent, camera(6, 1, 5, 3, 0, 1, 9), at(1, 1), true},
		{"a camera outside", square, camera(-1, 2, 2, 1, 2, 3, 9), at(2, 2), false},
		{"a camera outside, films itself", square, camera(-1, 2, 2, 1, 2, 3, 9), at(-1, 2), false},
		{"a camera outside, in a gap", horns(), camera(4, 4, 6, 1, 5, 9, 9), at(7, 4), false},
		{"a camera in the room with directions outside", square, camera(4, 4, 4, 40, 3, -40, 9), at(2, 4), true},
	} {
		if got := impl.Films(c.r, c.c, c.p); got != c.want || doesFilm(c.r, c.c, c.p) != c.want {
			t.Errorf("%s: Films(%v, %v, %v) = %v", c.name, c.r, c.c, c.p, got)
		}
	}
}

func TestFilmedBy(t *testing.T) {
	square, bent := room(0, 0, 4, 0, 4, 4, 0, 4), room(0, 0, 6, 0, 6, 2, 2, 2, 2, 6, 0, 6)
	for _, c := range []struct {
		name string
		r    impl.Room
		c    impl.Camera
		want []impl.Point
	}{
		{"a quarter of a circle", square, camera(0, 0, 1, 0, 0, 1, 3), room(0, 0, 1, 0, 2, 0, 3, 0, 0, 1, 1, 1, 2, 1, 0, 2, 1, 2, 2, 2, 0, 3).Corners},
		{"reach 1", square, camera(1, 1, 2, 1, 1, 2, 1), room(1, 1, 2, 1, 1, 2).Corners},
		{"nothing but itself", square, camera(4, 4, 9, 4, 4, 9, 50), []impl.Point{at(4, 4)}},
		{"along a wall", square, camera(0, 0, 9, -1, 9, 0, 50), room(0, 0, 1, 0, 2, 0, 3, 0, 4, 0).Corners},
		{"behind a corner", bent, camera(6, 2, 0, 3, 0, 2, 9), room(0, 2, 1, 2, 2, 2, 3, 2, 4, 2, 5, 2, 6, 2).Corners},
		{"the camera outside", square, camera(5, 2, 4, 4, 4, 0, 9), nil},
		{"the camera outside, past the line of a wall", square, camera(5, 0, 4, 1, 4, -1, 9), nil},
	} {
		if got := impl.FilmedBy(c.r, c.c); !slices.Equal(got, c.want) {
			t.Errorf("%s: FilmedBy(%v, %v) = %v; want %v", c.name, c.r, c.c, got, c.want)
		}
	}
	large := room(-40, -40, 40, -40, 40, 40, -40, 40)
	if got := impl.FilmedBy(large, camera(-40, -40, 40, -40, -40, 40, 80)); len(got) != 5101 {
		t.Errorf("FilmedBy(%v) has %d points", large, len(got))
	}
}

func TestFilmedByMany(t *testing.T) {
	source, counts := rand.New(rand.NewSource(102)), map[string]int{}
	for _, r := range guardRooms(103, 60) {
		floor, around := smallFloorOf(r), pointsAround(r)
		for range 12 {
			c := someCamera(source, 12)
			c.At = around[source.Intn(len(around))]
			want := filmedBy(r, floor, c)
			counts[partOf(want, floor)]++
			if got := impl.FilmedBy(r, c); !slices.Equal(got, want) {
				t.Fatalf("FilmedBy(%v, %v) = %v; want %v", r, c, got, want)
			}
			for _, p := range around {
				if got := impl.Films(r, c, p); got != slices.Contains(want, p) {
					t.Fatalf("Films(%v, %v, %v) = %v", r, c, p, got)
				}
			}
		}
	}
	if counts["none"] < 50 || counts["some"] < 100 {
		t.Errorf("too few cameras film some points or none: %v", counts)
	}
}

func TestTurnCamera(t *testing.T) {
	for _, c := range []struct {
		name string
		c    impl.Camera
		want impl.Camera
		ok   bool
	}{
		{"around 0", camera(0, 0, 1, 0, 0, 1, 3), camera(0, 0, 0, 1, -1, 0, 3), true},
		{"around another point", camera(2, 3, 6, 4, 1, 9, 7), camera(2, 3, 1, 7, -4, 2, 7), true},
		{"around a corner of the museum", camera(40, 40, 39, -40, 40, -40, 2), camera(40, 40, 39, -40, 40, -40, 2), false},
		{"up to the limits", camera(0, 0, 40, -40, 40, 40, 100), camera(0, 0, 40, 40, -40, 40, 100), true},
		{"Right past the limit above", camera(0, 1, 40, 0, 0, 5, 9), camera(0, 1, 40, 0, 0, 5, 9), false},
		{"Right up to the limit above", camera(0, 1, 39, 0, 0, 5, 9), camera(0, 1, 1, 40, -4, 1, 9), true},
		{"Left past the limit to the left", camera(-1, 0, 5, 0, 0, 40, 9), camera(-1, 0, 5, 0, 0, 40, 9), false},
		{"Left up to the limit to the left", camera(-1, 0, 5, 0, 0, 39, 9), camera(-1, 0, -1, 6, -40, 1, 9), true},
		{"Left past the limit below", camera(0, -1, 0, 0, -40, 0, 9), camera(0, -1, 0, 0, -40, 0, 9), false},
		{"Right past the limit to the right", camera(1, 0, 1, -40, 2, 0, 9), camera(1, 0, 1, -40, 2, 0, 9), false},
	} {
		got, ok := impl.TurnCamera(c.c)
		want := c.want
		if !c.ok {
			want = c.c
		}
		if got != want || ok != c.ok || !impl.CameraOk(c.c) {
			t.Errorf("%s: TurnCamera(%v) = %v, %v; want %v", c.name, c.c, got, ok, want)
		}
	}
}

// Promise 25: four quarter turns bring a camera back.
func TestTurnCameraMany(t *testing.T) {
	source, counts := rand.New(rand.NewSource(104)), map[string]int{}
	turned := func(a impl.Point, p impl.Point) impl.Point { return at(a.X+a.Y-p.Y, a.Y-a.X+p.X) }
	for i := range 6000 {
		c := someCamera(source, []int{4, 13, 40}[i%3])
		want := impl.Camera{At: c.At, Right: turned(c.At, c.Right), Left: turned(c.At, c.Left), Reach: c.Reach}
		isGood := isCamera(c) && isCamera(want)
		if !isGood {
			want = c
		}
		got, ok := impl.TurnCamera(c)
		if got != want || ok != isGood {
			t.Fatalf("TurnCamera(%v) = %v, %v; want %v", c, got, ok, want)
		}
		if !isGood {
			counts["not turned"]++
			continue
		}
		counts["turned"]++
		for range 10 {
			p := at(source.Intn(25)-12, source.Intn(25)-12)
			if there := turned(c.At, p); isValid(there) && impl.InField(c, p) != impl.InField(got, there) {
				t.Fatalf("InField(%v, %v) = %v, but not so for %v, %v", c, p, impl.InField(c, p), got, there)
			}
		}
		again, areOk := c, true
		for range 4 {
			again, ok = impl.TurnCamera(again)
			areOk = areOk && ok
		}
		if areOk {
			counts["turned four times"]++
			if again != c {
				t.Fatalf("four quarter turns bring %v to %v", c, again)
			}
		}
	}
	if counts["not turned"] < 1000 || counts["turned"] < 1000 || counts["turned four times"] < 1000 {
		t.Errorf("too few cameras are turned, or not: %v", counts)
	}
}

func TestCameraInvalid(t *testing.T) {
	for name, r := range badRooms() {
		for _, c := range append(goodCameras()[:3], camera(1, 1, 2, 1, 1, 2, 9)) {
			if got := impl.FilmedBy(r, c); len(got) != 0 {
				t.Errorf("%s: FilmedBy(%v) = %v", name, c, got)
			}
			for _, p := range []impl.Point{c.At, c.Right, at(1, 1), at(2, 2), at(math.MaxInt, 0)} {
				if impl.Films(r, c, p) {
					t.Errorf("%s: Films(%v, %v) = true", name, c, p)
				}
			}
		}
	}
}

func TestCameraArguments(t *testing.T) {
	checkRoomsKept(t, func(r impl.Room) {
		c := impl.Camera{At: impl.CornerAt(r, 0), Right: impl.CornerAt(r, 1), Left: impl.CornerAt(r, -1), Reach: 100}
		impl.Films(r, c, impl.CornerAt(r, 2))
		impl.FilmedBy(r, c)
	})
	checkNew(t, at(99, -99), func(r impl.Room) []impl.Point {
		return impl.FilmedBy(r, impl.Camera{At: r.Corners[0], Right: at(r.Corners[0].X, r.Corners[0].Y-1), Left: at(r.Corners[0].X, r.Corners[0].Y+1), Reach: 100})
	})
}
