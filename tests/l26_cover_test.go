package tests

import (
	"math"
	"math/rand"
	"slices"
	"sync"
	"testing"

	"loop.example/g00991/impl"
)

// blindFor are the points of the floor that are in none of the lists of points that are filmed.
func blindFor(floor []impl.Point, films [][]impl.Point) []impl.Point {
	return slices.DeleteFunc(slices.Clone(floor), func(p impl.Point) bool {
		return slices.ContainsFunc(films, func(film []impl.Point) bool { return slices.Contains(film, p) })
	})
}

// weakestOf leaves out one camera after the other; the program counts the points that one camera films alone.
func weakestOf(floor []impl.Point, films [][]impl.Point) int {
	weakest, most := -1, -1
	for k := range films {
		others := slices.Delete(slices.Clone(films), k, k+1)
		if blind := len(blindFor(floor, others)); blind > most {
			weakest, most = k, blind
		}
	}
	return weakest
}

func countOf(films [][]impl.Point, p impl.Point) int {
	count := 0
	for _, film := range films {
		if slices.Contains(film, p) {
			count++
		}
	}
	return count
}

// checkCoverage returns the least number of cameras that film a point.
func checkCoverage(t *testing.T, r impl.Room, list []impl.Camera) int {
	t.Helper()
	floor := smallFloorOf(r)
	var films [][]impl.Point
	for _, c := range list {
		films = append(films, filmedBy(r, floor, c))
	}
	least := math.MaxInt
	for _, p := range floor {
		count := countOf(films, p)
		least = min(least, count)
		if got := impl.CountFilming(r, list, p); got != count {
			t.Fatalf("CountFilming(%v, %v, %v) = %d; want %d", r, list, p, got, count)
		}
	}
	if got, want := impl.BlindPoints(r, list), blindFor(floor, films); !slices.Equal(got, want) {
		t.Fatalf("BlindPoints(%v, %v) = %v; want %v", r, list, got, want)
	}
	if got := impl.LeastFilming(r, list); got != least {
		t.Fatalf("LeastFilming(%v, %v) = %d; want %d", r, list, got, least)
	}
	for failures := -2; failures <= 7; failures++ {
		if got := impl.IsRobust(r, list, failures); got != (failures >= 0 && least > failures) {
			t.Fatalf("IsRobust(%v, %v, %d) = %v", r, list, failures, got)
		}
	}
	if got, want := impl.WeakCamera(r, list), weakestOf(floor, films); got != want {
		t.Fatalf("WeakCamera(%v, %v) = %d; want %d", r, list, got, want)
	}
	return least
}

func TestCoverage(t *testing.T) {
	square, bent := room(0, 0, 4, 0, 4, 4, 0, 4), room(0, 0, 6, 0, 6, 2, 2, 2, 2, 6, 0, 6)
	near, far := camera(0, 0, 1, 0, 0, 1, 3), camera(0, 0, 1, 0, 0, 1, 9)
	right, left := camera(0, 0, 1, 0, 1, 1, 9), camera(0, 0, 1, 1, 0, 1, 9)
	outside, broken := camera(-1, 0, 1, 0, 0, 1, 9), camera(0, 0, 1, 0, 0, 1, 0)
	for _, c := range []struct {
		name  string
		r     impl.Room
		list  []impl.Camera
		blind int
		least int
		weak  int
	}{
		{"no cameras", square, nil, 25, 0, -1},
		{"no cameras, but memory", square, []impl.Camera{}, 25, 0, -1},
		{"one camera that films all", square, []impl.Camera{far}, 0, 1, 0},
		{"one camera that films a part", square, []impl.Camera{near}, 14, 0, 0},
		{"a camera that films nothing", square, []impl.Camera{outside}, 25, 0, 0},
		{"a camera that is not valid", square, []impl.Camera{broken}, 25, 0, 0},
		{"a part and all", square, []impl.Camera{near, far}, 0, 1, 1},
		{"all and a part", square, []impl.Camera{far, near}, 0, 1, 0},
		{"the same camera twice", square, []impl.Camera{far, far}, 0, 2, 0},
		{"the same camera twice, a part", square, []impl.Camera{near, near}, 14, 0, 0},
		{"the same camera three times, and another one", square, []impl.Camera{far, far, far, near}, 0, 3, 0},
		{"six times the same camera", square, slices.Repeat([]impl.Camera{far}, 6), 0, 6, 0},
		{"two halves with a common line", square, []impl.Camera{right, left}, 0, 1, 0},
		{"two halves, and one of them again", square, []impl.Camera{right, left, right}, 0, 1, 1},
		{"two halves, each twice", square, []impl.Camera{right, left, left, right}, 0, 2, 0},
		{"the second one is weak", square, []impl.Camera{near, left, near}, 6, 0, 1},
		{"cameras that film nothing, and one", square, []impl.Camera{outside, broken, far}, 0, 1, 2},
		{"one, and cameras that film nothing", square, []impl.Camera{far, broken, outside}, 0, 1, 0},
		{"cameras that film nothing", square, []impl.Camera{broken, outside, broken}, 25, 0, 0},
		{"a bent room, from its corner", bent, []impl.Camera{far}, 0, 1, 0},
		{"a bent room, from one end", bent, []impl.Camera{camera(6, 0, 6, 9, 0, 0, 9)}, 11, 0, 0},
		{"a bent room, from both ends", bent, []impl.Camera{camera(6, 0, 6, 9, 0, 0, 9), camera(0, 6, 0, 0, 6, 6, 9)}, 0, 1, 0},
		{"a triangle without inner points", room(0, 0, 1, 0, 0, 1), []impl.Camera{far, camera(1, 0, 1, 1, 0, 1, 9)}, 0, 1, 0},
	} {
		if got := impl.BlindPoints(c.r, c.list); len(got) != c.blind {
			t.Errorf("%s: BlindPoints(%v, %v) = %v", c.name, c.r, c.list, got)
		}
		if got := impl.LeastFilming(c.r, c.list); got != c.least {
			t.Errorf("%s: LeastFilming(%v, %v) = %d; want %d", c.name, c.r, c.list, got, c.least)
		}
		if got := impl.WeakCamera(c.r, c.list); got != c.weak {
			t.Errorf("%s: WeakCamera(%v, %v) = %d; want %d", c.name, c.r, c.list, got, c.weak)
		}
		for failures := -1; failures <= 7; failures++ {
			if got := impl.IsRobust(c.r, c.list, failures); got != (failures >= 0 && failures < c.least) {
				t.Errorf("%s: IsRobust(%v, %v, %d) = %v", c.name, c.r, c.list, failures, got)
			}
		}
		checkCoverage(t, c.r, c.list)
	}
}

func TestCountFilming(t *testing.T) {
	square := room(0, 0, 4, 0, 4, 4, 0, 4)
	near, far := camera(0, 0, 1, 0, 0, 1, 3), camera(0, 0, 1, 0, 0, 1, 9)
	for _, c := range []struct {
		name string
		list []impl.Camera
		p    impl.Point
		want int
	}{
		{"no cameras", nil, at(1, 1), 0},
		{"both", []impl.Camera{near, far}, at(1, 1), 2},
		{"one of both", []impl.Camera{near, far}, at(3, 3), 1},
		{"none of two", []impl.Camera{near, near}, at(3, 3), 0},
		{"the same one twice", []impl.Camera{near, far, near}, at(1, 1), 3},
		{"one that is not valid", []impl.Camera{near, {}, far}, at(1, 1), 2},
		{"one outside the room", []impl.Camera{camera(0, -1, 1, -1, 0, 1, 9), far}, at(0, 1), 1},
		{"a point outside the room", []impl.Camera{near, far}, at(5, 1), 0},
		{"a point that is not valid", []impl.Camera{near, far}, at(math.MaxInt, 1), 0},
		// There is no limit to the cameras here.
		{"seven cameras", slices.Repeat([]impl.Camera{far}, 7), at(3, 3), 7},
		{"many cameras", slices.Repeat([]impl.Camera{near, far}, 300), at(3, 3), 300},
	} {
		if got := impl.CountFilming(square, c.list, c.p); got != c.want {
			t.Errorf("%s: CountFilming(%v, %v) = %d; want %d", c.name, c.list, c.p, got, c.want)
		}
	}
}

func TestTooManyCameras(t *testing.T) {
	for _, r := range goodRooms() {
		c := camera(r.Corners[0].X, r.Corners[0].Y, 40, -40, -40, 40, 50)
		for _, n := range []int{7, 8, 100} {
			list := slices.Repeat([]impl.Camera{c}, n)
			if impl.LeastFilming(r, list) != -1 || len(impl.BlindPoints(r, list)) != 0 || impl.WeakCamera(r, list) != -1 || impl.IsRobust(r, list, 0) || impl.IsRobust(r, list, -2) {
				t.Errorf("%d cameras in %v: LeastFilming = %d, BlindPoints = %v, WeakCamera = %d", n, r, impl.LeastFilming(r, list), impl.BlindPoints(r, list), impl.WeakCamera(r, list))
			}
			bad := slices.Repeat([]impl.Camera{{}}, n)
			if impl.LeastFilming(r, bad) != -1 || len(impl.BlindPoints(r, bad)) != 0 || impl.WeakCamera(r, bad) != -1 || impl.IsRobust(r, bad, 0) {
				t.Errorf("%d bad cameras in %v: LeastFilming = %d", n, r, impl.LeastFilming(r, bad))
			}
		}
		if six := slices.Repeat([]impl.Camera{{}}, 6); impl.LeastFilming(r, six) != 0 || impl.WeakCamera(r, six) != 0 || len(impl.BlindPoints(r, six)) != len(impl.FloorPoints(r)) {
			t.Errorf("six bad cameras in %v: LeastFilming = %d, WeakCamera = %d", r, impl.LeastFilming(r, six), impl.WeakCamera(r, six))
		}
	}
}

func TestFailures(t *testing.T) {
	square, far := room(0, 0, 4, 0, 4, 4, 0, 4), camera(0, 0, 1, 0, 0, 1, 9)
	for n := range 7 {
		list := slices.Repeat([]impl.Camera{far}, n)
		for _, failures := range []int{-1, -2, math.MinInt, math.MinInt + 1, math.MaxInt, n, n + 1, -1 << 32, 1 << 32} {
			if impl.IsRobust(square, list, failures) {
				t.Errorf("IsRobust with %d cameras, %d = true", n, failures)
			}
		}
		for failures := range n {
			if !impl.IsRobust(square, list, failures) {
				t.Errorf("IsRobust with %d cameras, %d = false", n, failures)
			}
		}
	}
}

// someCameras are near the room; most of them are in it, and many look from a corner along both walls.
func someCameras(source *rand.Rand, r impl.Room, count int) []impl.Camera {
	around, n := pointsAround(r), len(r.Corners)
	var list []impl.Camera
	for range count {
		c := someCamera(source, 20)
		for !isCamera(c) && source.Intn(8) > 0 {
			c = someCamera(source, 20)
		}
		k := source.Intn(n)
		switch source.Intn(8) {
		case 0:
			c.At = around[source.Intn(len(around))]
		case 1, 2:
			c.At = r.Corners[k]
		default:
			c = impl.Camera{At: r.Corners[k], Right: r.Corners[(k+1)%n], Left: r.Corners[(k+n-1)%n], Reach: 20 + source.Intn(80)}
		}
		list = append(list, c)
	}
	return list
}

// Promise 26: every point is blind or filmed, and one camera more never hurts.
func TestCoverageMany(t *testing.T) {
	source, counts := rand.New(rand.NewSource(111)), map[int]int{}
	for _, r := range guardRooms(112, 60) {
		floor := impl.FloorPoints(r)
		if len(floor) > 150 {
			continue
		}
		for range 6 {
			list := someCameras(source, r, source.Intn(7))
			counts[checkCoverage(t, r, list)]++
			blind := impl.BlindPoints(r, list)
			for _, p := range floor {
				if slices.Contains(blind, p) == (impl.CountFilming(r, list, p) > 0) {
					t.Fatalf("in %v, %v is blind for %v and filmed, or none of both", r, p, list)
				}
			}
			for k := range list {
				fewer := slices.Delete(slices.Clone(list), k, k+1)
				if len(impl.BlindPoints(r, fewer)) < len(blind) || impl.LeastFilming(r, fewer) > impl.LeastFilming(r, list) {
					t.Fatalf("in %v, camera %d of %v hurts", r, k, list)
				}
			}
		}
	}
	if counts[0] < 50 || counts[1] < 15 || counts[2] < 5 {
		t.Errorf("too few rooms are filmed by some number of cameras: %v", counts)
	}
}

// Calls at the same time do not disturb each other.
func TestCoverageTogether(t *testing.T) {
	r, list := horns(), []impl.Camera{camera(0, 0, 1, 0, 0, 1, 9), camera(9, 0, 9, 1, 0, 0, 5), camera(4, 1, 9, 0, 0, 0, 9)}
	blind, least, weak := impl.BlindPoints(r, list), impl.LeastFilming(r, list), impl.WeakCamera(r, list)
	var calls sync.WaitGroup
	for range 20 {
		calls.Add(1)
		go func() {
			defer calls.Done()
			for range 20 {
				if !slices.Equal(impl.BlindPoints(r, list), blind) || impl.LeastFilming(r, list) != least || impl.WeakCamera(r, list) != weak {
					t.Error("a call disturbs another one")
				}
			}
		}()
	}
	calls.Wait()
}

func TestCoverageInvalid(t *testing.T) {
	for name, r := range badRooms() {
		for _, list := range [][]impl.Camera{nil, {camera(1, 1, 2, 1, 1, 2, 9)}, goodCameras()[:6], goodCameras()} {
			if impl.LeastFilming(r, list) != -1 || len(impl.BlindPoints(r, list)) != 0 || impl.WeakCamera(r, list) != -1 {
				t.Errorf("%s: LeastFilming(%v) = %d, BlindPoints = %v, WeakCamera = %d", name, list, impl.LeastFilming(r, list), impl.BlindPoints(r, list), impl.WeakCamera(r, list))
			}
			for _, failures := range []int{0, -1, -2, math.MinInt, math.MaxInt} {
				if impl.IsRobust(r, list, failures) {
					t.Errorf("%s: IsRobust(%v, %d) = true", name, list, failures)
				}
			}
			for _, p := range []impl.Point{at(0, 0), at(1, 1), at(2, 1), at(math.MinInt, 0)} {
				if got := impl.CountFilming(r, list, p); got != 0 {
					t.Errorf("%s: CountFilming(%v, %v) = %d", name, list, p, got)
				}
			}
		}
	}
	square, far := room(0, 0, 4, 0, 4, 4, 0, 4), camera(0, 0, 1, 0, 0, 1, 9)
	for _, p := range badPoints() {
		if got := impl.CountFilming(square, []impl.Camera{far, far}, p); got != 0 {
			t.Errorf("CountFilming of %v = %d", p, got)
		}
		for place := range 3 {
			list := []impl.Camera{withPoint(far, place, p), far}
			if impl.LeastFilming(square, list) != 1 || impl.WeakCamera(square, list) != 1 || len(impl.BlindPoints(square, list)) != 0 || len(impl.BlindPoints(square, list[:1])) != 25 {
				t.Errorf("%v: LeastFilming = %d, WeakCamera = %d", list, impl.LeastFilming(square, list), impl.WeakCamera(square, list))
			}
		}
	}
}

func TestCoverageArguments(t *testing.T) {
	checkRoomsKept(t, func(r impl.Room) {
		list := append(goodCameras()[:5], camera(impl.CornerAt(r, 0).X, impl.CornerAt(r, 0).Y, 40, -40, -40, 40, 100))
		before := slices.Clone(list)
		impl.CountFilming(r, list, impl.CornerAt(r, 0))
		impl.BlindPoints(r, list[:2])
		impl.LeastFilming(r, list[:3])
		impl.IsRobust(r, list[:4], 0)
		impl.WeakCamera(r, list)
		if !slices.Equal(list, before) {
			t.Fatalf("a function changes its cameras: %v", list)
		}
	})
	checkNew(t, at(99, -99), func(r impl.Room) []impl.Point { return impl.BlindPoints(r, nil) })
	checkNew(t, at(99, -99), func(r impl.Room) []impl.Point { return impl.BlindPoints(r, goodCameras()[:6]) })
}
