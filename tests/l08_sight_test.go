package tests

import (
	"math"
	"math/rand"
	"slices"
	"testing"

	"loop.example/g00991/impl"
)

// A share is a part of a way, from its beginning on: n of d.
type share struct {
	n int
	d int
}

// sharesOf are the places of a way where it comes to the line of a wall, and its ends, in order, each once.
func sharesOf(r impl.Room, a impl.Point, b impl.Point) []share {
	list := []share{{0, 1}, {1, 1}}
	for k := range r.Corners {
		w := enlargedWall(r, k, 1)
		x, y, wx, wy := b.X-a.X, b.Y-a.Y, w.B.X-w.A.X, w.B.Y-w.A.Y
		d, n := x*wy-y*wx, (w.A.X-a.X)*wy-(w.A.Y-a.Y)*wx
		if d < 0 {
			d, n = -d, -n
		}
		if n > 0 && n < d {
			list = append(list, share{n, d})
		}
	}
	slices.SortFunc(list, func(s share, t share) int { return s.n*t.d - t.n*s.d })
	return slices.CompactFunc(list, func(s share, t share) bool { return s.n*t.d == t.n*s.d })
}

// doSee looks at a point between each two of the shares, in a room so large that it is whole; the program looks for crossings, and at the middle between corners.
func doSee(r impl.Room, a impl.Point, b impl.Point) bool {
	if placed(r, 1, a) == impl.InOutside || placed(r, 1, b) == impl.InOutside {
		return false
	}
	shares := sharesOf(r, a, b)
	for i := 1; a != b && i < len(shares); i++ {
		n, d := shares[i-1].n+shares[i].n, shares[i-1].d+shares[i].d
		between := at(a.X*d+(b.X-a.X)*n, a.Y*d+(b.Y-a.Y)*n)
		if placed(r, d, between) == impl.InOutside {
			return false
		}
	}
	return true
}

func blockedBy(r impl.Room, a impl.Point, b impl.Point) int {
	if a == b || placed(r, 1, a) == impl.InOutside || placed(r, 1, b) == impl.InOutside {
		return -1
	}
	for k := range r.Corners {
		if meetingOf(impl.Wall{A: a, B: b}, enlargedWall(r, k, 1)) == crossing {
			return k
		}
	}
	return -1
}

// maze has ten corners: a way leads up on the right and back on the left. Its corners 0, 3, 4 and 9 are on one line, and so are 1, 3, 5 and 8.
func maze() impl.Room {
	return room(0, 0, 8, 0, 8, 8, 0, 8, 0, 4, 4, 4, 4, 6, 6, 6, 6, 2, 0, 2)
}

// teeth has the corners 3, 5 and 7, all of them reflex, at the same height, and the corners 4 and 6 above them.
func teeth() impl.Room {
	return room(0, 0, 8, 0, 8, 6, 6, 3, 5, 6, 4, 3, 3, 6, 2, 3, 0, 6)
}

func sightRooms() []impl.Room {
	return append(goodRooms(), peaks(), valleys(), horns(), star(), stairs(), teeth(), hollowTriangle(), deepTriangle())
}

func TestSees(t *testing.T) {
	bent := room(0, 0, 6, 0, 6, 2, 2, 2, 2, 6, 0, 6)
	notch := room(0, 0, 8, 0, 8, 6, 4, 2, 0, 6)
	square := room(0, 0, 4, 0, 4, 4, 0, 4)
	for _, c := range []struct {
		name string
		r    impl.Room
		a, b impl.Point
		want bool
		wall int
	}{
		{"through the inside", square, at(1, 1), at(3, 2), true, -1},
		{"from corner to corner", square, at(0, 0), at(4, 4), true, -1},
		{"from wall to wall", square, at(0, 1), at(4, 3), true, -1},
		{"along a wall", square, at(1, 0), at(3, 0), true, -1},
		{"all along a wall", square, at(4, 0), at(4, 4), true, -1},
		{"around a corner", bent, at(6, 1), at(1, 6), false, 2},
		{"around a corner, from corner to corner", bent, at(6, 0), at(0, 6), false, 2},
		{"past a reflex corner", bent, at(4, 0), at(0, 4), true, -1},
		{"past a reflex corner, inside", bent, at(3, 1), at(1, 3), true, -1},
		{"to a reflex corner", bent, at(0, 0), at(2, 2), true, -1},
		{"from a reflex corner along a wall", bent, at(2, 2), at(6, 2), true, -1},
		{"along a wall and on past a reflex corner", bent, at(6, 2), at(0, 2), true, -1},
		{"from within a wall and on past a reflex corner", bent, at(5, 2), at(1, 2), true, -1},
		{"up to a wall that goes on", bent, at(0, 2), at(3, 2), true, -1},
		{"outside, from corner to corner", bent, at(6, 2), at(2, 6), false, -1},
		{"outside, from wall to wall", bent, at(4, 2), at(2, 4), false, -1},
		{"outside, from a wall to a corner", bent, at(6, 2), at(2, 3), false, -1},
		{"over the edge of a notch", notch, at(0, 6), at(8, 6), false, -1},
		{"across a notch", notch, at(1, 5), at(7, 5), false, -1},
		{"through both walls of a notch", notch, at(0, 3), at(8, 3), false, 2},
		{"through the second wall of a notch", notch, at(4, 2), at(0, 6), true, -1},
		{"from a wall through a wall", notch, at(6, 4), at(0, 3), false, 3},
		{"under a notch", notch, at(0, 2), at(8, 2), true, -1},
		{"under a notch and up", notch, at(0, 1), at(8, 3), true, -1},
		{"along the wall of a notch and on", notch, at(0, 6), at(6, 0), true, -1},
		{"along the other wall of a notch and on", notch, at(8, 6), at(2, 0), true, -1},
		{"two reflex corners on the way", peaks(), at(0, 3), at(12, 3), true, -1},
		{"from one reflex corner to the other one", peaks(), at(3, 3), at(9, 3), true, -1},
		{"three reflex corners on the way", teeth(), at(0, 3), at(8, 3), true, -1},
		{"three reflex corners, on the other side", teeth(), at(0, 4), at(8, 4), false, 2},
		{"over three tops", peaks(), at(0, 6), at(12, 6), false, -1},
		{"over two tops", peaks(), at(6, 6), at(0, 6), false, -1},
		{"out and in, out and in", peaks(), at(0, 4), at(12, 4), false, 2},
		{"out and in", peaks(), at(1, 4), at(6, 4), false, 4},
		{"to a corner and along a wall", peaks(), at(0, 0), at(6, 6), true, -1},
		{"along a wall from a corner on", peaks(), at(0, 6), at(6, 0), true, -1},
		{"along a wall between two reflex corners", horns(), at(0, 2), at(9, 2), true, -1},
		{"along two walls with a gap between", horns(), at(0, 5), at(9, 5), false, -1},
		{"over a gap", horns(), at(3, 5), at(6, 5), false, -1},
		{"across a gap", horns(), at(3, 4), at(6, 4), false, -1},
		{"from side to side of a gap", horns(), at(1, 4), at(8, 4), false, 3},
		{"past a corner of a gap", horns(), at(0, 5), at(5, 0), true, -1},
		{"through the corner of a gap", horns(), at(1, 5), at(6, 0), false, 4},
		{"down from a tip along a wall", horns(), at(3, 5), at(3, 0), true, -1},
		{"two points of one wall", horns(), at(5, 2), at(4, 2), true, -1},
		{"two ends of one wall", horns(), at(6, 5), at(6, 2), true, -1},
		{"two points of one wall of a gap", horns(), at(3, 4), at(3, 3), true, -1},
		{"past a reflex corner and outside", maze(), at(0, 8), at(6, 2), false, -1},
		{"past a reflex corner, outside, and in at another one", maze(), at(0, 8), at(8, 0), false, -1},
		{"to a reflex corner past which it's outside", maze(), at(0, 8), at(4, 4), true, -1},
		{"from a reflex corner on", maze(), at(6, 2), at(8, 0), true, -1},
		{"along two walls, outside between", maze(), at(0, 0), at(0, 8), false, -1},
		{"between two walls, outside", maze(), at(0, 2), at(0, 4), false, -1},
		{"along a wall and outside", maze(), at(0, 4), at(8, 4), false, 7},
		{"along a wall and outside, to a wall", maze(), at(0, 4), at(6, 4), false, -1},
		{"along a wall up to its end", maze(), at(0, 4), at(4, 4), true, -1},
		{"through the middle of a star", star(), at(-5, 0), at(5, 0), true, -1},
		{"between two points of a star", star(), at(0, 5), at(5, 0), false, -1},
		{"past two reflex corners of a star", star(), at(-1, 1), at(1, 1), true, -1},
		{"over two reflex corners of a star", star(), at(0, 5), at(1, 1), true, -1},
		{"across a triangle", room(0, 0, 4, 0, 0, 4), at(0, 4), at(2, 0), true, -1},
		{"along the longest wall of a triangle", room(0, 0, 4, 0, 0, 4), at(0, 4), at(3, 1), true, -1},
		{"from end to end", room(-40, -40, 40, -40, 40, 40, -40, 40), at(-40, -40), at(40, 40), true, -1},
		{"along a wall without points", room(-40, -40, 40, -39, 40, 40, 0, -39, -40, 40), at(-40, -40), at(40, -39), true, -1},
		{"over a deep notch", room(-40, -40, 40, -39, 40, 40, 0, -39, -40, 40), at(-40, 40), at(40, 40), false, -1},
		{"through a deep notch", room(-40, -40, 40, -39, 40, 40, 0, -39, -40, 40), at(-40, 40), at(40, -39), false, 2},
		// Points that are the same, and points outside.
		{"a point inside", bent, at(1, 1), at(1, 1), true, -1},
		{"a point on a wall", bent, at(3, 2), at(3, 2), true, -1},
		{"a corner", bent, at(6, 2), at(6, 2), true, -1},
		{"a reflex corner", bent, at(2, 2), at(2, 2), true, -1},
		{"a point outside", bent, at(3, 3), at(3, 3), false, -1},
		{"a point outside, on the line of a wall", bent, at(7, 2), at(7, 2), false, -1},
		{"from inside to outside", square, at(2, 2), at(6, 2), false, -1},
		{"from a corner to outside", square, at(4, 4), at(5, 5), false, -1},
		{"from a wall to outside", square, at(4, 2), at(5, 2), false, -1},
		{"along a wall to outside", square, at(1, 0), at(5, 0), false, -1},
		{"from outside to outside", square, at(-1, 2), at(5, 2), false, -1},
		{"outside", square, at(6, 6), at(7, 8), false, -1},
	} {
		if impl.Sees(c.r, c.a, c.b) != c.want || impl.Sees(c.r, c.b, c.a) != c.want {
			t.Errorf("%s: Sees(%v, %v, %v) = %v, and %v back", c.name, c.r, c.a, c.b, impl.Sees(c.r, c.a, c.b), impl.Sees(c.r, c.b, c.a))
		}
		if impl.BlockingWall(c.r, c.a, c.b) != c.wall || impl.BlockingWall(c.r, c.b, c.a) != c.wall {
			t.Errorf("%s: BlockingWall(%v, %v, %v) = %d, and %d back; want %d", c.name, c.r, c.a, c.b, impl.BlockingWall(c.r, c.a, c.b), impl.BlockingWall(c.r, c.b, c.a), c.wall)
		}
	}
}

func checkSight(t *testing.T, r impl.Room, a impl.Point, b impl.Point) bool {
	t.Helper()
	want, wall := doSee(r, a, b), blockedBy(r, a, b)
	if got := impl.Sees(r, a, b); got != want {
		t.Fatalf("Sees(%v, %v, %v) = %v", r, a, b, got)
	}
	if got := impl.BlockingWall(r, a, b); got != wall {
		t.Fatalf("BlockingWall(%v, %v, %v) = %d; want %d", r, a, b, got, wall)
	}
	return want
}

// All pairs of points of small rooms and around them are tried.
func TestSeesAll(t *testing.T) {
	rooms := 0
	for _, r := range append(sightRooms(), movedRooms(10, 80)...) {
		points := pointsAround(r)
		if len(points) > 200 {
			continue
		}
		rooms++
		for _, a := range points {
			for _, b := range points {
				checkSight(t, r, a, b)
			}
		}
	}
	if rooms < 20 {
		t.Errorf("only %d rooms are small", rooms)
	}
}

// All rooms with 3 to 5 corners in a small square are tried.
func TestSeesInSmallRooms(t *testing.T) {
	for n := 3; n <= 5; n++ {
		lists := 1
		for range n {
			lists *= 9
		}
		for number := range lists {
			var r impl.Room
			for k, rest := 0, number; k < n; k, rest = k+1, rest/9 {
				r.Corners = append(r.Corners, at(rest%3, rest/3%3))
			}
			if !isRoom(r.Corners) {
				continue
			}
			for i := range 9 {
				for k := range 9 {
					checkSight(t, r, at(i%3, i/3), at(k%3, k/3))
				}
			}
		}
	}
}

// Ways are drawn from a point of the floor to a corner, and from there on in the same direction.
func TestSeesPastCorners(t *testing.T) {
	source := rand.New(rand.NewSource(11))
	counts := map[bool]int{}
	for _, r := range append(sightRooms(), movedRooms(12, 150)...) {
		floor := impl.FloorPoints(r)
		for range 150 {
			a, corner := floor[source.Intn(len(floor))], r.Corners[source.Intn(len(r.Corners))]
			if a == corner {
				continue
			}
			parts := commonDivisor(corner.X-a.X, corner.Y-a.Y)
			x, y := (corner.X-a.X)/parts, (corner.Y-a.Y)/parts
			for steps := range 8 {
				if b := at(corner.X+steps*x, corner.Y+steps*y); impl.IsIn(r, b) {
					counts[checkSight(t, r, a, b)]++
				}
			}
			checkSight(t, r, a, floor[source.Intn(len(floor))])
		}
		for _, a := range r.Corners {
			for _, b := range r.Corners {
				checkSight(t, r, a, b)
			}
		}
	}
	if counts[true] < 5000 || counts[false] < 5000 {
		t.Errorf("too few ways are clear or too many: %v", counts)
	}
}

func TestSeenBy(t *testing.T) {
	bent := room(0, 0, 2, 0, 2, 1, 1, 1, 1, 2, 0, 2)
	peak := room(0, 0, 4, 0, 4, 2, 2, 1, 0, 2)
	for _, c := range []struct {
		r       impl.Room
		a       impl.Point
		want    []impl.Point
		corners []int
	}{
		{bent, at(0, 0), room(0, 0, 1, 0, 2, 0, 0, 1, 1, 1, 2, 1, 0, 2, 1, 2).Corners, []int{0, 1, 2, 3, 4, 5}},
		{bent, at(1, 1), room(0, 0, 1, 0, 2, 0, 0, 1, 1, 1, 2, 1, 0, 2, 1, 2).Corners, []int{0, 1, 2, 3, 4, 5}},
		{bent, at(2, 0), room(0, 0, 1, 0, 2, 0, 0, 1, 1, 1, 2, 1, 0, 2).Corners, []int{0, 1, 2, 3, 5}},
		{bent, at(2, 1), room(0, 0, 1, 0, 2, 0, 0, 1, 1, 1, 2, 1).Corners, []int{0, 1, 2, 3}},
		{bent, at(1, 2), room(0, 0, 1, 0, 0, 1, 1, 1, 0, 2, 1, 2).Corners, []int{0, 3, 4, 5}},
		{peak, at(0, 2), room(0, 0, 1, 0, 2, 0, 3, 0, 4, 0, 0, 1, 1, 1, 2, 1, 0, 2).Corners, []int{0, 1, 3, 4}},
		{peak, at(4, 1), room(0, 0, 1, 0, 2, 0, 3, 0, 4, 0, 0, 1, 1, 1, 2, 1, 3, 1, 4, 1, 4, 2).Corners, []int{0, 1, 2, 3}},
		{room(0, 0, 1, 0, 0, 1), at(0, 1), room(0, 0, 1, 0, 0, 1).Corners, []int{0, 1, 2}},
		// A point outside.
		{bent, at(2, 2), nil, nil},
		{bent, at(3, 0), nil, nil},
		{peak, at(2, 2), nil, nil},
	} {
		if got := impl.SeenBy(c.r, c.a); !slices.Equal(got, c.want) {
			t.Errorf("SeenBy(%v, %v) = %v; want %v", c.r, c.a, got, c.want)
		}
		if got := impl.CornersSeen(c.r, c.a); !slices.Equal(got, c.corners) {
			t.Errorf("CornersSeen(%v, %v) = %v; want %v", c.r, c.a, got, c.corners)
		}
	}
}

func checkSeenBy(t *testing.T, r impl.Room, floor []impl.Point, a impl.Point) {
	t.Helper()
	var points []impl.Point
	for _, p := range floor {
		if doSee(r, a, p) {
			points = append(points, p)
		}
	}
	if got := impl.SeenBy(r, a); !slices.Equal(got, points) {
		t.Fatalf("SeenBy(%v, %v) = %v; want %v", r, a, got, points)
	}
	var corners []int
	for k, p := range r.Corners {
		if doSee(r, a, p) {
			corners = append(corners, k)
		}
	}
	if got := impl.CornersSeen(r, a); !slices.Equal(got, corners) {
		t.Fatalf("CornersSeen(%v, %v) = %v; want %v", r, a, got, corners)
	}
}

func TestSeenByMany(t *testing.T) {
	for _, r := range append(sightRooms(), movedRooms(13, 30)...) {
		floor, _, _ := floorOf(r)
		for _, a := range r.Corners {
			checkSeenBy(t, r, floor, a)
		}
		for i := 0; i < len(floor); i += 1 + len(floor)/5 {
			checkSeenBy(t, r, floor, floor[i])
		}
		checkSeenBy(t, r, floor, at(-41, 0))
	}
}

// Promise 8: who sees is seen, and everybody sees themselves.
func TestSightBothWays(t *testing.T) {
	for _, r := range append(sightRooms(), movedRooms(14, 20)...) {
		floor := impl.FloorPoints(r)
		step := 1 + len(floor)/40
		for i := 0; i < len(floor); i += step {
			a := floor[i]
			if !impl.Sees(r, a, a) || !slices.Contains(impl.SeenBy(r, a), a) || impl.BlockingWall(r, a, a) != -1 {
				t.Errorf("%v does not see itself in %v", a, r)
			}
			seen := impl.SeenBy(r, a)
			for k := 0; k < len(floor); k += step {
				b := floor[k]
				if impl.Sees(r, a, b) != impl.Sees(r, b, a) || impl.BlockingWall(r, a, b) != impl.BlockingWall(r, b, a) {
					t.Errorf("%v sees %v in %v, but not both ways", a, b, r)
				}
				if slices.Contains(seen, b) != impl.Sees(r, b, a) {
					t.Errorf("SeenBy(%v, %v) and Sees differ at %v", r, a, b)
				}
			}
		}
		for k, p := range r.Corners {
			for i, q := range r.Corners {
				if slices.Contains(impl.CornersSeen(r, p), i) != slices.Contains(impl.CornersSeen(r, q), k) {
					t.Errorf("the corners %d and %d of %v do not see each other both ways", i, k, r)
				}
			}
		}
	}
}

func checkBlind(t *testing.T, name string, r impl.Room, a impl.Point, b impl.Point) {
	t.Helper()
	if impl.Sees(r, a, b) {
		t.Errorf("%s: Sees(%v, %v, %v) = true", name, r, a, b)
	}
	if got := impl.BlockingWall(r, a, b); got != -1 {
		t.Errorf("%s: BlockingWall(%v, %v, %v) = %d", name, r, a, b, got)
	}
}

func TestSightInvalidRooms(t *testing.T) {
	for name, r := range badRooms() {
		list := append(slices.Clone(r.Corners), at(1, 1), at(2, 1), at(1, 6), at(6, 1), at(0, 3), at(8, 3), at(math.MinInt, math.MaxInt))
		for _, a := range list {
			for _, b := range list {
				checkBlind(t, name, r, a, b)
			}
			if got := impl.SeenBy(r, a); len(got) != 0 {
				t.Errorf("SeenBy of %s, %v = %v", name, a, got)
			}
			if got := impl.CornersSeen(r, a); len(got) != 0 {
				t.Errorf("CornersSeen of %s, %v = %v", name, a, got)
			}
		}
	}
}

func TestSightInvalidPoints(t *testing.T) {
	for _, r := range goodRooms() {
		for _, bad := range append(badPoints(), at(-41, -41), at(41, 41), at(41, 39), at(-40, 41)) {
			checkBlind(t, "a point that is not valid, twice", r, bad, bad)
			for _, p := range r.Corners {
				checkBlind(t, "the second point is not valid", r, p, bad)
				checkBlind(t, "the first point is not valid", r, bad, p)
			}
			if got := impl.SeenBy(r, bad); len(got) != 0 {
				t.Errorf("SeenBy(%v, %v) = %v", r, bad, got)
			}
			if got := impl.CornersSeen(r, bad); len(got) != 0 {
				t.Errorf("CornersSeen(%v, %v) = %v", r, bad, got)
			}
		}
	}
}

func TestSightArguments(t *testing.T) {
	checkRoomsKept(t, func(r impl.Room) {
		a, b := impl.CornerAt(r, 0), impl.CornerAt(r, 2)
		impl.Sees(r, a, b)
		impl.SeenBy(r, a)
		impl.CornersSeen(r, b)
		impl.BlockingWall(r, a, b)
	})
	checkNew(t, at(99, -99), func(r impl.Room) []impl.Point { return impl.SeenBy(r, impl.CornerAt(r, 1)) })
	checkNew(t, -99, func(r impl.Room) []int { return impl.CornersSeen(r, impl.CornerAt(r, 1)) })
}
