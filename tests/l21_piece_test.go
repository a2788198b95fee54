package tests

import (
	"math"
	"math/rand"
	"slices"
	"testing"

	"loop.example/g00991/impl"
)

// sightsOf tells which of the corners, and of the two points behind them, see each other.
func sightsOf(r impl.Room, p impl.Point, q impl.Point) [][]bool {
	points := append(slices.Clone(r.Corners), p, q)
	var sights [][]bool
	for _, a := range points {
		var row []bool
		for _, b := range points {
			row = append(row, doSee(r, a, b))
		}
		sights = append(sights, row)
	}
	return sights
}

// cornerWaysOf goes through all lists of corners, in the order of their lengths, and those of one length in lexicographic order: it returns the first one along which a way leads from the last but one of the points to the last one, and how many there are of this length. The program counts the pieces backwards from the end.
func cornerWaysOf(sights [][]bool) ([]int, int) {
	p := len(sights) - 2
	lists := [][]int{{p}}
	for {
		var longer, ways [][]int
		for _, list := range lists {
			last := list[len(list)-1]
			if sights[last][p+1] {
				ways = append(ways, list[1:])
			}
			for k := range p {
				if sights[last][k] {
					longer = append(longer, append(slices.Clone(list), k))
				}
			}
		}
		if len(ways) > 0 {
			return ways[0], len(ways)
		}
		lists = longer
	}
}

// checkPieces returns the number of pieces, and of ways with so many.
func checkPieces(t *testing.T, r impl.Room, p impl.Point, q impl.Point) (int, int) {
	t.Helper()
	way, count := cornerWaysOf(sightsOf(r, p, q))
	pieces := len(way) + 1
	if p == q {
		pieces = 0
	}
	if got := impl.PiecesBetween(r, p, q); got != pieces {
		t.Fatalf("PiecesBetween(%v, %v, %v) = %d; want %d", r, p, q, got, pieces)
	}
	if got, ok := impl.CornerWay(r, p, q); !slices.Equal(got, way) || !ok {
		t.Fatalf("CornerWay(%v, %v, %v) = %v, %v; want %v", r, p, q, got, ok, way)
	}
	return pieces, count
}

// checkNoWay takes a room or points that are not valid, or points outside.
func checkNoWay(t *testing.T, name string, r impl.Room, p impl.Point, q impl.Point) {
	t.Helper()
	if got := impl.PiecesBetween(r, p, q); got != -1 {
		t.Errorf("%s: PiecesBetween(%v, %v, %v) = %d", name, r, p, q, got)
	}
	if way, ok := impl.CornerWay(r, p, q); len(way) != 0 || ok {
		t.Errorf("%s: CornerWay(%v, %v, %v) = %v, %v", name, r, p, q, way, ok)
	}
}

// coil is a way that turns and turns: from its corner 0 to its corner 5 there are five pieces.
func coil() impl.Room {
	return room(0, 0, 20, 0, 20, 20, 4, 20, 4, 6, 14, 6, 5, 7, 5, 19, 19, 19, 19, 1)
}

func TestPieces(t *testing.T) {
	square, bent := room(0, 0, 4, 0, 4, 4, 0, 4), room(0, 0, 6, 0, 6, 2, 2, 2, 2, 6, 0, 6)
	for _, c := range []struct {
		name   string
		r      impl.Room
		p, q   impl.Point
		pieces int
		way    []int
	}{
		{"the same point inside", square, at(1, 1), at(1, 1), 0, nil},
		{"the same point on a wall", square, at(4, 1), at(4, 1), 0, nil},
		{"the same corner", square, at(4, 4), at(4, 4), 0, nil},
		{"points that see each other", square, at(1, 1), at(3, 2), 1, nil},
		{"from corner to corner", square, at(0, 0), at(4, 4), 1, nil},
		{"along a wall", square, at(1, 0), at(3, 0), 1, nil},
		{"along a wall, from end to end", square, at(0, 0), at(4, 0), 1, nil},
		{"past a corner", bent, at(0, 4), at(4, 0), 1, nil},
		// The corners 0 and 3 see both ends.
		{"around a corner", bent, at(6, 1), at(1, 6), 2, []int{0}},
		{"around a corner, and back", bent, at(1, 6), at(6, 1), 2, []int{0}},
		{"around a corner, but one way only", bent, at(6, 2), at(2, 6), 2, []int{0}},
		{"from corner to corner around one", bent, at(6, 0), at(0, 6), 2, []int{0}},
		{"around a notch", room(0, 0, 8, 0, 8, 6, 4, 2, 0, 6), at(0, 6), at(8, 6), 2, []int{3}},
		{"around a notch, of which the index is 0", room(4, 2, 0, 6, 0, 0, 8, 0, 8, 6), at(0, 6), at(8, 6), 2, []int{0}},
		{"around a notch, from a point", room(0, 0, 8, 0, 8, 6, 4, 2, 0, 6), at(0, 5), at(8, 6), 2, []int{3}},
		{"over a gap", horns(), at(1, 5), at(8, 5), 3, []int{0, 1}},
		{"over a gap, and back", horns(), at(8, 5), at(1, 5), 3, []int{1, 0}},
		{"over a gap, from under its corner", horns(), at(3, 1), at(8, 5), 2, []int{1}},
		{"over a gap, from corner to corner", horns(), at(3, 5), at(6, 5), 3, []int{0, 1}},
		{"under a gap", horns(), at(1, 2), at(8, 2), 1, nil},
		{"through a maze", maze(), at(0, 0), at(0, 4), 3, []int{1, 2}},
		{"through a coil", coil(), at(14, 6), at(0, 0), 5, []int{4, 3, 2, 1}},
		{"through a coil, and back", coil(), at(0, 0), at(14, 6), 5, []int{1, 2, 3, 4}},
		{"through a part of a coil", coil(), at(19, 1), at(5, 7), 3, []int{2, 3}},
	} {
		if got := impl.PiecesBetween(c.r, c.p, c.q); got != c.pieces {
			t.Errorf("%s: PiecesBetween(%v, %v, %v) = %d; want %d", c.name, c.r, c.p, c.q, got, c.pieces)
		}
		if got, ok := impl.CornerWay(c.r, c.p, c.q); !slices.Equal(got, c.way) || !ok {
			t.Errorf("%s: CornerWay(%v, %v, %v) = %v, %v; want %v", c.name, c.r, c.p, c.q, got, ok, c.way)
		}
		checkPieces(t, c.r, c.p, c.q)
	}
}

// Promise 21: ways have the same number of pieces both ways.
func TestPiecesMany(t *testing.T) {
	source, counts, choices := rand.New(rand.NewSource(61)), map[int]int{}, 0
	rooms := append(guardRooms(62, 80), coil(), maze(), threeTeeth())
	for _, r := range rooms {
		floor := smallFloorOf(r)
		for range 40 {
			p, q := floor[source.Intn(len(floor))], floor[source.Intn(len(floor))]
			if source.Intn(3) == 0 {
				p = r.Corners[source.Intn(len(r.Corners))]
			}
			if source.Intn(3) == 0 {
				q = r.Corners[source.Intn(len(r.Corners))]
			}
			pieces, ways := checkPieces(t, r, p, q)
			back, _ := checkPieces(t, r, q, p)
			if back != pieces || impl.PiecesBetween(r, p, q) != impl.PiecesBetween(r, q, p) {
				t.Fatalf("in %v, %d pieces lead from %v to %v, and %d back", r, pieces, p, q, back)
			}
			counts[pieces]++
			if ways > 1 {
				choices++
			}
		}
	}
	if counts[0] < 20 || counts[1] < 200 || counts[2] < 200 || counts[3] < 60 || counts[4] < 10 || choices < 200 {
		t.Errorf("too few ways have some number of pieces (%v), or can be chosen (%d)", counts, choices)
	}
}

// A way of CornerWay leads from sight to sight.
func TestCornerWayIsWalk(t *testing.T) {
	for _, r := range append(cutRooms(), coil(), threeTeeth()) {
		for _, p := range r.Corners {
			for _, q := range r.Corners {
				way, ok := impl.CornerWay(r, p, q)
				walk := append([]impl.Point{p}, impl.PointsOf(r, way)...)
				if !ok || !impl.WalkOk(r, append(walk, q)) {
					t.Fatalf("CornerWay(%v, %v, %v) = %v, %v", r, p, q, way, ok)
				}
				checkPieces(t, r, p, q)
			}
		}
	}
}

func TestPiecesOutside(t *testing.T) {
	for _, r := range guardRooms(63, 20) {
		for _, p := range pointsAround(r) {
			if placed(r, 1, p) == impl.InOutside {
				for _, q := range []impl.Point{p, r.Corners[0], at(99, 0)} {
					checkNoWay(t, "outside", r, p, q)
					checkNoWay(t, "outside", r, q, p)
				}
			}
		}
	}
}

func isWalk(r impl.Room, list []impl.Point) bool {
	for k := range list {
		if placed(r, 1, list[k]) == impl.InOutside || k > 0 && !doSee(r, list[k-1], list[k]) {
			return false
		}
	}
	return len(list) <= 40
}

func TestWalkOk(t *testing.T) {
	square, bent := room(0, 0, 4, 0, 4, 4, 0, 4), room(0, 0, 6, 0, 6, 2, 2, 2, 2, 6, 0, 6)
	for _, c := range []struct {
		name string
		r    impl.Room
		list []impl.Point
		want bool
	}{
		{"no points", square, nil, true},
		{"no points, but memory", square, []impl.Point{}, true},
		{"one point", square, []impl.Point{at(1, 1)}, true},
		{"one corner", square, []impl.Point{at(4, 4)}, true},
		{"one point outside", square, []impl.Point{at(5, 1)}, false},
		{"two points", square, []impl.Point{at(1, 1), at(4, 2)}, true},
		{"a point twice", square, []impl.Point{at(1, 1), at(1, 1)}, true},
		{"the second one outside", square, []impl.Point{at(1, 1), at(5, 2)}, false},
		{"the first one outside", square, []impl.Point{at(-1, 1), at(1, 2)}, false},
		{"the last one outside", square, []impl.Point{at(1, 1), at(2, 2), at(3, 3), at(3, 5)}, false},
		{"around a corner", bent, []impl.Point{at(6, 0), at(0, 0), at(0, 6)}, true},
		{"through a corner", bent, []impl.Point{at(6, 0), at(0, 6)}, false},
		{"past a corner", bent, []impl.Point{at(4, 0), at(0, 4)}, true},
		{"the last step through a corner", bent, []impl.Point{at(0, 0), at(1, 1), at(6, 1), at(1, 6)}, false},
		{"the first step through a corner", bent, []impl.Point{at(6, 1), at(1, 6), at(0, 0), at(1, 1)}, false},
		{"a step through a corner in the middle", bent, []impl.Point{at(1, 1), at(6, 1), at(1, 6), at(0, 0)}, false},
		{"the last one does not see the first one", bent, []impl.Point{at(6, 1), at(2, 2), at(1, 6)}, true},
		{"40 points", square, ring(square, 40), true},
		{"41 points", square, ring(square, 41), false},
		{"40 equal points", square, slices.Repeat([]impl.Point{at(1, 1)}, 40), true},
		{"41 equal points", square, slices.Repeat([]impl.Point{at(1, 1)}, 41), false},
		{"40 points, the last one outside", square, append(ring(square, 39), at(5, 5)), false},
		{"40 points, the last one not seen", bent, append(slices.Repeat([]impl.Point{at(6, 1)}, 39), at(1, 6)), false},
		{"many points", square, ring(square, 4000), false},
	} {
		if got := impl.WalkOk(c.r, c.list); got != c.want || isWalk(c.r, c.list) != c.want {
			t.Errorf("%s: WalkOk(%v, %v) = %v", c.name, c.r, c.list, got)
		}
	}
}

func TestWalkOkMany(t *testing.T) {
	source, counts := rand.New(rand.NewSource(64)), map[bool]int{}
	for _, r := range guardRooms(65, 80) {
		floor, around := smallFloorOf(r), pointsAround(r)
		for range 40 {
			var list []impl.Point
			for range source.Intn(6) {
				list = append(list, floor[source.Intn(len(floor))])
			}
			if source.Intn(4) == 0 {
				list = append(list, around[source.Intn(len(around))])
			}
			want := isWalk(r, list)
			counts[want]++
			if got := impl.WalkOk(r, list); got != want {
				t.Fatalf("WalkOk(%v, %v) = %v", r, list, got)
			}
		}
	}
	if counts[true] < 500 || counts[false] < 500 {
		t.Errorf("too few lists are walks, or none: %v", counts)
	}
}

func TestLinkDiameter(t *testing.T) {
	for _, c := range []struct {
		name string
		r    impl.Room
		want int
	}{
		{"a triangle", room(0, 0, 4, 0, 0, 4), 1},
		{"a square", room(0, 0, 4, 0, 4, 4, 0, 4), 1},
		{"ten corners that stick out", manyCorners(10), 1},
		{"the limits", room(-40, -40, 40, -40, 40, 40, -40, 40), 1},
		{"an arrow", room(0, 0, 5, 1, 1, 1, 1, 5), 2},
		{"a notch", room(0, 0, 8, 0, 8, 6, 4, 2, 0, 6), 2},
		{"a bent room", room(0, 0, 6, 0, 6, 2, 2, 2, 2, 6, 0, 6), 2},
		{"a gap", horns(), 3},
		{"a star", star(), 2},
		{"a maze", maze(), 4},
		{"a coil", coil(), 5},
	} {
		for _, x := range rotations(c.r) {
			if got := impl.LinkDiameter(x); got != c.want {
				t.Errorf("%s: LinkDiameter(%v) = %d; want %d", c.name, x, got, c.want)
			}
		}
	}
}

// The shortest ways between all corners are found at once, over one corner more after the other.
func TestLinkDiameterMany(t *testing.T) {
	counts := map[int]int{}
	rooms := append(cutRooms(), movedRooms(66, 150)...)
	for _, r := range append(rooms, smallRooms(5)...) {
		n, pieces := len(r.Corners), [10][10]int{}
		for i := range n {
			for k := range n {
				pieces[i][k] = 99
				if doSee(r, r.Corners[i], r.Corners[k]) {
					pieces[i][k] = 1
				}
			}
		}
		want := 0
		for over := range n {
			for i := range n {
				for k := range n {
					pieces[i][k] = min(pieces[i][k], pieces[i][over]+pieces[over][k])
				}
			}
		}
		for i := range n {
			want = max(want, slices.Max(pieces[i][:n]))
		}
		if got := impl.LinkDiameter(r); got != want {
			t.Fatalf("LinkDiameter(%v) = %d; want %d", r, got, want)
		}
		counts[want]++
	}
	if counts[1] < 20 || counts[2] < 20 || counts[3] < 20 || counts[4] < 1 {
		t.Errorf("too few rooms have some diameter: %v", counts)
	}
}

func TestPiecesInvalid(t *testing.T) {
	for name, r := range badRooms() {
		for _, p := range badPlaces(r) {
			checkNoWay(t, name, r, p, p)
			checkNoWay(t, name, r, p, at(1, 1))
			if impl.WalkOk(r, []impl.Point{p}) || impl.WalkOk(r, []impl.Point{p, p}) {
				t.Errorf("%s: WalkOk of %v", name, p)
			}
		}
		if impl.WalkOk(r, nil) || impl.LinkDiameter(r) != -1 {
			t.Errorf("%s: WalkOk = %v, LinkDiameter = %d", name, impl.WalkOk(r, nil), impl.LinkDiameter(r))
		}
	}
	for _, r := range goodRooms() {
		for _, p := range append(badPoints(), at(41, 41), at(math.MinInt, math.MinInt)) {
			checkNoWay(t, "a bad point", r, p, p)
			checkNoWay(t, "a bad first point", r, p, r.Corners[1])
			checkNoWay(t, "a bad second point", r, r.Corners[1], p)
			for _, list := range [][]impl.Point{{p}, {p, r.Corners[0]}, {r.Corners[0], p}, {r.Corners[0], p, r.Corners[0]}} {
				if impl.WalkOk(r, list) {
					t.Errorf("WalkOk(%v, %v) = true", r, list)
				}
			}
		}
	}
}

func TestPiecesArguments(t *testing.T) {
	checkRoomsKept(t, func(r impl.Room) {
		impl.PiecesBetween(r, impl.CornerAt(r, 0), impl.CornerAt(r, 2))
		impl.CornerWay(r, impl.CornerAt(r, 0), impl.CornerAt(r, 2))
		impl.WalkOk(r, r.Corners)
		impl.LinkDiameter(r)
	})
	for _, r := range cutRooms() {
		for _, p := range r.Corners {
			for _, q := range r.Corners {
				want, _ := impl.CornerWay(r, p, q)
				first, _ := impl.CornerWay(r, p, q)
				spoil(first, -99)
				if second, _ := impl.CornerWay(r, p, q); !slices.Equal(second, want) {
					t.Fatalf("CornerWay(%v, %v, %v) shares memory", r, p, q)
				}
			}
		}
	}
}
