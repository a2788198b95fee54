package tests

import (
	"math"
	"math/rand"
	"slices"
	"testing"

	"loop.example/g00991/impl"
)

func enlarged(p impl.Point, scale int) impl.Point {
	return at(p.X*scale, p.Y*scale)
}

func enlargedWall(r impl.Room, k int, scale int) impl.Wall {
	return impl.Wall{A: enlarged(r.Corners[k], scale), B: enlarged(r.Corners[(k+1)%len(r.Corners)], scale)}
}

func isOn(w impl.Wall, p impl.Point) bool {
	x, y, wx, wy := p.X-w.A.X, p.Y-w.A.Y, w.B.X-w.A.X, w.B.Y-w.A.Y
	along := x*wx + y*wy
	return x*wy == y*wx && along >= 0 && along <= wx*wx+wy*wy
}

// placed tells where a point is in a room that is scale times as large. Its way to the outside is so flat that it passes no corner; the program's way is level.
func placed(r impl.Room, scale int, p impl.Point) int {
	way := impl.Wall{A: p, B: at(p.X+81*scale+1, p.Y+1)}
	crossings := 0
	for k := range r.Corners {
		w := enlargedWall(r, k, scale)
		if isOn(w, p) {
			return impl.InWall
		}
		if meetingOf(way, w) == crossing {
			crossings++
		}
	}
	if crossings%2 == 0 {
		return impl.InOutside
	}
	return impl.InInside
}

// pointsAround are the points of the box around a room, and those that are one step away from it.
func pointsAround(r impl.Room) []impl.Point {
	low, high := r.Corners[0], r.Corners[0]
	for _, p := range r.Corners {
		low, high = at(min(low.X, p.X), min(low.Y, p.Y)), at(max(high.X, p.X), max(high.Y, p.Y))
	}
	var list []impl.Point
	for x := low.X - 1; x <= high.X+1; x++ {
		for y := low.Y - 1; y <= high.Y+1; y++ {
			list = append(list, at(x, y))
		}
	}
	return list
}

// peaks has corners upwards at 0, 6 and 12, and two corners downwards between them.
func peaks() impl.Room {
	return room(0, 0, 12, 0, 12, 6, 9, 3, 6, 6, 3, 3, 0, 6)
}

// valleys are peaks upside down.
func valleys() impl.Room {
	return room(0, 6, 0, 0, 3, 3, 6, 0, 9, 3, 12, 0, 12, 6)
}

// horns has walls that go straight across at the heights 0, 2 and 5.
func horns() impl.Room {
	return room(0, 0, 9, 0, 9, 5, 6, 5, 6, 2, 3, 2, 3, 5, 0, 5)
}

// star has corners to the left and to the right, upwards and downwards.
func star() impl.Room {
	return room(0, 5, -1, 1, -5, 0, -1, -1, 0, -5, 1, -1, 5, 0, 1, 1)
}

// stairs go up on the left and on the right: at some heights, walls go straight across on one side alone.
func stairs() impl.Room {
	return room(0, 0, 6, 0, 6, 3, 9, 3, 9, 6, 3, 6, 3, 4, 0, 4)
}

func TestPlaces(t *testing.T) {
	if impl.InOutside != 0 || impl.InWall != 1 || impl.InInside != 2 {
		t.Error("a place differs from the document")
	}
}

// Each row goes from the left to the right: a letter for each point from X = first on, o for outside, w for a wall, i for inside.
func TestPlaceInRows(t *testing.T) {
	for _, c := range []struct {
		name  string
		r     impl.Room
		first int
		y     int
		want  string
	}{
		{"square, above", room(0, 0, 4, 0, 4, 4, 0, 4), -2, 5, "ooooooooo"},
		{"square, upper wall", room(0, 0, 4, 0, 4, 4, 0, 4), -2, 4, "oowwwwwoo"},
		{"square, between", room(0, 0, 4, 0, 4, 4, 0, 4), -2, 2, "oowiiiwoo"},
		{"square, lower wall", room(0, 0, 4, 0, 4, 4, 0, 4), -2, 0, "oowwwwwoo"},
		{"square, below", room(0, 0, 4, 0, 4, 4, 0, 4), -2, -1, "ooooooooo"},
		{"peaks, tops", peaks(), -2, 6, "oowooooowooooowoo"},
		{"peaks, between", peaks(), -2, 4, "oowiwowiiiwowiwoo"},
		{"peaks, bottoms", peaks(), -2, 3, "oowiiwiiiiiwiiwoo"},
		{"peaks, below them", peaks(), -2, 2, "oowiiiiiiiiiiiwoo"},
		{"peaks, floor", peaks(), -2, 0, "oowwwwwwwwwwwwwoo"},
		{"valleys, bottoms", valleys(), -2, 0, "oowooooowooooowoo"},
		{"valleys, between", valleys(), -2, 2, "oowiwowiiiwowiwoo"},
		{"valleys, tops", valleys(), -2, 3, "oowiiwiiiiiwiiwoo"},
		{"valleys, above them", valleys(), -2, 4, "oowiiiiiiiiiiiwoo"},
		{"valleys, ceiling", valleys(), -2, 6, "oowwwwwwwwwwwwwoo"},
		{"horns, tips", horns(), -2, 5, "oowwwwoowwwwoo"},
		{"horns, between", horns(), -2, 3, "oowiiwoowiiwoo"},
		{"horns, level wall", horns(), -2, 2, "oowiiwwwwiiwoo"},
		{"horns, floor", horns(), -2, 0, "oowwwwwwwwwwoo"},
		{"star, top", star(), -6, 5, "oooooowoooooo"},
		{"star, above the middle", star(), -6, 1, "ooooowiwooooo"},
		{"star, middle", star(), -6, 0, "owiiiiiiiiiwo"},
		{"star, below the middle", star(), -6, -1, "ooooowiwooooo"},
		{"star, bottom", star(), -6, -5, "oooooowoooooo"},
		{"stairs, step to the right", stairs(), -2, 3, "oowiiiiiwwwwoo"},
		{"stairs, step to the left", stairs(), -2, 4, "oowwwwiiiiiwoo"},
		{"stairs, below both", stairs(), -2, 2, "oowiiiiiwooooo"},
		{"stairs, above both", stairs(), -2, 5, "ooooowiiiiiwoo"},
		{"triangle, its middle corner", room(0, 0, 6, 2, 1, 5), -1, 2, "ooiiiiiwo"},
		{"triangle, past its lowest corner", room(0, 0, 6, 2, 1, 5), -1, 0, "owooooooo"},
		{"triangle, past its highest corner", room(0, 0, 6, 2, 1, 5), -1, 5, "oowoooooo"},
		{"at the limit", room(-40, -40, 40, -40, 40, 40), 36, 40, "oooow"},
		{"past the limit", room(-40, -40, 40, -40, 40, 40), 36, 41, "oooooo"},
		{"on and past the limit", room(-40, -40, 40, -40, 40, 40), 36, 36, "wiiiwo"},
	} {
		for _, x := range rotations(c.r) {
			for i, letter := range c.want {
				want := map[rune]int{'o': impl.InOutside, 'w': impl.InWall, 'i': impl.InInside}[letter]
				p := at(c.first+i, c.y)
				if got := impl.PlaceIn(x, p); got != want {
					t.Errorf("%s: PlaceIn(%v, %v) = %d; want %d", c.name, x, p, got, want)
				}
			}
		}
	}
}

// checkPlaces compares all functions that take one point with the places and with the points along the walls.
func checkPlaces(t *testing.T, r impl.Room, p impl.Point) int {
	t.Helper()
	place, on := placed(r, 1, p), -1
	for k := len(r.Corners) - 1; k >= 0; k-- {
		w := enlargedWall(r, k, 1)
		if slices.Contains(pointsBetween(w.A, w.B), p) {
			on = k
		}
	}
	if got := impl.PlaceIn(r, p); got != place {
		t.Fatalf("PlaceIn(%v, %v) = %d; want %d", r, p, got, place)
	}
	if got := impl.IsIn(r, p); got != (place != impl.InOutside) {
		t.Fatalf("IsIn(%v, %v) = %v", r, p, got)
	}
	if got := impl.WallAt(r, p); got != on {
		t.Fatalf("WallAt(%v, %v) = %d; want %d", r, p, got, on)
	}
	return place
}

func TestPlaceInAll(t *testing.T) {
	for _, r := range append(manyRooms(), peaks(), valleys(), stairs()) {
		for _, p := range pointsAround(r) {
			checkPlaces(t, r, p)
		}
		for x := -41; x <= 41; x++ {
			for _, y := range []int{-41, -40, r.Corners[0].Y, r.Corners[1].Y, 40, 41} {
				checkPlaces(t, r, at(x, y))
			}
		}
	}
	for _, r := range movedRooms(6, 300) {
		for _, x := range rotations(r) {
			for _, corner := range r.Corners {
				for _, p := range []impl.Point{corner, at(0, corner.Y), at(corner.X, 0), at(corner.X-1, corner.Y), at(corner.X+1, corner.Y), at(-3, corner.Y), at(3, corner.Y)} {
					checkPlaces(t, x, p)
				}
			}
		}
	}
}

// Promise 6: the points of the floor are those that are inside or on a wall.
func TestFloorIsInside(t *testing.T) {
	for _, r := range append(manyRooms(), peaks(), valleys(), stairs()) {
		floor := map[impl.Point]bool{}
		for _, p := range impl.FloorPoints(r) {
			if floor[p] {
				t.Errorf("FloorPoints(%v) has %v twice", r, p)
			}
			floor[p] = true
		}
		for x := -41; x <= 41; x++ {
			for y := -41; y <= 41; y++ {
				if p := at(x, y); impl.IsIn(r, p) != floor[p] || (impl.PlaceIn(r, p) != impl.InOutside) != floor[p] {
					t.Fatalf("the place of %v in %v is %d, but the floor tells %v", p, r, impl.PlaceIn(r, p), floor[p])
				}
			}
		}
		if got := impl.CountIn(r, impl.FloorPoints(r)); got != len(floor) {
			t.Errorf("CountIn of the floor of %v = %d; want %d", r, got, len(floor))
		}
	}
}

// badPlaces are points inside, on a wall, at a corner and outside, and what the functions say of them in a room that is valid must not be said of one that is not.
func badPlaces(r impl.Room) []impl.Point {
	list := append(badPoints()[:21], at(0, 0), at(2, 0), at(1, 1), at(2, 2), at(5, 5), at(-1, 1), at(40, 40), at(math.MaxInt, math.MinInt))
	return append(list, r.Corners...)
}

func TestPlaceInInvalid(t *testing.T) {
	for name, r := range badRooms() {
		for _, p := range badPlaces(r) {
			if impl.PlaceIn(r, p) != impl.InOutside || impl.IsIn(r, p) || impl.WallAt(r, p) != -1 {
				t.Errorf("in %s, %v is in the place %d, %v, at the wall %d", name, p, impl.PlaceIn(r, p), impl.IsIn(r, p), impl.WallAt(r, p))
			}
		}
		if got := impl.CountIn(r, badPlaces(r)); got != 0 {
			t.Errorf("CountIn of %s = %d; want 0", name, got)
		}
	}
	for _, r := range goodRooms() {
		for _, p := range badPoints() {
			if impl.PlaceIn(r, p) != impl.InOutside || impl.IsIn(r, p) || impl.WallAt(r, p) != -1 {
				t.Errorf("in %v, %v is in the place %d, %v, at the wall %d", r, p, impl.PlaceIn(r, p), impl.IsIn(r, p), impl.WallAt(r, p))
			}
		}
		if got := impl.CountIn(r, badPoints()); got != 0 {
			t.Errorf("CountIn(%v, points that are not valid) = %d; want 0", r, got)
		}
	}
}

func TestWallAt(t *testing.T) {
	bent := room(0, 0, 6, 0, 6, 2, 2, 2, 2, 6, 0, 6)
	for _, c := range []struct {
		p    impl.Point
		want int
	}{
		{at(3, 0), 0}, {at(6, 1), 1}, {at(4, 2), 2}, {at(2, 4), 3}, {at(1, 6), 4}, {at(0, 3), 5},
		// A corner is on two walls. The first one is on the first and on the last wall.
		{at(0, 0), 0}, {at(6, 0), 0}, {at(6, 2), 1}, {at(2, 2), 2}, {at(2, 6), 3}, {at(0, 6), 4},
		{at(1, 1), -1}, {at(1, 2), -1}, {at(2, 1), -1}, {at(3, 3), -1}, {at(7, 0), -1}, {at(-1, 0), -1},
		// On the line of a wall, but past its ends.
		{at(0, 7), -1}, {at(2, 7), -1}, {at(7, 2), -1}, {at(6, 3), -1}, {at(0, -1), -1},
	} {
		if got := impl.WallAt(bent, c.p); got != c.want {
			t.Errorf("WallAt(%v, %v) = %d; want %d", bent, c.p, got, c.want)
		}
	}
	for _, r := range manyRooms() {
		for _, x := range rotations(r) {
			for k, p := range x.Corners {
				if got := impl.WallAt(x, p); got != max(k-1, 0) {
					t.Errorf("WallAt(%v, %v) = %d; want %d", x, p, got, max(k-1, 0))
				}
			}
		}
	}
}

func TestCountIn(t *testing.T) {
	square := room(0, 0, 4, 0, 4, 4, 0, 4)
	for _, c := range []struct {
		list []impl.Point
		want int
	}{
		{nil, 0},
		{[]impl.Point{}, 0},
		{[]impl.Point{at(1, 1), at(9, 9)}, 1},
		{[]impl.Point{at(0, 0), at(4, 2), at(2, 2)}, 3},
		{[]impl.Point{at(5, 0), at(-1, 2), at(2, 5)}, 0},
		// Equal points count each.
		{[]impl.Point{at(1, 1), at(1, 1), at(1, 1)}, 3},
		{[]impl.Point{at(1, 1), at(5, 5), at(1, 1), at(5, 5), at(4, 4)}, 3},
		{[]impl.Point{at(41, 0), at(1, 1), at(0, math.MinInt), at(2, 2), at(math.MaxInt, 1)}, 2},
		{slices.Repeat([]impl.Point{at(3, 3), at(3, 6), at(3, 4)}, 2000), 4000},
	} {
		if got := impl.CountIn(square, c.list); got != c.want {
			t.Errorf("CountIn(%v, %v) = %d; want %d", square, c.list, got, c.want)
		}
	}
	for _, r := range manyRooms() {
		want := 0
		for _, p := range pointsAround(r) {
			if placed(r, 1, p) != impl.InOutside {
				want++
			}
		}
		if got := impl.CountIn(r, pointsAround(r)); got != want {
			t.Errorf("CountIn(%v, all points around) = %d; want %d", r, got, want)
		}
	}
}

func TestAreApart(t *testing.T) {
	square := room(0, 0, 4, 0, 4, 4, 0, 4)
	unit := room(0, 0, 1, 0, 1, 1, 0, 1)
	bent := room(0, 0, 6, 0, 6, 2, 2, 2, 2, 6, 0, 6)
	for _, c := range []struct {
		name string
		a, b impl.Room
		want bool
	}{
		{"side by side", square, room(5, 0, 9, 0, 9, 4, 5, 4), true},
		{"far away", square, room(-40, -40, -30, -40, -40, -30), true},
		{"a common wall", square, room(4, 0, 8, 0, 8, 4, 4, 4), true},
		{"a wall along a piece of another one", square, room(4, 1, 8, 1, 8, 3, 4, 3), true},
		{"a wall along the end of another one", square, room(4, 3, 8, 3, 8, 9, 4, 9), true},
		{"a common corner", square, room(4, 4, 8, 4, 8, 8, 4, 8), true},
		{"a corner on a wall", square, room(4, 2, 7, 1, 7, 3), true},
		{"in the corner of a bent room", bent, room(2, 2, 6, 2, 6, 6, 2, 6), true},
		{"before the corner of a bent room", bent, room(3, 3, 5, 3, 5, 5, 3, 5), true},
		{"in the gap of another one", horns(), room(3, 2, 6, 2, 6, 5, 3, 5), true},
		{"into the gap and out", horns(), room(4, 3, 5, 3, 5, 9, 4, 9), true},
		{"through the bottom of the gap", horns(), room(4, 1, 5, 1, 5, 9, 4, 9), false},
		{"an overlap", square, room(2, 2, 6, 2, 6, 6, 2, 6), false},
		{"an overlap of one step", square, room(3, 3, 6, 3, 6, 6, 3, 6), false},
		{"a corner inside", square, room(3, 2, 7, 1, 7, 3), false},
		{"a broad cross", room(0, 2, 6, 2, 6, 4, 0, 4), room(2, 0, 4, 0, 4, 6, 2, 6), false},
		{"a cross without points inside", room(0, 1, 3, 1, 3, 2, 0, 2), room(1, 0, 2, 0, 2, 3, 1, 3), false},
		{"a crossing at no whole point", room(0, 0, 1, 0, 0, 1), room(0, 0, 1, 0, 1, 1), false},
		{"inside", square, room(1, 1, 3, 1, 3, 3, 1, 3), false},
		{"inside, without points inside it", square, room(1, 1, 2, 1, 1, 2), false},
		{"inside, at a wall", square, room(0, 1, 3, 1, 3, 3, 0, 3), false},
		{"inside, in a corner", square, room(0, 0, 2, 0, 2, 2, 0, 2), false},
		{"inside, all corners on walls", square, room(2, 0, 4, 2, 2, 4, 0, 2), false},
		{"a half", square, room(0, 0, 4, 0, 0, 4), false},
		{"the same", square, square, false},
		{"the same from another corner", square, room(4, 4, 0, 4, 0, 0, 4, 0), false},
		// One covers the other one, but no wall crosses and no point with whole coordinates is inside.
		{"the same, without points inside", unit, unit, true},
		{"a half, without points inside", unit, room(0, 0, 1, 0, 0, 1), true},
	} {
		for _, a := range rotations(c.a) {
			for _, b := range rotations(c.b) {
				if impl.AreApart(a, b) != c.want || impl.AreApart(b, a) != c.want {
					t.Errorf("%s: AreApart(%v, %v) = %v, and %v in the other order", c.name, a, b, impl.AreApart(a, b), impl.AreApart(b, a))
				}
			}
		}
	}
}

// reaches reports whether a wall of a crosses one of b, or a point of a is inside b.
func reaches(a impl.Room, b impl.Room) bool {
	for i := range a.Corners {
		for k := range b.Corners {
			if meetingOf(enlargedWall(a, i, 1), enlargedWall(b, k, 1)) == crossing {
				return true
			}
		}
	}
	return slices.ContainsFunc(pointsAround(a), func(p impl.Point) bool {
		return placed(b, 1, p) == impl.InInside && placed(a, 1, p) != impl.InOutside
	})
}

func TestAreApartMany(t *testing.T) {
	source := rand.New(rand.NewSource(7))
	list := []impl.Room{peaks(), valleys(), horns(), star(), stairs(), room(0, 0, 2, 1, 1, 1), room(0, 0, 1, 0, 1, 1, 0, 1), room(0, 0, 9, 0, 9, 1, 0, 1)}
	for _, r := range movedRooms(8, 60) {
		if len(pointsAround(r)) < 300 {
			list = append(list, r)
		}
	}
	counts := map[bool]int{}
	for range 3000 {
		a, b := list[source.Intn(len(list))], list[source.Intn(len(list))]
		x, y := source.Intn(21)-10, source.Intn(21)-10
		for k, p := range b.Corners {
			b = withCorner(b, k, at(p.X+x, p.Y+y))
		}
		want := !reaches(a, b) && !reaches(b, a)
		counts[want]++
		if impl.AreApart(a, b) != want || impl.AreApart(b, a) != want {
			t.Fatalf("AreApart(%v, %v) = %v, and %v in the other order; want %v", a, b, impl.AreApart(a, b), impl.AreApart(b, a), want)
		}
	}
	if counts[true] < 500 || counts[false] < 500 {
		t.Errorf("too few rooms are apart or too many: %v", counts)
	}
}

func TestAreApartInvalid(t *testing.T) {
	far, near := room(-40, -40, -39, -40, -40, -39), room(0, 0, 1, 0, 0, 1)
	for name, bad := range badRooms() {
		for _, c := range [][2]impl.Room{{bad, far}, {far, bad}, {bad, near}, {near, bad}, {bad, bad}, {bad, {}}, {{}, bad}} {
			if impl.AreApart(c[0], c[1]) {
				t.Errorf("AreApart with %s = true: %v", name, c)
			}
		}
	}
}

func TestInsideArguments(t *testing.T) {
	square := room(0, 0, 4, 0, 4, 4, 0, 4)
	checkRoomsKept(t, func(r impl.Room) {
		for _, p := range badPlaces(r) {
			impl.PlaceIn(r, p)
			impl.IsIn(r, p)
			impl.WallAt(r, p)
		}
		impl.CountIn(r, r.Corners)
		impl.AreApart(r, square)
		impl.AreApart(square, r)
		impl.AreApart(r, r)
	})
	// A list that is counted may be of any kind, so it is looked at apart from the corners.
	for _, original := range goodRooms() {
		list, all := withSpare(original)
		before := slices.Clone(all)
		impl.CountIn(square, list.Corners)
		if !slices.Equal(all, before) {
			t.Fatalf("CountIn changes its list: %v; was %v", all, before)
		}
	}
}
