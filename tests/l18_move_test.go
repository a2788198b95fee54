package tests

import (
	"math"
	"slices"
	"testing"

	"loop.example/g00991/impl"
)

func movedBy(r impl.Room, dx int, dy int) impl.Room {
	var x impl.Room
	for _, p := range r.Corners {
		x.Corners = append(x.Corners, at(p.X+dx, p.Y+dy))
	}
	return x
}

// checkMove takes what MoveRoom returns, or a room without corners where it returns false.
func checkMove(t *testing.T, name string, r impl.Room, dx int, dy int, want impl.Room) {
	t.Helper()
	got, ok := impl.MoveRoom(r, dx, dy)
	if !slices.Equal(got.Corners, want.Corners) || ok != (len(want.Corners) > 0) {
		t.Fatalf("%s: MoveRoom(%v, %d, %d) = %v, %v; want %v", name, r, dx, dy, got, ok, want)
	}
}

func TestMoveRoom(t *testing.T) {
	square, none := room(0, 0, 4, 0, 4, 4, 0, 4), impl.Room{}
	small, large := room(-40, -40, -39, -40, -40, -39), room(-40, -40, 40, -40, 40, 40, -40, 40)
	for _, c := range []struct {
		name   string
		r      impl.Room
		dx, dy int
		want   impl.Room
	}{
		{"to the right and upwards", square, 1, 2, room(1, 2, 5, 2, 5, 6, 1, 6)},
		{"to the left and downwards", square, -3, -7, room(-3, -7, 1, -7, 1, -3, -3, -3)},
		{"nowhere", square, 0, 0, square},
		{"to the right alone", square, 5, 0, room(5, 0, 9, 0, 9, 4, 5, 4)},
		{"upwards alone", square, 0, 5, room(0, 5, 4, 5, 4, 9, 0, 9)},
		{"up to the right limit", square, 36, 0, room(36, 0, 40, 0, 40, 4, 36, 4)},
		{"past the right limit", square, 37, 0, none},
		{"all of it past the right limit", square, 41, 0, none},
		{"up to the left limit", square, -40, 0, room(-40, 0, -36, 0, -36, 4, -40, 4)},
		{"past the left limit", square, -41, 0, none},
		{"up to the upper limit", square, 0, 36, room(0, 36, 4, 36, 4, 40, 0, 40)},
		{"past the upper limit", square, 0, 37, none},
		{"up to the lower limit", square, 0, -40, room(0, -40, 4, -40, 4, -36, 0, -36)},
		{"past the lower limit", square, 0, -41, none},
		{"one corner past a limit", room(0, 0, 4, 1, 0, 4), 37, 0, none},
		{"past one limit, not the other one", square, 4, 40, none},
		{"past the other one", square, 40, 4, none},
		{"79 and 78", small, 79, 78, room(39, 38, 40, 38, 39, 39)},
		{"79 and 79", small, 79, 79, room(39, 39, 40, 39, 39, 40)},
		{"80 to the right", small, 80, 0, none},
		{"80 upwards", small, 0, 80, none},
		{"-79 and -79", room(39, 40, 40, 39, 40, 40), -79, -79, room(-40, -39, -39, -40, -39, -39)},
		{"-80 to the left", room(39, 40, 40, 39, 40, 40), -80, 0, none},
		{"the largest room", large, 1, 0, none},
		{"the largest room, downwards", large, 0, -1, none},
		{"the largest room, nowhere", large, 0, 0, large},
	} {
		checkMove(t, c.name, c.r, c.dx, c.dy, c.want)
	}
}

// All steps up to one past the limits of 80; a room of at least one step can be moved by 79 at most.
func TestMoveRoomMany(t *testing.T) {
	moved := 0
	for _, r := range append(goodRooms(), room(-40, -40, -39, -40, -40, -39), room(39, 40, 40, 39, 40, 40), hollowTriangle()) {
		for dx := -81; dx <= 81; dx++ {
			for dy := -81; dy <= 81; dy++ {
				want := movedBy(r, dx, dy)
				if slices.ContainsFunc(want.Corners, func(p impl.Point) bool { return max(p.X, -p.X, p.Y, -p.Y) > 40 }) {
					want = impl.Room{}
				} else {
					moved++
				}
				checkMove(t, "near or far", r, dx, dy, want)
			}
		}
	}
	if moved < 10000 {
		t.Errorf("only %d rooms were moved", moved)
	}
}

func TestMoveRoomInvalid(t *testing.T) {
	square := room(0, 0, 4, 0, 4, 4, 0, 4)
	for _, n := range append(badNumbers(), 81, -81, 80, -80, 1<<40, math.MinInt+40) {
		for _, near := range []int{0, 1, -1, n} {
			checkMove(t, "too far", square, n, near, impl.Room{})
			checkMove(t, "too far", square, near, n, impl.Room{})
		}
	}
	for name, r := range badRooms() {
		for _, d := range [][2]int{{0, 0}, {1, 0}, {0, -1}, {5, 7}, {80, -80}, {81, 0}, {0, math.MinInt}, {math.MaxInt, math.MaxInt}} {
			checkMove(t, name, r, d[0], d[1], impl.Room{})
		}
	}
	// These would be rooms again at the place where they are moved to.
	checkMove(t, "back into the limits, to the left", room(0, 0, 41, 0, 41, 9, 0, 9), -1, 0, impl.Room{})
	checkMove(t, "back into the limits, downwards", room(0, 0, 9, 0, 9, 41, 0, 41), 0, -1, impl.Room{})
	checkMove(t, "back into the limits, by 80", movedBy(square, 80, 0), -80, 0, impl.Room{})
	checkMove(t, "back, with numbers that are too large", movedBy(square, math.MinInt, 0), math.MinInt, 0, impl.Room{})
	checkMove(t, "back, by the greatest int", movedBy(square, math.MaxInt-4, 0), -math.MaxInt+4, 0, impl.Room{})
}

func TestTurnAndMirror(t *testing.T) {
	for _, c := range []struct {
		name     string
		r        impl.Room
		turned   impl.Room
		mirrored impl.Room
	}{
		{"a triangle", room(0, 0, 4, 1, 2, 5), room(0, 0, -1, 4, -5, 2), room(-2, 5, -4, 1, 0, 0)},
		{"a square", room(0, 0, 4, 0, 4, 4, 0, 4), room(0, 0, 0, 4, -4, 4, -4, 0), room(0, 4, -4, 4, -4, 0, 0, 0)},
		{"a bent room", room(0, 0, 6, 0, 6, 2, 2, 2, 2, 6, 0, 6), room(0, 0, 0, 6, -2, 6, -2, 2, -6, 2, -6, 0), room(0, 6, -2, 6, -2, 2, -6, 2, -6, 0, 0, 0)},
		{"a notch", room(0, 0, 8, 0, 8, 6, 4, 2, 0, 6), room(0, 0, 0, 8, -6, 8, -2, 4, -6, 0), room(0, 6, -4, 2, -8, 6, -8, 0, 0, 0)},
		{"the largest room", room(-40, -40, 40, -40, 40, 40, -40, 40), room(40, -40, 40, 40, -40, 40, -40, -40), room(40, 40, -40, 40, -40, -40, 40, -40)},
		{"at the limits", room(-40, 39, 40, -40, 40, 40), room(-39, -40, 40, 40, -40, 40), room(-40, 40, -40, -40, 40, 39)},
		{"around 0", room(-1, -2, 3, -1, 1, 2, -3, 1), room(2, -1, 1, 3, -2, 1, -1, -3), room(3, 1, -1, 2, -3, -1, 1, -2)},
	} {
		if got := impl.TurnRoom(c.r); !slices.Equal(got.Corners, c.turned.Corners) {
			t.Errorf("%s: TurnRoom(%v) = %v; want %v", c.name, c.r, got, c.turned)
		}
		if got := impl.MirrorRoom(c.r); !slices.Equal(got.Corners, c.mirrored.Corners) {
			t.Errorf("%s: MirrorRoom(%v) = %v; want %v", c.name, c.r, got, c.mirrored)
		}
	}
}

func TestTurnAndMirrorMany(t *testing.T) {
	for _, r := range append(cornerRooms(), smallRooms(4)...) {
		turned, mirror := impl.TurnRoom(r), impl.MirrorRoom(r)
		if !slices.Equal(turned.Corners, quarterTurn(r).Corners) || !slices.Equal(mirror.Corners, mirrored(r).Corners) {
			t.Fatalf("%v is turned to %v and mirrored to %v", r, turned, mirror)
		}
		if !impl.RoomOk(turned) || !impl.RoomOk(mirror) {
			t.Fatalf("%v is turned to %v, %v, and mirrored to %v, %v", r, turned, impl.RoomOk(turned), mirror, impl.RoomOk(mirror))
		}
		if again := impl.TurnRoom(impl.TurnRoom(impl.TurnRoom(turned))); !slices.Equal(again.Corners, r.Corners) {
			t.Fatalf("four quarter turns bring %v to %v", r, again)
		}
		if again := impl.MirrorRoom(mirror); !slices.Equal(again.Corners, r.Corners) {
			t.Fatalf("two mirrors bring %v to %v", r, again)
		}
	}
}

// A place of the same room elsewhere: where its points and its corners are there.
type place struct {
	room   impl.Room
	point  func(p impl.Point) impl.Point
	corner func(k int) int
}

func placesOf(r impl.Room) []place {
	same := func(k int) int { return k }
	there, _ := impl.MoveRoom(r, -1, 2)
	return []place{
		{there, func(p impl.Point) impl.Point { return at(p.X-1, p.Y+2) }, same},
		{impl.TurnRoom(r), func(p impl.Point) impl.Point { return at(-p.Y, p.X) }, same},
		{impl.MirrorRoom(r), func(p impl.Point) impl.Point { return at(-p.X, p.Y) }, func(k int) int { return len(r.Corners) - 1 - k }},
	}
}

// Promise 18: a room that is turned or mirrored keeps its area, its ears, its guards and its sights.
func TestMovementsKeep(t *testing.T) {
	checked := 0
	for _, r := range guardRooms(43, 100) {
		floor := impl.FloorPoints(r)
		for _, x := range placesOf(r) {
			if !impl.RoomOk(x.room) {
				continue
			}
			checked++
			if impl.DoubleArea(x.room.Corners) != impl.DoubleArea(r.Corners) || impl.InnerPoints(x.room) != impl.InnerPoints(r) {
				t.Fatalf("%v has another area than %v", x.room, r)
			}
			if impl.CountGuards(x.room) != impl.CountGuards(r) || impl.TurnSum(x.room) != impl.TurnSum(r) {
				t.Fatalf("%v has other guards or corners than %v", x.room, r)
			}
			for k, p := range r.Corners {
				if x.room.Corners[x.corner(k)] != x.point(p) || impl.IsEar(x.room, x.corner(k)) != impl.IsEar(r, k) || impl.EarArea(x.room, x.corner(k)) != impl.EarArea(r, k) {
					t.Fatalf("%v has other ears than %v", x.room, r)
				}
			}
			for k, p := range floor {
				q := floor[(k*7+3)%len(floor)]
				if impl.Sees(x.room, x.point(p), x.point(q)) != impl.Sees(r, p, q) || impl.PlaceIn(x.room, x.point(p)) != impl.PlaceIn(r, p) {
					t.Fatalf("%v has other sights than %v, from %v to %v", x.room, r, p, q)
				}
			}
		}
	}
	if checked < 200 {
		t.Errorf("only %d rooms were looked at", checked)
	}
}

func TestSameRoom(t *testing.T) {
	square, bent := room(0, 0, 4, 0, 4, 4, 0, 4), room(0, 0, 6, 0, 6, 2, 2, 2, 2, 6, 0, 6)
	for _, c := range []struct {
		name string
		a, b impl.Room
		want int
	}{
		{"the same", square, square, 0},
		{"begun at the next corner", square, room(4, 0, 4, 4, 0, 4, 0, 0), 1},
		{"begun at the last corner", square, room(0, 4, 0, 0, 4, 0, 4, 4), 3},
		{"the first one begun elsewhere", room(4, 4, 0, 4, 0, 0, 4, 0), square, 2},
		{"a triangle", room(0, 0, 4, 0, 0, 4), room(0, 4, 0, 0, 4, 0), 2},
		{"one corner more", room(0, 0, 4, 0, 4, 4, 0, 4), room(0, 0, 4, 0, 5, 2, 4, 4, 0, 4), -1},
		{"one corner less", room(0, 0, 4, 0, 5, 2, 4, 4, 0, 4), room(0, 0, 4, 0, 4, 4, 0, 4), -1},
		{"one corner less, at the end", room(0, 0, 4, 0, 4, 4, -1, 3), room(0, 0, 4, 0, 4, 4), -1},
		{"one corner more, at the end", room(0, 0, 4, 0, 4, 4), room(0, 0, 4, 0, 4, 4, -1, 3), -1},
		{"one corner elsewhere", square, room(0, 0, 4, 0, 4, 4, 0, 5), -1},
		{"the first corner elsewhere", square, room(0, -1, 4, 0, 4, 4, 0, 4), -1},
		{"turned", bent, quarterTurn(bent), -1},
		{"moved", bent, movedBy(bent, 1, 0), -1},
		{"mirrored", bent, mirrored(bent), -1},
		{"turned around the middle", room(-2, -2, 2, -2, 2, 2, -2, 2), quarterTurn(room(-2, -2, 2, -2, 2, 2, -2, 2)), 1},
		{"mirrored around the middle", room(-2, -2, 2, -2, 2, 2, -2, 2), mirrored(room(-2, -2, 2, -2, 2, 2, -2, 2)), 2},
		{"the same corners in another order", room(0, 0, 8, 0, 8, 6, 4, 2, 0, 6), room(0, 0, 4, 2, 8, 0, 8, 6, 0, 6), -1},
		{"another room", square, bent, -1},
	} {
		if got := impl.SameRoom(c.a, c.b); got != c.want {
			t.Errorf("%s: SameRoom(%v, %v) = %d; want %d", c.name, c.a, c.b, got, c.want)
		}
	}
}

func TestSameRoomMany(t *testing.T) {
	rooms := cutRooms()
	for i, a := range rooms {
		for k, b := range rotations(a) {
			if impl.SameRoom(a, b) != k || impl.SameRoom(b, a) != (len(a.Corners)-k)%len(a.Corners) {
				t.Errorf("SameRoom(%v, %v) = %d, and back %d", a, b, impl.SameRoom(a, b), impl.SameRoom(b, a))
			}
			if got := impl.SameRoom(a, impl.TurnRoom(b)); got != -1 && !slices.Equal(rotations(a)[got].Corners, quarterTurn(b).Corners) {
				t.Errorf("SameRoom(%v, %v) = %d", a, impl.TurnRoom(b), got)
			}
		}
		for k, b := range rooms {
			want := slices.IndexFunc(rotations(a), func(x impl.Room) bool { return slices.Equal(x.Corners, b.Corners) })
			if got := impl.SameRoom(a, b); got != want || i == k && got != 0 {
				t.Errorf("SameRoom(%v, %v) = %d; want %d", a, b, got, want)
			}
		}
	}
}

func TestMovementInvalid(t *testing.T) {
	square := room(0, 0, 4, 0, 4, 4, 0, 4)
	for name, r := range badRooms() {
		if turned, mirror := impl.TurnRoom(r), impl.MirrorRoom(r); len(turned.Corners) != 0 || len(mirror.Corners) != 0 {
			t.Errorf("%s is turned to %v and mirrored to %v", name, turned, mirror)
		}
		if impl.SameRoom(r, r) != -1 || impl.SameRoom(r, square) != -1 || impl.SameRoom(square, r) != -1 || impl.SameRoom(r, impl.Room{}) != -1 || impl.SameRoom(impl.Room{}, r) != -1 {
			t.Errorf("%s is the same room: %d, %d, %d", name, impl.SameRoom(r, r), impl.SameRoom(r, square), impl.SameRoom(square, r))
		}
	}
}

func TestMovementArguments(t *testing.T) {
	square := room(0, 0, 4, 0, 4, 4, 0, 4)
	checkRoomsKept(t, func(r impl.Room) {
		impl.MoveRoom(r, 1, -1)
		impl.MoveRoom(r, 80, 0)
		impl.TurnRoom(r)
		impl.MirrorRoom(r)
		impl.SameRoom(r, r)
		impl.SameRoom(r, square)
		impl.SameRoom(square, r)
	})
	checkNew(t, at(99, -99), func(r impl.Room) []impl.Point { return impl.TurnRoom(r).Corners })
	checkNew(t, at(99, -99), func(r impl.Room) []impl.Point { return impl.MirrorRoom(r).Corners })
	checkNew(t, at(99, -99), func(r impl.Room) []impl.Point {
		x, _ := impl.MoveRoom(r, 0, 0)
		return x.Corners
	})
}
