package tests

import (
	"math"
	"slices"
	"testing"

	"loop.example/g00991/impl"
)

// isToTheLeft compares how far the point and the wall are to the left of the wall's direction, seen from 0,0; the program asks for the turn.
func isToTheLeft(r impl.Room, p impl.Point) bool {
	for k, a := range r.Corners {
		b := r.Corners[(k+1)%len(r.Corners)]
		if (b.X-a.X)*p.Y-(b.Y-a.Y)*p.X < (b.X-a.X)*a.Y-(b.Y-a.Y)*a.X {
			return false
		}
	}
	return true
}

func seesEach(r impl.Room, p impl.Point, list []impl.Point) bool {
	return placed(r, 1, p) != impl.InOutside && !slices.ContainsFunc(list, func(q impl.Point) bool { return !doSee(r, p, q) })
}

func checkKernel(t *testing.T, r impl.Room, p impl.Point, inKernel bool, seesCorners bool) {
	t.Helper()
	if got := impl.InKernel(r, p); got != inKernel {
		t.Fatalf("InKernel(%v, %v) = %v", r, p, got)
	}
	if got := impl.SeesCorners(r, p); got != seesCorners {
		t.Fatalf("SeesCorners(%v, %v) = %v", r, p, got)
	}
}

// halfKernel has points that see all, but none of them is whole: twice as large, the room has one at 0,5.
func halfKernel() impl.Room {
	return room(0, 4, 0, 0, 5, 0, 3, 1, 1, 3, 4, 5)
}

func TestKernel(t *testing.T) {
	square, bent, notch := room(0, 0, 4, 0, 4, 4, 0, 4), room(0, 0, 6, 0, 6, 2, 2, 2, 2, 6, 0, 6), room(0, 0, 8, 0, 8, 6, 4, 2, 0, 6)
	for _, c := range []struct {
		name string
		r    impl.Room
		p    impl.Point
		want bool
	}{
		{"inside a square", square, at(1, 3), true},
		{"on a wall of a square", square, at(4, 3), true},
		{"a corner of a square", square, at(0, 4), true},
		{"outside, on the line of a wall", square, at(5, 4), false},
		{"outside, on the line of a wall, before it", square, at(0, -1), false},
		{"outside", square, at(6, 2), false},
		{"a bent room, in the corner", bent, at(1, 1), true},
		{"a bent room, the first corner", bent, at(0, 0), true},
		{"a bent room, the reflex corner", bent, at(2, 2), true},
		{"a bent room, on the line of a wall, inside", bent, at(1, 2), true},
		{"a bent room, on the line of another wall, inside", bent, at(2, 1), true},
		{"a bent room, on a wall and on the line of one", bent, at(0, 2), true},
		{"a bent room, on a wall", bent, at(1, 0), true},
		{"a bent room, past the line of a wall", bent, at(3, 1), false},
		{"a bent room, past the line of the other one", bent, at(1, 3), false},
		{"a bent room, on a wall, past the line of another one", bent, at(3, 0), false},
		{"a bent room, on a wall that ends in the reflex corner", bent, at(3, 2), false},
		{"a bent room, a corner past the line of a wall", bent, at(6, 0), false},
		{"a bent room, an end", bent, at(6, 2), false},
		{"a bent room, outside", bent, at(3, 3), false},
		{"a notch, its corner", notch, at(4, 2), true},
		{"a notch, under it", notch, at(4, 1), true},
		{"a notch, on the line of its first wall", notch, at(3, 1), true},
		{"a notch, on the line of its second wall", notch, at(5, 1), true},
		{"a notch, on the lines of both, on the floor", notch, at(2, 0), true},
		{"a notch, past the line of its first wall", notch, at(2, 1), false},
		{"a notch, past the line of its second wall", notch, at(6, 1), false},
		{"a notch, a corner beside it", notch, at(0, 6), false},
		{"a notch, the first corner", notch, at(0, 0), false},
		{"a notch, above it", notch, at(4, 3), false},
		{"a gap, under it", horns(), at(4, 1), false},
		{"a gap, at its corner", horns(), at(3, 2), false},
		{"a star, its middle", star(), at(0, 0), true},
		{"a star, a reflex corner", star(), at(1, 1), true},
		{"a star, a tip", star(), at(0, 5), false},
		{"at the limits", room(-40, -40, 40, -40, 40, 40, -40, 40), at(-40, 40), true},
	} {
		for _, x := range rotations(c.r) {
			checkKernel(t, x, c.p, c.want, c.want)
		}
	}
}

// Promise 16: who sees all corners sees everything, and stands to the left of every wall.
func TestKernelMany(t *testing.T) {
	counts := map[string]int{}
	for _, r := range append(guardRooms(36, 150), threeTeeth(), halfKernel()) {
		floor := smallFloorOf(r)
		var want []impl.Point
		for _, p := range pointsAround(r) {
			inKernel := placed(r, 1, p) != impl.InOutside && isToTheLeft(r, p)
			if seesEach(r, p, r.Corners) != inKernel || seesEach(r, p, floor) != inKernel {
				t.Fatalf("%v is to the left of the walls of %v, %v, but doesn't see all", p, r, inKernel)
			}
			checkKernel(t, r, p, inKernel, seesEach(r, p, r.Corners))
			checkKernel(t, rotations(r)[1], p, inKernel, inKernel)
		}
		for _, p := range floor {
			if isToTheLeft(r, p) {
				want = append(want, p)
			}
		}
		if got := impl.KernelPoints(r); !slices.Equal(got, want) || !slices.Equal(got, impl.OneGuard(r)) {
			t.Fatalf("KernelPoints(%v) = %v; want %v", r, got, want)
		}
		if got := impl.IsStar(r); got != (len(want) > 0) {
			t.Fatalf("IsStar(%v) = %v", r, got)
		}
		counts[partOf(want, floor)]++
	}
	if counts["none"] < 10 || counts["some"] < 10 || counts["all"] < 10 {
		t.Errorf("too few rooms have no kernel, a small one, or all points in it: %v", counts)
	}
}

func TestKernelOfLargeRooms(t *testing.T) {
	for _, r := range append(cutRooms(), movedRooms(37, 60)...) {
		var want []impl.Point
		for _, p := range impl.FloorPoints(r) {
			if isToTheLeft(r, p) {
				want = append(want, p)
			}
		}
		if got := impl.KernelPoints(r); !slices.Equal(got, want) {
			t.Errorf("KernelPoints(%v) = %v; want %v", r, got, want)
		}
		for _, p := range r.Corners {
			checkKernel(t, r, p, isToTheLeft(r, p), seesEach(r, p, r.Corners))
		}
	}
}

func TestKernelPoints(t *testing.T) {
	for _, c := range []struct {
		name string
		r    impl.Room
		want []impl.Point
	}{
		{"a triangle", room(0, 0, 2, 1, 1, 2), room(0, 0, 1, 1, 2, 1, 1, 2).Corners},
		{"an arrow", room(0, 0, 5, 1, 1, 1, 1, 5), []impl.Point{at(0, 0), at(1, 1)}},
		{"a bent room", room(0, 0, 6, 0, 6, 2, 2, 2, 2, 6, 0, 6), room(0, 0, 1, 0, 2, 0, 0, 1, 1, 1, 2, 1, 0, 2, 1, 2, 2, 2).Corners},
		{"a notch", room(0, 0, 8, 0, 8, 6, 4, 2, 0, 6), room(2, 0, 3, 0, 4, 0, 5, 0, 6, 0, 3, 1, 4, 1, 5, 1, 4, 2).Corners},
		{"one point, at a corner", room(-40, -40, 40, -39, 40, 40, 0, -39, -40, 40), []impl.Point{at(0, -39)}},
		{"one point, on a wall", peaks(), []impl.Point{at(6, 0)}},
		// No point at all, and no whole one.
		{"a gap", horns(), nil},
		{"a maze", maze(), nil},
		{"a comb", comb(), nil},
		{"a kernel without whole points", halfKernel(), nil},
	} {
		for _, x := range rotations(c.r) {
			if got := impl.KernelPoints(x); !slices.Equal(got, c.want) {
				t.Errorf("%s: KernelPoints(%v) = %v; want %v", c.name, x, got, c.want)
			}
			if got := impl.IsStar(x); got != (len(c.want) > 0) {
				t.Errorf("%s: IsStar(%v) = %v", c.name, x, got)
			}
		}
	}
	var twice impl.Room
	for _, p := range halfKernel().Corners {
		twice.Corners = append(twice.Corners, enlarged(p, 2))
	}
	if got := impl.KernelPoints(twice); !slices.Equal(got, []impl.Point{at(0, 5)}) {
		t.Errorf("KernelPoints(%v) = %v", twice, got)
	}
	for n := 3; n <= impl.MaxCorners; n++ {
		if r := manyCorners(n); !slices.Equal(impl.KernelPoints(r), impl.FloorPoints(r)) || !impl.IsStar(r) {
			t.Errorf("KernelPoints(%v) has %d points", r, len(impl.KernelPoints(r)))
		}
	}
	large := room(-40, -40, 40, -40, 40, 40, -40, 40)
	if got := impl.KernelPoints(large); len(got) != 81*81 {
		t.Errorf("KernelPoints(%v) has %d points", large, len(got))
	}
}

func TestKernelInvalid(t *testing.T) {
	for name, r := range badRooms() {
		for _, p := range badPlaces(r) {
			if impl.InKernel(r, p) || impl.SeesCorners(r, p) {
				t.Errorf("%s, %v: InKernel = %v, SeesCorners = %v", name, p, impl.InKernel(r, p), impl.SeesCorners(r, p))
			}
		}
		if len(impl.KernelPoints(r)) != 0 || impl.IsStar(r) {
			t.Errorf("%s has the kernel %v, IsStar = %v", name, impl.KernelPoints(r), impl.IsStar(r))
		}
	}
	for _, r := range append(goodRooms(), manyCorners(10)) {
		for _, p := range append(badPoints(), at(-41, -41), at(41, 41), at(41, 40), at(-40, 41), at(math.MinInt, math.MinInt)) {
			checkKernel(t, r, p, false, false)
		}
	}
}

func TestKernelArguments(t *testing.T) {
	checkRoomsKept(t, func(r impl.Room) {
		impl.InKernel(r, impl.CornerAt(r, 0))
		impl.KernelPoints(r)
		impl.IsStar(r)
		impl.SeesCorners(r, impl.CornerAt(r, 1))
	})
	checkNew(t, at(99, -99), impl.KernelPoints)
}
