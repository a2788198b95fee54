package tests

import (
	"math"
	"slices"
	"testing"

	"loop.example/g00991/impl"
)

// isTip asks which corners are in the triangle of a corner and its neighbors; the program asks for a diagonal.
func isTip(r impl.Room, k int) bool {
	n := len(r.Corners)
	if k < 0 || k >= n {
		return false
	}
	before, behind := (k+n-1)%n, (k+1)%n
	three := impl.Room{Corners: []impl.Point{r.Corners[before], r.Corners[k], r.Corners[behind]}}
	if areaBelow(three.Corners) <= 0 {
		return false
	}
	for i, p := range r.Corners {
		if i != before && i != k && i != behind && placed(three, 1, p) != impl.InOutside {
			return false
		}
	}
	return true
}

func tipsOf(r impl.Room) []int {
	var list []int
	for k := range r.Corners {
		if isTip(r, k) {
			list = append(list, k)
		}
	}
	return list
}

// withoutTip keeps the corners that are not between two others on one line, all at once; the program removes one after the other.
func withoutTip(r impl.Room, k int) impl.Room {
	rest := slices.Delete(slices.Clone(r.Corners), k, k+1)
	n := len(rest)
	var x impl.Room
	for i, p := range rest {
		a, b := rest[(i+n-1)%n], rest[(i+1)%n]
		if (p.X-a.X)*(b.Y-a.Y) != (p.Y-a.Y)*(b.X-a.X) {
			x.Corners = append(x.Corners, p)
		}
	}
	return x
}

// checkEars returns the number of corners that are on one line after a cut.
func checkEars(t *testing.T, r impl.Room) int {
	t.Helper()
	if got, want := impl.EarsOf(r), tipsOf(r); !slices.Equal(got, want) {
		t.Fatalf("EarsOf(%v) = %v; want %v", r, got, want)
	}
	n, straight := len(r.Corners), 0
	for k := range r.Corners {
		want, area := impl.Room{}, 0
		if isTip(r, k) {
			area = areaBelow([]impl.Point{r.Corners[(k+n-1)%n], r.Corners[k], r.Corners[(k+1)%n]})
			// No cut of a room is refused, but for that of a triangle.
			if n > 3 {
				want = withoutTip(r, k)
				straight += n - 1 - len(want.Corners)
				if !isRoom(want.Corners) {
					t.Fatalf("%v is no room", want)
				}
			}
		}
		if got := impl.IsEar(r, k); got != (area > 0) {
			t.Fatalf("IsEar(%v, %d) = %v", r, k, got)
		}
		if got := impl.EarArea(r, k); got != area {
			t.Fatalf("EarArea(%v, %d) = %d; want %d", r, k, got, area)
		}
		if got, ok := impl.CutEar(r, k); ok != (len(want.Corners) > 0) || !slices.Equal(got.Corners, want.Corners) {
			t.Fatalf("CutEar(%v, %d) = %v, %v; want %v", r, k, got, ok, want)
		}
	}
	return straight
}

func TestEars(t *testing.T) {
	for _, c := range []struct {
		name  string
		r     impl.Room
		want  []int
		areas []int
	}{
		{"a triangle", room(0, 0, 4, 0, 0, 4), []int{0, 1, 2}, []int{16, 16, 16}},
		{"the least triangle", room(0, 0, 1, 0, 0, 1), []int{0, 1, 2}, []int{1, 1, 1}},
		{"a square", room(0, 0, 4, 0, 4, 4, 0, 4), []int{0, 1, 2, 3}, []int{16, 16, 16, 16}},
		{"an arrow", room(0, 0, 5, 1, 1, 1, 1, 5), []int{1, 3}, []int{0, 4, 0, 4}},
		{"an arrow from another corner", room(5, 1, 1, 1, 1, 5, 0, 0), []int{0, 2}, []int{4, 0, 4, 0}},
		{"a notch", room(0, 0, 8, 0, 8, 6, 4, 2, 0, 6), []int{2, 4}, []int{0, 0, 24, 0, 24}},
		{"a bent room", room(0, 0, 6, 0, 6, 2, 2, 2, 2, 6, 0, 6), []int{1, 2, 4, 5}, []int{0, 12, 8, 0, 8, 12}},
		{"a gap", horns(), []int{2, 3, 6, 7}, []int{0, 0, 15, 9, 0, 0, 9, 15}},
		{"a bump", bump(), []int{0, 1, 2, 4, 6}, []int{32, 32, 8, 0, 12, 0, 8}},
		{"a star", star(), []int{0, 2, 4, 6}, []int{8, 0, 8, 0, 8, 0, 8, 0}},
		// A corner that sticks out is no ear if another corner is on the line between its neighbors, or behind it.
		{"a corner on the line", room(0, 0, 40, 0, 40, 20, 20, 10, 0, 20), []int{2, 4}, []int{0, 0, 400, 0, 400}},
		{"a corner past the line", room(0, 0, 40, 0, 40, 20, 20, 9, 0, 20), []int{2, 4}, []int{0, 0, 400, 0, 400}},
		{"a corner before the line", room(0, 0, 40, 0, 40, 20, 20, 11, 0, 20), []int{0, 1, 2, 4}, []int{800, 800, 400, 0, 400}},
	} {
		n := len(c.r.Corners)
		for start, x := range rotations(c.r) {
			var ears []int
			for k := range x.Corners {
				isWanted := slices.Contains(c.want, (k+start)%n)
				if isWanted {
					ears = append(ears, k)
				}
				if got := impl.IsEar(x, k); got != isWanted {
					t.Errorf("%s: IsEar(%v, %d) = %v", c.name, x, k, got)
				}
				if got := impl.EarArea(x, k); got != c.areas[(k+start)%n] {
					t.Errorf("%s: EarArea(%v, %d) = %d; want %d", c.name, x, k, got, c.areas[(k+start)%n])
				}
			}
			if got := impl.EarsOf(x); !slices.Equal(got, ears) {
				t.Errorf("%s: EarsOf(%v) = %v; want %v", c.name, x, got, ears)
			}
		}
	}
}

func TestCutEar(t *testing.T) {
	for _, c := range []struct {
		name string
		r    impl.Room
		k    int
		want impl.Room
	}{
		{"the first one", room(0, 0, 4, 0, 4, 4, 0, 4), 0, room(4, 0, 4, 4, 0, 4)},
		{"between", room(0, 0, 4, 0, 4, 4, 0, 4), 1, room(0, 0, 4, 4, 0, 4)},
		{"the last one", room(0, 0, 4, 0, 4, 4, 0, 4), 3, room(0, 0, 4, 0, 4, 4)},
		{"of a bent room", room(0, 0, 6, 0, 6, 2, 2, 2, 2, 6, 0, 6), 1, room(0, 0, 6, 2, 2, 2, 2, 6, 0, 6)},
		{"another one of a bent room", room(0, 0, 6, 0, 6, 2, 2, 2, 2, 6, 0, 6), 5, room(0, 0, 6, 0, 6, 2, 2, 2, 2, 6)},
		// No ears, and triangles.
		{"a reflex corner", room(0, 0, 6, 0, 6, 2, 2, 2, 2, 6, 0, 6), 3, impl.Room{}},
		{"a corner that sticks out", room(0, 0, 6, 0, 6, 2, 2, 2, 2, 6, 0, 6), 0, impl.Room{}},
		{"a triangle", room(0, 0, 4, 0, 0, 4), 1, impl.Room{}},
		{"the last corner of a triangle", room(0, 0, 4, 0, 0, 4), 2, impl.Room{}},
		// Corners that are then on one line: the one before, the one behind, and both, at each index.
		{"one before", lean(), 0, room(6, 0, 6, 2, 2, 2, 2, 6, 0, 6, -1, 2)},
		{"along a wall", room(0, 0, 8, 0, 8, 4, 6, 4, 4, 7, 0, 4), 4, room(0, 0, 8, 0, 8, 4, 0, 4)},
		{"both", bump(), 4, room(0, 0, 8, 0, 8, 4, 0, 4)},
		{"the last one and the first one", room(4, 7, 2, 4, 0, 4, 0, 0, 8, 0, 8, 4, 6, 4), 0, room(0, 4, 0, 0, 8, 0, 8, 4)},
		{"the first one and the second one", room(2, 4, 0, 4, 0, 0, 8, 0, 8, 4, 6, 4, 4, 7), 6, room(0, 4, 0, 0, 8, 0, 8, 4)},
		{"the last two", room(0, 4, 0, 0, 8, 0, 8, 4, 6, 4, 4, 7, 2, 4), 5, room(0, 4, 0, 0, 8, 0, 8, 4)},
		{"the first one, behind", room(6, 4, 4, 7, 2, 4, 0, 4, 0, 0, 8, 0, 8, 4), 1, room(0, 4, 0, 0, 8, 0, 8, 4)},
		{"down to a triangle", room(0, 0, 9, 0, 6, 3, 5, 7, 3, 6), 3, room(0, 0, 9, 0, 3, 6)},
		{"down to a triangle, both", room(0, 0, 9, 0, 6, 3, 7, 7, 3, 6, 0, 9), 3, room(0, 0, 9, 0, 0, 9)},
	} {
		got, ok := impl.CutEar(c.r, c.k)
		if !slices.Equal(got.Corners, c.want.Corners) || ok != (len(c.want.Corners) > 0) {
			t.Errorf("%s: CutEar(%v, %d) = %v, %v; want %v", c.name, c.r, c.k, got, ok, c.want)
		}
	}
}

func TestEarsMany(t *testing.T) {
	straight := 0
	for _, r := range append(cutRooms(), movedRooms(18, 200)...) {
		for _, x := range append(rotations(r), mirrored(r)) {
			straight += checkEars(t, x)
		}
	}
	for n := 3; n <= 6; n++ {
		for _, r := range smallRooms(n) {
			straight += checkEars(t, r)
		}
	}
	if straight < 1000 {
		t.Errorf("only %d corners are on one line after a cut", straight)
	}
}

// Promise 10: every room has two ears that are no neighbors. All corners of a triangle are neighbors, and all of them are ears.
func TestTwoEars(t *testing.T) {
	for _, r := range append(cutRooms(), movedRooms(19, 300)...) {
		n, ears := len(r.Corners), impl.EarsOf(r)
		if n == 3 {
			if !slices.Equal(ears, []int{0, 1, 2}) {
				t.Errorf("EarsOf(%v) = %v", r, ears)
			}
			continue
		}
		first := slices.ContainsFunc(ears, func(k int) bool {
			return slices.ContainsFunc(ears, func(i int) bool { return k-i > 1 && k-i < n-1 })
		})
		if !first {
			t.Errorf("EarsOf(%v) = %v", r, ears)
		}
		for _, k := range ears {
			if x, ok := impl.CutEar(r, k); !ok || impl.DoubleArea(x.Corners)+impl.EarArea(r, k) != impl.DoubleArea(r.Corners) {
				t.Errorf("CutEar(%v, %d) = %v, %v", r, k, x, ok)
			}
		}
	}
}

func checkNoEar(t *testing.T, name string, r impl.Room, k int) {
	t.Helper()
	if impl.IsEar(r, k) || impl.EarArea(r, k) != 0 {
		t.Errorf("%s: corner %d of %v is an ear, %v, with the area %d", name, k, r, impl.IsEar(r, k), impl.EarArea(r, k))
	}
	if x, ok := impl.CutEar(r, k); ok || len(x.Corners) != 0 {
		t.Errorf("%s: CutEar(%v, %d) = %v, %v", name, r, k, x, ok)
	}
}

func TestEarInvalid(t *testing.T) {
	for name, r := range badRooms() {
		if got := impl.EarsOf(r); len(got) != 0 {
			t.Errorf("EarsOf of %s = %v", name, got)
		}
		for _, k := range append(farIndexes(max(len(r.Corners), 1))[:7], 0, 1, 2, 3, 4, 5, math.MaxInt, math.MinInt) {
			checkNoEar(t, name, r, k)
		}
	}
	for _, r := range append(goodRooms(), bump()) {
		for _, k := range farIndexes(len(r.Corners)) {
			if k < 0 || k >= len(r.Corners) {
				checkNoEar(t, "no index", r, k)
			}
		}
	}
}

func TestEarArguments(t *testing.T) {
	checkRoomsKept(t, func(r impl.Room) {
		impl.EarsOf(r)
		for k := -1; k <= min(len(r.Corners), 12); k++ {
			impl.IsEar(r, k)
			impl.EarArea(r, k)
			impl.CutEar(r, k)
		}
	})
	checkRoomsKept(t, func(r impl.Room) {
		for k := range impl.MaxCorners {
			x, _ := impl.CutEar(r, k)
			spoil(x.Corners, at(99, -99))
		}
	})
	checkNew(t, -99, impl.EarsOf)
	for k := range impl.MaxCorners {
		checkNew(t, at(99, -99), func(r impl.Room) []impl.Point {
			x, _ := impl.CutEar(r, k)
			return x.Corners
		})
	}
}
