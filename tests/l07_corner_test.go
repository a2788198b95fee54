package tests

import (
	"math"
	"slices"
	"testing"

	"loop.example/g00991/impl"
)

// sticksIn goes a little way from a corner to both sides and asks whether the middle between is outside; the program asks for the turn.
func sticksIn(r impl.Room, k int) bool {
	const steps = 20000
	n := len(r.Corners)
	before, p, behind := r.Corners[(k+n-1)%n], r.Corners[k], r.Corners[(k+1)%n]
	middle := at(2*steps*p.X+before.X-p.X+behind.X-p.X, 2*steps*p.Y+before.Y-p.Y+behind.Y-p.Y)
	return placed(r, 2*steps, middle) == impl.InOutside
}

func reflexOf(r impl.Room) []int {
	var list []int
	for k := range r.Corners {
		if sticksIn(r, k) {
			list = append(list, k)
		}
	}
	return list
}

// quarterTurn and mirrored keep all angles; a mirrored room has its corners in the other order, so that its inside is to the left again.
func quarterTurn(r impl.Room) impl.Room {
	var x impl.Room
	for _, p := range r.Corners {
		x.Corners = append(x.Corners, at(-p.Y, p.X))
	}
	return x
}

func mirrored(r impl.Room) impl.Room {
	var x impl.Room
	for _, p := range r.Corners {
		x.Corners = append(x.Corners, at(-p.X, p.Y))
	}
	return reversed(x)
}

// hollowTriangle has as many reflex corners as others, deepTriangle has more.
func hollowTriangle() impl.Room {
	return room(0, 0, 6, 2, 12, 0, 8, 5, 6, 12, 4, 5)
}

func deepTriangle() impl.Room {
	return room(-30, -20, -10, -8, 10, -8, 30, -20, 12, -4, 4, 10, 0, 30, -4, 10, -12, -4)
}

func cornerRooms() []impl.Room {
	list := append(manyRooms(), peaks(), valleys(), horns(), star(), stairs(), hollowTriangle(), deepTriangle())
	for _, r := range list {
		list = append(list, quarterTurn(r), mirrored(r))
	}
	return append(list, movedRooms(9, 200)...)
}

func TestReflexCorners(t *testing.T) {
	for _, c := range []struct {
		name string
		r    impl.Room
		want []int
	}{
		{"a triangle", room(0, 0, 4, 0, 0, 4), nil},
		{"a sharp triangle", room(-40, -40, 40, 39, 39, 39), nil},
		{"a small triangle", room(0, 0, 1, 0, 0, 1), nil},
		{"a square", room(0, 0, 4, 0, 4, 4, 0, 4), nil},
		{"ten corners that stick out", manyCorners(10), nil},
		{"a bent room", room(0, 0, 6, 0, 6, 2, 2, 2, 2, 6, 0, 6), []int{3}},
		{"a notch", room(0, 0, 8, 0, 8, 6, 4, 2, 0, 6), []int{3}},
		{"an arrow", room(0, 0, 5, 1, 1, 1, 1, 5), []int{2}},
		{"the first corner", room(2, 2, 2, 6, 0, 6, 0, 0, 6, 0, 6, 2), []int{0}},
		{"the last corner", room(2, 6, 0, 6, 0, 0, 6, 0, 6, 2, 2, 2), []int{5}},
		{"the first of four", room(1, 1, 1, 5, 0, 0, 5, 1), []int{0}},
		{"the last of four", room(1, 5, 0, 0, 5, 1, 1, 1), []int{3}},
		{"two that follow each other", horns(), []int{4, 5}},
		{"the last and the first", room(3, 2, 3, 5, 0, 5, 0, 0, 9, 0, 9, 5, 6, 5, 6, 2), []int{0, 7}},
		{"the first two", room(6, 2, 3, 2, 3, 5, 0, 5, 0, 0, 9, 0, 9, 5, 6, 5), []int{0, 1}},
		{"two that don't follow each other", peaks(), []int{3, 5}},
		{"nearly straight", room(0, 0, 40, 0, 40, 20, 20, 19, 0, 20), []int{3}},
		{"by the least turn", room(-40, -40, 40, -40, 40, 40, 39, 39, -40, -39), []int{3}},
		{"not by the least turn", room(-40, -40, 40, -40, 40, 40, -39, -38, -40, -39), nil},
		{"each second one", star(), []int{1, 3, 5, 7}},
		{"each second one of six", hollowTriangle(), []int{1, 3, 5}},
		{"two of three", deepTriangle(), []int{1, 2, 4, 5, 7, 8}},
	} {
		if got := impl.ReflexCorners(c.r); !slices.Equal(got, c.want) {
			t.Errorf("%s: ReflexCorners(%v) = %v; want %v", c.name, c.r, got, c.want)
		}
		if got := impl.IsConvex(c.r); got != (len(c.want) == 0) {
			t.Errorf("%s: IsConvex(%v) = %v", c.name, c.r, got)
		}
		if got := impl.TurnSum(c.r); got != len(c.r.Corners)-2*len(c.want) {
			t.Errorf("%s: TurnSum(%v) = %d", c.name, c.r, got)
		}
		for k := range c.r.Corners {
			if got := impl.IsReflex(c.r, k); got != slices.Contains(c.want, k) {
				t.Errorf("%s: IsReflex(%v, %d) = %v", c.name, c.r, k, got)
			}
		}
	}
}

func TestReflexCornersMany(t *testing.T) {
	counts := map[int]int{}
	for _, r := range cornerRooms() {
		for _, x := range rotations(r) {
			want := reflexOf(x)
			counts[len(want)]++
			if got := impl.ReflexCorners(x); !slices.Equal(got, want) {
				t.Errorf("ReflexCorners(%v) = %v; want %v", x, got, want)
			}
			if got := impl.IsConvex(x); got != (len(want) == 0) {
				t.Errorf("IsConvex(%v) = %v", x, got)
			}
			if got := impl.TurnSum(x); got != len(x.Corners)-2*len(want) {
				t.Errorf("TurnSum(%v) = %d; want %d", x, got, len(x.Corners)-2*len(want))
			}
			for k := range x.Corners {
				if got := impl.IsReflex(x, k); got != slices.Contains(want, k) {
					t.Errorf("IsReflex(%v, %d) = %v", x, k, got)
				}
			}
		}
	}
	for number := range 7 {
		if counts[number] == 0 {
			t.Errorf("no room has %d reflex corners", number)
		}
	}
}

func TestIsReflexIndex(t *testing.T) {
	list := append(goodRooms(), room(2, 2, 2, 6, 0, 6, 0, 0, 6, 0, 6, 2), room(2, 6, 0, 6, 0, 0, 6, 0, 6, 2, 2, 2))
	for _, r := range list {
		n := len(r.Corners)
		for _, k := range []int{-1, -2, -3, -n + 3, -n, n, n + 1, n + 3, 2*n - 1, 2 * n, 100, 1000, -1000, 1 << 32, -1 << 32, math.MaxInt, math.MinInt} {
			if (k < 0 || k >= n) && impl.IsReflex(r, k) {
				t.Errorf("IsReflex(%v, %d) = true", r, k)
			}
		}
	}
}

// Promise 7: more corners stick out than in. That is so up to five corners, and if all walls go straight up and across; of any number, three stick out.
func TestTurnSum(t *testing.T) {
	for _, c := range []struct {
		r    impl.Room
		want int
	}{
		{room(0, 0, 4, 0, 0, 4), 3},
		{room(0, 0, 4, 0, 4, 4, 0, 4), 4},
		{room(0, 0, 5, 1, 1, 1, 1, 5), 2},
		{room(0, 0, 8, 0, 8, 6, 4, 2, 0, 6), 3},
		{room(0, 0, 6, 0, 6, 2, 2, 2, 2, 6, 0, 6), 4},
		{manyCorners(10), 10},
		{horns(), 4},
		{star(), 0},
		{hollowTriangle(), 0},
		{deepTriangle(), -3},
	} {
		for _, x := range rotations(c.r) {
			if got := impl.TurnSum(x); got != c.want {
				t.Errorf("TurnSum(%v) = %d; want %d", x, got, c.want)
			}
		}
	}
	for _, r := range cornerRooms() {
		n, sum := len(r.Corners), impl.TurnSum(r)
		if (n+sum)/2 < 3 || (n+sum)%2 != 0 || sum > n || n <= 5 && sum <= 0 {
			t.Errorf("TurnSum(%v) = %d", r, sum)
		}
		if impl.IsRectangular(r) && sum != 4 {
			t.Errorf("TurnSum(%v) = %d; want 4", r, sum)
		}
	}
}

func TestLowestCorner(t *testing.T) {
	for _, c := range []struct {
		name string
		r    impl.Room
		want int
	}{
		{"a triangle", room(0, 0, 4, 1, 0, 4), 0},
		{"the second one", room(0, 3, 1, 0, 4, 4), 1},
		{"the last one", room(5, 2, 3, 6, 1, -1), 2},
		{"two, the left one first", room(0, 0, 4, 0, 4, 4, 0, 4), 0},
		{"two, the right one first", room(4, 0, 4, 4, 0, 4, 0, 0), 3},
		{"two, the left one between", room(4, 4, 0, 4, 0, 0, 4, 0), 2},
		{"two that are no neighbors", valleys(), 1},
		{"three", room(8, 0, 9, 5, -9, 5, -8, 0, -4, 3, 0, 0, 4, 3), 3},
		{"three, the left one last", room(0, 0, 4, 3, 8, 0, 9, 5, -9, 5, -8, 0, -4, 3), 5},
		{"a corner further left, but higher", room(0, 0, 4, 0, 4, 4, -9, 1), 0},
		{"a corner lower, but further right", room(-9, 0, 4, -1, 4, 4), 1},
		{"at the limits", room(40, 40, -40, 40, 40, -40), 2},
		{"two at the limits", room(40, 40, -40, 40, -40, -40, 40, -40), 2},
	} {
		n := len(c.r.Corners)
		for k, x := range rotations(c.r) {
			if got, want := impl.LowestCorner(x), (c.want-k+n)%n; got != want {
				t.Errorf("%s: LowestCorner(%v) = %d; want %d", c.name, x, got, want)
			}
		}
	}
	for _, r := range cornerRooms() {
		sorted := slices.Clone(r.Corners)
		slices.SortFunc(sorted, func(p impl.Point, q impl.Point) int { return (p.Y-q.Y)*1000 + p.X - q.X })
		for _, x := range rotations(r) {
			got := impl.LowestCorner(x)
			if got != slices.Index(x.Corners, sorted[0]) || impl.IsReflex(x, got) {
				t.Errorf("LowestCorner(%v) = %d", x, got)
			}
		}
	}
}

func TestIsRectangular(t *testing.T) {
	for _, c := range []struct {
		name string
		r    impl.Room
		want bool
	}{
		{"a square", room(0, 0, 4, 0, 4, 4, 0, 4), true},
		{"the greatest square", room(-40, -40, 40, -40, 40, 40, -40, 40), true},
		{"a bent room", room(0, 0, 6, 0, 6, 2, 2, 2, 2, 6, 0, 6), true},
		{"horns", horns(), true},
		{"stairs", stairs(), true},
		{"ten corners", room(0, 0, 8, 0, 8, 8, 0, 8, 0, 4, 4, 4, 4, 6, 6, 6, 6, 2, 0, 2), true},
		{"a triangle with a right angle", room(0, 0, 4, 0, 0, 4), false},
		{"right angles that lean", room(0, -2, 2, 0, 0, 2, -2, 0), false},
		{"right angles that lean a little", room(0, 0, 10, 1, 9, 11, -1, 10), false},
		{"a bent room that leans", room(0, 0, 6, 6, 4, 8, 2, 6, 0, 8, -4, 4), false},
		{"the first wall leans", room(0, 0, 4, 1, 4, 4, 0, 4), false},
		{"the last wall leans", room(0, 0, 4, 0, 4, 4, 1, 4), false},
		{"one wall of six leans", room(0, 0, 6, 0, 6, 2, 2, 3, 2, 6, 0, 6), false},
		{"a notch", room(0, 0, 8, 0, 8, 6, 4, 2, 0, 6), false},
	} {
		for _, x := range rotations(c.r) {
			if impl.IsRectangular(x) != c.want || impl.IsRectangular(quarterTurn(x)) != c.want || impl.IsRectangular(mirrored(x)) != c.want {
				t.Errorf("%s: IsRectangular(%v) is not always %v", c.name, x, c.want)
			}
		}
	}
	for _, r := range cornerRooms() {
		want := true
		for k, p := range r.Corners {
			q := r.Corners[(k+1)%len(r.Corners)]
			want = want && (p.X-q.X)*(p.Y-q.Y) == 0
		}
		if got := impl.IsRectangular(r); got != want {
			t.Errorf("IsRectangular(%v) = %v", r, got)
		}
	}
}

func TestCornerInvalid(t *testing.T) {
	for name, r := range badRooms() {
		for k := -3; k <= len(r.Corners)+1; k++ {
			if impl.IsReflex(r, k) {
				t.Errorf("IsReflex of %s, %d = true", name, k)
			}
		}
		for _, k := range []int{math.MaxInt, math.MinInt} {
			if impl.IsReflex(r, k) {
				t.Errorf("IsReflex of %s, %d = true", name, k)
			}
		}
		for _, x := range append(rotations(r), r) {
			if got := impl.ReflexCorners(x); len(got) != 0 {
				t.Errorf("ReflexCorners of %s = %v; want none", name, got)
			}
			if impl.IsConvex(x) || impl.IsRectangular(x) {
				t.Errorf("%s is convex, %v, or rectangular, %v", name, impl.IsConvex(x), impl.IsRectangular(x))
			}
			if impl.TurnSum(x) != 0 || impl.LowestCorner(x) != -1 {
				t.Errorf("%s has the TurnSum %d and the LowestCorner %d", name, impl.TurnSum(x), impl.LowestCorner(x))
			}
		}
	}
}

func TestCornerArguments(t *testing.T) {
	checkRoomsKept(t, func(r impl.Room) {
		for k := -1; k <= len(r.Corners); k++ {
			impl.IsReflex(r, k)
		}
		impl.ReflexCorners(r)
		impl.IsConvex(r)
		impl.TurnSum(r)
		impl.LowestCorner(r)
		impl.IsRectangular(r)
	})
	checkNew(t, -99, impl.ReflexCorners)
}
