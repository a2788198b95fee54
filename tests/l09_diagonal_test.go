package tests

import (
	"math"
	"slices"
	"testing"

	"loop.example/g00991/impl"
)

// isInsideBetween looks at a point of each piece of a way, cut at the lines of all walls, and at the cuts: all of them are inside, none is on a wall.
func isInsideBetween(r impl.Room, a impl.Point, b impl.Point) bool {
	isInside := func(n int, d int) bool {
		return placed(r, d, at(a.X*d+(b.X-a.X)*n, a.Y*d+(b.Y-a.Y)*n)) == impl.InInside
	}
	shares := sharesOf(r, a, b)
	for i := 1; i < len(shares); i++ {
		s, before := shares[i], shares[i-1]
		if !isInside(before.n+s.n, before.d+s.d) || i < len(shares)-1 && !isInside(s.n, s.d) {
			return false
		}
	}
	return true
}

// isCut asks for nothing but the points between: neighbors have a wall there, and a corner and itself a corner.
func isCut(r impl.Room, i int, k int) bool {
	n := len(r.Corners)
	return i >= 0 && i < n && k >= 0 && k < n && isInsideBetween(r, r.Corners[i], r.Corners[k])
}

func cutsOf(r impl.Room) [][]int {
	var list [][]int
	for i := range r.Corners {
		for k := i + 1; k < len(r.Corners); k++ {
			if isCut(r, i, k) {
				list = append(list, []int{i, k})
			}
		}
	}
	return list
}

func sameLists(a [][]int, b [][]int) bool {
	return slices.EqualFunc(a, b, func(x []int, y []int) bool { return slices.Equal(x, y) })
}

// farIndexes are no indexes of a room with n corners, though some of them are after division by n or in fewer bits.
func farIndexes(n int) []int {
	return []int{-1, -2, -n + 1, -n, -n - 1, n, n + 1, n + 2, 2*n - 1, 2 * n, 1000, -1000, 1 << 32, 1<<32 + 2, -1 << 32, math.MaxInt, math.MaxInt - 1, math.MinInt, math.MinInt + 1}
}

// lean has three corners on one line: the wall from its corner 2 to 3, and on to 6.
func lean() impl.Room {
	return room(0, 0, 6, 0, 6, 2, 2, 2, 2, 6, 0, 6, -1, 2)
}

// bump has a peak at its corner 4, and under it four corners on one line.
func bump() impl.Room {
	return room(0, 0, 8, 0, 8, 4, 6, 4, 4, 7, 2, 4, 0, 4)
}

// comb has three teeth, and nobody sees the tips of two of them.
func comb() impl.Room {
	return room(0, 0, 20, 0, 20, 9, 19, 1, 11, 1, 10, 9, 9, 1, 1, 1, 0, 9)
}

func cutRooms() []impl.Room {
	list := append(sightRooms(), maze(), lean(), bump(), comb(), room(4, 2, 2, 3, 3, 2, 0, 3, 5, 0), room(0, 3, 1, 1, 0, 0, 5, 4, 4, 5, 2, 5, 4, 4))
	for n := 3; n <= impl.MaxCorners; n++ {
		list = append(list, manyCorners(n))
	}
	return list
}

// smallRooms are all rooms with n corners in a square with 3 times 3 points.
func smallRooms(n int) []impl.Room {
	lists := 1
	for range n {
		lists *= 9
	}
	var list []impl.Room
	corners := make([]impl.Point, n)
	for number := range lists {
		for k, rest := 0, number; k < n; k, rest = k+1, rest/9 {
			corners[k] = at(rest%3, rest/3%3)
		}
		if isRoom(corners) {
			list = append(list, impl.Room{Corners: slices.Clone(corners)})
		}
	}
	return list
}

func TestDiagonals(t *testing.T) {
	for _, c := range []struct {
		name string
		r    impl.Room
		want [][]int
	}{
		{"a triangle", room(0, 0, 4, 0, 0, 4), nil},
		{"a square", room(0, 0, 4, 0, 4, 4, 0, 4), [][]int{{0, 2}, {1, 3}}},
		{"an arrow", room(0, 0, 5, 1, 1, 1, 1, 5), [][]int{{0, 2}}},
		{"a notch", room(0, 0, 8, 0, 8, 6, 4, 2, 0, 6), [][]int{{0, 3}, {1, 3}}},
		{"a bent room", room(0, 0, 6, 0, 6, 2, 2, 2, 2, 6, 0, 6), [][]int{{0, 2}, {0, 3}, {0, 4}, {1, 3}, {3, 5}}},
		{"five corners that stick out", manyCorners(5), [][]int{{0, 2}, {0, 3}, {1, 3}, {1, 4}, {2, 4}}},
		{"a gap", horns(), [][]int{{0, 4}, {0, 5}, {0, 6}, {1, 3}, {1, 4}, {1, 5}, {2, 4}, {5, 7}}},
		// From corner 2 to 6, and from 3 to 0, the way goes along walls or past other corners.
		{"on along a wall", lean(), [][]int{{0, 2}, {0, 3}, {0, 4}, {0, 5}, {1, 3}, {1, 6}, {3, 5}, {3, 6}, {4, 6}}},
		{"over the corners of a bump", bump(), [][]int{{0, 2}, {0, 3}, {0, 4}, {0, 5}, {1, 3}, {1, 4}, {1, 5}, {1, 6}, {3, 5}}},
		{"three corners in a row", teeth(), [][]int{{0, 3}, {0, 5}, {0, 7}, {1, 3}, {1, 5}, {1, 7}, {3, 5}, {5, 7}}},
	} {
		if got := impl.DiagonalsOf(c.r); !sameLists(got, c.want) {
			t.Errorf("%s: DiagonalsOf(%v) = %v; want %v", c.name, c.r, got, c.want)
		}
		for i := range c.r.Corners {
			for k := range c.r.Corners {
				want := slices.ContainsFunc(c.want, func(pair []int) bool { return slices.Equal(pair, []int{min(i, k), max(i, k)}) })
				if got := impl.IsDiagonal(c.r, i, k); got != want {
					t.Errorf("%s: IsDiagonal(%v, %d, %d) = %v", c.name, c.r, i, k, got)
				}
			}
		}
	}
}

func TestIsDiagonal(t *testing.T) {
	for _, c := range []struct {
		name string
		r    impl.Room
		i, k int
		want bool
	}{
		{"neighbors", horns(), 4, 5, false},
		{"neighbors, the last and the first one", horns(), 0, 7, false},
		{"the same corner", horns(), 4, 4, false},
		{"along the wall of a neighbor", lean(), 2, 6, false},
		{"on from a wall", lean(), 3, 6, true},
		{"along two walls, with a gap between", maze(), 0, 4, false},
		{"along two walls and a gap, to their far ends", maze(), 0, 3, false},
		{"over a gap, from wall to wall", maze(), 4, 9, false},
		{"over a gap", horns(), 3, 6, false},
		{"along both walls of a gap", horns(), 2, 7, false},
		{"through another corner", teeth(), 3, 7, false},
		{"up to the other corner", teeth(), 3, 5, true},
		{"over another corner that touches from above", peaks(), 0, 4, false},
		{"out past another corner", maze(), 1, 5, false},
		{"through two other corners", bump(), 2, 6, false},
		{"through one other corner", bump(), 2, 5, false},
		{"outside", room(0, 0, 6, 0, 6, 2, 2, 2, 2, 6, 0, 6), 2, 4, false},
		{"through walls", room(0, 0, 6, 0, 6, 2, 2, 2, 2, 6, 0, 6), 1, 5, false},
		{"past a corner, close by", room(0, 0, 40, 0, 40, 20, 20, 11, 0, 20), 0, 2, true},
		{"past a corner, close by, on the other side", room(0, 0, 40, 0, 40, 20, 20, 9, 0, 20), 0, 2, false},
		{"through a corner between", room(0, 0, 40, 0, 40, 20, 20, 10, 0, 20), 0, 2, false},
		{"past a corner, as close as can be", room(-40, -40, 40, -40, 40, 40, -1, 0, -40, 39), 0, 2, true},
		{"from limit to limit", room(-40, -40, 40, -40, 40, 40, -40, 40), 0, 2, true},
	} {
		for start, x := range rotations(c.r) {
			n := len(c.r.Corners)
			i, k := (c.i-start+n)%n, (c.k-start+n)%n
			if impl.IsDiagonal(x, i, k) != c.want || impl.IsDiagonal(x, k, i) != c.want {
				t.Errorf("%s: IsDiagonal(%v, %d, %d) = %v, and %v back", c.name, x, i, k, impl.IsDiagonal(x, i, k), impl.IsDiagonal(x, k, i))
			}
		}
	}
}

func checkDiagonals(t *testing.T, r impl.Room) {
	t.Helper()
	want := cutsOf(r)
	if got := impl.DiagonalsOf(r); !sameLists(got, want) {
		t.Fatalf("DiagonalsOf(%v) = %v; want %v", r, got, want)
	}
	for i := range r.Corners {
		for k := range r.Corners {
			if got := impl.IsDiagonal(r, i, k); got != isCut(r, i, k) {
				t.Fatalf("IsDiagonal(%v, %d, %d) = %v", r, i, k, got)
			}
		}
	}
}

func TestDiagonalsMany(t *testing.T) {
	for _, r := range append(cutRooms(), movedRooms(15, 150)...) {
		for _, x := range append(rotations(r), mirrored(r)) {
			checkDiagonals(t, x)
		}
	}
	for n := 3; n <= 5; n++ {
		for _, r := range smallRooms(n) {
			checkDiagonals(t, r)
		}
	}
}

// partAt takes the part of a room from corner i to k from the list of its rotations.
func partAt(r impl.Room, i int, k int) impl.Room {
	n := len(r.Corners)
	return impl.Room{Corners: rotations(r)[i].Corners[:(k-i+n)%n+1]}
}

// checkCut reports whether there is such a cut, and whether it is a diagonal.
func checkCut(t *testing.T, r impl.Room, i int, k int) (bool, bool) {
	t.Helper()
	a, b, ok := impl.CutRoom(r, i, k)
	var first, second impl.Room
	isDiagonal := isCut(r, i, k)
	if isDiagonal && isRoom(partAt(r, i, k).Corners) && isRoom(partAt(r, k, i).Corners) {
		first, second = partAt(r, i, k), partAt(r, k, i)
	}
	if ok != (len(first.Corners) > 0) || !slices.Equal(a.Corners, first.Corners) || !slices.Equal(b.Corners, second.Corners) {
		t.Fatalf("CutRoom(%v, %d, %d) = %v, %v, %v; want %v, %v", r, i, k, a, b, ok, first, second)
	}
	return ok, isDiagonal
}

func TestCutRoom(t *testing.T) {
	bent := room(0, 0, 6, 0, 6, 2, 2, 2, 2, 6, 0, 6)
	for _, c := range []struct {
		name   string
		r      impl.Room
		i, k   int
		first  impl.Room
		second impl.Room
	}{
		{"a square", room(0, 0, 4, 0, 4, 4, 0, 4), 0, 2, room(0, 0, 4, 0, 4, 4), room(4, 4, 0, 4, 0, 0)},
		{"a square, from the greater corner", room(0, 0, 4, 0, 4, 4, 0, 4), 2, 0, room(4, 4, 0, 4, 0, 0), room(0, 0, 4, 0, 4, 4)},
		{"a square, over its last corner", room(0, 0, 4, 0, 4, 4, 0, 4), 3, 1, room(0, 4, 0, 0, 4, 0), room(4, 0, 4, 4, 0, 4)},
		{"a bent room", bent, 0, 3, room(0, 0, 6, 0, 6, 2, 2, 2), room(2, 2, 2, 6, 0, 6, 0, 0)},
		{"a bent room, from the greater corner", bent, 3, 0, room(2, 2, 2, 6, 0, 6, 0, 0), room(0, 0, 6, 0, 6, 2, 2, 2)},
		{"a bent room, to the last corner", bent, 3, 5, room(2, 2, 2, 6, 0, 6), room(0, 6, 0, 0, 6, 0, 6, 2, 2, 2)},
		{"a bent room, from the last corner", bent, 5, 3, room(0, 6, 0, 0, 6, 0, 6, 2, 2, 2), room(2, 2, 2, 6, 0, 6)},
		{"across a gap", horns(), 7, 5, room(0, 5, 0, 0, 9, 0, 9, 5, 6, 5, 6, 2, 3, 2), room(3, 2, 3, 5, 0, 5)},
		// No diagonals.
		{"neighbors", bent, 0, 1, impl.Room{}, impl.Room{}},
		{"the last and the first one", bent, 5, 0, impl.Room{}, impl.Room{}},
		{"the same corner", bent, 3, 3, impl.Room{}, impl.Room{}},
		{"outside", bent, 2, 4, impl.Room{}, impl.Room{}},
		{"through walls", bent, 2, 5, impl.Room{}, impl.Room{}},
		{"a triangle", room(0, 0, 4, 0, 0, 4), 0, 2, impl.Room{}, impl.Room{}},
		{"through other corners", bump(), 2, 6, impl.Room{}, impl.Room{}},
		// Diagonals that leave three corners on one line: in one part, in the other one, and in both.
		{"on along a wall", lean(), 3, 6, impl.Room{}, impl.Room{}},
		{"on along a wall, from the greater corner", lean(), 6, 3, impl.Room{}, impl.Room{}},
		{"up to a wall and along it", room(4, 2, 2, 3, 3, 2, 0, 3, 5, 0), 2, 4, impl.Room{}, impl.Room{}},
		{"between two walls on one line", bump(), 3, 5, impl.Room{}, impl.Room{}},
	} {
		a, b, ok := impl.CutRoom(c.r, c.i, c.k)
		if !slices.Equal(a.Corners, c.first.Corners) || !slices.Equal(b.Corners, c.second.Corners) || ok != (len(c.first.Corners) > 0) {
			t.Errorf("%s: CutRoom(%v, %d, %d) = %v, %v, %v", c.name, c.r, c.i, c.k, a, b, ok)
		}
	}
	for _, pair := range [][2]int{{3, 6}, {6, 3}} {
		if !impl.IsDiagonal(lean(), pair[0], pair[1]) {
			t.Errorf("%v is no diagonal of %v", pair, lean())
		}
	}
}

// Promise 9: a diagonal cuts a room into two whose areas are the whole.
func TestCutRoomMany(t *testing.T) {
	cuts, straight := 0, 0
	rooms := append(cutRooms(), movedRooms(16, 100)...)
	for _, r := range append(rooms, smallRooms(5)...) {
		for i := range r.Corners {
			for k := range r.Corners {
				ok, isDiagonal := checkCut(t, r, i, k)
				a, b, _ := impl.CutRoom(r, i, k)
				switch {
				case ok:
					cuts++
					if impl.DoubleArea(a.Corners)+impl.DoubleArea(b.Corners) != impl.DoubleArea(r.Corners) || len(a.Corners)+len(b.Corners) != len(r.Corners)+2 {
						t.Fatalf("CutRoom(%v, %d, %d) = %v, %v", r, i, k, a, b)
					}
				case isDiagonal:
					straight++
				}
			}
		}
	}
	if cuts < 1000 || straight < 50 {
		t.Errorf("only %d cuts, and %d with three corners on one line", cuts, straight)
	}
}

func TestDiagonalIndex(t *testing.T) {
	for _, r := range append(goodRooms(), bump(), manyCorners(4), manyCorners(9)) {
		n := len(r.Corners)
		for _, far := range farIndexes(n) {
			if far >= 0 && far < n {
				continue
			}
			for k := -1; k <= n; k++ {
				if impl.IsDiagonal(r, far, k) || impl.IsDiagonal(r, k, far) {
					t.Errorf("IsDiagonal(%v) with %d and %d = true", r, far, k)
				}
				for _, pair := range [][2]int{{far, k}, {k, far}} {
					if a, b, ok := impl.CutRoom(r, pair[0], pair[1]); ok || len(a.Corners) != 0 || len(b.Corners) != 0 {
						t.Errorf("CutRoom(%v, %d, %d) = %v, %v, %v", r, pair[0], pair[1], a, b, ok)
					}
				}
				for _, d := range impl.DiagonalsOf(r) {
					if impl.DoDiagonalsCross(r, d, []int{far, k}) || impl.DoDiagonalsCross(r, d, []int{k, far}) || impl.DoDiagonalsCross(r, []int{far, k}, d) || impl.DoDiagonalsCross(r, []int{k, far}, d) {
						t.Errorf("DoDiagonalsCross(%v) with %v and %d, %d = true", r, d, far, k)
					}
				}
			}
		}
	}
}

func checkCrossing(t *testing.T, r impl.Room, a []int, b []int, want bool) {
	t.Helper()
	for _, first := range [][]int{a, {a[1], a[0]}} {
		for _, second := range [][]int{b, {b[1], b[0]}} {
			if impl.DoDiagonalsCross(r, first, second) != want || impl.DoDiagonalsCross(r, second, first) != want {
				t.Fatalf("DoDiagonalsCross(%v, %v, %v) is not always %v", r, first, second, want)
			}
		}
	}
}

func TestDoDiagonalsCross(t *testing.T) {
	square, six := room(0, 0, 4, 0, 4, 4, 0, 4), manyCorners(6)
	for _, c := range []struct {
		name string
		r    impl.Room
		a, b []int
		want bool
	}{
		{"a square", square, []int{0, 2}, []int{1, 3}, true},
		{"the same one", square, []int{0, 2}, []int{0, 2}, false},
		{"six corners", six, []int{0, 3}, []int{1, 4}, true},
		{"six corners, the others", six, []int{0, 3}, []int{2, 5}, true},
		{"next to each other", six, []int{1, 5}, []int{2, 4}, false},
		{"a common corner", six, []int{0, 2}, []int{0, 3}, false},
		{"the other common corner", six, []int{0, 3}, []int{1, 3}, false},
		{"one after the other", six, []int{0, 2}, []int{2, 4}, false},
		{"a bent room", room(0, 0, 6, 0, 6, 2, 2, 2, 2, 6, 0, 6), []int{0, 2}, []int{1, 3}, true},
		{"a bent room, on two sides", room(0, 0, 6, 0, 6, 2, 2, 2, 2, 6, 0, 6), []int{1, 3}, []int{3, 5}, false},
		{"on one line, with a common corner", teeth(), []int{3, 5}, []int{5, 7}, false},
		{"not both are diagonals", room(0, 0, 6, 0, 6, 2, 2, 2, 2, 6, 0, 6), []int{0, 3}, []int{1, 5}, false},
		{"not both are diagonals, outside", room(0, 0, 8, 0, 8, 6, 4, 2, 0, 6), []int{0, 2}, []int{1, 3}, false},
		{"both are none", room(0, 0, 8, 0, 8, 6, 4, 2, 0, 6), []int{0, 2}, []int{1, 4}, false},
		{"one is a wall", six, []int{0, 3}, []int{1, 2}, false},
		{"one is a corner", six, []int{0, 3}, []int{3, 3}, false},
	} {
		checkCrossing(t, c.r, c.a, c.b, c.want)
	}
	good, cross := []int{0, 3}, []int{1, 4}
	for _, bad := range [][]int{nil, {}, {1}, {4}, {1, 4, 1}, {1, 4, 4}, {1, 4, 2, 5}, {1, 1, 4}, {1, 1}, {1, 2}, {7, 10}, {-5, -2}, {1, 10}, {-5, 4}, {math.MinInt, math.MaxInt}, {1, math.MaxInt}, {math.MinInt, 4}} {
		if impl.DoDiagonalsCross(six, good, bad) || impl.DoDiagonalsCross(six, bad, good) || impl.DoDiagonalsCross(six, bad, bad) || impl.DoDiagonalsCross(six, bad, cross) {
			t.Errorf("DoDiagonalsCross with %v = true", bad)
		}
	}
}

func TestDoDiagonalsCrossMany(t *testing.T) {
	counts := map[bool]int{}
	for _, r := range append(cutRooms(), movedRooms(17, 60)...) {
		for i := range r.Corners {
			for k := range i {
				isFirst := isCut(r, i, k)
				for j := range r.Corners {
					for l := range j {
						v, w := impl.Wall{A: r.Corners[i], B: r.Corners[k]}, impl.Wall{A: r.Corners[j], B: r.Corners[l]}
						want := isFirst && meetingOf(v, w) == crossing && isCut(r, j, l)
						counts[want]++
						checkCrossing(t, r, []int{i, k}, []int{j, l}, want)
					}
				}
			}
		}
	}
	if counts[true] < 1000 {
		t.Errorf("only %d diagonals cross", counts[true])
	}
}

func TestDiagonalInvalid(t *testing.T) {
	for name, r := range badRooms() {
		n := len(r.Corners)
		if got := impl.DiagonalsOf(r); len(got) != 0 {
			t.Errorf("DiagonalsOf of %s = %v", name, got)
		}
		indexes := append(farIndexes(max(n, 1))[:7], 0, 1, 2, 3, 4, 5, math.MaxInt, math.MinInt)
		for _, i := range indexes {
			for _, k := range indexes {
				if impl.IsDiagonal(r, i, k) {
					t.Errorf("IsDiagonal of %s, %d, %d = true", name, i, k)
				}
				if a, b, ok := impl.CutRoom(r, i, k); ok || len(a.Corners) != 0 || len(b.Corners) != 0 {
					t.Errorf("CutRoom of %s, %d, %d = %v, %v, %v", name, i, k, a, b, ok)
				}
			}
		}
		if impl.DoDiagonalsCross(r, []int{0, 2}, []int{1, 3}) || impl.DoDiagonalsCross(r, []int{0, 3}, []int{1, 4}) {
			t.Errorf("DoDiagonalsCross of %s = true", name)
		}
	}
}

func TestDiagonalArguments(t *testing.T) {
	checkRoomsKept(t, func(r impl.Room) {
		impl.DiagonalsOf(r)
		for i := range min(len(r.Corners), 5) {
			for k := range min(len(r.Corners), 5) {
				impl.IsDiagonal(r, i, k)
				impl.CutRoom(r, i, k)
				impl.DoDiagonalsCross(r, []int{i, k}, []int{k, i + 1})
			}
		}
	})
	numbers := []int{0, 2, 1, 3, 7, 8}
	impl.DoDiagonalsCross(manyCorners(6), numbers[:2], numbers[2:4])
	impl.DoDiagonalsCross(manyCorners(6), numbers[:3], numbers[2:5])
	if !slices.Equal(numbers, []int{0, 2, 1, 3, 7, 8}) {
		t.Errorf("DoDiagonalsCross changes its lists: %v", numbers)
	}
}

// spoil writes over a list and what is behind it.
func spoil[E any](list []E, other E) {
	list = list[:cap(list)]
	for k := range list {
		list[k] = other
	}
}

func TestDiagonalsAreNew(t *testing.T) {
	for _, r := range cutRooms() {
		want := cutsOf(r)
		for spoiled := range want {
			got := impl.DiagonalsOf(r)
			spoil(got[spoiled], -99)
			got[spoiled] = want[spoiled]
			if !sameLists(got, want) {
				t.Fatalf("the diagonals of %v share memory: %v", r, got)
			}
		}
	}
}

func TestCutRoomIsNew(t *testing.T) {
	for _, original := range cutRooms() {
		for i := range original.Corners {
			for k := range original.Corners {
				r, all := withSpare(original)
				before := slices.Clone(all)
				a, b, _ := impl.CutRoom(r, i, k)
				first, second := slices.Clone(a.Corners), slices.Clone(b.Corners)
				spoil(a.Corners, at(99, -99))
				if !slices.Equal(b.Corners, second) || !slices.Equal(all, before) {
					t.Fatalf("CutRoom(%v, %d, %d) shares memory", original, i, k)
				}
				a, b, _ = impl.CutRoom(r, i, k)
				spoil(b.Corners, at(99, -99))
				if !slices.Equal(a.Corners, first) || !slices.Equal(all, before) {
					t.Fatalf("CutRoom(%v, %d, %d) shares memory", original, i, k)
				}
			}
		}
	}
}
