package tests

import (
	"math"
	"slices"
	"testing"

	"loop.example/g00991/impl"
)

// besideOf counts the numbers that both triangles have; list is what dividedBy returns.
func besideOf(list []impl.Triangle, k int) []int {
	var beside []int
	for other, t := range list {
		numbers := []int{t.A, t.B, t.C, list[k].A, list[k].B, list[k].C}
		slices.Sort(numbers)
		if len(slices.Compact(numbers)) == 4 {
			beside = append(beside, other)
		}
	}
	return beside
}

// wayOf takes away triangles with one neighbor that are no ends of the way, until none is left; the program goes from neighbor to neighbor.
func wayOf(list []impl.Triangle, a int, b int) []int {
	left := map[int][]int{}
	for k := range list {
		left[k] = besideOf(list, k)
	}
	for range list {
		for k := range list {
			if len(left[k]) == 1 && k != a && k != b {
				only := left[k][0]
				left[k] = nil
				left[only] = slices.DeleteFunc(slices.Clone(left[only]), func(i int) bool { return i == k })
			}
		}
	}
	way := []int{a}
	for a != b {
		a = left[a][slices.IndexFunc(left[a], func(k int) bool { return !slices.Contains(way, k) })]
		way = append(way, a)
	}
	return way
}

func checkTree(t *testing.T, r impl.Room) {
	t.Helper()
	list := dividedBy(r)
	var edges [][]int
	var leaves []int
	for k := range list {
		beside := besideOf(list, k)
		if got := impl.NeighborsOf(r, k); !slices.Equal(got, beside) {
			t.Fatalf("NeighborsOf(%v, %d) = %v; want %v", r, k, got, beside)
		}
		for _, other := range beside {
			if k < other {
				edges = append(edges, []int{k, other})
			}
		}
		if len(beside) == 1 {
			leaves = append(leaves, k)
		}
		for b := range list {
			if got, want := impl.TreeWay(r, k, b), wayOf(list, k, b); !slices.Equal(got, want) {
				t.Fatalf("TreeWay(%v, %d, %d) = %v; want %v", r, k, b, got, want)
			}
		}
	}
	if got := impl.TreeEdges(r); !sameLists(got, edges) {
		t.Fatalf("TreeEdges(%v) = %v; want %v", r, got, edges)
	}
	if got := impl.LeafTriangles(r); !slices.Equal(got, leaves) {
		t.Fatalf("LeafTriangles(%v) = %v; want %v", r, got, leaves)
	}
}

func TestTree(t *testing.T) {
	for _, c := range []struct {
		name   string
		r      impl.Room
		edges  [][]int
		leaves []int
	}{
		{"one triangle", room(0, 0, 4, 0, 0, 4), nil, nil},
		{"one triangle, at the limits", room(-40, -40, 40, 39, 39, 39), nil, nil},
		{"two triangles", room(0, 0, 4, 0, 4, 4, 0, 4), [][]int{{0, 1}}, []int{0, 1}},
		{"two triangles of an arrow", room(0, 0, 5, 1, 1, 1, 1, 5), [][]int{{0, 1}}, []int{0, 1}},
		{"a bent room", room(0, 0, 6, 0, 6, 2, 2, 2, 2, 6, 0, 6), [][]int{{0, 1}, {1, 2}, {2, 3}}, []int{0, 3}},
		{"one with three neighbors", peaks(), [][]int{{0, 1}, {1, 3}, {2, 3}, {3, 4}}, []int{0, 2, 4}},
		{"two with three neighbors", threeTeeth(), [][]int{{0, 1}, {1, 5}, {2, 3}, {3, 4}, {4, 5}, {5, 7}, {6, 7}}, []int{0, 2, 6}},
		{"a way that is in no order", maze(), [][]int{{0, 7}, {1, 2}, {2, 3}, {3, 4}, {4, 5}, {5, 6}, {6, 7}}, []int{0, 1}},
		{"ten corners", manyCorners(10), [][]int{{0, 1}, {1, 2}, {2, 3}, {3, 4}, {4, 5}, {5, 6}, {6, 7}}, []int{0, 7}},
	} {
		if got := impl.TreeEdges(c.r); !sameLists(got, c.edges) {
			t.Errorf("%s: TreeEdges(%v) = %v; want %v", c.name, c.r, got, c.edges)
		}
		if got := impl.LeafTriangles(c.r); !slices.Equal(got, c.leaves) {
			t.Errorf("%s: LeafTriangles(%v) = %v; want %v", c.name, c.r, got, c.leaves)
		}
		for k := range len(c.r.Corners) - 2 {
			var want []int
			for _, edge := range c.edges {
				switch k {
				case edge[0]:
					want = append(want, edge[1])
				case edge[1]:
					want = append(want, edge[0])
				}
			}
			if got := impl.NeighborsOf(c.r, k); !slices.Equal(got, want) {
				t.Errorf("%s: NeighborsOf(%v, %d) = %v; want %v", c.name, c.r, k, got, want)
			}
		}
	}
}

func TestTreeWay(t *testing.T) {
	for _, c := range []struct {
		name string
		r    impl.Room
		a, b int
		want []int
	}{
		{"the only triangle", room(0, 0, 4, 0, 0, 4), 0, 0, []int{0}},
		{"from a triangle to itself", threeTeeth(), 5, 5, []int{5}},
		{"from a leaf to itself", threeTeeth(), 6, 6, []int{6}},
		{"to the next one", room(0, 0, 4, 0, 4, 4, 0, 4), 0, 1, []int{0, 1}},
		{"to the one before", room(0, 0, 4, 0, 4, 4, 0, 4), 1, 0, []int{1, 0}},
		{"past one with three neighbors", peaks(), 0, 2, []int{0, 1, 3, 2}},
		{"past one with three neighbors, to its third one", peaks(), 2, 4, []int{2, 3, 4}},
		{"to one with three neighbors", peaks(), 4, 3, []int{4, 3}},
		{"from leaf to leaf", threeTeeth(), 0, 2, []int{0, 1, 5, 4, 3, 2}},
		{"from leaf to leaf, another one", threeTeeth(), 6, 0, []int{6, 7, 5, 1, 0}},
		{"all of a maze", maze(), 0, 1, []int{0, 7, 6, 5, 4, 3, 2, 1}},
		{"a piece of a maze", maze(), 3, 7, []int{3, 4, 5, 6, 7}},
		{"all of ten corners", manyCorners(10), 7, 0, []int{7, 6, 5, 4, 3, 2, 1, 0}},
	} {
		if got := impl.TreeWay(c.r, c.a, c.b); !slices.Equal(got, c.want) {
			t.Errorf("%s: TreeWay(%v, %d, %d) = %v; want %v", c.name, c.r, c.a, c.b, got, c.want)
		}
	}
}

// Promise 20: triangles are a tree: they have one edge less than there are triangles, and there is a way between any two.
func TestTreeMany(t *testing.T) {
	degrees := map[int]int{}
	rooms := append(cutRooms(), movedRooms(51, 150)...)
	rooms = append(rooms, peaks(), threeTeeth(), maze())
	for _, r := range append(rooms, smallRooms(5)...) {
		for _, x := range []impl.Room{r, rotations(r)[1], rotations(r)[2]} {
			checkTree(t, x)
			edges, n := impl.TreeEdges(x), len(impl.TrianglesOf(x))
			if len(edges) != n-1 || n != len(x.Corners)-2 {
				t.Fatalf("%v has %d triangles and %d edges", x, n, len(edges))
			}
			for a := range n {
				degrees[len(impl.NeighborsOf(x, a))]++
				for b := range n {
					checkWay(t, x, edges, a, b)
				}
			}
		}
	}
	for degree := range 4 {
		if degrees[degree] < 20 {
			t.Errorf("only %d triangles have %d neighbors", degrees[degree], degree)
		}
	}
}

// checkWay looks at each step of a way, and at the way back.
func checkWay(t *testing.T, r impl.Room, edges [][]int, a int, b int) {
	t.Helper()
	way := impl.TreeWay(r, a, b)
	sorted := slices.Sorted(slices.Values(way))
	if len(way) == 0 || way[0] != a || way[len(way)-1] != b || len(slices.Compact(sorted)) != len(way) {
		t.Fatalf("TreeWay(%v, %d, %d) = %v", r, a, b, way)
	}
	for k := 1; k < len(way); k++ {
		step := []int{min(way[k-1], way[k]), max(way[k-1], way[k])}
		if !slices.ContainsFunc(edges, func(edge []int) bool { return slices.Equal(edge, step) }) {
			t.Fatalf("TreeWay(%v, %d, %d) = %v goes along %v", r, a, b, way, step)
		}
	}
	back := impl.TreeWay(r, b, a)
	slices.Reverse(back)
	if !slices.Equal(back, way) {
		t.Fatalf("TreeWay(%v, %d, %d) = %v, and back %v", r, a, b, way, back)
	}
}

func TestWalkBetween(t *testing.T) {
	square, bent := room(0, 0, 4, 0, 4, 4, 0, 4), room(0, 0, 6, 0, 6, 2, 2, 2, 2, 6, 0, 6)
	for _, c := range []struct {
		name string
		r    impl.Room
		p, q impl.Point
		want []int
	}{
		{"in one triangle", room(0, 0, 4, 0, 0, 4), at(1, 1), at(2, 1), []int{0}},
		{"to the same point", room(0, 0, 4, 0, 0, 4), at(1, 1), at(1, 1), []int{0}},
		{"across the common side", square, at(1, 1), at(3, 3), []int{0, 1}},
		{"back across the common side", square, at(3, 3), at(1, 1), []int{1, 0}},
		{"on the common side", square, at(1, 3), at(3, 1), []int{0}},
		{"from the common side", square, at(2, 2), at(3, 3), []int{0, 1}},
		{"to the common side", square, at(3, 3), at(2, 2), []int{1, 0}},
		{"in the second triangle", square, at(3, 3), at(4, 4), []int{1}},
		{"from a corner of one to a corner of both", square, at(4, 4), at(4, 0), []int{1, 0}},
		{"from end to end of a bent room", bent, at(6, 1), at(1, 6), []int{0, 1, 2, 3}},
		{"and back", bent, at(1, 6), at(6, 1), []int{3, 2, 1, 0}},
		{"between two in the middle", bent, at(1, 1), at(1, 2), []int{1, 2}},
		{"from a point outside", square, at(9, 9), at(3, 3), nil},
		{"to a point outside", square, at(3, 3), at(9, 9), nil},
		{"both outside", square, at(9, 9), at(9, 9), nil},
		{"outside, in the box", bent, at(4, 4), at(1, 1), nil},
		{"to outside, in the box", bent, at(1, 1), at(3, 3), nil},
		{"outside by one", square, at(-1, 2), at(1, 1), nil},
	} {
		if got := impl.WalkBetween(c.r, c.p, c.q); !slices.Equal(got, c.want) {
			t.Errorf("%s: WalkBetween(%v, %v, %v) = %v; want %v", c.name, c.r, c.p, c.q, got, c.want)
		}
	}
}

func TestWalkBetweenMany(t *testing.T) {
	lengths := map[int]int{}
	for _, r := range guardRooms(52, 60) {
		list := dividedBy(r)
		points := pointsAround(r)
		triangleOf := func(p impl.Point) int {
			return slices.IndexFunc(list, func(t impl.Triangle) bool { return placed(cornersOf(r, t), 1, p) != impl.InOutside })
		}
		for k, p := range points {
			q := points[(k*31+17)%len(points)]
			var want []int
			if a, b := triangleOf(p), triangleOf(q); a >= 0 && b >= 0 {
				want = wayOf(list, a, b)
			}
			if got := impl.WalkBetween(r, p, q); !slices.Equal(got, want) {
				t.Fatalf("WalkBetween(%v, %v, %v) = %v; want %v", r, p, q, got, want)
			}
			lengths[len(want)]++
		}
	}
	for n := range 7 {
		if lengths[n] < 20 {
			t.Errorf("only %d walks have %d triangles", lengths[n], n)
		}
	}
}

func TestTreeIndex(t *testing.T) {
	for _, r := range append(goodRooms(), peaks(), manyCorners(9)) {
		n := len(r.Corners) - 2
		for _, far := range farIndexes(n) {
			if far >= 0 && far < n {
				continue
			}
			if got := impl.NeighborsOf(r, far); len(got) != 0 {
				t.Errorf("NeighborsOf(%v, %d) = %v", r, far, got)
			}
			for k := range n {
				if a, b := impl.TreeWay(r, far, k), impl.TreeWay(r, k, far); len(a) != 0 || len(b) != 0 {
					t.Errorf("TreeWay(%v) between %d and %d = %v, %v", r, far, k, a, b)
				}
			}
			if got := impl.TreeWay(r, far, far); len(got) != 0 {
				t.Errorf("TreeWay(%v, %d, %d) = %v", r, far, far, got)
			}
		}
	}
}

func TestTreeInvalid(t *testing.T) {
	for name, r := range badRooms() {
		for _, k := range []int{0, 1, -1, 2, math.MaxInt, math.MinInt} {
			if got := impl.NeighborsOf(r, k); len(got) != 0 {
				t.Errorf("%s: NeighborsOf(%d) = %v", name, k, got)
			}
			if got := impl.TreeWay(r, 0, k); len(got) != 0 {
				t.Errorf("%s: TreeWay(0, %d) = %v", name, k, got)
			}
			if got := impl.TreeWay(r, k, k); len(got) != 0 {
				t.Errorf("%s: TreeWay(%d, %d) = %v", name, k, k, got)
			}
		}
		if edges, leaves := impl.TreeEdges(r), impl.LeafTriangles(r); len(edges) != 0 || len(leaves) != 0 {
			t.Errorf("%s: TreeEdges = %v, LeafTriangles = %v", name, edges, leaves)
		}
		for _, p := range badPlaces(r) {
			if got := impl.WalkBetween(r, p, p); len(got) != 0 {
				t.Errorf("%s: WalkBetween(%v) = %v", name, p, got)
			}
		}
	}
	for _, r := range goodRooms() {
		for _, p := range badPoints() {
			if a, b := impl.WalkBetween(r, p, r.Corners[0]), impl.WalkBetween(r, r.Corners[0], p); len(a) != 0 || len(b) != 0 {
				t.Errorf("WalkBetween(%v) with %v = %v, %v", r, p, a, b)
			}
		}
	}
}

func TestTreeArguments(t *testing.T) {
	checkRoomsKept(t, func(r impl.Room) {
		impl.NeighborsOf(r, 0)
		impl.TreeEdges(r)
		impl.TreeWay(r, 0, 1)
		impl.LeafTriangles(r)
		impl.WalkBetween(r, impl.CornerAt(r, 0), impl.CornerAt(r, 2))
	})
	checkNew(t, -99, func(r impl.Room) []int { return impl.NeighborsOf(r, 0) })
	checkNew(t, -99, func(r impl.Room) []int { return impl.TreeWay(r, 0, len(r.Corners)-3) })
	checkNew(t, -99, impl.LeafTriangles)
	checkNew(t, -99, func(r impl.Room) []int { return impl.WalkBetween(r, impl.CornerAt(r, 0), impl.CornerAt(r, 2)) })
	for _, r := range cutRooms() {
		checkListsNew(t, func() [][]int { return impl.TreeEdges(r) })
	}
}
