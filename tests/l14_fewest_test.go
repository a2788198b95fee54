package tests

import (
	"math"
	"math/rand"
	"slices"
	"sync"
	"testing"

	"loop.example/g00991/impl"
)

// views tell for each corner and each point of the floor whether the corner sees it.
func viewsOf(r impl.Room, floor []impl.Point) [][]bool {
	var views [][]bool
	for _, p := range r.Corners {
		var view []bool
		for _, q := range floor {
			view = append(view, doSee(r, p, q))
		}
		views = append(views, view)
	}
	return views
}

func doWatch(views [][]bool, corners []int) bool {
	for at := range views[0] {
		if !slices.ContainsFunc(corners, func(k int) bool { return k >= 0 && k < len(views) && views[k][at] }) {
			return false
		}
	}
	return !slices.ContainsFunc(corners, func(k int) bool { return k < 0 || k >= len(views) })
}

// fewestOf compares all sets of corners that see all; it also returns how many of them are as short as the first one.
func fewestOf(views [][]bool) ([]int, int) {
	var best []int
	count := 0
	for set := 1; set < 1<<len(views); set++ {
		var list []int
		for k := range views {
			if set>>k&1 == 1 {
				list = append(list, k)
			}
		}
		if !doWatch(views, list) {
			continue
		}
		switch {
		case best == nil || len(list) < len(best):
			best, count = list, 1
		case len(list) == len(best):
			count++
			if slices.Compare(list, best) < 0 {
				best = list
			}
		}
	}
	return best, count
}

// threeTeeth needs three guards, at the corners 0, 3 and 6 and nowhere before.
func threeTeeth() impl.Room {
	return room(0, -1, 1, 7, 3, -3, 3, 4, 8, -6, 6, 7, 2, 4, 3, 9, 2, 7, 1, 9)
}

func TestFewestCorners(t *testing.T) {
	for _, c := range []struct {
		name string
		r    impl.Room
		want []int
	}{
		{"a triangle", room(0, 0, 4, 0, 0, 4), []int{0}},
		{"a square", room(0, 0, 4, 0, 4, 4, 0, 4), []int{0}},
		{"ten corners that stick out", manyCorners(10), []int{0}},
		{"an arrow", room(0, 0, 5, 1, 1, 1, 1, 5), []int{0}},
		{"an arrow from another corner", room(5, 1, 1, 1, 1, 5, 0, 0), []int{1}},
		{"a notch", room(0, 0, 8, 0, 8, 6, 4, 2, 0, 6), []int{3}},
		{"a bent room", room(0, 0, 6, 0, 6, 2, 2, 2, 2, 6, 0, 6), []int{0}},
		{"a bent room from another corner", room(6, 0, 6, 2, 2, 2, 2, 6, 0, 6, 0, 0), []int{2}},
		{"a star", star(), []int{1}},
		{"a gap", horns(), []int{0, 1}},
		{"a gap from another corner", room(9, 5, 6, 5, 6, 2, 3, 2, 3, 5, 0, 5, 0, 0, 9, 0), []int{0, 3}},
		{"a maze", maze(), []int{1, 3}},
		{"a comb", comb(), []int{0, 1, 4}},
		{"teeth to both sides", threeTeeth(), []int{0, 3, 6}},
	} {
		if got := impl.FewestCorners(c.r); !slices.Equal(got, c.want) {
			t.Errorf("%s: FewestCorners(%v) = %v; want %v", c.name, c.r, got, c.want)
		}
		if got := impl.CountGuards(c.r); got != len(c.want) {
			t.Errorf("%s: CountGuards(%v) = %d", c.name, c.r, got)
		}
	}
}

// Promise 14: the fewest guards at corners are at most a third.
func TestFewestCornersMany(t *testing.T) {
	needed, several := map[int]int{}, 0
	for _, r := range append(guardRooms(28, 120), threeTeeth()) {
		for _, x := range append(rotations(r), mirrored(r)) {
			want, count := fewestOf(viewsOf(x, smallFloorOf(x)))
			if got := impl.FewestCorners(x); !slices.Equal(got, want) || !impl.SeesAll(x, impl.PointsOf(x, got)) {
				t.Fatalf("FewestCorners(%v) = %v; want %v", x, got, want)
			}
			if got := impl.CountGuards(x); got != len(want) || got > len(x.Corners)/3 || got > len(impl.ColorGuards(x)) {
				t.Fatalf("CountGuards(%v) = %d; want %d", x, got, len(want))
			}
			needed[len(want)]++
			if count > 1 {
				several++
			}
		}
	}
	if needed[1] < 50 || needed[2] < 50 || needed[3] < 5 || several < 50 {
		t.Errorf("too few rooms need one, two or three guards, or have several lists: %v, %d", needed, several)
	}
}

func TestSeenMask(t *testing.T) {
	bent := room(0, 0, 2, 0, 2, 1, 1, 1, 1, 2, 0, 2)
	for k, want := range [][]bool{
		{true, true, true, true, true, true, true, true},
		{true, true, true, true, true, true, true, false},
		{true, true, true, true, true, true, false, false},
		{true, true, true, true, true, true, true, true},
		{true, true, false, true, true, false, true, true},
		{true, true, true, true, true, false, true, true},
	} {
		if got := impl.SeenMask(bent, k); !slices.Equal(got, want) {
			t.Errorf("SeenMask(%v, %d) = %v; want %v", bent, k, got, want)
		}
	}
	for _, r := range guardRooms(29, 100) {
		for k, want := range viewsOf(r, smallFloorOf(r)) {
			if got := impl.SeenMask(r, k); !slices.Equal(got, want) {
				t.Fatalf("SeenMask(%v, %d) = %v; want %v", r, k, got, want)
			}
		}
	}
	large := room(-40, -40, 40, -40, 40, 40, -40, 40)
	if got := impl.SeenMask(large, 3); len(got) != 81*81 || slices.Contains(got, false) {
		t.Errorf("SeenMask of a large room has %d points", len(got))
	}
}

func TestSeenMaskIndex(t *testing.T) {
	for _, r := range append(goodRooms(), bump()) {
		for _, k := range farIndexes(len(r.Corners)) {
			if k >= 0 && k < len(r.Corners) {
				continue
			}
			if got := impl.SeenMask(r, k); len(got) != 0 {
				t.Errorf("SeenMask(%v, %d) = %v", r, k, got)
			}
		}
	}
}

func TestOneGuard(t *testing.T) {
	for _, c := range []struct {
		name string
		r    impl.Room
		want []impl.Point
	}{
		{"a triangle", room(0, 0, 2, 1, 1, 2), room(0, 0, 1, 1, 2, 1, 1, 2).Corners},
		{"an arrow", room(0, 0, 5, 1, 1, 1, 1, 5), []impl.Point{at(0, 0), at(1, 1)}},
		{"a small bent room", room(0, 0, 2, 0, 2, 1, 1, 1, 1, 2, 0, 2), []impl.Point{at(0, 0), at(1, 0), at(0, 1), at(1, 1)}},
		{"a notch", room(0, 0, 4, 0, 4, 3, 2, 1, 0, 3), []impl.Point{at(1, 0), at(2, 0), at(3, 0), at(2, 1)}},
		// No single point sees all.
		{"a gap", horns(), nil},
		{"a maze", maze(), nil},
		{"a comb", comb(), nil},
		{"points see all, but no whole ones", room(0, 4, 0, 0, 5, 0, 3, 1, 1, 3, 4, 5), nil},
	} {
		if got := impl.OneGuard(c.r); !slices.Equal(got, c.want) {
			t.Errorf("%s: OneGuard(%v) = %v; want %v", c.name, c.r, got, c.want)
		}
	}
	for _, r := range []impl.Room{manyCorners(10), room(-40, -40, 40, -40, 40, 40, -40, 40), room(0, 0, 1, 0, 0, 1)} {
		if got := impl.OneGuard(r); !slices.Equal(got, impl.FloorPoints(r)) {
			t.Errorf("OneGuard(%v) has %d points", r, len(got))
		}
	}
}

func partOf(list []impl.Point, floor []impl.Point) string {
	switch len(list) {
	case 0:
		return "none"
	case len(floor):
		return "all"
	}
	return "some"
}

// All sights between the points of the floor are looked at; the program looks at those to the corners.
func TestOneGuardMany(t *testing.T) {
	counts := map[string]int{}
	for _, r := range append(guardRooms(30, 120), threeTeeth()) {
		floor := smallFloorOf(r)
		var want []impl.Point
		for _, p := range floor {
			if !slices.ContainsFunc(floor, func(q impl.Point) bool { return !doSee(r, p, q) }) {
				want = append(want, p)
			}
		}
		if got := impl.OneGuard(r); !slices.Equal(got, want) {
			t.Fatalf("OneGuard(%v) = %v; want %v", r, got, want)
		}
		counts[partOf(want, floor)]++
	}
	if counts["none"] < 10 || counts["some"] < 10 || counts["all"] < 10 {
		t.Errorf("too few rooms have no such point, some of them, or all: %v", counts)
	}
}

func TestIsNeeded(t *testing.T) {
	square, gap := room(0, 0, 4, 0, 4, 4, 0, 4), horns()
	for _, c := range []struct {
		name   string
		r      impl.Room
		guards []int
		k      int
		want   bool
	}{
		{"the only one", square, []int{2}, 0, true},
		{"one of two", square, []int{0, 1}, 0, false},
		{"the other one of two", square, []int{0, 1}, 1, false},
		{"the same corner twice", square, []int{1, 1}, 0, false},
		{"the same corner twice, the other one", square, []int{1, 1}, 1, false},
		{"both", gap, []int{0, 1}, 0, true},
		{"both, the other one", gap, []int{0, 1}, 1, true},
		{"both, in the other order", gap, []int{1, 0}, 1, true},
		{"one is twice there", gap, []int{0, 1, 0}, 0, false},
		{"one is twice there, the last one", gap, []int{0, 1, 0}, 2, false},
		{"one is twice there, the other one", gap, []int{0, 1, 0}, 1, true},
		{"one of three sees nothing else", gap, []int{0, 2, 1}, 1, false},
		{"one of three sees what nobody else sees", gap, []int{3, 2, 0}, 2, true},
		{"k is a corner, but no place in the list", gap, []int{4, 5}, 4, false},
		{"not all is seen", gap, []int{0}, 0, false},
		{"not all is seen by two", gap, []int{0, 7}, 0, false},
		{"not all is seen by the same twice", gap, []int{1, 1}, 1, false},
		{"no guards", square, nil, 0, false},
		{"no guards, but a list", square, []int{}, 0, false},
		{"past the end", square, []int{2}, 1, false},
		{"below 0", square, []int{2}, -1, false},
		{"past the end of two", gap, []int{0, 1}, 2, false},
		{"below 0 of two", gap, []int{0, 1}, -1, false},
		{"the greatest int", gap, []int{0, 1}, math.MaxInt, false},
		{"the least int", gap, []int{0, 1}, math.MinInt, false},
		{"a guard is no corner", square, []int{2, 4}, 0, false},
		{"a guard is no corner, the other one", square, []int{2, 4}, 1, false},
		{"a guard is below 0", square, []int{-1, 2}, 1, false},
		{"a guard is below 0, alone", square, []int{-1}, 0, false},
		{"a guard is the greatest int", square, []int{2, math.MaxInt}, 0, false},
		{"a guard is the least int", square, []int{math.MinInt, 2}, 1, false},
	} {
		if got := impl.IsNeeded(c.r, c.guards, c.k); got != c.want {
			t.Errorf("%s: IsNeeded(%v, %v, %d) = %v", c.name, c.r, c.guards, c.k, got)
		}
	}
	for k := range 3 {
		if !impl.IsNeeded(comb(), impl.FewestCorners(comb()), k) {
			t.Errorf("the guard %d of a comb is not needed", k)
		}
	}
}

func TestIsNeededMany(t *testing.T) {
	source := rand.New(rand.NewSource(31))
	counts := map[bool]int{}
	for _, r := range append(guardRooms(31, 100), threeTeeth()) {
		views := viewsOf(r, smallFloorOf(r))
		for number := range 40 {
			var guards []int
			for range number % 6 {
				guards = append(guards, source.Intn(len(r.Corners)))
			}
			if number == 39 {
				guards = append(guards, -1+source.Intn(2)*(len(r.Corners)+1))
			}
			for k := -1; k <= len(guards); k++ {
				want := k >= 0 && k < len(guards) && doWatch(views, guards) && !doWatch(views, slices.Delete(slices.Clone(guards), k, k+1))
				counts[want]++
				if got := impl.IsNeeded(r, guards, k); got != want {
					t.Fatalf("IsNeeded(%v, %v, %d) = %v", r, guards, k, got)
				}
			}
		}
	}
	if counts[true] < 500 || counts[false] < 500 {
		t.Errorf("too few guards are needed or too many: %v", counts)
	}
}

func TestFewestInvalid(t *testing.T) {
	for name, r := range badRooms() {
		for _, k := range append(farIndexes(max(len(r.Corners), 1))[:7], 0, 1, 2, 3, math.MaxInt, math.MinInt) {
			if got := impl.SeenMask(r, k); len(got) != 0 {
				t.Errorf("SeenMask of %s, %d = %v", name, k, got)
			}
			if impl.IsNeeded(r, []int{0}, k) || impl.IsNeeded(r, []int{0, 1, 2}, k) || impl.IsNeeded(r, nil, k) {
				t.Errorf("IsNeeded of %s, %d = true", name, k)
			}
		}
		if len(impl.FewestCorners(r)) != 0 || impl.CountGuards(r) != 0 || len(impl.OneGuard(r)) != 0 {
			t.Errorf("%s needs %v, %d, and one at %v", name, impl.FewestCorners(r), impl.CountGuards(r), impl.OneGuard(r))
		}
	}
}

// The result is the same in each of many calls at the same time.
func TestFewestCornersAtOnce(t *testing.T) {
	var calls sync.WaitGroup
	results := make([][]int, 200)
	rooms := []impl.Room{comb(), horns(), threeTeeth(), manyCorners(10)}
	for i := range results {
		calls.Go(func() { results[i] = impl.FewestCorners(rooms[i%len(rooms)]) })
	}
	calls.Wait()
	for i, got := range results {
		if want := results[i%len(rooms)]; !slices.Equal(got, want) {
			t.Fatalf("FewestCorners(%v) = %v, and then %v", rooms[i%len(rooms)], want, got)
		}
	}
}

func TestFewestArguments(t *testing.T) {
	guards := []int{0, 1, 2, 77, 78}
	checkRoomsKept(t, func(r impl.Room) {
		impl.SeenMask(r, 0)
		impl.FewestCorners(r)
		impl.CountGuards(r)
		impl.OneGuard(r)
		for k := -1; k < 4; k++ {
			impl.IsNeeded(r, guards[:3], k)
		}
	})
	if !slices.Equal(guards, []int{0, 1, 2, 77, 78}) {
		t.Errorf("IsNeeded changes its list: %v", guards)
	}
	checkNew(t, true, func(r impl.Room) []bool { return impl.SeenMask(r, 1) })
	checkNew(t, -99, impl.FewestCorners)
	checkNew(t, at(99, -99), impl.OneGuard)
}
