package tests

import (
	"math"
	"math/rand"
	"slices"
	"testing"

	"loop.example/g00991/impl"
)

// arePlanned compares all cuts with each other; the program compares each one with those before.
func arePlanned(r impl.Room, cuts [][]int) bool {
	for i, a := range cuts {
		if len(a) != 2 || a[0] >= a[1] || !isCut(r, a[0], a[1]) {
			return false
		}
		for k, b := range cuts[:i] {
			if slices.Equal(a, b) {
				return false
			}
			if meetingOf(cutAsWall(r, a), cutAsWall(r, cuts[k])) == crossing {
				return false
			}
		}
	}
	return len(cuts) <= 7
}

func cutAsWall(r impl.Room, cut []int) impl.Wall {
	return impl.Wall{A: r.Corners[cut[0]], B: r.Corners[cut[1]]}
}

// partsAlong goes around each part, with the part to the left: along a wall or a cut to its end, and on along the leftmost one from there. The program cuts lists.
func partsAlong(n int, cuts [][]int) [][]int {
	ways := map[[2]int]bool{}
	for k := range n {
		ways[[2]int{k, (k + 1) % n}] = true
	}
	for _, cut := range cuts {
		ways[[2]int{cut[0], cut[1]}], ways[[2]int{cut[1], cut[0]}] = true, true
	}
	var parts [][]int
	passed := map[[2]int]bool{}
	for way := range ways {
		var part []int
		for ; !passed[way]; way = leftmostBehind(n, ways, way) {
			passed[way] = true
			part = append(part, way[0])
		}
		if len(part) > 0 {
			slices.Sort(part)
			parts = append(parts, part)
		}
	}
	slices.SortFunc(parts, slices.Compare)
	return parts
}

// leftmostBehind looks at the corners before the beginning of a way, going backwards from there to its end.
func leftmostBehind(n int, ways map[[2]int]bool, way [2]int) [2]int {
	to := (way[0] + n - 1) % n
	for !ways[[2]int{way[1], to}] {
		to = (to + n - 1) % n
	}
	return [2]int{way[1], to}
}

func checkParts(t *testing.T, r impl.Room, cuts [][]int, are bool) {
	t.Helper()
	if got := impl.ArePlans(r, cuts); got != are {
		t.Fatalf("ArePlans(%v, %v) = %v", r, cuts, got)
	}
	var want [][]int
	if are {
		want = partsAlong(len(r.Corners), cuts)
	}
	if got := impl.PartsOf(r, cuts); !sameLists(got, want) {
		t.Fatalf("PartsOf(%v, %v) = %v; want %v", r, cuts, got, want)
	}
}

func TestPartsOf(t *testing.T) {
	square, bent, ten := room(0, 0, 4, 0, 4, 4, 0, 4), room(0, 0, 6, 0, 6, 2, 2, 2, 2, 6, 0, 6), manyCorners(10)
	for _, c := range []struct {
		name string
		r    impl.Room
		cuts [][]int
		want [][]int
	}{
		{"a triangle", room(0, 0, 4, 0, 0, 4), nil, [][]int{{0, 1, 2}}},
		{"no cuts", square, nil, [][]int{{0, 1, 2, 3}}},
		{"no cuts, but memory", square, [][]int{}, [][]int{{0, 1, 2, 3}}},
		{"a square", square, [][]int{{0, 2}}, [][]int{{0, 1, 2}, {0, 2, 3}}},
		{"a square, the other cut", square, [][]int{{1, 3}}, [][]int{{0, 1, 3}, {1, 2, 3}}},
		{"a bent room", bent, [][]int{{0, 3}}, [][]int{{0, 1, 2, 3}, {0, 3, 4, 5}}},
		{"a common corner", bent, [][]int{{1, 3}, {3, 5}}, [][]int{{0, 1, 3, 5}, {1, 2, 3}, {3, 4, 5}}},
		{"a common corner, in the other order", bent, [][]int{{3, 5}, {1, 3}}, [][]int{{0, 1, 3, 5}, {1, 2, 3}, {3, 4, 5}}},
		{"all from the first corner", bent, [][]int{{0, 2}, {0, 3}, {0, 4}}, [][]int{{0, 1, 2}, {0, 2, 3}, {0, 3, 4}, {0, 4, 5}}},
		{"all from the first corner, backwards", bent, [][]int{{0, 4}, {0, 3}, {0, 2}}, [][]int{{0, 1, 2}, {0, 2, 3}, {0, 3, 4}, {0, 4, 5}}},
		{"a common corner that is the greater one", ten, [][]int{{1, 9}, {3, 9}, {5, 9}}, [][]int{{0, 1, 9}, {1, 2, 3, 9}, {3, 4, 5, 9}, {5, 6, 7, 8, 9}}},
		{"one within the other", ten, [][]int{{0, 8}, {2, 6}}, [][]int{{0, 1, 2, 6, 7, 8}, {0, 8, 9}, {2, 3, 4, 5, 6}}},
		{"one beside the other", ten, [][]int{{6, 9}, {1, 5}}, [][]int{{0, 1, 5, 6, 9}, {1, 2, 3, 4, 5}, {6, 7, 8, 9}}},
		{"three around a part", ten, [][]int{{1, 4}, {4, 7}, {1, 7}}, [][]int{{0, 1, 7, 8, 9}, {1, 2, 3, 4}, {1, 4, 7}, {4, 5, 6, 7}}},
		{"seven cuts", ten, [][]int{{0, 2}, {0, 3}, {0, 4}, {0, 5}, {0, 6}, {0, 7}, {0, 8}}, [][]int{{0, 1, 2}, {0, 2, 3}, {0, 3, 4}, {0, 4, 5}, {0, 5, 6}, {0, 6, 7}, {0, 7, 8}, {0, 8, 9}}},
		{"seven cuts to and fro", ten, [][]int{{4, 6}, {1, 9}, {3, 7}, {2, 8}, {2, 9}, {3, 8}, {4, 7}}, [][]int{{0, 1, 9}, {1, 2, 9}, {2, 3, 8}, {2, 8, 9}, {3, 4, 7}, {3, 7, 8}, {4, 5, 6}, {4, 6, 7}}},
		// Three corners of a part are on one line, which is no room, but a part.
		{"on along a wall", lean(), [][]int{{3, 6}}, [][]int{{0, 1, 2, 3, 6}, {3, 4, 5, 6}}},
		{"along one line", teeth(), [][]int{{3, 5}, {5, 7}}, [][]int{{0, 1, 2, 3, 5, 7, 8}, {3, 4, 5}, {5, 6, 7}}},
	} {
		checkParts(t, c.r, c.cuts, true)
		if got := impl.PartsOf(c.r, c.cuts); !sameLists(got, c.want) {
			t.Errorf("%s: PartsOf(%v, %v) = %v; want %v", c.name, c.r, c.cuts, got, c.want)
		}
	}
}

func TestArePlans(t *testing.T) {
	square, bent, ten := room(0, 0, 4, 0, 4, 4, 0, 4), room(0, 0, 6, 0, 6, 2, 2, 2, 2, 6, 0, 6), manyCorners(10)
	seven := [][]int{{0, 2}, {0, 3}, {0, 4}, {0, 5}, {0, 6}, {0, 7}, {0, 8}}
	for name, c := range map[string]struct {
		r    impl.Room
		cuts [][]int
	}{
		"cuts that cross":               {square, [][]int{{0, 2}, {1, 3}}},
		"cuts that cross, the last two": {ten, [][]int{{0, 2}, {3, 7}, {5, 8}}},
		"cuts that cross, apart":        {ten, [][]int{{3, 7}, {0, 2}, {5, 8}}},
		"a wall":                        {bent, [][]int{{0, 1}}},
		"the last wall":                 {bent, [][]int{{0, 5}}},
		"a corner":                      {bent, [][]int{{3, 3}}},
		"outside":                       {bent, [][]int{{2, 4}}},
		"through walls":                 {bent, [][]int{{1, 5}}},
		"the second one is a wall":      {bent, [][]int{{1, 3}, {4, 5}}},
		"the wrong order":               {square, [][]int{{2, 0}}},
		"the second in the wrong order": {bent, [][]int{{0, 3}, {3, 1}}},
		"a pair twice":                  {square, [][]int{{0, 2}, {0, 2}}},
		"a pair twice, apart":           {bent, [][]int{{1, 3}, {0, 3}, {1, 3}}},
		"a pair twice, one backwards":   {bent, [][]int{{1, 3}, {3, 1}}},
		"no numbers":                    {bent, [][]int{{}}},
		"no list":                       {bent, [][]int{nil}},
		"one number":                    {bent, [][]int{{0}}},
		"three numbers":                 {bent, [][]int{{0, 3, 5}}},
		"three numbers, one twice":      {bent, [][]int{{0, 3, 3}}},
		"two cuts in one list":          {bent, [][]int{{0, 2, 0, 3}}},
		"a good one and no numbers":     {bent, [][]int{{0, 3}, {}}},
		"eight cuts, two equal":         {ten, append(slices.Clone(seven), []int{0, 8})},
		"eight cuts, two that cross":    {ten, append(slices.Clone(seven), []int{1, 3})},
		"eight cuts, the first crosses": {ten, append([][]int{{1, 9}}, seven...)},
		"a diagonal of a triangle":      {room(0, 0, 4, 0, 0, 4), [][]int{{0, 2}}},
		"many cuts":                     {ten, slices.Repeat(seven, 100)},
	} {
		if impl.ArePlans(c.r, c.cuts) || len(impl.PartsOf(c.r, c.cuts)) != 0 {
			t.Errorf("%s: ArePlans(%v, %v) = %v, PartsOf = %v", name, c.r, c.cuts, impl.ArePlans(c.r, c.cuts), impl.PartsOf(c.r, c.cuts))
		}
	}
	if !impl.ArePlans(ten, seven) {
		t.Errorf("ArePlans(%v, %v) = false", ten, seven)
	}
}

// plansOf are all lists of cuts, in ascending order, of which no two cross.
func plansOf(r impl.Room) [][][]int {
	all := cutsOf(r)
	plans := [][][]int{nil}
	for at := 0; at < len(plans); at++ {
		plan := plans[at]
		for _, cut := range all {
			if len(plan) > 0 && slices.Compare(cut, plan[len(plan)-1]) <= 0 {
				continue
			}
			if longer := append(slices.Clone(plan), cut); arePlanned(r, longer) {
				plans = append(plans, longer)
			}
		}
	}
	return plans
}

// Promise 19: with each cut there is one part more.
func TestPartsOfMany(t *testing.T) {
	source, lengths := rand.New(rand.NewSource(44)), map[int]int{}
	for _, r := range append(cutRooms(), movedRooms(45, 60)...) {
		plans := plansOf(r)
		source.Shuffle(len(plans), func(i int, k int) { plans[i], plans[k] = plans[k], plans[i] })
		for _, plan := range plans[:min(len(plans), 60)] {
			lengths[len(plan)]++
			source.Shuffle(len(plan), func(i int, k int) { plan[i], plan[k] = plan[k], plan[i] })
			checkParts(t, r, plan, true)
			area := 0
			for _, part := range impl.PartsOf(r, plan) {
				if impl.PartArea(r, part) <= 0 || len(part) < 3 {
					t.Fatalf("PartsOf(%v, %v) has the part %v with the area %d", r, plan, part, impl.PartArea(r, part))
				}
				area += impl.PartArea(r, part)
			}
			if area != impl.DoubleArea(r.Corners) {
				t.Fatalf("the parts of %v for %v have the area %d", r, plan, area)
			}
			for count := range plan {
				if len(impl.PartsOf(r, plan[:count])) != count+1 {
					t.Fatalf("PartsOf(%v, %v) = %v", r, plan[:count], impl.PartsOf(r, plan[:count]))
				}
			}
		}
	}
	for n := range 8 {
		if lengths[n] < 20 {
			t.Errorf("only %d plans have %d cuts", lengths[n], n)
		}
	}
}

func TestArePlansMany(t *testing.T) {
	source, counts := rand.New(rand.NewSource(46)), map[bool]int{}
	for _, r := range append(cutRooms(), movedRooms(47, 60)...) {
		all := cutsOf(r)
		for range 80 {
			var cuts [][]int
			for range source.Intn(6) {
				cut := []int{source.Intn(len(r.Corners)), source.Intn(len(r.Corners))}
				if len(all) > 0 && source.Intn(10) > 0 {
					cut = slices.Clone(all[source.Intn(len(all))])
				}
				cuts = append(cuts, cut)
			}
			want := arePlanned(r, cuts)
			checkParts(t, r, cuts, want)
			counts[want && len(cuts) > 1]++
		}
	}
	if counts[true] < 300 || counts[false] < 300 {
		t.Errorf("too few lists are plans, or none: %v", counts)
	}
}

func TestPartArea(t *testing.T) {
	square, bent := room(0, 0, 4, 0, 4, 4, 0, 4), room(0, 0, 6, 0, 6, 2, 2, 2, 2, 6, 0, 6)
	for _, c := range []struct {
		name string
		r    impl.Room
		part []int
		want int
	}{
		{"all of a square", square, []int{0, 1, 2, 3}, 32},
		{"half of it", square, []int{0, 1, 2}, 16},
		{"the other half", square, []int{0, 2, 3}, 16},
		{"begun elsewhere", square, []int{2, 3, 0}, 16},
		{"backwards", square, []int{3, 2, 1, 0}, -32},
		{"a part of a bent room", bent, []int{0, 1, 2, 3}, 20},
		{"the other part", bent, []int{0, 3, 4, 5}, 20},
		{"across the gap", bent, []int{2, 3, 4}, -16},
		{"a triangle that is no part", bent, []int{1, 2, 5}, 12},
		{"a triangle that is no part, two", bent, []int{0, 2, 5}, 36},
		{"an index twice in a row", square, []int{0, 1, 1, 2, 3}, 32},
		{"an index twice", square, []int{0, 1, 2, 0, 2, 3}, 32},
		{"the last index again", square, []int{0, 1, 2, 3, 0}, 32},
		{"all twice", square, []int{0, 1, 2, 3, 0, 1, 2, 3}, 64},
		{"more than ten indices", square, slices.Repeat([]int{0, 1, 2, 3}, 3), 96},
		{"many indices", square, slices.Repeat([]int{0, 1, 2, 3}, 1000), 32000},
		{"to and fro", square, []int{0, 1, 2, 3, 2, 1}, 0},
		{"no indices", square, nil, 0},
		{"no indices, but memory", square, []int{}, 0},
		{"one index", square, []int{2}, 0},
		{"two indices", square, []int{1, 2}, 0},
		{"the same index", square, []int{2, 2, 2}, 0},
		{"three on one line", lean(), []int{3, 6, 2}, 0},
		{"at the limits", room(-40, -40, 40, -40, 40, 40, -40, 40), []int{0, 1, 2, 3}, 12800},
	} {
		if got := impl.PartArea(c.r, c.part); got != c.want {
			t.Errorf("%s: PartArea(%v, %v) = %d; want %d", c.name, c.r, c.part, got, c.want)
		}
	}
}

func TestPartAreaMany(t *testing.T) {
	source := rand.New(rand.NewSource(48))
	for _, r := range append(cutRooms(), movedRooms(49, 100)...) {
		for range 20 {
			var part []int
			var corners []impl.Point
			for range source.Intn(16) {
				k := source.Intn(len(r.Corners))
				part, corners = append(part, k), append(corners, r.Corners[k])
			}
			if got := impl.PartArea(r, part); got != areaBelow(corners) {
				t.Fatalf("PartArea(%v, %v) = %d; want %d", r, part, got, areaBelow(corners))
			}
		}
	}
}

func TestPartAreaIndex(t *testing.T) {
	for _, r := range goodRooms() {
		n := len(r.Corners)
		for _, far := range farIndexes(n) {
			if far >= 0 && far < n {
				continue
			}
			for _, part := range [][]int{{far}, {far, 1, 2}, {0, far, 2}, {0, 1, far}, {0, 1, 2, far}, {far, 0, 1, 2}, {far, far, far}} {
				if got := impl.PartArea(r, part); got != 0 {
					t.Errorf("PartArea(%v, %v) = %d", r, part, got)
				}
			}
			for _, cut := range [][]int{{far, 2}, {0, far}, {far, far}, {far - 1, far + 1}} {
				checkParts(t, r, [][]int{cut}, false)
				checkParts(t, r, append(cutsOf(r)[:min(1, len(cutsOf(r)))], cut), false)
			}
		}
	}
}

// greedyOf compares each cut with those taken; a room with n corners has n - 3 of them.
func greedyOf(r impl.Room) [][]int {
	var taken [][]int
	for _, cut := range cutsOf(r) {
		if arePlanned(r, append(slices.Clone(taken), cut)) {
			taken = append(taken, cut)
		}
	}
	return taken
}

func TestGreedyCuts(t *testing.T) {
	for _, c := range []struct {
		name string
		r    impl.Room
		want [][]int
	}{
		{"a triangle", room(0, 0, 4, 0, 0, 4), nil},
		{"a square", room(0, 0, 4, 0, 4, 4, 0, 4), [][]int{{0, 2}}},
		{"an arrow", room(0, 0, 5, 1, 1, 1, 1, 5), [][]int{{0, 2}}},
		{"an arrow from the next corner", room(5, 1, 1, 1, 1, 5, 0, 0), [][]int{{1, 3}}},
		{"a notch", room(0, 0, 8, 0, 8, 6, 4, 2, 0, 6), [][]int{{0, 3}, {1, 3}}},
		{"a bent room", room(0, 0, 6, 0, 6, 2, 2, 2, 2, 6, 0, 6), [][]int{{0, 2}, {0, 3}, {0, 4}}},
		{"a gap", horns(), [][]int{{0, 4}, {0, 5}, {0, 6}, {1, 3}, {1, 4}}},
		{"ten corners", manyCorners(10), [][]int{{0, 2}, {0, 3}, {0, 4}, {0, 5}, {0, 6}, {0, 7}, {0, 8}}},
	} {
		if got := impl.GreedyCuts(c.r); !sameLists(got, c.want) {
			t.Errorf("%s: GreedyCuts(%v) = %v; want %v", c.name, c.r, got, c.want)
		}
	}
}

func TestGreedyCutsMany(t *testing.T) {
	for _, r := range append(cutRooms(), movedRooms(50, 100)...) {
		for _, x := range rotations(r) {
			want := greedyOf(x)
			got := impl.GreedyCuts(x)
			if !sameLists(got, want) || len(got) != len(x.Corners)-3 {
				t.Fatalf("GreedyCuts(%v) = %v; want %v", x, got, want)
			}
			checkParts(t, x, got, true)
		}
	}
}

func TestCutInvalid(t *testing.T) {
	for name, r := range badRooms() {
		for _, cuts := range [][][]int{nil, {}, {{0, 2}}, {{1, 3}}, {{0, 3}, {1, 3}}, {{0, 0}}, {{math.MinInt, math.MaxInt}}} {
			if impl.ArePlans(r, cuts) || len(impl.PartsOf(r, cuts)) != 0 {
				t.Errorf("%s: ArePlans(%v) = %v, PartsOf = %v", name, cuts, impl.ArePlans(r, cuts), impl.PartsOf(r, cuts))
			}
		}
		for _, part := range [][]int{nil, {0}, {0, 1, 2}, {2, 1, 0}, {0, 1, 2, 3}, {math.MinInt, 1, math.MaxInt}} {
			if got := impl.PartArea(r, part); got != 0 {
				t.Errorf("%s: PartArea(%v) = %d", name, part, got)
			}
		}
		if got := impl.GreedyCuts(r); len(got) != 0 {
			t.Errorf("%s: GreedyCuts = %v", name, got)
		}
	}
}

func TestCutArguments(t *testing.T) {
	checkRoomsKept(t, func(r impl.Room) {
		impl.ArePlans(r, [][]int{{0, 2}})
		impl.PartsOf(r, [][]int{{0, 2}})
		impl.PartArea(r, []int{0, 1, 2})
		impl.GreedyCuts(r)
	})
	numbers := []int{0, 2, 0, 3, 5, 9, 6, 9, 77, 78}
	before := slices.Clone(numbers)
	cuts := [][]int{numbers[6:8], numbers[0:2], numbers[4:6], numbers[2:4]}
	impl.ArePlans(manyCorners(10), cuts)
	impl.PartsOf(manyCorners(10), cuts)
	impl.PartsOf(manyCorners(10), cuts[:2])
	impl.PartArea(manyCorners(10), numbers[:8])
	impl.PartArea(manyCorners(10), numbers)
	if !slices.Equal(numbers, before) || !sameLists(cuts, [][]int{{6, 9}, {0, 2}, {5, 9}, {0, 3}}) {
		t.Errorf("the cuts or the numbers have changed: %v, %v", numbers, cuts)
	}
}

// checkListsNew writes over one list of a result after the other, and looks at the others and at another result.
func checkListsNew(t *testing.T, call func() [][]int) {
	t.Helper()
	want := call()
	for spoiled := range want {
		got, kept := call(), slices.Clone(want[spoiled])
		spoil(got[spoiled], -99)
		got[spoiled] = kept
		if !sameLists(got, want) || !sameLists(call(), want) {
			t.Fatalf("lists of a result share memory: %v; want %v", got, want)
		}
	}
}

func TestPartsAreNew(t *testing.T) {
	for _, r := range cutRooms() {
		plans := plansOf(r)
		for k := 0; k < len(plans); k += 1 + len(plans)/40 {
			checkListsNew(t, func() [][]int { return impl.PartsOf(r, plans[k]) })
			backwards := slices.Clone(plans[k])
			slices.Reverse(backwards)
			checkListsNew(t, func() [][]int { return impl.PartsOf(r, backwards) })
		}
		checkListsNew(t, func() [][]int { return impl.GreedyCuts(r) })
	}
}
