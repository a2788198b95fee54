package tests

import (
	"math/rand"
	"slices"
	"testing"

	"loop.example/g00991/impl"
)

// doPairs reports whether the test holds for two elements of the list with different indices.
func doPairs(list []impl.Point, test func(p impl.Point, q impl.Point) bool) bool {
	for i, p := range list {
		for _, q := range list[:i] {
			if test(p, q) {
				return true
			}
		}
	}
	return false
}

func isSeenWith(r impl.Room, p impl.Point, q impl.Point) bool {
	return slices.ContainsFunc(r.Corners, func(corner impl.Point) bool { return doSee(r, corner, p) && doSee(r, corner, q) })
}

func areWitnessed(r impl.Room, list []impl.Point) bool {
	return len(list) <= 10 && areInside(r, list) && !doPairs(list, func(p impl.Point, q impl.Point) bool { return isSeenWith(r, p, q) })
}

func areUnseen(r impl.Room, list []impl.Point) bool {
	return len(list) <= 10 && areInside(r, list) && !doPairs(list, func(p impl.Point, q impl.Point) bool { return doSee(r, p, q) })
}

func checkWitnesses(t *testing.T, r impl.Room, list []impl.Point, areWitnesses bool, areHidden bool) {
	t.Helper()
	backwards := slices.Clone(list)
	slices.Reverse(backwards)
	for _, points := range [][]impl.Point{list, backwards} {
		if got := impl.AreWitnesses(r, points); got != areWitnesses {
			t.Fatalf("AreWitnesses(%v, %v) = %v", r, points, got)
		}
		if got := impl.AreHidden(r, points); got != areHidden {
			t.Fatalf("AreHidden(%v, %v) = %v", r, points, got)
		}
	}
}

func TestWitnesses(t *testing.T) {
	square, notch, bent := room(0, 0, 4, 0, 4, 4, 0, 4), room(0, 0, 8, 0, 8, 6, 4, 2, 0, 6), room(0, 0, 6, 0, 6, 2, 2, 2, 2, 6, 0, 6)
	for _, c := range []struct {
		name         string
		r            impl.Room
		list         []impl.Point
		areWitnesses bool
		areHidden    bool
	}{
		{"no points", square, nil, true, true},
		{"no points, but a list", comb(), []impl.Point{}, true, true},
		{"one point inside", square, []impl.Point{at(1, 2)}, true, true},
		{"one point on a wall", square, []impl.Point{at(4, 2)}, true, true},
		{"one corner", square, []impl.Point{at(4, 4)}, true, true},
		{"one point outside", square, []impl.Point{at(5, 4)}, false, false},
		{"two points", square, []impl.Point{at(0, 0), at(4, 4)}, false, false},
		{"the same point twice", square, []impl.Point{at(1, 1), at(1, 1)}, false, false},
		{"the same point twice, and another one", comb(), []impl.Point{at(0, 9), at(20, 9), at(0, 9)}, false, false},
		{"both sides of a notch, seen from its corner", notch, []impl.Point{at(0, 6), at(8, 6)}, false, true},
		{"both ends of a bent room, seen from its corner", bent, []impl.Point{at(6, 2), at(2, 6)}, false, true},
		{"both ends of a bent room, on walls", bent, []impl.Point{at(6, 1), at(1, 6)}, false, true},
		{"both ends of a bent room, inside", bent, []impl.Point{at(5, 1), at(1, 5)}, false, true},
		{"both sides of a gap", horns(), []impl.Point{at(3, 5), at(6, 5)}, true, true},
		{"both sides of a gap, seen from below", horns(), []impl.Point{at(3, 5), at(6, 2)}, false, true},
		{"both sides of a gap, and one of them sees the third", horns(), []impl.Point{at(3, 5), at(6, 5), at(1, 1)}, false, false},
		{"both sides of a gap and outside", horns(), []impl.Point{at(3, 5), at(6, 5), at(4, 4)}, false, false},
		{"both sides of a gap and a point that is not valid", horns(), []impl.Point{at(3, 5), at(41, 0), at(6, 5)}, false, false},
		{"three teeth", comb(), []impl.Point{at(0, 9), at(10, 9), at(20, 9)}, true, true},
		{"two of three teeth", comb(), []impl.Point{at(20, 9), at(10, 9)}, true, true},
		{"three teeth and one more", comb(), []impl.Point{at(0, 9), at(10, 9), at(20, 9), at(10, 3)}, false, false},
		{"ten points, two of them equal", comb(), append(comb().Corners, at(0, 0)), false, false},
		{"ten points, one of them hidden from the others", comb(), append(slices.Repeat([]impl.Point{at(10, 9)}, 9), at(0, 9)), false, false},
		{"eleven times the same", square, slices.Repeat([]impl.Point{at(1, 1)}, 11), false, false},
		{"eleven points", maze(), append(maze().Corners, at(1, 1)), false, false},
		{"very many", square, slices.Repeat([]impl.Point{at(1, 1), at(2, 2)}, 50000), false, false},
	} {
		checkWitnesses(t, c.r, c.list, c.areWitnesses, c.areHidden)
	}
}

func TestWitnessesMany(t *testing.T) {
	source := rand.New(rand.NewSource(32))
	witnesses, hidden := map[bool]int{}, map[bool]int{}
	for _, r := range append(guardRooms(32, 100), threeTeeth()) {
		points, floor := pointsAround(r), smallFloorOf(r)
		for number := range 120 {
			var list []impl.Point
			for range number % 4 {
				list = append(list, floor[source.Intn(len(floor))])
			}
			if number > 110 {
				list = append(list, points[source.Intn(len(points))])
			}
			areWitnesses, areHidden := areWitnessed(r, list), areUnseen(r, list)
			if len(list) > 1 {
				witnesses[areWitnesses]++
				hidden[areHidden]++
			}
			checkWitnesses(t, r, list, areWitnesses, areHidden)
		}
		for _, p := range points {
			isIn := placed(r, 1, p) != impl.InOutside
			checkWitnesses(t, r, []impl.Point{p}, isIn, isIn)
			checkWitnesses(t, r, []impl.Point{p, p}, false, false)
		}
	}
	if witnesses[true] < 50 || witnesses[false] < 200 || hidden[true] < 200 || hidden[false] < 200 {
		t.Errorf("too few lists are of one kind: %v, %v", witnesses, hidden)
	}
}

// Some corner sees both of two points that see each other, so that there are no witnesses of this kind.
func TestWitnessesAreHidden(t *testing.T) {
	for _, r := range append(guardRooms(33, 40), threeTeeth()) {
		floor := smallFloorOf(r)
		if len(floor) > 60 {
			continue
		}
		for i, p := range floor {
			for _, q := range floor[:i] {
				if doSee(r, p, q) && (!isSeenWith(r, p, q) || impl.AreWitnesses(r, []impl.Point{p, q})) {
					t.Fatalf("%v and %v of %v see each other, but no corner sees both", p, q, r)
				}
			}
		}
	}
}

func TestGreedyWitnesses(t *testing.T) {
	for _, c := range []struct {
		name    string
		r       impl.Room
		want    []impl.Point
		corners []int
	}{
		{"a triangle", room(3, -2, 5, 3, 4, 1), []impl.Point{at(3, -2)}, []int{0}},
		{"a square", room(0, 0, 4, 0, 4, 4, 0, 4), []impl.Point{at(0, 0)}, []int{0}},
		{"a square from another corner", room(4, 0, 4, 4, 0, 4, 0, 0), []impl.Point{at(0, 0)}, []int{0}},
		{"ten corners that stick out", manyCorners(10), manyCorners(10).Corners[:1], []int{0}},
		{"a notch", room(0, 0, 8, 0, 8, 6, 4, 2, 0, 6), []impl.Point{at(0, 0)}, []int{0, 2}},
		{"a notch from another corner", room(8, 6, 4, 2, 0, 6, 0, 0, 8, 0), []impl.Point{at(0, 0)}, []int{0, 2}},
		{"a notch from its reflex corner", room(4, 2, 0, 6, 0, 0, 8, 0, 8, 6), []impl.Point{at(0, 0)}, []int{0}},
		{"a bent room", room(0, 0, 6, 0, 6, 2, 2, 2, 2, 6, 0, 6), []impl.Point{at(0, 0)}, []int{0}},
		{"a bent room from another corner", room(6, 0, 6, 2, 2, 2, 2, 6, 0, 6, 0, 0), []impl.Point{at(0, 0)}, []int{0, 3}},
		// There are two witnesses, but the first point of the floor is none of them.
		{"a gap", horns(), []impl.Point{at(0, 0)}, []int{0, 2}},
		{"a gap upside down", room(9, 5, 0, 5, 0, 0, 3, 0, 3, 3, 6, 3, 6, 0, 9, 0), []impl.Point{at(0, 0), at(6, 0)}, []int{0, 2}},
		{"a maze", maze(), []impl.Point{at(0, 0), at(0, 4)}, []int{0, 2, 5}},
		{"teeth to both sides", threeTeeth(), []impl.Point{at(8, -6), at(0, -1), at(3, 9)}, []int{0, 2, 4, 7}},
		{"valleys", valleys(), []impl.Point{at(0, 0), at(12, 0)}, []int{0, 5}},
	} {
		if got := impl.GreedyWitnesses(c.r); !slices.Equal(got, c.want) {
			t.Errorf("%s: GreedyWitnesses(%v) = %v; want %v", c.name, c.r, got, c.want)
		}
		if got := impl.WitnessBound(c.r); got != len(c.want) {
			t.Errorf("%s: WitnessBound(%v) = %d", c.name, c.r, got)
		}
		if got := impl.HiddenCorners(c.r); !slices.Equal(got, c.corners) {
			t.Errorf("%s: HiddenCorners(%v) = %v; want %v", c.name, c.r, got, c.corners)
		}
	}
}

// Promise 15: there are at least as many guards as witnesses.
func TestGreedyWitnessesMany(t *testing.T) {
	counts := map[int]int{}
	for _, r := range append(guardRooms(34, 150), threeTeeth()) {
		for _, x := range []impl.Room{r, rotations(r)[1], mirrored(r), quarterTurn(r)} {
			var want []impl.Point
			for _, p := range smallFloorOf(x) {
				if list := append(slices.Clone(want), p); areWitnessed(x, list) {
					want = list
				}
			}
			counts[len(want)]++
			if got := impl.GreedyWitnesses(x); !slices.Equal(got, want) {
				t.Fatalf("GreedyWitnesses(%v) = %v; want %v", x, got, want)
			}
			if got := impl.WitnessBound(x); got != len(want) || got > impl.CountGuards(x) || got < 1 {
				t.Fatalf("WitnessBound(%v) = %d; want %d, and there are %d guards", x, got, len(want), impl.CountGuards(x))
			}
		}
	}
	if counts[1] < 20 || counts[2] < 20 || counts[3] < 1 {
		t.Errorf("too few rooms have one, two or three witnesses: %v", counts)
	}
}

func TestHiddenCornersMany(t *testing.T) {
	counts := map[int]int{}
	for _, r := range append(cutRooms(), movedRooms(35, 200)...) {
		for _, x := range append(rotations(r), mirrored(r)) {
			var want []int
			var hidden []impl.Point
			for k, p := range x.Corners {
				if list := append(slices.Clone(hidden), p); areUnseen(x, list) {
					want, hidden = append(want, k), list
				}
			}
			counts[len(want)]++
			if got := impl.HiddenCorners(x); !slices.Equal(got, want) || !impl.AreHidden(x, impl.PointsOf(x, got)) {
				t.Fatalf("HiddenCorners(%v) = %v; want %v", x, got, want)
			}
		}
	}
	for number := 1; number <= 4; number++ {
		if counts[number] < 20 {
			t.Errorf("few rooms have %d hidden corners: %v", number, counts)
		}
	}
}

func TestWitnessInvalid(t *testing.T) {
	for name, r := range badRooms() {
		for _, list := range [][]impl.Point{nil, {}, {at(0, 0)}, {at(1, 1)}, {at(2, 1), at(40, 40)}, r.Corners} {
			if impl.AreWitnesses(r, list) || impl.AreHidden(r, list) {
				t.Errorf("%s, %v: AreWitnesses = %v, AreHidden = %v", name, list, impl.AreWitnesses(r, list), impl.AreHidden(r, list))
			}
		}
		if len(impl.GreedyWitnesses(r)) != 0 || len(impl.HiddenCorners(r)) != 0 || impl.WitnessBound(r) != 0 {
			t.Errorf("%s has the witnesses %v, %d, and the corners %v", name, impl.GreedyWitnesses(r), impl.WitnessBound(r), impl.HiddenCorners(r))
		}
	}
	for _, out := range append(badPoints(), at(4, 3), at(5, 4), at(10, 0), at(-1, 0), at(4, 7)) {
		for _, list := range [][]impl.Point{{out}, {out, out}, {at(3, 5), out}, {out, at(3, 5)}, {at(3, 5), out, at(6, 5)}, {at(3, 5), at(6, 5), out}} {
			checkWitnesses(t, horns(), list, false, false)
		}
	}
}

func TestWitnessArguments(t *testing.T) {
	checkRoomsKept(t, func(r impl.Room) {
		impl.AreWitnesses(r, r.Corners)
		impl.AreWitnesses(r, r.Corners[:min(len(r.Corners), 1)])
		impl.AreHidden(r, r.Corners)
		impl.AreHidden(r, r.Corners[:min(len(r.Corners), 1)])
		impl.GreedyWitnesses(r)
		impl.HiddenCorners(r)
		impl.WitnessBound(r)
	})
	checkNew(t, at(99, -99), impl.GreedyWitnesses)
	checkNew(t, -99, impl.HiddenCorners)
}
